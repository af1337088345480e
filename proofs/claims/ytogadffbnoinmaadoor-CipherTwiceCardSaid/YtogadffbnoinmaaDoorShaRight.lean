/- What sha.right answers. -/
import Derived.Test.YtogadffbnoinmaaDoorProg
import Derived.WalkKit
import Derived.Outline
import Derived.Handy
import Derived.Lib.Hide
import Derived.Test.YtogadffbnoinmaaDoorShaPlain
namespace Go.Proofs.YtogadffbnoinmaaDoor.Pl
open Go.RowKit

theorem rr_int (n m x : Nat) (h : n + m = 32) (hx : x < 4294967296) : bits .or .u32 ((x : Int) * 2 ^ m % 4294967296) ((x : Int) / 2 ^ n) = (rr n x : Nat) := by
  have e1 : ((x : Int) * 2 ^ m % 4294967296) = ((x * 2 ^ m % 4294967296 : Nat) : Int) := by
    rw [Int.natCast_emod, Int.natCast_mul, Int.natCast_pow]; rfl
  have e2 : ((x : Int) / 2 ^ n) = ((x / 2 ^ n : Nat) : Int) := by rw [Int.natCast_ediv, Int.natCast_pow]; rfl
  have h2 : x / 2 ^ n < 4294967296 := Nat.lt_of_le_of_lt (Nat.div_le_self _ _) hx
  rw [e1, e2, u32_or_nat _ _ (Nat.mod_lt _ (by decide)) h2]
  unfold rr
  rw [show 32 - n = m by omega]

theorem rot_any (n m : Nat) (z : Int) (h : n + m = 32) (hn : 0 < n) (hm : 0 < m) (hz : bits .and .u64 (IntKind.u64.wrap z) 31 = (m : Int)) (x : Nat) (hx : x < 4294967296) (w : World) : Calls Tryd.prog 47 #[.int .u32 x, .int .i64 z] w fun e w' => e = .returned (.int .u32 (rr n x : Nat)) ∧ w = w' := by
  have e1 : (((32 : Int) - (m : Int))) = (n : Int) := by omega
  have e2 : IntKind.u64.wrap (n : Int) = (n : Int) := by simp [IntKind.wrap, IntKind.bits, IntKind.signed]; omega
  have e3 : min n 32 = n := by omega
  have e4 : min m 32 = m := by omega
  have H := rr_int n m x h hx
  have HR := Lib.hid H
  clear H
  go_enter Tryd.func47, Tryd.ntmps47
  go_wp2
  rw [HR.out]
  go_ret
  exact ⟨rfl, rfl⟩
theorem right_any (n m : Nat) (z y : Int) (h : n + m = 32) (hn : 0 < n) (hm : 0 < m) (hy : IntKind.i64.wrap (-z) = y) (hz : bits .and .u64 (IntKind.u64.wrap y) 31 = (m : Int)) (x : Nat) (hx : x < 4294967296) (w : World) : Calls Tryd.prog 43 #[.int .u32 x, .int .i64 z] w fun e w' => e = .returned (.int .u32 (rr n x : Nat)) ∧ w = w' := by
  have HZ := Lib.hid hz
  clear hz
  go_enter Tryd.func43, Tryd.ntmps43
  go_wp2_with fail
  refine (rot_any n m y h hn hm HZ.out x hx _).mono ?_; rintro e w' ⟨rfl, rfl⟩
  go_wp2
  go_ret
  exact ⟨rfl, rfl⟩
theorem right_2 (x : Nat) (hx : x < 4294967296) (w : World) : Calls Tryd.prog 43 #[.int .u32 x, .int .i64 2] w fun e w' => e = .returned (.int .u32 (rr 2 x : Nat)) ∧ w = w' :=
  right_any 2 30 2 (-2) (by decide) (by decide) (by decide) (by decide) (by decide) x hx w
theorem right_6 (x : Nat) (hx : x < 4294967296) (w : World) : Calls Tryd.prog 43 #[.int .u32 x, .int .i64 6] w fun e w' => e = .returned (.int .u32 (rr 6 x : Nat)) ∧ w = w' :=
  right_any 6 26 6 (-6) (by decide) (by decide) (by decide) (by decide) (by decide) x hx w
theorem right_7 (x : Nat) (hx : x < 4294967296) (w : World) : Calls Tryd.prog 43 #[.int .u32 x, .int .i64 7] w fun e w' => e = .returned (.int .u32 (rr 7 x : Nat)) ∧ w = w' :=
  right_any 7 25 7 (-7) (by decide) (by decide) (by decide) (by decide) (by decide) x hx w
theorem right_11 (x : Nat) (hx : x < 4294967296) (w : World) : Calls Tryd.prog 43 #[.int .u32 x, .int .i64 11] w fun e w' => e = .returned (.int .u32 (rr 11 x : Nat)) ∧ w = w' :=
  right_any 11 21 11 (-11) (by decide) (by decide) (by decide) (by decide) (by decide) x hx w
theorem right_13 (x : Nat) (hx : x < 4294967296) (w : World) : Calls Tryd.prog 43 #[.int .u32 x, .int .i64 13] w fun e w' => e = .returned (.int .u32 (rr 13 x : Nat)) ∧ w = w' :=
  right_any 13 19 13 (-13) (by decide) (by decide) (by decide) (by decide) (by decide) x hx w
theorem right_17 (x : Nat) (hx : x < 4294967296) (w : World) : Calls Tryd.prog 43 #[.int .u32 x, .int .i64 17] w fun e w' => e = .returned (.int .u32 (rr 17 x : Nat)) ∧ w = w' :=
  right_any 17 15 17 (-17) (by decide) (by decide) (by decide) (by decide) (by decide) x hx w
theorem right_18 (x : Nat) (hx : x < 4294967296) (w : World) : Calls Tryd.prog 43 #[.int .u32 x, .int .i64 18] w fun e w' => e = .returned (.int .u32 (rr 18 x : Nat)) ∧ w = w' :=
  right_any 18 14 18 (-18) (by decide) (by decide) (by decide) (by decide) (by decide) x hx w
theorem right_19 (x : Nat) (hx : x < 4294967296) (w : World) : Calls Tryd.prog 43 #[.int .u32 x, .int .i64 19] w fun e w' => e = .returned (.int .u32 (rr 19 x : Nat)) ∧ w = w' :=
  right_any 19 13 19 (-19) (by decide) (by decide) (by decide) (by decide) (by decide) x hx w
theorem right_22 (x : Nat) (hx : x < 4294967296) (w : World) : Calls Tryd.prog 43 #[.int .u32 x, .int .i64 22] w fun e w' => e = .returned (.int .u32 (rr 22 x : Nat)) ∧ w = w' :=
  right_any 22 10 22 (-22) (by decide) (by decide) (by decide) (by decide) (by decide) x hx w
theorem right_25 (x : Nat) (hx : x < 4294967296) (w : World) : Calls Tryd.prog 43 #[.int .u32 x, .int .i64 25] w fun e w' => e = .returned (.int .u32 (rr 25 x : Nat)) ∧ w = w' :=
  right_any 25 7 25 (-25) (by decide) (by decide) (by decide) (by decide) (by decide) x hx w
end Go.Proofs.YtogadffbnoinmaaDoor.Pl
