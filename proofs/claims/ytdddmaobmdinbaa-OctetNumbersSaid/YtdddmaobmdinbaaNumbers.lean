/- OctetNumbers answers true, whatever it is given. -/
import Derived.Test.YtdddmaobmdinbaaRefReadNum
import Derived.Test.YtdddmaobmdinbaaAlive
namespace Go.Proofs.Ytdddmaobmdinbaa.Pl
open Go.RowKit

set_option maxRecDepth 100000 in
theorem numbers_large (v : Int) (s : ByteArray) (w : World) (h : 4096 < s.size) : Calls Try.prog 3 #[.int .u64 v, .string s] w fun e w' => e = .returned (.bool true) ∧ Below w.heap.size w w' := by
  go_enter Try.func3, Try.ntmps3
  go_wp2_with fail
  refine (alive_any _).mono ?_; rintro e w' ⟨rfl, hb⟩
  go_wp2_with fail
  go_ret
  exact ⟨rfl, hb⟩
set_option maxRecDepth 100000 in
theorem numbers_any (v : Nat) (s : ByteArray) (w : World) (hv : v < 256 ^ 8) : Calls Try.prog 3 #[.int .u64 v, .string s] w fun e w' => e = .returned (.bool true) ∧ Below w.heap.size w w' := by
  by_cases h : 4096 < s.size
  · exact numbers_large v s w h
  · obtain ⟨c, k, y, hr⟩ : ∃ c k y, rdn s.data.toList = (c, k, y) := ⟨_, _, _, rfl⟩
    have hc1 : ∀ W, Calls Try.prog 9 #[.string s] W fun e' w' => e' = .returned (.tuple #[.int .u64 c, .int .i64 k, .int .i64 y]) ∧ W = w' := fun W => by
      have h := readnum_any s (by omega) W
      rw [hr] at h
      exact h
    have hc2 : ∀ W, Calls Try.prog 10 #[.string s] W fun e' w' => e' = .returned (.tuple #[.int .u64 c, .int .i64 k, .int .i64 y]) ∧ Below W.heap.size W w' := fun W => by
      have h := refreadnum_any s (by omega) W
      rw [hr] at h
      exact h
    have HC1 := Lib.hid hc1
    have HC2 := Lib.hid hc2
    have HV := Lib.hid hv
    clear hc1 hc2 hv hr
    go_enter Try.func3, Try.ntmps3
    go_wp2_with fail
    refine (HC1.out _).mono ?_; rintro e w' ⟨rfl, rfl⟩
    go_wp2_with fail
    refine (HC2.out _).mono ?_; rintro e w1 ⟨rfl, hb1⟩
    go_wp2_with fail
    refine (num_any _ HV.out _).mono ?_; rintro e w2 ⟨rfl, hb2⟩
    go_wp2_with fail
    refine (refnum_any _ HV.out _).mono ?_; rintro e w3 ⟨rfl, hb3⟩
    go_wp2_with fail
    refine (alive_any _).mono ?_; rintro e w4 ⟨rfl, hb4⟩
    go_wp2_with fail
    go_ret
    exact ⟨rfl, below_step (below_step (below_step hb1 hb2) hb3) hb4⟩
end Go.Proofs.Ytdddmaobmdinbaa.Pl
