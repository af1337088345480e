/- What hmac.Same answers: whether two texts are equal. -/
import Derived.Test.YtogadffbnoinmaaDoorShaIdx
import Derived.Laws.BitsAllLaws
namespace Go.Proofs.YtogadffbnoinmaaDoor.Pl
open Go.RowKit

/-- What has differed in the first k numbers. -/
def dif (l m : List Nat) : Nat → Nat
  | 0 => 0
  | k + 1 => dif l m k ||| (l.getD k 0 ^^^ m.getD k 0)
theorem or_zero (a b : Nat) : a ||| b = 0 ↔ a = 0 ∧ b = 0 := by
  constructor
  · intro h
    constructor
    · apply Nat.eq_of_testBit_eq; intro i
      have := congrArg (fun x => x.testBit i) h
      simp only [Nat.testBit_or, Nat.zero_testBit, Bool.or_eq_false_iff] at this
      rw [this.1, Nat.zero_testBit]
    · apply Nat.eq_of_testBit_eq; intro i
      have := congrArg (fun x => x.testBit i) h
      simp only [Nat.testBit_or, Nat.zero_testBit, Bool.or_eq_false_iff] at this
      rw [this.2, Nat.zero_testBit]
  · rintro ⟨rfl, rfl⟩; rfl
theorem xor_zero (a b : Nat) : a ^^^ b = 0 ↔ a = b := by
  constructor
  · intro h
    apply Nat.eq_of_testBit_eq; intro i
    have := congrArg (fun x => x.testBit i) h
    simp only [Nat.testBit_xor, Nat.zero_testBit] at this
    cases h1 : a.testBit i <;> cases h2 : b.testBit i <;> simp_all
  · rintro rfl; exact Nat.xor_self a
theorem dif_lt {l m : List Nat} (hl : Bytes l) (hm : Bytes m) (k : Nat) : dif l m k < 256 := by
  induction k with
  | zero => exact (by decide : (0 : Nat) < 256)
  | succ k ih => exact Nat.or_lt_two_pow (n := 8) ih (Nat.xor_lt_two_pow (n := 8) (hl.at k) (hm.at k))
theorem dif_zero {l m : List Nat} (k : Nat) : dif l m k = 0 ↔ ∀ j, j < k → l.getD j 0 = m.getD j 0 := by
  induction k with
  | zero => exact ⟨fun _ j hj => absurd hj (by omega), fun _ => rfl⟩
  | succ k ih =>
    rw [dif, or_zero, xor_zero, ih]
    constructor
    · rintro ⟨h1, h2⟩ j hj
      by_cases e : j = k
      · subst e; exact h2
      · exact h1 j (by omega)
    · exact fun h => ⟨fun j hj => h j (by omega), h k (by omega)⟩
theorem nums_inj {a b : ByteArray} (h : nums a = nums b) : a = b := by
  apply ByteArray.ext
  apply Array.ext'
  exact (List.map_inj_right (fun x y hxy => UInt8.toNat_inj.1 hxy)).1 h
theorem dif_all {a b : ByteArray} (h : a.size = b.size) : dif (nums a) (nums b) a.size = 0 ↔ a = b := by
  rw [dif_zero]
  constructor
  · exact fun k => nums_inj (getD_ext (by rw [nums_length, nums_length, h]) (fun i hi => k i (by rwa [nums_length] at hi)))
  · rintro rfl j _; rfl
theorem dif_int (x c d : Nat) (hx : x < 256) (hc : c < 256) (hd : d < 256) : x ||| (c ^^^ d) < 256 := Nat.or_lt_two_pow (n := 8) hx (Nat.xor_lt_two_pow (n := 8) hc hd)

set_option maxRecDepth 100000 in
theorem same_any (a b : ByteArray) (hn : a.size ≤ 1000000) (w : World) (r : Bool) (hr : r = decide (a = b)) :
    Calls Tryd.prog 24 #[.string a, .string b] w fun e w' => e = .returned (.bool r) ∧ Below w.heap.size w w' := by
  have HR := Lib.hid hr
  clear hr
  by_cases hsz : a.size = b.size
  · have HSZ := Lib.hid hsz
    have e1 : ((a.size : Int) != (b.size : Int)) = false := by rw [hsz]; simp
    obtain ⟨n, en⟩ : ∃ n, n = a.size := ⟨_, rfl⟩
    have EN := Lib.hid en
    clear hsz en
    go_enter Tryd.func24, Tryd.ntmps24
    go_wp2_with fail
    go_loopw [5, 14] (fun d i wr => ∃ k x : Nat, k ≤ a.size ∧ i = .int .i64 k ∧ d = .int .u8 x ∧ Hid (x = dif (nums a) (nums b) k) ∧ Hid (Below w.heap.size w wr)) (fun _ i _ => a.size - (intOf i).toNat)
    case atStart => exact ⟨0, 0, by omega, rfl, rfl, Lib.hid rfl, Lib.hid (Below.refl _ _)⟩
    case round =>
      obtain ⟨k, x, hk, rfl, rfl, hx, hbw⟩ := hrel
      by_cases hlt : k < a.size
      · obtain ⟨c, ec⟩ : ∃ c : Nat, c = (nums a).getD k 0 := ⟨_, rfl⟩
        obtain ⟨d, ed⟩ : ∃ d : Nat, d = (nums b).getD k 0 := ⟨_, rfl⟩
        have i1 : ∀ V : World, (Instr.index 9 (.string a) (.int .i64 (k : Int))).run Tryd.prog V = .ok (.int .u8 (c : Int)) V := str_index a k c hlt ec
        have i2 : ∀ V : World, (Instr.index 9 (.string b) (.int .i64 (k : Int))).run Tryd.prog V = .ok (.int .u8 (d : Int)) V := str_index b k d (by rw [← HSZ.out]; exact hlt) ed
        have hc : c < 256 := by rw [ec]; exact (nums_bytes a).at k
        have hd : d < 256 := by rw [ed]; exact (nums_bytes b).at k
        have hx' : x < 256 := by rw [hx.out]; exact dif_lt (nums_bytes a) (nums_bytes b) k
        have b1 : bits .xor .u8 (c : Int) (d : Int) = ((c ^^^ d : Nat) : Int) := u8_xor_nat c d hc hd
        have b2 : bits .or .u8 (x : Int) ((c ^^^ d : Nat) : Int) = ((x ||| (c ^^^ d) : Nat) : Int) := u8_or_nat x _ hx' (Nat.xor_lt_two_pow (n := 8) hc hd)
        have hz : x ||| (c ^^^ d) = dif (nums a) (nums b) (k + 1) := by rw [dif, ← ec, ← ed, ← hx.out]
        generalize x ||| (c ^^^ d) = z at b2 hz
        generalize c ^^^ d = y at b1 b2
        have HZ := Lib.hid hz
        clear hz hc hd hx'
        have HC := Lib.hid ec
        have HD := Lib.hid ed
        clear ec ed
        go_wp2_with fail
        go_quiet (fail)
        go_wp2
        exact ⟨⟨k + 1, z, by omega, by go_num, by simp, HZ, Lib.hid (below_drewN hbw.out _)⟩, by simp [intOf]; omega⟩
      · obtain rfl : k = a.size := by omega
        have q : ((x : Int) == 0) = r := by
          rw [HR.out]
          have h := dif_all HSZ.out
          rw [← hx.out] at h
          by_cases e : a = b
          · rw [decide_eq_true e, beq_iff_eq]; have := h.2 e; omega
          · rw [decide_eq_false e, beq_eq_false_iff_ne]; intro e0; exact e (h.1 (by omega))
        have HQ := Lib.hid hbw
        clear hx hbw
        go_wp2
        go_ret
        exact ⟨rfl, HQ.out.out⟩
  · have e1 : ((a.size : Int) != (b.size : Int)) = true := by simp; omega
    have HN : Hid (decide (a = b) = false) := Lib.hid (decide_eq_false (fun e => hsz (by rw [e])))
    clear hsz
    go_enter Tryd.func24, Tryd.ntmps24
    go_wp2_with fail
    go_ret
    exact ⟨by rw [HR.out, HN.out]; rfl, Below.refl _ _⟩
end Go.Proofs.YtogadffbnoinmaaDoor.Pl
