/- Whether more was given than a statement of layer 10 has seen. -/
import Derived.Test.YtkebfabmcajbmaaKnowD1
import Derived.Test.YtkebfabmcajbmaaTermParts
namespace Go.Proofs.Ytkebfabmcajbmaa.Pl
open Go.RowKit

def sumB (l : List ByteArray) : Nat := (l.map fun s => min s.size 65536).sum
noncomputable def longB (l : List ByteArray) : Bool := decide (40 < l.length) || decide (6000 < sumB (l.take 60))
theorem sumB_le : ∀ l : List ByteArray, sumB l ≤ 65536 * l.length
  | [] => Nat.le_refl _
  | s :: l => by
    have h := sumB_le l
    unfold sumB at h ⊢
    simp only [List.map_cons, List.sum_cons, List.length_cons]
    have := Nat.min_le_right s.size 65536
    omega
theorem sumB_step (l : List ByteArray) (k : Nat) (h : k < l.length) : sumB (l.take (k + 1)) = sumB (l.take k) + min (l.getD k ByteArray.empty).size 65536 := by
  unfold sumB
  rw [List.take_succ_eq_append_getElem h, List.map_append, List.sum_append]
  simp [List.getD_eq_getElem?_getD, h]
theorem sumB_small : ∀ l : List ByteArray, sumB l ≤ 6000 → (l.map fun s => (bl s).length).sum ≤ 6000 ∧ sumB l = (l.map fun s => (bl s).length).sum
  | [], _ => ⟨Nat.zero_le _, rfl⟩
  | s :: l, h => by
    unfold sumB at h ⊢
    simp only [List.map_cons, List.sum_cons] at h ⊢
    have h1 := sumB_small l (by unfold sumB; omega)
    have h2 := bl_length s
    unfold sumB at h1
    have h3 : min s.size 65536 = s.size := by
      have := Nat.min_le_left s.size 65536
      omega
    omega
theorem long_no {l : List ByteArray} (h : longB l = false) : l.length ≤ 40 ∧ ((l.map bl).map List.length).sum ≤ 6000 := by
  unfold longB at h
  rw [Bool.or_eq_false_iff, decide_eq_false_iff_not, decide_eq_false_iff_not] at h
  have h1 : l.take 60 = l := List.take_of_length_le (by omega)
  rw [h1] at h
  have := (sumB_small l (by omega)).1
  refine ⟨by omega, ?_⟩
  rw [List.map_map]
  exact this
set_option maxHeartbeats 2000000 in
set_option maxRecDepth 100000 in
theorem long10_any (l : List ByteArray) (ao : Option Addr) (cap : Nat) (w : World) (hrow : TxtRow w ao l) :
    Calls Try.prog 5 #[.slice ao l.length cap] w fun e w' => e = .returned (.bool (longB l)) ∧ w = w' := by
  have HR := Lib.hid hrow
  obtain ⟨n, hn⟩ : ∃ n, n = l.length := ⟨_, rfl⟩
  have HN := Lib.hid hn
  rw [← hn]
  clear hrow hn
  go_enter Try.func5, Try.ntmps5
  go_wp2_with fail
  go_loopw [3, 4] (fun sv iv wr => ∃ k : Nat, sv = .int .i64 (sumB (l.take k)) ∧ iv = .int .i64 k ∧ k ≤ n ∧ k ≤ 60 ∧ wr = w) (fun _ iv _ => 60 - (intOf iv).toNat)
  case atStart => exact ⟨0, rfl, rfl, Nat.zero_le _, Nat.zero_le _, rfl⟩
  case round =>
    obtain ⟨k, rfl, rfl, hkn, hk60, rfl⟩ := hrel
    have hb := sumB_le (l.take k)
    rw [List.length_take] at hb
    have hb2 : sumB (l.take k) ≤ 65536 * 60 := by
      have : min k l.length ≤ 60 := by omega
      have := Nat.mul_le_mul_left 65536 this
      omega
    by_cases hk : k < n ∧ k < 60
    · obtain ⟨h1, h2⟩ := hk
      have q1 : (k : Int) < (n : Int) := by omega
      have q2 : (k : Int) < 60 := by omega
      have hkl : k < l.length := by rw [← HN.out]; exact h1
      rcases HR.out with e | ⟨g, off, rfl, hlt, hc⟩
      · exfalso
        rw [e] at hkl
        exact absurd hkl (Nat.not_lt_zero _)
      have ck := hc k hkl
      have hst := sumB_step l k hkl
      generalize l.getD k ByteArray.empty = x at *
      generalize sumB (l.take k) = S at *
      have HST := Lib.hid hst
      clear hc hlt hst hb
      by_cases hx : 65536 < x.size
      · have q3 : (65536 : Int) < (x.size : Int) := by omega
        have q4 : ¬ (x.size : Int) < 65536 := by omega
        have HS2 : Hid (sumB (l.take (k + 1)) = S + 65536) := Lib.hid (by rw [HST.out, Nat.min_eq_right (by omega)])
        clear HST
        go_wp2_with fail
        go_roundw
        case rel => exact ⟨k + 1, by rw [HS2.out]; go_num, by go_num, by omega, by omega, trivial⟩
        case measure => simp [intOf]; omega
      · have q3 : ¬ (65536 : Int) < (x.size : Int) := by omega
        have HS2 : Hid (sumB (l.take (k + 1)) = S + x.size) := Lib.hid (by rw [HST.out, Nat.min_eq_left (by omega)])
        clear HST
        go_wp2_with fail
        go_roundw
        case rel => exact ⟨k + 1, by rw [HS2.out]; go_num, by go_num, by omega, by omega, trivial⟩
        case measure => simp [intOf]; omega
    · have hEQ : l.take 60 = l.take k := by
        by_cases h1 : k = 60
        · rw [h1]
        · have : k = n := by omega
          rw [List.take_of_length_le (by rw [← HN.out]; omega), List.take_of_length_le (by rw [← HN.out]; omega)]
      have HE := Lib.hid (show longB l = (decide (40 < n) || decide (6000 < sumB (l.take k))) by unfold longB; rw [hEQ, HN.out])
      generalize sumB (l.take k) = S at *
      by_cases h40 : 40 < n
      · have q5 : (40 : Int) < (n : Int) := by omega
        have HZ : Hid (longB l = true) := Lib.hid (by rw [HE.out, decide_eq_true h40]; rfl)
        by_cases h1 : k < n
        · have q1 : (k : Int) < (n : Int) := by omega
          have q2 : ¬ (k : Int) < 60 := by omega
          clear hEQ hb
          go_wp2_with fail
          go_ret
          exact ⟨by rw [HZ.out]; rfl, rfl⟩
        · have q1 : ¬ (k : Int) < (n : Int) := by omega
          clear hEQ hb
          go_wp2_with fail
          go_ret
          exact ⟨by rw [HZ.out]; rfl, rfl⟩
      · have q5 : ¬ (40 : Int) < (n : Int) := by omega
        have q1 : ¬ (k : Int) < (n : Int) := by omega
        by_cases h6 : 6000 < S
        · have q6 : (6000 : Int) < (S : Int) := by omega
          have HZ : Hid (longB l = true) := Lib.hid (by rw [HE.out, decide_eq_true h6, Bool.or_true])
          clear hEQ hb
          go_wp2_with fail
          go_ret
          exact ⟨by rw [HZ.out]; rfl, rfl⟩
        · have q6 : ¬ (6000 : Int) < (S : Int) := by omega
          have HZ : Hid (longB l = false) := Lib.hid (by rw [HE.out, decide_eq_false h6, decide_eq_false h40]; rfl)
          clear hEQ hb
          go_wp2_with fail
          go_ret
          exact ⟨by rw [HZ.out]; rfl, rfl⟩
end Go.Proofs.Ytkebfabmcajbmaa.Pl
