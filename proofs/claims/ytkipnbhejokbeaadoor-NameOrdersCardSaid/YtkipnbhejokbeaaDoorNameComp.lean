/- What the document's Compare answers of two rows of numbers. -/
import Derived.Test.YtkipnbhejokbeaaDoorNameRunes
import Derived.Test.YtkipnbhejokbeaaDoorNameRune
import Derived.BigQuiet
namespace Go.Proofs.YtkipnbhejokbeaaDoor.Pl
open Go.RowKit

theorem cmp_take : ∀ (k : Nat) (a b : List Int), a.take k = b.take k → k ≤ a.length → k ≤ b.length → cmpZ a b = cmpZ (a.drop k) (b.drop k)
  | 0, a, b, _, _, _ => rfl
  | k + 1, [], b, _, h, _ => by simp at h
  | k + 1, x :: a, [], _, _, h => by simp at h
  | k + 1, x :: a, y :: b, h, h1, h2 => by
    simp only [List.take_succ_cons, List.cons.injEq] at h
    obtain ⟨rfl, h⟩ := h
    rw [List.drop_succ_cons, List.drop_succ_cons, ← cmp_take k a b h (by simpa using h1) (by simpa using h2)]
    simp [cmpZ]
theorem drop_getD (l : List Int) (k : Nat) (h : k < l.length) : l.drop k = l.getD k 0 :: l.drop (k + 1) := by
  rw [List.drop_eq_getElem_cons h]
  simp [List.getD_eq_getElem?_getD, h]
theorem below_drew5 {B : Nat} {a w : World} (h : Below B a w) : Below B a w.drew := ⟨h.os, h.tape, h.output, h.size, h.block⟩
theorem cmp_nil (b : List Int) (h : b ≠ []) : cmpZ [] b = -1 := by cases b with | nil => exact absurd rfl h | cons => rfl
theorem cmp_nil' (b : List Int) (h : b ≠ []) : cmpZ b [] = 1 := by cases b with | nil => exact absurd rfl h | cons => rfl

set_option maxHeartbeats 2000000 in
set_option maxRecDepth 100000 in
theorem rcomp_any (a b : List Int) (ao bo : Option Addr) (ca cb : Nat) (la : a.length ≤ 1000000) (lb : b.length ≤ 1000000) (w : World) (ha : RowAt w ao a) (hb : RowAt w bo b) :
    Calls Tryd.prog 32 #[.slice ao a.length ca, .slice bo b.length cb] w fun e w' => e = .returned (.int .i64 (cmpZ a b)) ∧ Below w.heap.size w w' := by
  have HA := Lib.hid ha
  have HB := Lib.hid hb
  obtain ⟨z, hz⟩ : ∃ z, z = cmpZ a b := ⟨_, rfl⟩
  rw [← hz]
  have HZ := Lib.hid hz
  obtain ⟨n, hn⟩ : ∃ n, n = a.length := ⟨_, rfl⟩
  obtain ⟨m, hm⟩ : ∃ m, m = b.length := ⟨_, rfl⟩
  have HN := Lib.hid hn
  have HM := Lib.hid hm
  rw [← hn] at la ⊢
  rw [← hm] at lb ⊢
  clear ha hb hz hn hm
  go_enter Tryd.func32, Tryd.ntmps32
  go_wp2_with fail
  go_loopw [5] (fun i wr => ∃ k : Nat, i = .int .i64 k ∧ k ≤ n ∧ k ≤ m ∧ Hid (a.take k = b.take k) ∧ Hid (Below w.heap.size w wr)) (fun i _ => n - (intOf i).toNat)
  case atStart => exact ⟨0, rfl, Nat.zero_le _, Nat.zero_le _, Lib.hid rfl, Lib.hid (Below.refl _ _)⟩
  case round =>
    obtain ⟨k, rfl, hkn, hkm, ht, hb⟩ := hrel
    have HC : Hid (z = cmpZ (a.drop k) (b.drop k)) := Lib.hid (HZ.out.trans (cmp_take k a b ht.out (by have := HN.out; omega) (by have := HM.out; omega)))
    by_cases h1 : k < n
    · by_cases h2 : k < m
      · have R1 := HA.out.below hb.out
        have R2 := HB.out.below hb.out
        rcases R1 with R1 | ⟨g, rfl, hg, cg⟩
        · exfalso; have := HN.out; rw [R1] at this; simp at this; omega
        rcases R2 with R2 | ⟨h, rfl, hh, ch⟩
        · exfalso; have := HM.out; rw [R2] at this; simp at this; omega
        have cx := cg k (by have := HN.out; omega)
        have cy := ch k (by have := HM.out; omega)
        have HD : Hid (z = cmpZ (a.getD k 0 :: a.drop (k + 1)) (b.getD k 0 :: b.drop (k + 1))) := Lib.hid (by rw [HC.out, drop_getD a k (by have := HN.out; omega), drop_getD b k (by have := HM.out; omega)])
        have HT : Hid (a.getD k 0 = b.getD k 0 → a.take (k + 1) = b.take (k + 1)) := Lib.hid (fun e => by
          have e1 : k < a.length := by have := HN.out; omega
          have e2 : k < b.length := by have := HM.out; omega
          rw [List.take_succ_eq_append_getElem e1, List.take_succ_eq_append_getElem e2, ht.out]
          simp only [List.getD_eq_getElem?_getD, List.getElem?_eq_getElem e1, List.getElem?_eq_getElem e2, Option.getD_some] at e
          rw [e])
        generalize a.getD k 0 = x at *
        generalize b.getD k 0 = y at *
        clear cg ch hg hh
        rcases Int.lt_trichotomy x y with hxy | hxy | hxy
        · have HQ : Hid (z = -1) := Lib.hid (by rw [HD.out]; simp [cmpZ, hxy])
          go_wp2_with fail
          go_quiet (fail)
          go_wp2_with fail
          go_ret
          exact ⟨ret_i64 HQ.out.symm, (by first | exact hb.out | exact below_drewN hb.out _ | exact below_drewN (below_drewN hb.out _) _)⟩
        · subst hxy
          go_wp2_with fail
          go_quiet (fail)
          go_wp2_with fail
          go_quiet (fail)
          go_wp2_with fail
          go_roundw
          case rel => exact ⟨k + 1, by go_num, by omega, by omega, Lib.hid (HT.out (by first | rfl | trivial)), Lib.hid (by first | exact hb.out | exact below_drewN hb.out _ | exact below_drewN (below_drewN hb.out _) _)⟩
          case measure => simp [intOf]; omega
        · have HQ : Hid (z = 1) := Lib.hid (by rw [HD.out]; have : ¬ x < y := by omega
                                               simp [cmpZ, hxy, this])
          go_wp2_with fail
          go_quiet (fail)
          go_wp2_with fail
          go_quiet (fail)
          go_wp2_with fail
          go_ret
          exact ⟨ret_i64 HQ.out.symm, (by first | exact hb.out | exact below_drewN hb.out _ | exact below_drewN (below_drewN hb.out _) _)⟩
      · have hkm' : k = m := by omega
        have hmn : m < n := by omega
        have HQ : Hid (z = 1) := Lib.hid (by
          rw [HC.out, List.drop_eq_nil_of_le (show b.length ≤ k by have := HM.out; omega)]
          exact cmp_nil' _ (fun e => by have := congrArg List.length e; rw [List.length_drop] at this; have h := HN.out; simp at this; omega))
        subst hkm'
        clear h1 h2
        go_wp2_with fail
        go_ret
        exact ⟨ret_i64 HQ.out.symm, hb.out⟩
    · have hkn' : k = n := by omega
      subst hkn'
      by_cases h2 : k < m
      · have HQ : Hid (z = -1) := Lib.hid (by
          rw [HC.out, List.drop_eq_nil_of_le (show a.length ≤ k by have := HN.out; omega)]
          exact cmp_nil _ (fun e => by have := congrArg List.length e; rw [List.length_drop] at this; have h := HM.out; simp at this; omega))
        go_wp2_with fail
        go_ret
        exact ⟨ret_i64 HQ.out.symm, hb.out⟩
      · have hkm' : k = m := by omega
        have HQ : Hid (z = 0) := Lib.hid (by
          rw [HC.out, List.drop_eq_nil_of_le (show a.length ≤ k by have := HN.out; omega), List.drop_eq_nil_of_le (show b.length ≤ k by have := HM.out; omega)]; rfl)
        subst hkm'
        clear h1 h2
        go_wp2_with fail
        go_ret
        exact ⟨ret_i64 HQ.out.symm, hb.out⟩
end Go.Proofs.YtkipnbhejokbeaaDoor.Pl
