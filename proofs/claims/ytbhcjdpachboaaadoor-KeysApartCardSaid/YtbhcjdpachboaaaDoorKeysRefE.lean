/- Two rows of the same numbers are the same; what the document's Terms answers, where its suite's keys are known. -/
import Derived.Test.YtbhcjdpachboaaaDoorKeysRefC
import Derived.Test.YtbhcjdpachboaaaDoorKeysBase1
namespace Go.Proofs.YtbhcjdpachboaaaDoor.Pl
open Go.RowKit

/-- A row of these numbers at ao. -/
def IntRow (w : World) (ao : Option Addr) (l : List Nat) : Prop := l = [] ∨ ∃ b off, ao = some ⟨b, off, none⟩ ∧ b < w.heap.size ∧ ∀ j, j < l.length → w.cell? ⟨b, off + j, none⟩ = some (.int .i64 ((l.getD j 0 : Nat) : Int))
theorem IntRow.below {w w' : World} {ao : Option Addr} {l : List Nat} (h : IntRow w ao l) (hb : Below w.heap.size w w') : IntRow w' ao l := by
  rcases h with h | ⟨b, off, hg, hlt, hc⟩
  · exact .inl h
  · exact .inr ⟨b, off, hg, Nat.lt_of_lt_of_le hlt hb.size, fun j hj => (hb.cell (p := ⟨b, off + j, none⟩) hlt).trans (hc j hj)⟩
theorem ownI_row {w : World} {B : Nat} {v : Value} {l : List Nat} (h : OwnI w B v l) : ∃ ao cap, v = .slice ao l.length cap ∧ IntRow w ao l := by
  rcases h.2 with ⟨hv, h0⟩ | ⟨g, cap, cur, hv, hbg, hg, rest⟩
  · exact ⟨none, 0, by rw [hv, h0], .inl (List.length_eq_zero_iff.1 h0)⟩
  · have h' := h
    unfold OwnI at h'
    rw [hv] at h'
    exact ⟨_, cap, hv, .inr ⟨g, 0, rfl, (Array.getElem?_eq_some_iff.1 hg).1, fun j hj => by rw [Nat.zero_add, h'.cellAt j (by omega)]; simp [List.getD_eq_getElem?_getD, hj]⟩⟩
set_option maxHeartbeats 1000000 in
set_option maxRecDepth 100000 in
theorem rsameints_eq (l : List Nat) (ao bo : Option Addr) (ca cb : Nat) (hl : l.length ≤ 1000) (w : World) (hra : IntRow w ao l) (hrb : IntRow w bo l) :
    Calls Tryd.prog 21 #[.slice ao l.length ca, .slice bo l.length cb] w fun e w' => e = .returned (.bool true) ∧ Below w.heap.size w w' := by
  have HA := Lib.hid hra
  have HB := Lib.hid hrb
  obtain ⟨n, hn⟩ : ∃ n, n = l.length := ⟨_, rfl⟩
  rw [← hn] at hl ⊢
  have HN := Lib.hid hn
  clear hra hrb hn
  go_enter Tryd.func21, Tryd.ntmps21
  go_wp2_with fail
  go_loopw [5] (fun iv wr => ∃ k : Nat, iv = .int .i64 k ∧ k ≤ n ∧ Hid (Below w.heap.size w wr)) (fun iv _ => n - (intOf iv).toNat)
  case atStart => exact ⟨0, rfl, Nat.zero_le _, Lib.hid (Below.refl _ _)⟩
  case round =>
    obtain ⟨k, rfl, hkn, hb⟩ := hrel
    by_cases hk : k < n
    · have hk' : (k : Int) < (n : Int) := by omega
      rcases HA.out.below hb.out with e | ⟨b1, off1, rfl, hlt1, hc1⟩
      · exfalso; have := HN.out; rw [e] at this; simp at this; omega
      rcases HB.out.below hb.out with e | ⟨b2, off2, rfl, hlt2, hc2⟩
      · exfalso; have := HN.out; rw [e] at this; simp at this; omega
      have ck1 := hc1 k (by rw [← HN.out]; exact hk)
      have ck2 := hc2 k (by rw [← HN.out]; exact hk)
      generalize l.getD k 0 = x at *
      clear hc1 hlt1 hc2 hlt2
      go_wp2_with fail
      go_quiet (fail)
      go_wp2_with fail
      go_roundw
      case rel => exact ⟨k + 1, by go_num, by omega, Lib.hid (by first | exact hb.out | exact below_drewN hb.out _)⟩
      case measure => simp [intOf]; omega
    · obtain rfl : k = n := by omega
      clear hk hkn
      go_wp2_with fail
      go_ret
      exact ⟨rfl, hb.out⟩

/-- The first error of a row of names, or what each gives. -/
def termsK (f : List UInt8 → List UInt8 × Nat) : List (List UInt8) → List (List UInt8) × Nat
  | [] => ([], 0)
  | x :: l => if (f x).2 ≠ 0 then ([], (f x).2) else if (termsK f l).2 ≠ 0 then ([], (termsK f l).2) else ((f x).1 :: (termsK f l).1, 0)
theorem termsK_append (f : List UInt8 → List UInt8 × Nat) : ∀ a b : List (List UInt8), (termsK f a).2 = 0 → termsK f (a ++ b) =
    if (termsK f b).2 ≠ 0 then ([], (termsK f b).2) else ((termsK f a).1 ++ (termsK f b).1, 0)
  | [], b, _ => by
    rw [List.nil_append, termsK]
    by_cases h : (termsK f b).2 = 0
    · simp [h]
      exact Prod.ext rfl h
    · simp only [ne_eq, h, not_false_eq_true, if_true]
      refine Prod.ext ?_ rfl
      cases b with
      | nil => rw [termsK] at h; exact absurd rfl h
      | cons y b =>
        rw [termsK] at h ⊢
        split
        · rfl
        · rename_i h1
          rw [if_neg h1] at h
          split
          · rfl
          · rename_i h2
            rw [if_neg h2] at h
            exact absurd rfl h
  | x :: a, b, h => by
    rw [termsK] at h
    by_cases h1 : (f x).2 = 0
    · by_cases h2 : (termsK f a).2 = 0
      · rw [List.cons_append, termsK, termsK_append f a b h2, termsK]
        by_cases h3 : (termsK f b).2 = 0
        · simp [h1, h2, h3]
        · simp [h1, h3]
      · simp [h1, h2] at h
    · simp [h1] at h
theorem termsK_more {f : List UInt8 → List UInt8 × Nat} {l : List (List UInt8)} {k : Nat} (hk : k < l.length) {D : List (List UInt8)} (h : termsK f (l.take k) = (D, 0)) {y : List UInt8} (hy : f l[k] = (y, 0)) :
    termsK f (l.take (k + 1)) = (D ++ [y], 0) := by
  rw [List.take_succ_eq_append_getElem hk, termsK_append f _ _ (by rw [h]), h]
  simp [termsK, hy]
theorem termsK_stop {f : List UInt8 → List UInt8 × Nat} {l : List (List UInt8)} {k : Nat} (hk : k < l.length) {D : List (List UInt8)} (h : termsK f (l.take k) = (D, 0)) {y : List UInt8} {x : Nat} (hy : f l[k] = (y, x)) (hx : x ≠ 0) :
    termsK f l = ([], x) := by
  have e : l = l.take k ++ (l[k] :: l.drop (k + 1)) := by rw [← List.drop_eq_getElem_cons hk, List.take_append_drop]
  rw [e, termsK_append f _ _ (by rw [h])]
  simp [termsK, hy, hx]
end Go.Proofs.YtbhcjdpachboaaaDoor.Pl
