/- Whether one of those that are new matters to a seal: opened's closure, and slices.ContainsFunc over it. -/
import Derived.Test.YtkebfabmcajbmaaKnowSt
import Derived.Test.YtkebfabmcajbmaaShelf
namespace Go.Proofs.Ytkebfabmcajbmaa.Pl
open Go.RowKit

/-- The library's own variable holds some number. -/
def MX (w : World) : Prop := ∃ m : Int, w.cell? ⟨0, 0, none⟩ = some (.int .i64 m)
theorem MX.pos {w : World} (h : MX w) : 0 < w.heap.size := by
  obtain ⟨m, hm⟩ := h
  unfold World.cell? at hm
  cases e : w.heap[0]? with
  | none => simp only [e] at hm; cases hm
  | some o => exact (Array.getElem?_eq_some_iff.1 e).1
theorem MX.below {B : Nat} {w w' : World} (h : MX w) (hb : Below B w w') (hB : 0 < B) : MX w' := by
  obtain ⟨m, hm⟩ := h
  exact ⟨m, (World.cell?_of_block (a := ⟨0, 0, none⟩) (hb.block _ hB)).trans hm⟩
theorem MX.step {w w' : World} (h : MX w) (hb : Below w.heap.size w w') : MX w' := h.below hb h.pos
/-- Is y that one, or does it stand in its key? -/
def matB (x key y : ByteArray) : Bool := decide (y = x) || Lib.contains key.data.toList y.data.toList
theorem matB_iff {x key y : ByteArray} : matB x key y = true ↔ y = x ∨ Lib.contains (bl key) (bl y) = true := by
  unfold matB
  rw [Bool.or_eq_true, decide_eq_true_iff]
  rfl
/-- What stands in a text is found. -/
theorem contains_in (y v : List UInt8) : ∀ u : List UInt8, Lib.contains (u ++ y ++ v) y = true
  | [] => by
    unfold Lib.contains
    rw [List.nil_append]
    cases e : y ++ v with
    | nil =>
      obtain ⟨rfl, rfl⟩ := List.append_eq_nil_iff.1 e
      rfl
    | cons b l =>
      have h : y.isPrefixOf (b :: l) = true := by
        rw [List.isPrefixOf_iff_prefix, ← e]
        exact List.prefix_append _ _
      unfold Lib.index
      rw [if_pos h]
      rfl
  | b :: u => by
    have ih := contains_in y v u
    unfold Lib.contains at ih ⊢
    have ih := of_decide_eq_true ih
    rw [List.cons_append, List.cons_append]
    unfold Lib.index
    split
    · rfl
    · rw [if_neg (by rw [beq_iff_eq]; omega)]
      exact decide_eq_true (by omega)
theorem str_ne10 {a b : ByteArray} (h : a ≠ b) : (a.toList == b.toList) = false ∧ (a.toList != b.toList) = true := by
  have h' : a.toList ≠ b.toList := fun e => h (by
    rw [Lib.toList_data, Lib.toList_data] at e
    exact bl_inj e)
  exact ⟨beq_eq_false_iff_ne.2 h', bne_iff_ne.2 h'⟩
set_option maxRecDepth 100000 in
theorem matters10_any (x key y : ByteArray) (hk : key.size ≤ 1000000) (xb lb : Nat) (w : World) (cx : w.cell? ⟨xb, 0, none⟩ = some (.string x)) (ck : w.cell? ⟨lb, 0, none⟩ = some (.string key)) (hM : MX w) :
    Calls Try.prog 61 #[.string y, ptr10 xb, ptr10 lb] w fun e w' => e = .returned (.bool (matB x key y)) ∧ w' = w := by
  by_cases h : y = x
  · subst h
    have HR : Hid (matB y key y = true) := Lib.hid (matB_iff.2 (.inl rfl))
    clear hM hk
    rw [HR.out]
    go_enter Try.func61, Try.ntmps61
    go_wp2_with fail
    go_ret
    exact ⟨rfl, rfl⟩
  · obtain ⟨m, hm⟩ := hM
    have HR : Hid (matB x key y = Lib.contains key.data.toList y.data.toList) := Lib.hid (by unfold matB; rw [decide_eq_false h, Bool.false_or])
    have HC := Lib.hid (Try.strings_Contains key y m w (by omega) hm)
    have e1 := (str_ne10 h).1
    clear hm hk
    rw [HR.out]
    go_enter Try.func61, Try.ntmps61
    go_wp2_with fail
    refine HC.out.mono ?_; rintro e w1 ⟨rfl, rfl⟩
    go_wp2_with fail
    go_ret
    exact ⟨rfl, rfl⟩
/-- Is there one among them that matters? -/
theorem anymat10_any (x key : ByteArray) (hk : key.size ≤ 1000000) (F : List ByteArray) (ao : Option Addr) (cap xb lb : Nat) (w : World) (cx : w.cell? ⟨xb, 0, none⟩ = some (.string x)) (ck : w.cell? ⟨lb, 0, none⟩ = some (.string key)) (hx : xb < w.heap.size) (hl : lb < w.heap.size) (hM : MX w) (hF : TxtRow w ao F) (hn : F.length ≤ 1000000000) :
    Calls Try.prog 63 #[.slice ao F.length cap, .func (.func 61) #[] #[ptr10 xb, ptr10 lb]] w fun e w' => e = .returned (.bool (F.any (matB x key))) ∧ Below w.heap.size w w' := by
  have heg : ∀ args w, (callFunc 61 args).run Try.prog w = .ok (.enter 61 args) w := enters_of Try.func61 (by kernel_rfl) rfl
  rcases hF with rfl | ⟨b, off, rfl, hlt, hc⟩
  · refine (Try.slices_ContainsFunc_empty (α := ByteArray) ao cap _ w).mono ?_
    rintro e w' ⟨rfl, rfl⟩
    exact ⟨rfl, Below.refl _ _⟩
  · refine (Try.slices_ContainsFunc Value.string (matB x key) 61 #[ptr10 xb, ptr10 lb] heg b off F.length cap F w ?_ (Nat.le_refl _) (by omega) ?_).mono ?_
    · intro W y hb
      refine (matters10_any x key y hk xb lb W ((World.cell?_of_block (a := ⟨xb, 0, none⟩) (hb.block _ hx)).trans cx) ((World.cell?_of_block (a := ⟨lb, 0, none⟩) (hb.block _ hl)).trans ck) (hM.step hb)).mono ?_
      rintro e w' ⟨rfl, rfl⟩
      exact ⟨rfl, 0, rfl⟩
    · intro j hj
      rw [hc j hj]
      congr 2
      simp [List.getD_eq_getElem?_getD, hj]
    · rintro e w' ⟨rfl, q, rfl⟩
      rw [List.take_length]
      exact ⟨rfl, ⟨rfl, rfl, rfl, Nat.le_refl _, fun _ _ => rfl⟩⟩
end Go.Proofs.Ytkebfabmcajbmaa.Pl
