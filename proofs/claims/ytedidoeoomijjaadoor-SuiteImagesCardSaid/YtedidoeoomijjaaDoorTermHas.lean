/- What term's stands and Has answer. -/
import Derived.Test.YtedidoeoomijjaaDoorSuiteD7
import Derived.Test.YtedidoeoomijjaaDoorShelf
namespace Go.Proofs.YtedidoeoomijjaaDoor.Pl
open Go.RowKit Go.Shelf
attribute [local go_sem] Oper.semAt_some

/-- Do the bytes of sub stand in t at a place? -/
def stB (sub t : ByteArray) (x : Pl6) : Bool := Lib.hasPrefix ((bl t).drop x.at_) (bl sub)
theorem offs_place {T : Tm} {y : Pl6 × Tm} (hy : y ∈ offT 0 1 T) : y.2 ∈ T.places := by
  rw [← offs_snd T 0 1]
  exact List.mem_map_of_mem hy
theorem st_at {t sub : ByteArray} {T F : Tm} (hT : T.valid) (eT : bl t = T.enc) (hF : F.valid) (eF : bl sub = F.enc) {y : Pl6 × Tm} (hy : y ∈ offT 0 1 T) : stB sub t y.1 = true ↔ y.2.enc = F.enc := by
  obtain ⟨r, hr⟩ := offs_at (bl t) T 0 1 [] (by rw [List.drop_zero, eT, List.append_nil]) y hy
  have hv := places_valid hT (offs_place hy)
  unfold stB Lib.hasPrefix
  rw [hr, eF, List.isPrefixOf_iff_prefix]
  constructor
  · rintro ⟨r', h⟩
    rw [(enc_front _ hF.1 _ hv.1 _ _ h).1]
  · rintro h
    rw [h]; exact ⟨r, rfl⟩
theorem has_vis {t sub : ByteArray} (ht : checkP (bl t) = 0) (hs : checkP (bl sub) = 0) : hasP (bl t) (bl sub) = true ↔ ∃ x ∈ (vis t).1, stB sub t x = true := by
  obtain ⟨T, tv, te, tr, hv⟩ := vis_term ht
  obtain ⟨F, fv, fe, fr⟩ := tree_of hs
  have h1 : hasP (bl t) (bl sub) = decide (bl sub ∈ T.places.map Tm.enc) := by unfold hasP placesP; rw [tr, fr]
  rw [h1, decide_eq_true_eq, hv, ← offs_snd T 0 1]
  simp only [List.mem_map]
  constructor
  · rintro ⟨u, ⟨y, hy, rfl⟩, e⟩
    exact ⟨y.1, ⟨y, hy, rfl⟩, (st_at tv te fv fe hy).2 (by rw [e, fe])⟩
  · rintro ⟨x, ⟨y, hy, rfl⟩, e⟩
    exact ⟨y.2, ⟨y, hy, rfl⟩, by rw [(st_at tv te fv fe hy).1 e, fe]⟩

/-- Two texts in a row of their own. -/
theorem are2_any (s u : ByteArray) (hs : s.size ≤ 281474976710656) (hu : u.size ≤ 281474976710656) (w : World) :
    Calls Tryd.prog 28 #[.slice (some ⟨w.heap.size, 0, none⟩) 2 2] (w.alloc (.cells #[.string s, .string u] 9)) fun e w' => e = .returned (.bool (checkP (bl s) == 0 && checkP (bl u) == 0)) ∧ Below w.heap.size w w' :=
  (are_any [s, u] (some ⟨w.heap.size, 0, none⟩) 2 (by simp) (fun x hx => by simp at hx; rcases hx with rfl | rfl <;> assumption) _ (row2 w s u) (checkP (bl s) == 0 && checkP (bl u) == 0) (by simp)).mono (fun e w' h => ⟨h.1, below_step ((Below.refl _ _).alloc (Nat.le_refl _) _) h.2⟩)

/-- What Has holds while it goes over the places: nothing has stood there. -/
def HasI (w : World) (t sub : ByteArray) (pre : List Pl6) (W : World) : Prop :=
  ((Boxed W w.heap.size 9 (.string t) ∧ Boxed W (w.heap.size + 1) 9 (.string sub)) ∧ Boxed W (w.heap.size + 1 + 1) 4 (.bool false)) ∧ Below w.heap.size w W ∧ ∀ x ∈ pre, stB sub t x = false
def HasX (w : World) (t sub : ByteArray) : Code → List Pl6 → World → Prop
  | .ret => fun pre W => Boxed W (w.heap.size + 1 + 1) 4 (.bool true) ∧ Below w.heap.size w W ∧ ∃ x ∈ pre, stB sub t x = true
  | _ => fun _ _ => False
theorem hasI_own (w : World) (t sub : ByteArray) (B : Nat) (h : w.heap.size ≤ B) : OwnFrom B (HasI w t sub) :=
  OwnFrom.and (OwnFrom.and (OwnFrom.and (Own.from (boxed_own _ _ _) _) (Own.from (boxed_own _ _ _) _)) (Own.from (boxed_own _ _ _) _)) (OwnFrom.and (ownFrom_below (Nat.le_refl _) h) (ownFrom_pure _ _))
theorem hasX_own (w : World) (t sub : ByteArray) (B : Nat) (h : w.heap.size ≤ B) (c : Code) : OwnFrom B (HasX w t sub c) := by
  cases c with
  | ret => exact OwnFrom.and (Own.from (boxed_own _ _ _) _) (OwnFrom.and (ownFrom_below (Nat.le_refl _) h) (ownFrom_pure _ _))
  | _ => exact fun _ _ _ _ hs _ _ => hs.elim

theorem keepsOthers_below {W W' : World} (h : Below W.heap.size W W') : KeepsOthers W W' :=
  KeepsOthers.of_grownBy (row := none) ⟨h.os, h.tape, h.output, h.size, fun k hk _ => h.block k hk⟩ (fun _ _ e => by cases e)
abbrev hasAct (t sub : ByteArray) (B Bp b : Nat) (x : Pl6) : Act :=
  { tmps := #[.string t, .string sub, .pointer (some ⟨B, 0, none⟩), .pointer (some ⟨B + 1, 0, none⟩), .pointer (some ⟨B + 1 + 1, 0, none⟩), .pointer (some ⟨b, 0, none⟩), .string t, .string sub, .slice (some ⟨B + 1 + 1 + 1, 0, none⟩) 2 2, .bool true, .bool false, .string t, .func (.func 54) #[] #[.pointer (some ⟨Bp, 0, none⟩)], encPl x, undef, undef, undef, undef], defers := [] }

end Go.Proofs.YtedidoeoomijjaaDoor.Pl
