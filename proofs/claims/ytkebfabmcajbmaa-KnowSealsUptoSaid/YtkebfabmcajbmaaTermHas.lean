/- What term's stands and Has answer. -/
import Derived.Test.YtkebfabmcajbmaaTermCount
import Derived.Test.YtkebfabmcajbmaaShelf
namespace Go.Proofs.Ytkebfabmcajbmaa.Pl
open Go.RowKit Go.Shelf
attribute [local go_sem] Oper.semAt_some

/-- Do the bytes of sub stand in t at a place? -/
def stB (sub t : ByteArray) (x : Pl6) : Bool := Lib.hasPrefix ((bl t).drop x.at_) (bl sub)
theorem offs_place {T : Tm} {y : Pl6 × Tm} (hy : y ∈ offT 0 1 T) : y.2 ∈ T.places := by
  rw [← offs_snd T 0 1]
  exact List.mem_map_of_mem hy
theorem st_at {t sub : ByteArray} {T F : Tm} (hT : T.valid) (eT : bl t = T.enc) (hF : F.valid) (eF : bl sub = F.enc) {y : Pl6 × Tm} (hy : y ∈ offT 0 1 T) : stB sub t y.1 = true ↔ y.2.enc = F.enc := by
  obtain ⟨r, hr⟩ := offs_at (bl t) T 0 1 [] (by rw [List.drop_zero, eT, List.append_nil]) y hy
  have hv := places_valid hT (offs_place hy)
  unfold stB Lib.hasPrefix
  rw [hr, eF, List.isPrefixOf_iff_prefix]
  constructor
  · rintro ⟨r', h⟩
    rw [(enc_front _ hF.1 _ hv.1 _ _ h).1]
  · rintro h
    rw [h]; exact ⟨r, rfl⟩
theorem has_vis {t sub : ByteArray} (ht : checkP (bl t) = 0) (hs : checkP (bl sub) = 0) : hasP (bl t) (bl sub) = true ↔ ∃ x ∈ (vis t).1, stB sub t x = true := by
  obtain ⟨T, tv, te, tr, hv⟩ := vis_term ht
  obtain ⟨F, fv, fe, fr⟩ := tree_of hs
  have h1 : hasP (bl t) (bl sub) = decide (bl sub ∈ T.places.map Tm.enc) := by unfold hasP placesP; rw [tr, fr]
  rw [h1, decide_eq_true_eq, hv, ← offs_snd T 0 1]
  simp only [List.mem_map]
  constructor
  · rintro ⟨u, ⟨y, hy, rfl⟩, e⟩
    exact ⟨y.1, ⟨y, hy, rfl⟩, (st_at tv te fv fe hy).2 (by rw [e, fe])⟩
  · rintro ⟨x, ⟨y, hy, rfl⟩, e⟩
    exact ⟨y.2, ⟨y, hy, rfl⟩, by rw [(st_at tv te fv fe hy).1 e, fe]⟩

set_option maxHeartbeats 1000000 in
set_option maxRecDepth 100000 in
theorem stands_any (sub t : ByteArray) (p : Pl6) (hp : p.at_ ≤ t.size) (w : World) :
    Calls Try.prog 44 #[.string sub, .string t, encPl p] w fun e w' => e = .returned (.bool (stB sub t p)) ∧ Below w.heap.size w w' := by
  have sl : ∀ V : World, (Instr.sliceAt 9 (.string t) (some (.int .i64 (p.at_ : Int))) none none).run Try.prog V = .ok (.string (t.extract p.at_ t.size)) V := tslice_from t p.at_ hp
  have hx : bl (t.extract p.at_ t.size) = (bl t).drop p.at_ := bl_from t p.at_
  have HP := Lib.hid (fun V => Try.strings_HasPrefix (t.extract p.at_ t.size) sub V)
  have HR : Hid (Lib.hasPrefix (t.extract p.at_ t.size).data.toList sub.data.toList = stB sub t p) := Lib.hid (by
    unfold stB; rw [← hx]; rfl)
  rw [HR.out] at HP
  generalize t.extract p.at_ t.size = y at *
  generalize stB sub t p = z at *
  clear HR hx
  unfold encPl cellsPl
  go_enter Try.func44, Try.ntmps44
  go_wp2_with (go_at_call 66; refine (HP.out _).mono ?_; rintro e w1 ⟨rfl, rfl⟩)
  go_ret
  exact ⟨rfl, (Below.refl _ _).alloc (Nat.le_refl _) _⟩

/-- Two texts in a row of their own. -/
theorem are2_any (s u : ByteArray) (hs : s.size ≤ 281474976710656) (hu : u.size ≤ 281474976710656) (w : World) :
    Calls Try.prog 42 #[.slice (some ⟨w.heap.size, 0, none⟩) 2 2] (w.alloc (.cells #[.string s, .string u] 9)) fun e w' => e = .returned (.bool (checkP (bl s) == 0 && checkP (bl u) == 0)) ∧ Below w.heap.size w w' :=
  (are_any [s, u] (some ⟨w.heap.size, 0, none⟩) 2 (by simp) (fun x hx => by simp at hx; rcases hx with rfl | rfl <;> assumption) _ (row2 w s u) (checkP (bl s) == 0 && checkP (bl u) == 0) (by simp)).mono (fun e w' h => ⟨h.1, below_step ((Below.refl _ _).alloc (Nat.le_refl _) _) h.2⟩)

/-- What Has holds while it goes over the places: nothing has stood there. -/
def HasI (w : World) (t sub : ByteArray) (pre : List Pl6) (W : World) : Prop :=
  ((Boxed W w.heap.size 9 (.string t) ∧ Boxed W (w.heap.size + 1) 9 (.string sub)) ∧ Boxed W (w.heap.size + 1 + 1) 4 (.bool false)) ∧ Below w.heap.size w W ∧ ∀ x ∈ pre, stB sub t x = false
def HasX (w : World) (t sub : ByteArray) : Code → List Pl6 → World → Prop
  | .ret => fun pre W => Boxed W (w.heap.size + 1 + 1) 4 (.bool true) ∧ Below w.heap.size w W ∧ ∃ x ∈ pre, stB sub t x = true
  | _ => fun _ _ => False
theorem hasI_own (w : World) (t sub : ByteArray) (B : Nat) (h : w.heap.size ≤ B) : OwnFrom B (HasI w t sub) :=
  OwnFrom.and (OwnFrom.and (OwnFrom.and (Own.from (boxed_own _ _ _) _) (Own.from (boxed_own _ _ _) _)) (Own.from (boxed_own _ _ _) _)) (OwnFrom.and (ownFrom_below (Nat.le_refl _) h) (ownFrom_pure _ _))
theorem hasX_own (w : World) (t sub : ByteArray) (B : Nat) (h : w.heap.size ≤ B) (c : Code) : OwnFrom B (HasX w t sub c) := by
  cases c with
  | ret => exact OwnFrom.and (Own.from (boxed_own _ _ _) _) (OwnFrom.and (ownFrom_below (Nat.le_refl _) h) (ownFrom_pure _ _))
  | _ => exact fun _ _ _ _ hs _ _ => hs.elim

theorem keepsOthers_below {W W' : World} (h : Below W.heap.size W W') : KeepsOthers W W' :=
  KeepsOthers.of_grownBy (row := none) ⟨h.os, h.tape, h.output, h.size, fun k hk _ => h.block k hk⟩ (fun _ _ e => by cases e)
theorem has_results (B : Nat) (V : World) (z : Bool) (tmps : Array Value) (h4 : tmps.getD 4 undef = .pointer (some ⟨B, 0, none⟩)) (b : Boxed V B 4 (.bool z)) :
    (results Try.f28 tmps).run Try.prog V = .ok (.bool z) V := by
  have c1 := b.cell
  have h4' : tmps[4]?.getD undef = .pointer (some ⟨B, 0, none⟩) := by simpa using h4
  simp [results, Try.results28, go_sem, h4', c1, asAddr]

abbrev hasAct (t sub : ByteArray) (B Bp b : Nat) (x : Pl6) : Act :=
  { tmps := #[.string t, .string sub, .pointer (some ⟨B, 0, none⟩), .pointer (some ⟨B + 1, 0, none⟩), .pointer (some ⟨B + 1 + 1, 0, none⟩), .pointer (some ⟨b, 0, none⟩), .string t, .string sub, .slice (some ⟨B + 1 + 1 + 1, 0, none⟩) 2 2, .bool true, .bool false, .string t, .func (.func 64) #[] #[.pointer (some ⟨Bp, 0, none⟩)], encPl x, undef, undef, undef, undef], defers := [] }

set_option maxRecDepth 100000 in
set_option maxHeartbeats 4000000 in
theorem has6_any (t sub : ByteArray) (ht : t.size ≤ 281474976710656) (hs : sub.size ≤ 281474976710656) (w : World) :
    Calls Try.prog 28 #[.string t, .string sub] w fun e w' => e = .returned (.bool (hasP (bl t) (bl sub))) ∧ Below w.heap.size w w' := by
  obtain ⟨W1, hW1⟩ : ∃ W1, ((w.alloc (.cells #[.string t] 9)).alloc (.cells #[.string sub] 9)).alloc (.cells #[.bool false] 4) = W1 := ⟨_, rfl⟩
  have hsz : W1.heap.size = w.heap.size + 1 + 1 + 1 := by rw [← hW1]; simp
  have HA := are2_any t sub ht hs W1
  rw [hsz] at HA
  have HA := Lib.hid HA
  have hB1 : Below w.heap.size w W1 := by rw [← hW1]; exact (((Below.refl _ w).alloc (Nat.le_refl _) _).alloc (by simp) _).alloc (by simp; omega) _
  have bT : Boxed W1 w.heap.size 9 (.string t) := by rw [← hW1]; exact ((Boxed.new w _ _).alloc _).alloc _
  have bS : Boxed W1 (w.heap.size + 1) 9 (.string sub) := by rw [← hW1]; have h := (Boxed.new (w.alloc (.cells #[.string t] 9)) 9 (.string sub)).alloc (.cells #[.bool false] 4); simpa using h
  have bR : Boxed W1 (w.heap.size + 1 + 1) 4 (.bool false) := by rw [← hW1]; have h := Boxed.new ((w.alloc (.cells #[.string t] 9)).alloc (.cells #[.string sub] 9)) 4 (.bool false); simpa using h
  have HB := Lib.hid (And.intro hB1 (And.intro bT (And.intro bS bR)))
  have cT := bT.cell
  have cS := bS.cell
  have fR := bR.frozen
  have cR := bR.cell
  clear hB1 bT bS bR
  refine (callsIn_wide (n := 5)).1 ?_
  by_cases hc : checkP (bl t) = 0 ∧ checkP (bl sub) = 0
  · rw [may_yes hc.1, may_yes hc.2, Bool.and_true] at HA
    have hv := has_vis hc.1 hc.2
    have hz0 : (vis t).2.2 = 0 := by obtain ⟨T, _, _, _, h⟩ := vis_term hc.1; rw [h]
    have HV := Lib.hid hv
    have HZ := Lib.hid hz0
    clear hv hc hz0
    refine callsIn_of_wp_marks Try.func28 rfl trivial ?_ rfl
    simp only [Try.ntmps28, List.size_toArray, List.length_cons, List.length_nil, Nat.reduceAdd, Nat.reduceSub, Array.replicate_succ, Array.replicate_zero, List.push_toArray, List.append_toArray, List.nil_append, List.cons_append]
    gi_wp2_with (first | (refine ⟨trivial, ?_⟩; gi_at_call 42; refine (callsIn_wide.2 HA.out).mono ?_; rintro e w1 ⟨rfl, b1⟩; have cT1 := (b1.cell (p := ⟨w.heap.size, 0, none⟩) (by show w.heap.size < _; omega)).trans cT) | (refine ⟨trivial, ?_⟩; gi_at_call 43; refine (callsIn_wide.2 (places_in t _)).mono ?_; rintro e w2 ⟨rfl, rfl⟩))
    obtain ⟨W0, hW0⟩ : ∃ W0, w1.alloc (.cells #[.string t] 9) = W0 := ⟨_, rfl⟩
    have hb1 := b1.size
    have hs1 : w1.heap.size + 1 = W0.heap.size := by rw [← hW0]; simp
    have bP : Boxed W0 w1.heap.size 9 (.string t) := by rw [← hW0]; exact Boxed.new w1 _ _
    have hI : HasI w t sub [] W0 := by
      obtain ⟨hB1, bT, bS, bR⟩ := HB.out
      have k : ∀ {b : Nat} {ty : TypeId} {v : Value}, b < w.heap.size + 1 + 1 + 1 → Boxed W1 b ty v → Boxed W0 b ty v := fun hlt hb => by
        rw [← hW0]; exact Boxed.alloc (show Boxed w1 _ _ _ from (b1.block _ hlt).trans hb) _
      refine ⟨⟨⟨k (by omega) bT, k (by omega) bS⟩, k (by omega) bR⟩, ?_, fun x hx => by cases hx⟩
      rw [← hW0]
      exact (hB1.trans (b1.mono (by omega))).alloc (by omega) _
    rw [hW0]
    have hw0 : w.heap.size ≤ W0.heap.size := by omega
    clear hW0 b1 cT cS fR cR cT1 HB hW1 hsz hs1 hb1
    generalize w1.heap.size = Bp at *
    refine wpIn_places t ht Bp bP rfl (HasI w t sub) (HasX w t sub) (hasI_own w t sub _ (by omega)) (hasX_own w t sub _ (by omega)) hI
      (PlAx w.heap.size (hasAct t sub w.heap.size Bp)) (plAx_own _ _ _) ?assign ?body ?done ?stop ?throw
    case assign =>
      intro m l pre x W K hi hK
      have hzr := Lib.hid hK
      clear hK
      unfold encPl cellsPl
      gi_wp2
      exact hzr.out _ _ ((KeepsOthers.alloc _ _).from _) (KeepP.alloc _ _) ((hasI_own w t sub W0.heap.size (by omega)).alloc _ hi) ⟨W.heap.size, hi.2.1.size, World.alloc_heap_new _ _, rfl⟩
    case body =>
      rintro m l pre x a' W hl hi ⟨b, hb, hbx, rfl⟩ hpre
      obtain ⟨hx0, hx1, hx2, hx3⟩ := place_cells hbx
      have cT := hi.1.1.1.cell
      have cS := hi.1.1.2.cell
      have fR := hi.1.2.frozen
      have hok := (vis_any t x pre hpre).1
      rw [bl_length] at hok
      have HS := Lib.hid (fun V => stands_any sub t x hok V)
      have HI := Lib.hid hi
      clear hi hbx hpre hok
      cases hst : stB sub t x with
      | false =>
        rw [hst] at HS
        unfold hasAct
        gi_wp2_with (refine ⟨trivial, hdd _, ?_⟩; gi_at_call 44; refine (callsIn_wide.2 (HS.out _)).mono ?_; rintro e w2 ⟨rfl, b2⟩)
        obtain ⟨⟨⟨h1, h2⟩, h3⟩, h4, h5⟩ := HI.out
        refine ⟨(keepsOthers_below b2).from _, KeepP.of_below b2, ⟨⟨(b2.block _ h1.lt).trans h1, (b2.block _ h2.lt).trans h2⟩, (b2.block _ h3.lt).trans h3⟩, below_step h4 b2, ?_⟩
        intro y hy
        rcases List.mem_append.1 hy with hy | hy
        · exact h5 y hy
        · rw [List.mem_singleton.1 hy]; exact hst
      | true =>
        rw [hst] at HS
        unfold hasAct
        gi_wp2_with (refine ⟨trivial, hdd _, ?_⟩; gi_at_call 44; refine (callsIn_wide.2 (HS.out _)).mono ?_; rintro e w2 ⟨rfl, b2⟩; have bR2 : Boxed w2 (w.heap.size + 1 + 1) 4 (.bool false) := (b2.block _ HI.out.1.2.lt).trans HI.out.1.2; have cR2 := bR2.cell; have fR2 := bR2.frozen)
        obtain ⟨⟨⟨h1, h2⟩, h3⟩, h4, h5⟩ := HI.out
        exact ⟨((keepsOthers_below b2).trans (KeepsOthers.setCell _ _ _)).from _, (KeepP.of_below b2).trans (KeepP.setBox bR2 (by decide) _), bR2.set _, (below_step h4 b2).setCell (p := ⟨w.heap.size + 1 + 1, 0, none⟩) (by show w.heap.size ≤ w.heap.size + 1 + 1; omega) _, x, List.mem_append_right _ (List.mem_singleton.2 rfl), hst⟩
    case done =>
      rintro D W hD _ hi hK
      have cR := hi.1.2.cell
      have fR := hi.1.2.frozen
      have HI := Lib.hid hi
      clear hi
      gi_wp2
      obtain ⟨⟨⟨h1, h2⟩, h3⟩, h4, h5⟩ := HI.out
      have hne : D ≠ w.heap.size + 1 + 1 := by
        intro e
        rw [e, show W.heap[w.heap.size + 1 + 1]? = _ from h3] at hK
        cases hK
      have hK' : (W.setCell ⟨w.heap.size + 1 + 1, 0, none⟩ (.bool false)).heap[D]? = some (.deferred (some [])) := (Below.heap_setCell W _ _ D hne).trans hK
      have hR : Boxed ((W.setCell ⟨w.heap.size + 1 + 1, 0, none⟩ (.bool false)).putObj D (.deferred none)) (w.heap.size + 1 + 1) 4 (.bool false) := (World.putObj_heap_other (fun e => hne e.symm)).trans (h3.set _)
      refine leave_mark hK' (has_results _ _ _ _ rfl hR) ⟨?_, below_mark (h4.setCell (p := ⟨w.heap.size + 1 + 1, 0, none⟩) (by show w.heap.size ≤ w.heap.size + 1 + 1; omega) _) (by omega) hK' _⟩
      refine (ret6_bool ?_).symm
      cases e : hasP (bl t) (bl sub) with
      | false => rfl
      | true =>
        obtain ⟨x, hx, hs⟩ := HV.out.1 e
        rw [h5 x hx] at hs; cases hs
    case stop =>
      rintro D c pre W hD hq h hK
      cases c with
      | ret =>
        obtain ⟨h1, h2, x, hx, h3⟩ := h
        gi_wp2
        have hne : D ≠ w.heap.size + 1 + 1 := by
          intro e
          rw [e, show W.heap[w.heap.size + 1 + 1]? = _ from h1] at hK
          cases hK
        refine leave_mark hK (has_results _ _ true _ rfl ((World.putObj_heap_other (fun e => hne e.symm)).trans h1)) ⟨?_, below_mark h2 (by omega) hK _⟩
        refine (ret6_bool ?_).symm
        exact HV.out.2 ⟨x, hq.subset hx, h3⟩
      | _ => exact h.elim
    case throw =>
      rintro D W hD hz hi hK
      exact absurd HZ.out hz
  · have HH : Hid (hasP (bl t) (bl sub) = false) := Lib.hid (by
      unfold hasP
      by_cases h1 : checkP (bl t) = 0
      · have h2 : checkP (bl sub) ≠ 0 := fun h => hc ⟨h1, h⟩
        rw [treeOf_none h2]; cases treeOf (bl t) <;> rfl
      · rw [treeOf_none h1])
    have HF : Hid ((checkP (bl t) == 0 && checkP (bl sub) == 0) = false) := Lib.hid (by
      by_cases h1 : checkP (bl t) = 0
      · rw [may_no (fun h => hc ⟨h1, h⟩), Bool.and_false]
      · rw [may_no h1, Bool.false_and])
    rw [HF.out] at HA
    rw [HH.out]
    clear hc
    refine callsIn_of_wp_marks Try.func28 rfl trivial ?_ rfl
    simp only [Try.ntmps28, List.size_toArray, List.length_cons, List.length_nil, Nat.reduceAdd, Nat.reduceSub, Array.replicate_succ, Array.replicate_zero, List.push_toArray, List.append_toArray, List.nil_append, List.cons_append]
    gi_wp2_with (first | (refine ⟨trivial, ?_⟩; gi_at_call 42; refine (callsIn_wide.2 HA.out).mono ?_; rintro e w1 ⟨rfl, b1⟩; have bR1 : Boxed w1 (w.heap.size + 1 + 1) 4 (.bool false) := (b1.block _ (by omega)).trans HB.out.2.2.2; have cR1 := bR1.cell; have fR1 := bR1.frozen))
    refine ⟨_, has_results _ _ false _ rfl (bR1.set _), rfl, ?_⟩
    exact (HB.out.1.trans (b1.mono (by omega))).setCell (p := ⟨w.heap.size + 1 + 1, 0, none⟩) (by show w.heap.size ≤ w.heap.size + 1 + 1; omega) _
end Go.Proofs.Ytkebfabmcajbmaa.Pl
