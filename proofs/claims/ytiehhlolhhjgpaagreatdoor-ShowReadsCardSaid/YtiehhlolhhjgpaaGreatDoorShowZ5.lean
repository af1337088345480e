/- What term's Parts answers. What the document's bytes of layer 7 answer. What the document's Subs of layer 6 answers: what stands at the places, each once, in order. What term's Subs answers. What the document's Same of layer 6 answers: are two rows of texts alike? -/
import Derived.Test.YtiehhlolhhjgpaaGreatDoorShowZ4
import Derived.Deep.RegionHeld3
import Derived.Test.YtiehhlolhhjgpaaGreatDoorShowZ3
import Derived.Maps.OwnIn
import Derived.StringKeys
import Derived.Carry
namespace Go.Proofs.YtiehhlolhhjgpaaGreatDoor.Pl
open Go.RowKit Go.Shelf
attribute [local go_sem] Oper.semAt_some

/-- The term at a place. -/
def ptT (s : ByteArray) (x : Pl6) : ByteArray := s.extract x.at_ (x.at_ + (frontP ((bl s).drop x.at_)).1)
theorem pt_at {s : ByteArray} {T : Tm} (hT : T.valid) (eT : bl s = T.enc) {y : Pl6 × Tm} (hy : y ∈ offT 0 1 T) : ptT s y.1 = tx y.2 := by
  obtain ⟨r, hr⟩ := offs_at (bl s) T 0 1 [] (by rw [List.drop_zero, eT, List.append_nil]) y hy
  have hv := places_valid hT (offs_place hy)
  refine bl_inj ?_
  unfold ptT
  rw [bl_extract, bl_tx, hr, front_enc hv, List.drop_take, hr, Nat.add_sub_cancel_left, List.take_left]
/-- The parts: what stands one deeper. -/
def partL (s : ByteArray) (l : List Pl6) : List ByteArray := (l.filter fun x => x.dep == 2).map (ptT s)
theorem partL_yes (s : ByteArray) (l : List Pl6) (x : Pl6) (h : x.dep = 2) : partL s (l ++ [x]) = partL s l ++ [ptT s x] := by simp [partL, h]
theorem partL_no (s : ByteArray) (l : List Pl6) (x : Pl6) (h : x.dep ≠ 2) : partL s (l ++ [x]) = partL s l := by simp [partL, h]
theorem partL_len (s : ByteArray) (l : List Pl6) : (partL s l).length ≤ l.length := by
  rw [partL, List.length_map]; exact List.length_filter_le _ _
theorem part_vis {s : ByteArray} (h : checkP (bl s) = 0) : partsP (bl s) = ((partL s (vis s).1).map bl, true) := by
  obtain ⟨T, tv, te, tr, hv⟩ := vis_term h
  obtain ⟨hd, l⟩ := T
  have h1 : partL s (vis s).1 = l.map tx := by
    have h2 := offs_parts hd l 0 1
    rw [hv, partL, List.filter_map, List.map_map]
    conv => rhs; rw [← h2, List.map_map]
    refine List.map_congr_left fun y hy => ?_
    exact pt_at tv te (List.mem_filter.1 hy).1
  unfold partsP
  rw [tr, h1, List.map_map]
  rfl

/-- A row of texts in a box, and the text that is gone over in another. -/
def LstI (w : World) (t : ByteArray) (BL : Nat) (f : List Pl6 → List ByteArray) (pre : List Pl6) (W : World) : Prop :=
  (∃ v, Boxed W BL 29 v ∧ W.ownsRow (w.heap.size + 1) 9 1 v (f pre).length (txts (f pre)) ∧ True) ∧ Boxed W w.heap.size 9 (.string t) ∧ Below w.heap.size w W
theorem lstI_own (w : World) (t : ByteArray) (BL : Nat) (f : List Pl6 → List ByteArray) (B : Nat) (h : w.heap.size ≤ B) : OwnFrom B (LstI w t BL f) :=
  OwnFrom.and (Own.from (holdsRow_own (w.heap.size + 1) BL 29 9 1 (fun pre => (f pre).length) (fun pre => txts (f pre)) (fun _ _ => True)) _)
    (OwnFrom.and (Own.from (boxed_own _ _ _) _) (ownFrom_below (Nat.le_refl _) h))

theorem boxed_below {W W' : World} {B : Nat} {t : TypeId} {v : Value} (h : Boxed W B t v) (b : Below W.heap.size W W') : Boxed W' B t v := (b.block _ h.lt).trans h
theorem infoStr6 : (Tryz.prog.info? 9).map (fun i => (i.zero, i.size, i.bytes)) = some (some (.string ⟨#[]⟩), 1, 16) := by kernel_rfl

/-- One text more, appended: the run. -/
theorem append_run {W1 : World} {n₀ : Nat} {v : Value} {l : List ByteArray} (y : ByteArray) (hrow : OwnT W1 n₀ v l) (hn : n₀ ≤ W1.heap.size) (hl : l.length ≤ 100000) :
    ∃ v' w', (Builtin.append_ #[29, 29] 29 #[v, .slice (some ⟨W1.heap.size, 0, none⟩) 1 1]).run Tryz.prog (W1.alloc (.cells #[.string y] 9)) = .ok v' w' ∧ OwnT w' n₀ v' (l ++ [y]) ∧ (W1.alloc (.cells #[.string y] 9)).grownBy w' v.ownBlock := by
  obtain ⟨i0, hi, hz0, hz1, hz2⟩ := info_parts infoStr6
  obtain ⟨v', w', hrun, hown', hgrow, _⟩ := run_append_own (P := Tryz.prog) (W1.alloc (.cells #[.string y] 9)) n₀ 29 29 9 i0 (.string ⟨#[]⟩) 1 16 Tryz.underlying29 hi hz0 hz1 hz2 rfl (by decide) v l.length (txts l) (World.ownsRow.alloc hrow _) ⟨W1.heap.size, 0, none⟩ 1 1 [.string y] rfl
    (by
      intro j u hu
      cases j with
      | zero =>
        have hu' : Value.string y = u := by simpa using hu
        subst hu'
        exact (Boxed.new W1 9 (.string y)).cell
      | succ j => simp at hu)
    (by intro u hu; have : u = Value.string y := by simpa using hu
        rw [this]; rfl)
    (by unfold maxLen; omega) (by omega) (by simp; omega)
  refine ⟨v', w', hrun, ?_, hgrow⟩
  unfold OwnT
  rw [List.length_append, List.length_singleton, show txts (l ++ [y]) = txts l ++ [.string y] by simp [txts]]
  exact hown'

/-- What storing it leaves. -/
theorem append_stored {W1 w' : World} {n₀ BL : Nat} {v v' : Value} {l l' : List ByteArray} {y : ByteArray} (hv : Boxed W1 BL 29 v) (hrow : OwnT W1 n₀ v l) (hn : n₀ ≤ W1.heap.size) (hB : n₀ ≤ BL)
    (hown' : OwnT w' n₀ v' l') (hgrow : (W1.alloc (.cells #[.string y] 9)).grownBy w' v.ownBlock) :
    Boxed w' BL 29 v ∧ Boxed (w'.setCell ⟨BL, 0, none⟩ v') BL 29 v' ∧ OwnT (w'.setCell ⟨BL, 0, none⟩ v') n₀ v' l' ∧ KeepsOthers W1 (w'.setCell ⟨BL, 0, none⟩ v') ∧ Below n₀ W1 (w'.setCell ⟨BL, 0, none⟩ v') ∧ KeepP W1 (w'.setCell ⟨BL, 0, none⟩ v') := by
  obtain ⟨a1, a2, a3, a4, a5⟩ := Boxed.appended (tmp := .cells #[.string y] 9) hv (by decide) hrow hn hB hown' hgrow
  refine ⟨a1, a2, a3, a4, a5, a4.1, fun b cs hb => ?_⟩
  have hlt := (Array.getElem?_eq_some_iff.1 hb).1
  have h1 := (Below.heap_alloc W1 (.cells #[.string y] 9) b hlt).trans hb
  have h2 := (hgrow.block b (by simp; omega) (fun e => by
    rcases hrow.2 with ⟨rfl, _⟩ | ⟨g, cap, cur, rfl, _, hgb, _⟩
    · simp [Value.ownBlock] at e
    · obtain rfl : b = g := by simpa [Value.ownBlock] using e
      rw [hb] at hgb; cases hgb)).trans h1
  exact (Below.heap_setCell w' ⟨BL, 0, none⟩ v' b (fun e => by
    have e' : b = BL := e
    subst e'
    rw [show W1.heap[b]? = _ from hv] at hb; cases hb)).trans h2

theorem ownT_low {W : World} {B B' : Nat} {v : Value} {l : List ByteArray} (h : OwnT W B v l) (hB : B' ≤ B) : OwnT W B' v l := by
  refine ⟨h.1, ?_⟩
  rcases h.2 with hn | ⟨g, cap, cur, hv, hbg, rest⟩
  · exact .inl hn
  · exact .inr ⟨g, cap, cur, hv, Nat.le_trans hB hbg, rest⟩
theorem grown_drew6 (W : World) : W.grownBy W.drew none := ⟨rfl, rfl, rfl, Nat.le_refl _, fun _ _ _ => rfl⟩
/-- How far the world has come: a call, a new row, an append, a store, one behind the other. -/
def PW (U0 : World) (y : ByteArray) (App : World → World → Value → Prop) (Fin : World → Prop) : Bool → Bool → Bool → Bool → Value → Value → World → Prop
  | false, false, false, false, _, _, w' => w' = U0
  | true, false, false, false, _, _, w' => Below U0.heap.size U0 w'
  | true, true, false, false, x21, _, w' => ∃ W1, Below U0.heap.size U0 W1 ∧ w' = W1.alloc (.cells #[.string y] 9) ∧ x21 = .slice (some ⟨W1.heap.size, 0, none⟩) 1 1
  | true, true, true, false, _, x22, w' => ∃ W1, Below U0.heap.size U0 W1 ∧ App W1 w' x22
  | true, true, true, true, _, _, w' => Fin w'
  | _, _, _, _, _, _, _ => False
section
variable {U0 : World} {y : ByteArray} {App : World → World → Value → Prop} {Fin : World → Prop} {q4 q5 q6 q7 : Bool} {x21 x22 : Value} {w' w2 : World}
theorem pw_below (h : PW U0 y App Fin q4 q5 false q7 x21 x22 w') : Below U0.heap.size U0 w' := by
  cases q4 <;> cases q5 <;> cases q7 <;> simp only [PW] at h
  · subst h; exact Below.refl _ _
  · exact h
  · obtain ⟨W1, h1, rfl, _⟩ := h; exact h1.alloc h1.size _
theorem pw_u0 (h : PW U0 y App Fin false q5 q6 q7 x21 x22 w') : w' = U0 := by
  cases q5 <;> cases q6 <;> cases q7 <;> simp only [PW] at h
  exact h
theorem pw_four (h : PW U0 y App Fin false q5 q6 q7 x21 x22 U0) (b : Below U0.heap.size U0 w2) : PW U0 y App Fin true q5 q6 q7 x21 x22 w2 := by
  cases q5 <;> cases q6 <;> cases q7 <;> simp only [PW] at h ⊢
  exact b
theorem pw_five (h : PW U0 y App Fin true false q6 q7 x21 x22 w') : PW U0 y App Fin true true q6 q7 (.slice (some ⟨w'.heap.size, 0, none⟩) 1 1) x22 (w'.alloc (.cells #[.string y] 9)) := by
  cases q6 <;> cases q7 <;> simp only [PW] at h ⊢
  exact ⟨w', h, rfl, rfl⟩
theorem pw_six (h : PW U0 y App Fin q4 true false q7 x21 x22 w') : q4 = true ∧ ∃ W1, Below U0.heap.size U0 W1 ∧ w' = W1.alloc (.cells #[.string y] 9) ∧ x21 = .slice (some ⟨W1.heap.size, 0, none⟩) 1 1 := by
  cases q4 <;> cases q7 <;> simp only [PW] at h
  exact ⟨rfl, h⟩
theorem pw_sixed (h : PW U0 y App Fin true true false q7 x21 x22 w') {v : Value} (k : ∃ W1, Below U0.heap.size U0 W1 ∧ App W1 w2 v) : PW U0 y App Fin true true true q7 x21 v w2 := by
  cases q7 <;> simp only [PW] at h ⊢
  exact k
theorem pw_seven (h : PW U0 y App Fin q4 q5 true false x21 x22 w') : q4 = true ∧ q5 = true ∧ ∃ W1, Below U0.heap.size U0 W1 ∧ App W1 w' x22 := by
  cases q4 <;> cases q5 <;> simp only [PW] at h
  exact ⟨rfl, rfl, h⟩
end

set_option maxRecDepth 100000 in
set_option maxHeartbeats 4000000 in
theorem parts6_any (t : ByteArray) (ht : t.size ≤ 281474976710656) (w : World) :
    Calls Tryz.prog 47 #[.string t] w fun e w' => ∃ (v : Value) (L : List ByteArray), e = .returned (.tuple #[v, .bool (partsP (bl t)).2]) ∧ OwnT w' w.heap.size v L ∧ L.map bl = (partsP (bl t)).1 ∧ Below w.heap.size w w' := by
  have HA := are1_any t ht (w.alloc (.cells #[.string t] 9))
  rw [World.size_alloc] at HA
  have HA := Lib.hid HA
  refine (callsIn_wide (n := 5)).1 ?_
  by_cases hc : checkP (bl t) = 0
  · rw [may_yes hc] at HA
    have hv := part_vis hc
    have hz0 : (vis t).2.2 = 0 := by obtain ⟨T, _, _, _, h⟩ := vis_term hc; rw [h]
    have hcnt := vis_count hc
    have HV := Lib.hid hv
    have HZ := Lib.hid hz0
    clear hv hc hz0
    refine callsIn_of_wp_marks Tryz.func47 rfl trivial ?_ rfl
    simp only [Tryz.ntmps47, List.size_toArray, List.length_cons, List.length_nil, Nat.reduceAdd, Nat.reduceSub, Array.replicate_succ, Array.replicate_zero, List.push_toArray, List.append_toArray, List.nil_append, List.cons_append]
    gi_wp2_with (first | (refine ⟨trivial, ?_⟩; gi_at_call 53; refine (callsIn_wide.2 HA.out).mono ?_; rintro e w1 ⟨rfl, b1⟩; have bT1 : Boxed w1 w.heap.size 9 (.string t) := (b1.block _ (Nat.lt_succ_self _)).trans (Boxed.new w 9 (.string t)); have cT1 := (bT1.alloc (.cells #[.slice none 0 0] 29)).cell) | (refine ⟨trivial, ?_⟩; gi_at_call 54; refine (callsIn_wide.2 (places_in t _)).mono ?_; rintro e w2 ⟨rfl, rfl⟩))
    obtain ⟨W0, hW0⟩ : ∃ W0, (w1.alloc (.cells #[.slice none 0 0] 29)).alloc (.cells #[.string t] 9) = W0 := ⟨_, rfl⟩
    have hb1 := b1.size
    rw [World.size_alloc] at hb1
    have bL : Boxed W0 w1.heap.size 29 (.slice none 0 0) := by rw [← hW0]; exact (Boxed.new w1 _ _).alloc _
    have bP : Boxed W0 (w1.heap.size + 1) 9 (.string t) := by rw [← hW0]; have h := Boxed.new (w1.alloc (.cells #[.slice none 0 0] 29)) 9 (.string t); simpa using h
    have hs1 : w1.heap.size + 1 < W0.heap.size := bP.lt
    have hI : LstI w t w1.heap.size (partL t) [] W0 := by
      refine ⟨⟨_, bL, World.ownsRow_nil _ _ _ _, trivial⟩, ?_, ?_⟩
      · rw [← hW0]; exact (bT1.alloc _).alloc _
      · rw [← hW0]
        exact ((((Below.refl _ w).alloc (Nat.le_refl _) _).trans (b1.mono (Nat.le_succ _))).alloc (by omega) _).alloc (by simp; omega) _
    rw [hW0]
    have hw0 : w.heap.size ≤ W0.heap.size := by omega
    have hBL : w.heap.size + 1 ≤ w1.heap.size := hb1
    have hBL2 : w1.heap.size < W0.heap.size := by omega
    clear hW0 b1 bT1 cT1 hs1 hb1 bL
    generalize w1.heap.size = BL at *
    refine wpIn_places t ht (BL + 1) bP rfl (LstI w t BL (partL t)) (fun _ _ _ => False) (lstI_own w t BL _ _ hw0) (fun c => fun _ _ _ _ h _ _ => h) hI
      (PlAx w.heap.size (fun b x => { tmps := #[.string t, .pointer (some ⟨w.heap.size, 0, none⟩), .slice none 0 0, .bool false, .pointer (some ⟨BL, 0, none⟩), .pointer (some ⟨b, 0, none⟩), .string t, .slice (some ⟨w.heap.size + 1, 0, none⟩) 1 1, .bool true, .bool false, .string t, .func (.func 86) #[] #[.pointer (some ⟨BL + 1, 0, none⟩)], encPl x, undef, undef, undef, undef, undef, undef, undef, undef, undef, undef, undef], defers := [] }))
      (plAx_own _ _ _) ?assign ?body ?done ?stop ?throw
    case assign =>
      intro m l pre x W K hi hK
      have hzr := Lib.hid hK
      clear hK
      unfold encPl cellsPl
      gi_wp2
      exact hzr.out _ _ ((KeepsOthers.alloc _ _).from _) (KeepP.alloc _ _) ((lstI_own w t BL (partL t) W0.heap.size hw0).alloc _ hi) ⟨W.heap.size, hi.2.2.size, World.alloc_heap_new _ _, rfl⟩
    case body =>
      rintro m l pre x a' W hl hi ⟨b, hb, hbx, rfl⟩ hpre
      have hx1 := (place_cells hbx).2.1
      have hok := (vis_any t x pre hpre).1
      rw [bl_length] at hok
      have hle := hcnt _ hpre
      rw [List.length_append, List.length_singleton] at hle
      have hlp := partL_len t pre
      have HC := Lib.hid (fun V => termat_any t x.at_ hok ht V)
      rw [show t.extract x.at_ (x.at_ + (frontP ((bl t).drop x.at_)).1) = ptT t x from rfl] at HC
      have HI := Lib.hid hi
      have HX := Lib.hid hbx
      clear hi hbx hpre
      by_cases hd : x.dep = 2
      · have hq : ((x.dep : Int) == 2) = true := by rw [hd]; rfl
        have HD := Lib.hid hd
        have mixed : Tryz.prog.follows .mixedOrders = true := by kernel_rfl
        clear hd
        gi_wp2
        refine wpIn_region_any mixed ?_
        obtain ⟨U0, hU0⟩ : ∃ U0, ({ W with drawn := W.drawn + 1 } : World) = U0 := ⟨_, rfl⟩
        rw [hU0]
        have hKW : KeepsOthers W U0 := by rw [← hU0]; exact KeepsOthers.drew W
        have hPW : KeepP W U0 := by rw [← hU0]; exact KeepP.of_below (Below.refl _ W).drew
        have hI0 : LstI w t BL (partL t) pre U0 := by
          rw [← hU0]
          exact lstI_own w t BL (partL t) W0.heap.size hw0 pre W W.drew none HI.out (grown_drew6 W) (fun r e => by cases e)
        have bX : U0.heap[b]? = some (.cells (cellsPl x) 68 (0, 0)) := by rw [← hU0]; exact HX.out
        obtain ⟨⟨v, bV, hrow, _⟩, bT, hB⟩ := hI0
        obtain ⟨y, hy⟩ : ∃ y, y = ptT t x := ⟨_, rfl⟩
        rw [← hy] at HC
        have hy2 : partL t (pre ++ [x]) = partL t pre ++ [y] := by rw [partL_yes t pre x HD.out, hy]
        obtain ⟨App, hApp⟩ : ∃ App : World → World → Value → Prop, App = fun W1 w' x22 => OwnT w' (w.heap.size + 1) x22 (partL t pre ++ [y]) ∧ (W1.alloc (.cells #[.string y] 9)).grownBy w' v.ownBlock := ⟨_, rfl⟩
        obtain ⟨Fin, hFin⟩ : ∃ Fin : World → Prop, Fin = fun w' => KeepsFrom W0.heap.size W w' ∧ KeepP W w' ∧ LstI w t BL (partL t) (pre ++ [x]) w' := ⟨_, rfl⟩
        have hUs := hB.size
        have hbL := bV.lt
        have HAPP : Hid (∀ W1, Below U0.heap.size U0 W1 → ∃ v' w2, (Builtin.append_ #[29, 29] 29 #[v, .slice (some ⟨W1.heap.size, 0, none⟩) 1 1]).run Tryz.prog (W1.alloc (.cells #[.string y] 9)) = .ok v' w2 ∧ App W1 w2 v') := Lib.hid (fun W1 hW1 => by
          rw [hApp]
          exact append_run y (ownT_below hrow hW1) (by have := hW1.size; omega) (by omega))
        have HFIN : Hid (∀ W1 w' x22, Below U0.heap.size U0 W1 → App W1 w' x22 → ∃ ao cap, x22 = .slice ao ((partL t pre).length + 1) cap ∧ w'.cell? ⟨BL, 0, none⟩ = some v ∧ w'.frozen? ⟨BL, 0, none⟩ = false ∧ Fin (w'.setCell ⟨BL, 0, none⟩ x22)) := Lib.hid (fun W1 w' x22 hW1 ha => by
          rw [hApp] at ha
          obtain ⟨hown', hgrow⟩ := ha
          obtain ⟨a1, a2, a3, a4, a5, a6⟩ := append_stored (boxed_below bV hW1) (ownT_below hrow hW1) (by have := hW1.size; omega) hBL hown' hgrow
          obtain ⟨ao, cap, he, _⟩ := ownT_row hown'
          refine ⟨ao, cap, by rw [he]; simp, a1.cell, a1.frozen, ?_⟩
          rw [hFin]
          refine ⟨((hKW.trans (keepsOthers_below hW1)).trans a4).from _, (hPW.trans (KeepP.of_below hW1)).trans a6, ⟨x22, a2, by rw [hy2]; exact a3, trivial⟩, ?_, ?_⟩
          · exact (a5.block _ (Nat.lt_succ_self _)).trans (boxed_below bT hW1)
          · exact (below_step hB hW1).trans (a5.mono (Nat.le_succ _)))
        have HFW : Hid (∀ w', Fin w' → KeepsFrom W0.heap.size W w' ∧ KeepP W w' ∧ LstI w t BL (partL t) (pre ++ [x]) w') := Lib.hid (fun w' h => by rw [hFin] at h; exact h)
        clear hApp hFin hy hy2 hU0 hKW hPW hrow hB HI HX
        refine wpAnyIn_inv (fun listed a' w' => ∃ q0 q1 q2 q3 q4 q5 q6 q7 : Bool, ∃ x16 x17 x18 x19 x20 x21 x22 : Value, listed = #[q0, q1, q2, q3, q4, q5, q6, q7] ∧ a' = { tmps := #[.string t, .pointer (some ⟨w.heap.size, 0, none⟩), .slice none 0 0, .bool false, .pointer (some ⟨BL, 0, none⟩), .pointer (some ⟨b, 0, none⟩), .string t, .slice (some ⟨w.heap.size + 1, 0, none⟩) 1 1, .bool true, .bool false, .string t, .func (.func 86) #[] #[.pointer (some ⟨BL + 1, 0, none⟩)], encPl x, .pointer (some ⟨b, 1, none⟩), .int .i64 x.dep, .bool true, x16, x17, x18, x19, x20, x21, x22, undef], defers := [] } ∧ ((q0 = true → x16 = v) ∧ (q1 = true → x17 = .string t) ∧ (q2 = true → x18 = .pointer (some ⟨b, 0, none⟩)) ∧ (q3 = true → x19 = .int .i64 x.at_) ∧ (q4 = true → x20 = .string y)) ∧ PW U0 y App Fin q4 q5 q6 q7 x21 x22 w' ∧ (q4 = true → q1 = true ∧ q3 = true) ∧ (q6 = true → q0 = true)) ?_ ?_ _ _ _ _ (by decide) ?_
        · intro listed a' w' i hI hi
          obtain ⟨q0, q1, q2, q3, q4, q5, q6, q7, x16, x17, x18, x19, x20, x21, x22, rfl, rfl, ⟨h0, h1, h2, h3, h4⟩, hw, c1, c2⟩ := hI
          have hun := (mem_ready.1 hi).1
          rcases i with _ | _ | _ | _ | _ | _ | _ | _ | i
          · have e0 : q0 = false := hun
            have f6 : q6 = false := by cases q6 with | false => rfl | true => exact absurd (c2 rfl) (by simp [e0])
            subst f6
            have hbx2 := boxed_below bV (pw_below hw)
            have hc := hbx2.cell
            refine wpOpIn_want rfl rfl (fun K hK => ?_)
            have H := Lib.hid (And.intro h0 (And.intro h1 (And.intro h2 (And.intro h3 (And.intro h4 (And.intro hw (And.intro c1 c2)))))))
            clear h0 h1 h2 h3 h4 hw c1 c2
            clear hbx2
            go_simp
            obtain ⟨h0, h1, h2, h3, h4, hw, c1, c2⟩ := H.out
            exact hK _ _ ⟨true, q1, q2, q3, q4, q5, false, q7, v, x17, x18, x19, x20, x21, x22, rfl, rfl, ⟨fun _ => rfl, h1, h2, h3, h4⟩, hw, c1, fun _ => rfl⟩
          · have e1 : q1 = false := hun
            have f4 : q4 = false := by cases q4 with | false => rfl | true => exact absurd (c1 rfl).1 (by simp [e1])
            subst f4
            obtain rfl := (pw_u0 hw).symm
            have hc := bT.cell
            refine wpOpIn_want rfl rfl (fun K hK => ?_)
            have H := Lib.hid (And.intro h0 (And.intro h1 (And.intro h2 (And.intro h3 (And.intro h4 (And.intro hw (And.intro c1 c2)))))))
            clear h0 h1 h2 h3 h4 hw c1 c2
            go_simp
            obtain ⟨h0, h1, h2, h3, h4, hw, c1, c2⟩ := H.out
            exact hK _ _ ⟨q0, true, q2, q3, false, q5, q6, q7, x16, .string t, x18, x19, x20, x21, x22, rfl, rfl, ⟨h0, fun _ => rfl, h2, h3, h4⟩, hw, fun h => (by cases h), c2⟩
          · have e2 : q2 = false := hun
            refine wpOpIn_want rfl rfl (fun K hK => ?_)
            have H := Lib.hid (And.intro h0 (And.intro h1 (And.intro h2 (And.intro h3 (And.intro h4 (And.intro hw (And.intro c1 c2)))))))
            clear h0 h1 h2 h3 h4 hw c1 c2
            go_simp
            obtain ⟨h0, h1, h2, h3, h4, hw, c1, c2⟩ := H.out
            exact hK _ _ ⟨q0, q1, true, q3, q4, q5, q6, q7, x16, x17, .pointer (some ⟨b, 0, none⟩), x19, x20, x21, x22, rfl, rfl, ⟨h0, h1, fun _ => rfl, h3, h4⟩, hw, c1, c2⟩
          · have e3 : q3 = false := hun
            have d2 : q2 = true := dep hi rfl ⟨2, .data⟩ (by simp) rfl
            obtain rfl := (h2 d2).symm
            have f4 : q4 = false := by cases q4 with | false => rfl | true => exact absurd (c1 rfl).2 (by simp [e3])
            subst f4
            obtain rfl := (pw_u0 hw).symm
            have hc := (place_cells bX).1
            refine wpOpIn_want rfl rfl (fun K hK => ?_)
            have H := Lib.hid (And.intro h0 (And.intro h1 (And.intro h2 (And.intro h3 (And.intro h4 (And.intro hw (And.intro c1 c2)))))))
            clear h0 h1 h2 h3 h4 hw c1 c2
            go_simp
            obtain ⟨h0, h1, h2, h3, h4, hw, c1, c2⟩ := H.out
            exact hK _ _ ⟨q0, q1, q2, true, false, q5, q6, q7, x16, x17, .pointer (some ⟨b, 0, none⟩), .int .i64 x.at_, x20, x21, x22, rfl, rfl, ⟨h0, h1, h2, fun _ => rfl, h4⟩, hw, fun h => (by cases h), c2⟩
          · have e4 : q4 = false := hun
            have d1 : q1 = true := dep hi rfl ⟨1, .data⟩ (by simp) rfl
            have d3 : q3 = true := dep hi rfl ⟨3, .data⟩ (by simp) rfl
            obtain rfl := (h1 d1).symm
            obtain rfl := (h3 d3).symm
            subst e4
            obtain rfl := (pw_u0 hw).symm
            refine wpOpIn_want rfl rfl (fun K hK => ?_)
            have H := Lib.hid (And.intro h0 (And.intro h1 (And.intro h2 (And.intro h3 (And.intro h4 (And.intro hw (And.intro c1 c2)))))))
            clear h0 h1 h2 h3 h4 hw c1 c2
            go_simp
            refine ⟨trivial, hdd _, ?_⟩
            refine (callsIn_wide.2 (HC.out _)).mono ?_
            rintro e w2 ⟨rfl, b2⟩
            obtain ⟨h0, h1, h2, h3, h4, hw, c1, c2⟩ := H.out
            exact hK _ _ ⟨q0, q1, q2, q3, true, q5, q6, q7, x16, .string t, x18, .int .i64 x.at_, .string y, x21, x22, rfl, rfl, ⟨h0, h1, h2, h3, fun _ => rfl⟩, pw_four hw b2, fun _ => ⟨d1, d3⟩, c2⟩
          · have e5 : q5 = false := hun
            have d4 : q4 = true := dep hi rfl ⟨4, .data⟩ (by simp) rfl
            obtain rfl := (h4 d4).symm
            subst d4
            subst e5
            refine wpOpIn_want rfl rfl (fun K hK => ?_)
            have H := Lib.hid (And.intro h0 (And.intro h1 (And.intro h2 (And.intro h3 (And.intro h4 (And.intro hw (And.intro c1 c2)))))))
            clear h0 h1 h2 h3 h4 hw c1 c2
            go_simp
            obtain ⟨h0, h1, h2, h3, h4, hw, c1, c2⟩ := H.out
            exact hK _ _ ⟨q0, q1, q2, q3, true, true, q6, q7, x16, x17, x18, x19, .string y, .slice (some ⟨w'.heap.size, 0, none⟩) 1 1, x22, rfl, rfl, ⟨h0, h1, h2, h3, h4⟩, pw_five hw, c1, c2⟩
          · have e6 : q6 = false := hun
            have d0 : q0 = true := dep hi rfl ⟨0, .data⟩ (by simp) rfl
            have d5 : q5 = true := dep hi rfl ⟨5, .data⟩ (by simp) rfl
            obtain rfl := (h0 d0).symm
            subst d5
            subst e6
            obtain ⟨rfl, W1, hW1, rfl, rfl⟩ := pw_six hw
            obtain ⟨v', w2, hrun, happ⟩ := HAPP.out W1 hW1
            exact wpOpIn_append rfl rfl (.tmp 16) (.tmp 21) 29 rfl rfl rfl hrun ⟨q0, q1, q2, q3, true, true, true, q7, v, x17, x18, x19, x20, _, v', rfl, rfl, ⟨fun _ => rfl, h1, h2, h3, h4⟩, pw_sixed hw ⟨W1, hW1, happ⟩, c1, fun _ => d0⟩
          · have e7 : q7 = false := hun
            have d6 : q6 = true := dep hi rfl ⟨6, .data⟩ (by simp) rfl
            subst d6
            subst e7
            obtain ⟨rfl, rfl, W1, hW1, happ⟩ := pw_seven hw
            obtain ⟨ao, cap, rfl, hcb, hfb, hfin⟩ := HFIN.out W1 w' x22 hW1 happ
            refine wpOpIn_want rfl rfl (fun K hK => ?_)
            have H := Lib.hid (And.intro h0 (And.intro h1 (And.intro h2 (And.intro h3 (And.intro h4 (And.intro hw (And.intro c1 c2)))))))
            clear h0 h1 h2 h3 h4 hw c1 c2
            go_simp
            obtain ⟨h0, h1, h2, h3, h4, hw, c1, c2⟩ := H.out
            exact hK _ _ ⟨q0, q1, q2, q3, true, true, true, true, x16, x17, x18, x19, x20, x21, _, rfl, rfl, ⟨h0, h1, h2, h3, h4⟩, hfin, c1, c2⟩
          · exact absurd (mem_ready.1 hi).2 (by rintro ⟨o, ho, _⟩; simp at ho)
        · rintro listed a' w' ⟨q0, q1, q2, q3, q4, q5, q6, q7, x16, x17, x18, x19, x20, x21, x22, rfl, rfl, _, hw, _, _⟩ hr
          have hall := fun i (hi : i < 8) => all_listed (by kernel_rfl) rfl hr 8 i hi hi
          obtain rfl : q4 = true := hall 4 (by decide)
          obtain rfl : q5 = true := hall 5 (by decide)
          obtain rfl : q6 = true := hall 6 (by decide)
          obtain rfl : q7 = true := hall 7 (by decide)
          exact HFW.out _ hw
        · exact ⟨false, false, false, false, false, false, false, false, undef, undef, undef, undef, undef, undef, undef, rfl, rfl, by simp, rfl, by simp, by simp⟩
      · have hq : ((x.dep : Int) == 2) = false := by rw [beq_eq_false_iff_ne]; omega
        have HD := Lib.hid hd
        clear hd
        gi_wp2
        obtain ⟨h1, h2, h3⟩ := HI.out
        refine ⟨KeepsFrom.refl _ _, KeepP.refl _, ?_, h2, h3⟩
        rw [partL_no t pre x HD.out]
        exact h1
    case done =>
      rintro D W hD _ ⟨⟨v, hb, hrow, _⟩, hbt, hbw⟩ hK
      have hc := hb.cell
      obtain ⟨ao, cap, rfl, _⟩ := ownT_row (show OwnT W (w.heap.size + 1) v (partL t (vis t).1) from hrow)
      have HR := Lib.hid hrow
      clear hb hbt hrow
      gi_wp2
      exact leave_mark hK (results_tmp2 rfl _ _ _) ⟨_, _, by rw [HV.out]; rfl, ownT_low (ownsRow_putObj HR.out _ hK rfl) (Nat.le_succ _), by rw [HV.out], below_mark hbw (by omega) hK _⟩
    case stop =>
      rintro D c pre W hD hq h hK
      exact h.elim
    case throw =>
      rintro D W hD hz hi hK
      exact absurd HZ.out hz
  · rw [may_no hc] at HA
    have H1 : Hid (partsP (bl t) = ([], false)) := Lib.hid (by unfold partsP; rw [treeOf_none hc])
    rw [H1.out]
    clear hc
    refine callsIn_of_wp_marks Tryz.func47 rfl trivial ?_ rfl
    simp only [Tryz.ntmps47, List.size_toArray, List.length_cons, List.length_nil, Nat.reduceAdd, Nat.reduceSub, Array.replicate_succ, Array.replicate_zero, List.push_toArray, List.append_toArray, List.nil_append, List.cons_append]
    gi_wp2_with (refine ⟨trivial, ?_⟩; gi_at_call 53; refine (callsIn_wide.2 HA.out).mono ?_; rintro e w1 ⟨rfl, b1⟩)
    exact ⟨_, results_tmp2 rfl _ _ _, _, [], rfl, ownT_nil _ _, rfl, ((Below.refl _ w).alloc (Nat.le_refl _) _).trans (b1.mono (Nat.le_succ _))⟩
end Go.Proofs.YtiehhlolhhjgpaaGreatDoor.Pl

namespace Go.Proofs.YtiehhlolhhjgpaaGreatDoor.Pl
open Go.RowKit

theorem unhex_take : ∀ (l : List UInt8) (j : Nat), 2 * j + 1 < l.length → (unhex l).take (j + 1) = (unhex l).take j ++ [(hexV (l.getD (2 * j) 0) * 16 + hexV (l.getD (2 * j + 1) 0)).toUInt8]
  | [], j, h => by simp at h
  | [a], j, h => by simp at h
  | a :: b :: r, 0, h => by simp [unhex]
  | a :: b :: r, j + 1, h => by
    simp only [List.length_cons] at h
    have ih := unhex_take r j (by omega)
    rw [unhex, List.take_succ_cons, List.take_succ_cons, ih]
    have e1 : (a :: b :: r).getD (2 * (j + 1)) 0 = r.getD (2 * j) 0 := by rw [show 2 * (j + 1) = 2 * j + 1 + 1 from by omega, List.getD_cons_succ, List.getD_cons_succ]
    have e2 : (a :: b :: r).getD (2 * (j + 1) + 1) 0 = r.getD (2 * j + 1) 0 := by rw [show 2 * (j + 1) + 1 = (2 * j + 1) + 1 + 1 from by omega, List.getD_cons_succ, List.getD_cons_succ]
    rw [e1, e2]; rfl
/-- string([]byte{a}). -/
theorem convert1 (a : UInt8) (V : World) : (convert 87 9 (.slice (some ⟨V.heap.size, 0, none⟩) 1 1)).run Tryz.prog ((V.alloc (.cells #[.int .u8 (a.toNat : Int)] 5)).drew) = .ok (.string ⟨#[a]⟩) ((V.alloc (.cells #[.int .u8 (a.toNat : Int)] 5)).drew) :=
  run_convert_bytes_back (P := Tryz.prog) _ 87 9 5 ⟨V.heap.size, 0, none⟩ 1 [a] Tryz.underlying87 Tryz.underlying5 Tryz.underlying9 (fun j hj => by
    have h : ∀ k, (World.drew (V.alloc (.cells #[.int .u8 (a.toNat : Int)] 5))).cell? ⟨V.heap.size, k, none⟩ = (V.alloc (.cells #[.int .u8 (a.toNat : Int)] 5)).cell? ⟨V.heap.size, k, none⟩ := fun _ => rfl
    match j, hj with
    | 0, _ => rw [show (⟨V.heap.size, 0, none⟩ : Addr).add 0 = ⟨V.heap.size, 0, none⟩ from rfl, h]; simp)
theorem cat_one (l : List UInt8) (j : Nat) (h : 2 * j + 1 < l.length) (u : UInt8) (hu : u = (hexV (l.getD (2 * j) 0) * 16 + hexV (l.getD (2 * j + 1) 0)).toUInt8) : (⟨((unhex l).take j).toArray⟩ : ByteArray) ++ ⟨#[u]⟩ = ⟨((unhex l).take (j + 1)).toArray⟩ := by
  rw [unhex_take l j h, ← hu]
  generalize (unhex l).take j = X
  apply bl_inj
  rw [cat_bytes, bl_mk X, bl_mk (X ++ [u])]; rfl
theorem getD_take (l : List UInt8) (z k : Nat) (h : k < z) : (l.take z).getD k 0 = l.getD k 0 := by
  rw [List.getD_eq_getElem?_getD, List.getD_eq_getElem?_getD, List.getElem?_take_of_lt h]
theorem wrap64 {x : Int} (h0 : -9223372036854775808 ≤ x) (h1 : x ≤ 9223372036854775807) : IntKind.i64.wrap x = x := by
  exact IntWalk.i64_in _ (by omega)
set_option maxHeartbeats 4000000 in
set_option maxRecDepth 100000 in
theorem rbytes_any (s : ByteArray) (hs : s.size ≤ 281474976710656) (w : World) :
    Calls Tryz.prog 71 #[.string s] w fun e w' => e = .returned (st2 (pBytes (bl s))) ∧ Below w.heap.size w w' := by
  have HF := Lib.hid (rfront7_any s ⟨hexList.toArray⟩ hexB hex_list hs (by decide) w)
  obtain ⟨z, hz⟩ : ∃ z, z = runL hexB (bl s) := ⟨_, rfl⟩
  obtain ⟨q, hq⟩ : ∃ q, q = pBytes (bl s) := ⟨_, rfl⟩
  have HQ := Lib.hid hq
  unfold pBytes at HQ
  have hall := run_all hexB (bl s)
  rw [← hz] at HQ HF hall
  rw [← hq]
  have hzl : z ≤ s.size := by rw [hz, ← bl_length]; exact runL_le _ _
  obtain ⟨l, hl⟩ : ∃ l, l = (bl s).take z := ⟨_, rfl⟩
  rw [← hl] at HQ hall
  have hll : l.length = z := by rw [hl, List.length_take, bl_length]; omega
  have HG : Hid (∀ k, k < z → l.getD k 0 = (bl s).getD k 0 ∧ hexB (l.getD k 0) = true) := Lib.hid (fun k hk => by
    refine ⟨by rw [hl, getD_take _ _ _ hk], hall _ ?_⟩
    rw [List.getD_eq_getElem?_getD, List.getElem?_eq_getElem (by rw [hll]; exact hk)]
    exact List.getElem_mem _)
  have HLL := Lib.hid hll
  obtain ⟨r, hr⟩ : ∃ r, r = z % 2 := ⟨_, rfl⟩
  have HR := Lib.hid hr
  have d1 : Int.tmod (z : Int) 2 = (r : Int) := by rw [Int.tmod_eq_emod_of_nonneg (by omega)]; omega
  have d2 : (z : Int) % 2 = (r : Int) := by omega
  clear hz hq hall hl hll
  simp only [st2]
  by_cases hr0 : r = 0
  · by_cases hl : 2048 < z
    · have q1 : ((r : Int) != 0) = false := by rw [bne_eq_false_iff_eq]; omega
      have q2 : decide ((2048 : Int) < (z : Int)) = true := decide_eq_true (by omega)
      rw [if_pos (.inr hl)] at HQ
      clear hr0 hr HR HG HLL
      go_enter Tryz.func71, Tryz.ntmps71
      go_wp2_with fail
      refine HF.out.mono ?_; rintro e w1 ⟨rfl, b1⟩
      go_wp2_with fail
      go_ret2
      exact ⟨by rw [HQ.out]; rfl, b1⟩
    · rw [if_neg (by omega)] at HQ
      have q1 : ((r : Int) != 0) = false := by rw [bne_eq_false_iff_eq]; omega
      have q2 : decide ((2048 : Int) < (z : Int)) = false := decide_eq_false (by omega)
      have hz2 : z ≤ 2048 := by omega
      have hul : 2 * (unhex l).length = z := by rw [unhex_len l (by rw [HLL.out]; omega), HLL.out]
      have HPL := Lib.hid (fun V => rplain_any ⟨(unhex l).toArray⟩ V)
      have HD := Lib.hid (fun V => rdata_any ⟨(unhex l).toArray⟩ (by rw [size_lit]; omega) V)
      rw [bl_mk (unhex l)] at HPL HD
      have HZ2 : Hid (z % 2 = 0) := Lib.hid (by omega)
      have HUL := Lib.hid hul
      generalize plainB (unhex l) = pl at *
      generalize dataP (unhex l) = da at *
      simp only [st2] at HD
      clear hr0 hr hl hul
      go_enter Tryz.func71, Tryz.ntmps71
      go_wp2_with fail
      refine HF.out.mono ?_; rintro e w1 ⟨rfl, b1⟩
      go_wp2_with fail
      go_loopw [5, 6] (fun tv iv wr => ∃ j : Nat, iv = .int .i64 ((2 * j : Nat) : Int) ∧ tv = .string ⟨((unhex l).take j).toArray⟩ ∧ 2 * j ≤ z ∧ Hid (Below w.heap.size w wr)) (fun _ iv _ => z - (intOf iv).toNat)
      case atStart => exact ⟨0, rfl, rfl, by omega, Lib.hid b1⟩
      case round =>
        obtain ⟨j, rfl, rfl, hjz, hb⟩ := hrel
        by_cases hk : 2 * j + 1 < z
        · have hk' : ((2 * j : Nat) : Int) + 1 < (z : Int) := by omega
          have hk0 : (0 : Int) ≤ ((2 * j : Nat) : Int) := by omega
          obtain ⟨a, ea⟩ : ∃ c : UInt8, c = (bl s).getD (2 * j) 0 := ⟨_, rfl⟩
          obtain ⟨b, eb⟩ : ∃ c : UInt8, c = (bl s).getD (2 * j + 1) 0 := ⟨_, rfl⟩
          obtain ⟨ga, ha⟩ := HG.out (2 * j) (by omega)
          obtain ⟨gb, hbx⟩ := HG.out (2 * j + 1) hk
          rw [ga, ← ea] at ha
          rw [gb, ← eb] at hbx
          have hix : ∀ V : World, (Instr.index 9 (.string s) (.int .i64 ((2 * j : Nat) : Int))).run Tryz.prog V = .ok (.int .u8 (a.toNat : Int)) V := tstr_index s (2 * j) a (by omega) ea
          have hjx : ∀ V : World, (Instr.index 9 (.string s) (.int .i64 (((2 * j : Nat) : Int) + 1))).run Tryz.prog V = .ok (.int .u8 (b.toNat : Int)) V := tstr_index s (2 * j + 1) b (by omega) eb
          have HV1 := Lib.hid (fun V => rvalue_any a ha V)
          have HV2 := Lib.hid (fun V => rvalue_any b hbx V)
          have va := hexV_lt ha
          have vb := hexV_lt hbx
          obtain ⟨u, eu⟩ : ∃ u : UInt8, u = (hexV a * 16 + hexV b).toUInt8 := ⟨_, rfl⟩
          have hu : u.toNat = hexV a * 16 + hexV b := by rw [eu]; exact nat_u8 (by omega)
          have HN := Lib.hid (cat_one l j (by rw [HLL.out]; exact hk) u (by rw [ga, gb, ← ea, ← eb, eu]))
          have hsz : (⟨((unhex l).take j).toArray⟩ : ByteArray).size ≤ 9223372036854775806 := by
            rw [size_lit, List.length_take]; have := HUL.out; omega
          have hcv := convert1 u wr
          generalize (⟨((unhex l).take j).toArray⟩ : ByteArray) = tb at *
          generalize hexV a = x at *
          generalize hexV b = y at *
          have d5 : IntKind.u8.wrap ((x : Int) * 16) = ((x * 16 : Nat) : Int) := by rw [IntKind.wrap_u8']; omega
          have d6 : IntKind.u8.wrap (((x * 16 : Nat) : Int) + (y : Int)) = (u.toNat : Int) := by rw [IntKind.wrap_u8', hu]; omega
          have HJ2 : Hid (2 * (j + 1) ≤ z) := Lib.hid (by omega)
          have hw1 : IntKind.i64.wrap (((2 * j : Nat) : Int) + 1) = ((2 * j : Nat) : Int) + 1 := wrap64 (by omega) (by omega)
          have hw2 : IntKind.i64.wrap (((2 * j : Nat) : Int) + 2) = ((2 * j : Nat) : Int) + 2 := wrap64 (by omega) (by omega)
          generalize e16 : x * 16 = x16 at *
          generalize e2j : 2 * j = j2 at *
          clear ea eb ga gb ha hbx va vb hu eu hk
          go_wp2_with fail
          refine wp_region_any (by kernel_rfl) ?_
          change wpAny _ _ _ _ _ _ _ (World.drew wr)
          --BEGIN
          refine wpAny_take (i := 0) (oi := { dst := some 24, op := Op.move (Operand.tmp 5), type := 9, pos := "ref.go:129", after := #[], guard := none }) (v := .string tb) rfl (by kernel_rfl) (by kernel_rfl) (by kernel_rfl) (fun _ _ _ h => h) (Or.inl ⟨by rfl, fun w => by go_simp⟩) ?_
          (try simp only [Act.put, List.setIfInBounds_toArray, List.set_cons_zero, List.set_cons_succ])
          refine wpAny_take (i := 1) (oi := { dst := some 25, op := Op.move (Operand.tmp 0), type := 9, pos := "ref.go:129", after := #[], guard := none }) (v := .string s) rfl (by kernel_rfl) (by kernel_rfl) (by kernel_rfl) (fun _ _ _ h => h) (Or.inl ⟨by rfl, fun w => by go_simp⟩) ?_
          (try simp only [Act.put, List.setIfInBounds_toArray, List.set_cons_zero, List.set_cons_succ])
          refine wpAny_take (i := 2) (oi := { dst := some 26, op := Op.move (Operand.tmp 6), type := 3, pos := "ref.go:129", after := #[], guard := none }) (v := .int .i64 (j2 : Int)) rfl (by kernel_rfl) (by kernel_rfl) (by kernel_rfl) (fun _ _ _ h => h) (Or.inl ⟨by rfl, fun w => by go_simp⟩) ?_
          (try simp only [Act.put, List.setIfInBounds_toArray, List.set_cons_zero, List.set_cons_succ])
          refine wpAny_take (i := 3) (oi := { dst := some 27, op := Op.index 9 (Operand.tmp 25) (Operand.tmp 26), type := 5, pos := "ref.go:129", after := #[{ on := 1, ground := Ground.data }, { on := 2, ground := Ground.data }], guard := none }) (v := .int .u8 (a.toNat : Int)) rfl (by kernel_rfl) (by kernel_rfl) (by kernel_rfl) (fun _ _ _ h => h) (Or.inl ⟨by rfl, fun w => by go_simp⟩) ?_
          (try simp only [Act.put, List.setIfInBounds_toArray, List.set_cons_zero, List.set_cons_succ])
          refine wpAny_take (i := 6) (oi := { dst := some 30, op := Op.move (Operand.tmp 0), type := 9, pos := "ref.go:129", after := #[], guard := none }) (v := .string s) rfl (by kernel_rfl) (by kernel_rfl) (by kernel_rfl) (fun _ _ _ h => h) (Or.inl ⟨by rfl, fun w => by go_simp⟩) ?_
          (try simp only [Act.put, List.setIfInBounds_toArray, List.set_cons_zero, List.set_cons_succ])
          refine wpAny_take (i := 7) (oi := { dst := some 31, op := Op.move (Operand.tmp 6), type := 3, pos := "ref.go:129", after := #[], guard := none }) (v := .int .i64 (j2 : Int)) rfl (by kernel_rfl) (by kernel_rfl) (by kernel_rfl) (fun _ _ _ h => h) (Or.inl ⟨by rfl, fun w => by go_simp⟩) ?_
          (try simp only [Act.put, List.setIfInBounds_toArray, List.set_cons_zero, List.set_cons_succ])
          refine wpAny_take (i := 8) (oi := { dst := some 32, op := Op.binOp BinOp.add 3 (Operand.tmp 31) (Operand.const (Value.int IntKind.i64 1)) 3, type := 3, pos := "ref.go:129", after := #[{ on := 7, ground := Ground.data }], guard := none }) (v := .int .i64 ((j2 : Int) + 1)) rfl (by kernel_rfl) (by kernel_rfl) (by kernel_rfl) (fun _ _ _ h => h) (Or.inl ⟨by rfl, fun w => by go_simp⟩) ?_
          (try simp only [Act.put, List.setIfInBounds_toArray, List.set_cons_zero, List.set_cons_succ])
          refine wpAny_take (i := 9) (oi := { dst := some 33, op := Op.index 9 (Operand.tmp 30) (Operand.tmp 32), type := 5, pos := "ref.go:129", after := #[{ on := 6, ground := Ground.data }, { on := 8, ground := Ground.data }], guard := none }) (v := .int .u8 (b.toNat : Int)) rfl (by kernel_rfl) (by kernel_rfl) (by kernel_rfl) (fun _ _ _ h => h) (Or.inl ⟨by rfl, fun w => by go_simp⟩) ?_
          (try simp only [Act.put, List.setIfInBounds_toArray, List.set_cons_zero, List.set_cons_succ])
          refine wpAny_ready (rs := [4]) (by kernel_rfl) (by simp) ?_
          refine AllReady.cons (o := { dst := some 28, op := Op.call { callee := Callee.value (Operand.func 98), args := #[Operand.tmp 27], argTypes := #[5] }, type := 5, pos := "ref.go:129", after := #[{ on := 3, ground := Ground.data }], guard := none }) rfl (fun K hK => ?_) AllReady.nil
          go_simp
          refine (HV1.out _).mono ?_
          rintro e w6 ⟨rfl, rfl⟩
          refine hK _ _ ?_
          clear hK K
          (try simp only [Act.put, List.setIfInBounds_toArray, List.set_cons_zero, List.set_cons_succ])
          refine wpAny_take (i := 5) (oi := { dst := some 29, op := Op.binOp BinOp.mul 5 (Operand.tmp 28) (Operand.const (Value.int IntKind.u8 16)) 5, type := 5, pos := "ref.go:129", after := #[{ on := 4, ground := Ground.data }], guard := none }) (v := .int .u8 (x16 : Int)) rfl (by kernel_rfl) (by kernel_rfl) (by kernel_rfl) (fun _ _ _ h => h) (Or.inl ⟨by rfl, fun w => by go_simp⟩) ?_
          (try simp only [Act.put, List.setIfInBounds_toArray, List.set_cons_zero, List.set_cons_succ])
          refine wpAny_ready (rs := [10]) (by kernel_rfl) (by simp) ?_
          refine AllReady.cons (o := { dst := some 34, op := Op.call { callee := Callee.value (Operand.func 98), args := #[Operand.tmp 33], argTypes := #[5] }, type := 5, pos := "ref.go:129", after := #[{ on := 9, ground := Ground.data }, { on := 4, ground := Ground.chain }], guard := none }) rfl (fun K hK => ?_) AllReady.nil
          go_simp
          refine (HV2.out _).mono ?_
          rintro e w7 ⟨rfl, rfl⟩
          refine hK _ _ ?_
          clear hK K
          (try simp only [Act.put, List.setIfInBounds_toArray, List.set_cons_zero, List.set_cons_succ])
          refine wpAny_take (i := 11) (oi := { dst := some 35, op := Op.binOp BinOp.add 5 (Operand.tmp 29) (Operand.tmp 34) 5, type := 5, pos := "ref.go:129", after := #[{ on := 5, ground := Ground.data }, { on := 10, ground := Ground.data }], guard := none }) (v := .int .u8 (u.toNat : Int)) rfl (by kernel_rfl) (by kernel_rfl) (by kernel_rfl) (fun _ _ _ h => h) (Or.inl ⟨by rfl, fun w => by go_simp⟩) ?_
          (try simp only [Act.put, List.setIfInBounds_toArray, List.set_cons_zero, List.set_cons_succ])
          refine wpAny_ready (rs := [12]) (by kernel_rfl) (by simp) ?_
          refine AllReady.cons (o := { dst := some 36, op := Op.buildSlice 87 1 #[(0, Operand.tmp 35)], type := 87, pos := "ref.go:129", after := #[{ on := 11, ground := Ground.data }], guard := none }) rfl (fun K hK => ?_) AllReady.nil
          go_simp
          refine hK _ _ ?_
          clear hK K
          (try simp only [Act.put, List.setIfInBounds_toArray, List.set_cons_zero, List.set_cons_succ])
          refine wpAny_ready (rs := [13]) (by kernel_rfl) (by simp) ?_
          refine AllReady.cons (o := { dst := some 37, op := Op.convert 87 9 (Operand.tmp 36), type := 9, pos := "ref.go:129", after := #[{ on := 12, ground := Ground.data }], guard := none }) rfl (fun K hK => ?_) AllReady.nil
          go_simp
          refine hK _ _ ?_
          clear hK K
          (try simp only [Act.put, List.setIfInBounds_toArray, List.set_cons_zero, List.set_cons_succ])
          refine wpAny_take (i := 14) (oi := { dst := some 38, op := Op.binOp BinOp.add 9 (Operand.tmp 24) (Operand.tmp 37) 9, type := 9, pos := "ref.go:129", after := #[{ on := 0, ground := Ground.data }, { on := 13, ground := Ground.data }], guard := none }) (v := .string (tb ++ ⟨#[u]⟩)) rfl (by kernel_rfl) (by kernel_rfl) (by kernel_rfl) (fun _ _ _ h => h) (Or.inl ⟨by rfl, fun w => by go_simp⟩) ?_
          (try simp only [Act.put, List.setIfInBounds_toArray, List.set_cons_zero, List.set_cons_succ])
          refine wpAny_take (i := 15) (oi := { dst := some 5, op := Op.assign (Operand.tmp 38), type := 9, pos := "ref.go:129", after := #[{ on := 14, ground := Ground.data }, { on := 10, ground := Ground.chain }, { on := 0, ground := Ground.phase }, { on := 1, ground := Ground.phase }, { on := 2, ground := Ground.phase }, { on := 3, ground := Ground.phase }, { on := 4, ground := Ground.phase }, { on := 5, ground := Ground.phase }, { on := 6, ground := Ground.phase }, { on := 7, ground := Ground.phase }, { on := 8, ground := Ground.phase }, { on := 9, ground := Ground.phase }, { on := 10, ground := Ground.phase }, { on := 11, ground := Ground.phase }, { on := 12, ground := Ground.phase }, { on := 13, ground := Ground.phase }, { on := 14, ground := Ground.phase }], guard := none }) (v := .string (tb ++ ⟨#[u]⟩)) rfl (by kernel_rfl) (by kernel_rfl) (by kernel_rfl) (fun _ _ _ h => h) (Or.inl ⟨by rfl, fun w => by go_simp⟩) ?_
          (try simp only [Act.put, List.setIfInBounds_toArray, List.set_cons_zero, List.set_cons_succ])
          refine wpAny_done (by kernel_rfl) ?_ _
          --END
          go_wp2_with fail
          go_roundw
          case rel => exact ⟨j + 1, by rw [← e2j]; go_num, by rw [HN.out], HJ2.out, Lib.hid ((hb.out.alloc hb.out.size _).drew)⟩
          case measure => simp [intOf]; omega
        · have HT : Hid ((unhex l).take j = unhex l) := Lib.hid (List.take_of_length_le (by have := HUL.out; have := HZ2.out; omega))
          have hk2 : ¬ ((2 * j : Nat) : Int) + 1 < (z : Int) := by omega
          have hw1 : IntKind.i64.wrap (((2 * j : Nat) : Int) + 1) = ((2 * j : Nat) : Int) + 1 := wrap64 (by omega) (by omega)
          rw [HT.out]
          generalize 2 * j = j2 at *
          clear hk HT
          cases pl with
          | true =>
            rw [if_pos rfl] at HQ
            go_wp2_with fail
            refine (HPL.out wr).mono ?_; rintro e w2 ⟨rfl, b2⟩
            go_wp2_with fail
            go_ret2
            exact ⟨by rw [HQ.out]; rfl, below_step hb.out b2⟩
          | false =>
            rw [if_neg (by decide)] at HQ
            go_wp2_with fail
            refine (HPL.out wr).mono ?_; rintro e w2 ⟨rfl, b2⟩
            go_wp2_with fail
            refine (HD.out w2).mono ?_; rintro e w3 ⟨rfl, b3⟩
            go_wp2_with fail
            go_ret2
            exact ⟨by rw [HQ.out]; rfl, below_step (below_step hb.out b2) b3⟩
  · have q1 : ((r : Int) != 0) = true := by rw [bne_iff_ne]; omega
    rw [if_pos (.inl (by omega))] at HQ
    clear hr0 hr HR HG HLL
    go_enter Tryz.func71, Tryz.ntmps71
    go_wp2_with fail
    refine HF.out.mono ?_; rintro e w1 ⟨rfl, b1⟩
    go_wp2_with fail
    go_ret2
    exact ⟨by rw [HQ.out]; rfl, b1⟩
end Go.Proofs.YtiehhlolhhjgpaaGreatDoor.Pl

namespace Go.Proofs.YtiehhlolhhjgpaaGreatDoor.Pl
open Go.RowKit

open Classical in
noncomputable def onceF (out : List ByteArray) (x : ByteArray) : List ByteArray := if x ∈ out then out else out ++ [x]
noncomputable def onceT (l : List ByteArray) : List ByteArray := l.foldl onceF []
theorem mem_bl {x : ByteArray} {l : List ByteArray} : bl x ∈ l.map bl ↔ x ∈ l := by
  rw [List.mem_map]
  constructor
  · rintro ⟨y, hy, e⟩
    rw [← bl_inj e]; exact hy
  · intro h
    exact ⟨x, h, rfl⟩
theorem once_map_from (l acc : List ByteArray) : (l.foldl onceF acc).map bl = (l.map bl).foldl (fun out x => if x ∈ out then out else out ++ [x]) (acc.map bl) := by
  induction l generalizing acc with
  | nil => rfl
  | cons x l ih =>
    rw [List.map_cons, List.foldl_cons, List.foldl_cons, ih]
    congr 1
    unfold onceF
    by_cases h : x ∈ acc
    · rw [if_pos h, if_pos (mem_bl.2 h)]
    · rw [if_neg h, if_neg (fun k => h (mem_bl.1 k)), List.map_append]; rfl
theorem once_map (l : List ByteArray) : (onceT l).map bl = onceL (l.map bl) := once_map_from l []
theorem once_len_from (l acc : List ByteArray) : (l.foldl onceF acc).length ≤ acc.length + l.length := by
  induction l generalizing acc with
  | nil => simp
  | cons x l ih =>
    rw [List.foldl_cons]
    have h := ih (onceF acc x)
    have h2 : (onceF acc x).length ≤ acc.length + 1 := by
      unfold onceF
      by_cases h : x ∈ acc
      · rw [if_pos h]; omega
      · rw [if_neg h, List.length_append, List.length_singleton]; omega
    rw [List.length_cons]
    omega
theorem once_len (l : List ByteArray) : (onceT l).length ≤ l.length := by have := once_len_from l []; simp at this; exact this
theorem once_take (l : List ByteArray) (k : Nat) (h : k < l.length) : onceT (l.take (k + 1)) = onceF (onceT (l.take k)) (l.getD k ByteArray.empty) := by
  unfold onceT
  rw [List.take_succ_eq_append_getElem h, List.foldl_append, List.foldl_cons, List.foldl_nil]
  simp [List.getD_eq_getElem?_getD, h]
theorem onceF_yes {o : List ByteArray} {x : ByteArray} (h : x ∈ o) : onceF o x = o := if_pos h
theorem onceF_no {o : List ByteArray} {x : ByteArray} (h : ¬ x ∈ o) : onceF o x = o ++ [x] := if_neg h

set_option maxHeartbeats 4000000 in
set_option maxRecDepth 100000 in
theorem rsubs_any (s : ByteArray) (hs : s.size ≤ 281474976710656) (w : World) :
    Calls Tryz.prog 31 #[.string s] w fun e w' => ∃ (v : Value) (L : List ByteArray), e = .returned v ∧ OwnT w' w.heap.size v L ∧ L.map bl = onceL (placesP (bl s)) ∧ Below w.heap.size w w' := by
  have HM := Lib.hid (rmay_any s hs w)
  by_cases hc : checkP (bl s) = 0
  · rw [may_yes hc] at HM
    obtain ⟨i0, hi, hz0, hz1, hz2⟩ := info_parts infoStr
    have HI := Lib.hid hi
    obtain ⟨t, tv, te, tr⟩ := tree_of hc
    have HP := Lib.hid (fun V => rplaces_any t tv s te V)
    have hpl : placesP (bl s) = (t.places.map tx).map bl := by unfold placesP; rw [tr, map_bl_tx]
    have hlen : (t.places.map tx).length ≤ 16384 := by
      rw [List.length_map]
      have h1 := places_count t tv.1
      have h2 := tv.2.2
      omega
    obtain ⟨P, hP⟩ : ∃ P, P = t.places.map tx := ⟨_, rfl⟩
    rw [← hP] at HP hpl hlen
    have HE : Hid ((onceT P).map bl = onceL (placesP (bl s))) := Lib.hid (by rw [hpl, once_map])
    generalize onceL (placesP (bl s)) = Z at *
    obtain ⟨n, hn⟩ : ∃ n, n = P.length := ⟨_, rfl⟩
    have HN := Lib.hid hn
    have hPl : P.length = n := hn.symm
    rw [← hn] at hlen
    have HOL : Hid (∀ k, (onceT (P.take k)).length ≤ n) := Lib.hid (fun k => Nat.le_trans (once_len _) (by rw [List.length_take]; omega))
    have HTK : Hid (∀ k, k < n → onceT (P.take (k + 1)) = onceF (onceT (P.take k)) (P.getD k ByteArray.empty)) := Lib.hid (fun k hk => once_take P k (by omega))
    clear hc tv te tr hs hpl hP hn hi
    go_enter Tryz.func31, Tryz.ntmps31
    go_wp2_with fail
    refine HM.out.mono ?_; rintro e w1 ⟨rfl, b1⟩
    have B1 := Lib.hid b1
    clear b1
    go_wp2_with fail
    refine (HP.out w1).mono ?_; rintro e w2 ⟨v, rfl, ho, b2⟩
    have B2 := Lib.hid (below_step B1.out b2)
    obtain ⟨ao, cap, rfl, hrow⟩ := ownT_row ho
    have R2 := Lib.hid hrow
    rw [hPl]
    clear b2 ho hrow
    go_wp2_with fail
    go_loopw [3, 5] (fun v iv wr => ∃ k : Nat, iv = .int .i64 k ∧ k ≤ n ∧ Hid (OwnT wr w.heap.size v (onceT (P.take k))) ∧ Hid (ApartV v ao) ∧ Hid (TxtRow wr ao P) ∧ Hid (Below w.heap.size w wr)) (fun _ iv _ => n - (intOf iv).toNat)
    case atStart => exact ⟨0, rfl, Nat.zero_le _, Lib.hid (by simp only [List.take_zero]; exact ownT_nil _ _), Lib.hid (fun b off e h3 => by cases h3), R2, B2⟩
    case round =>
      obtain ⟨k, rfl, hkn, hown, hap, hrow, hb⟩ := hrel
      by_cases hk : k < n
      · have hk' : (k : Int) < (n : Int) := by omega
        rcases hrow.out with e | ⟨b, off, rfl, hlt, hc⟩
        · exfalso; rw [e] at hPl; simp at hPl; omega
        have ck := hc k (by omega)
        have HT := Lib.hid (HTK.out k hk)
        have hol := HOL.out k
        obtain ⟨O, hO⟩ : ∃ O, O = onceT (P.take k) := ⟨_, rfl⟩
        obtain ⟨O', hO'⟩ : ∃ O', O' = onceT (P.take (k + 1)) := ⟨_, rfl⟩
        rw [← hO] at hown HT hol
        rw [← hO'] at HT
        have HO' := Lib.hid hO'
        obtain ⟨ao2, cap2, rfl, hr2⟩ := ownT_row hown.out
        obtain ⟨y, hy⟩ : ∃ y, y = P.getD k ByteArray.empty := ⟨_, rfl⟩
        rw [← hy] at ck HT
        have HCK : Hid (∀ V, TxtRow V (some ⟨b, off, none⟩) P → V.cell? ⟨b, off + k, none⟩ = some (.string y)) := Lib.hid (fun V h => by
          rcases h with e | ⟨b', off', e, _, h2⟩
          · exfalso; rw [e] at hPl; simp at hPl; omega
          · cases e
            rw [hy]; exact h2 k (by omega))
        by_cases hm : y ∈ O
        · have HC := Lib.hid (rin_any O ao2 cap2 (by omega) y wr hr2 true (by simp [hm]))
          have HT2 : Hid (O' = O) := Lib.hid (by rw [HT.out, onceF_yes hm])
          clear hc hm hO hO' hy hr2
          go_wp2_with fail
          refine HC.out.mono ?_; rintro e w3 ⟨rfl, b3⟩
          have B3 := Lib.hid (below_step hb.out b3)
          have O3 := Lib.hid (ownT_below hown.out b3)
          have R3 := Lib.hid (hrow.out.below b3)
          clear b3
          go_wp2_with fail
          go_roundw
          case rel => exact ⟨k + 1, by go_num, by omega, Lib.hid (by rw [← HO'.out, HT2.out]; exact O3.out), hap, R3, B3⟩
          case measure => simp [intOf]; omega
        · have HC := Lib.hid (rin_any O ao2 cap2 (by omega) y wr hr2 false (by simp [hm]))
          have HT2 : Hid (O' = O ++ [y]) := Lib.hid (by rw [HT.out, onceF_no hm])
          clear hc hm hO hO' hy hr2
          go_wp2_with fail
          refine HC.out.mono ?_; rintro e w3 ⟨rfl, b3⟩
          have B3 := Lib.hid (below_step hb.out b3)
          have O3 := Lib.hid (ownT_below hown.out b3)
          have R3 := Lib.hid (hrow.out.below b3)
          have HSZ := Lib.hid (Nat.le_trans hb.out.size b3.size)
          have HWR := Lib.hid b3.size
          have ck3 := HCK.out w3 R3.out
          clear b3
          go_wp2_with (at_builtin; refine wpList_append_own_at _ rfl _ _ 29 rfl w.heap.size 9 i0 (.string ⟨#[]⟩) 1 16 Tryz.underlying29 HI.out hz0 hz1 hz2 rfl (by decide) _ _ _ rfl (World.ownsRow.alloc O3.out _) ⟨w3.heap.size, 0, none⟩ 1 1 [.string y] rfl rfl ?c1 ?c2 ?c3 ?c4 ?c5 ?_)
          case c1 =>
            intro j u hj
            match j, hj with
            | 0, hj => simp at hj; subst hj; simp [Addr.add]
            | (j + 1), hj => simp at hj
          case c2 => intro u hu; simp at hu; subst hu; rfl
          case c3 => unfold maxLen; omega
          case c4 => omega
          case c5 => have := HSZ.out; simp; omega
          intro v' w4 hown' hgrow _ hloc
          have HO : Hid (OwnT w4 w.heap.size v' O') := Lib.hid (by
            rw [HT2.out]
            have h := hown'
            unfold OwnT
            rw [show txts (O ++ [y]) = txts O ++ [.string y] by simp [txts], List.length_append, List.length_singleton]
            exact h)
          have B4 : Hid (Below w.heap.size w w4) := Lib.hid ((B3.out.alloc (by have := HSZ.out; omega) _).grown hgrow (by have := HSZ.out; simp; omega) (fun j hj => (O3.out.lt _ hj).1))
          have R4 := Lib.hid ((R3.out.below ((Below.refl w3.heap.size w3).alloc (Nat.le_refl _) _)).grown hgrow hap.out)
          have hbw : b < w3.heap.size := by have := HWR.out; omega
          have A4 : Hid (ApartV v' (some ⟨b, off, none⟩)) := Lib.hid (fun b' off' e h3 => by
            cases e
            rcases hloc with h4 | h4
            · exact hap.out b off rfl (by rw [← h4]; exact h3)
            · rw [h4] at h3
              have := Option.some.inj h3
              omega)
          clear hown' hgrow hloc hbw
          go_wp2_with fail
          go_roundw
          case rel => exact ⟨k + 1, by go_num, by omega, Lib.hid (by rw [← HO'.out]; exact HO.out), A4, R4, B4⟩
          case measure => simp [intOf]; omega
      · obtain rfl : k = n := by omega
        have HQ : Hid (onceT (P.take k) = onceT P) := Lib.hid (by rw [List.take_of_length_le (by have := HN.out; omega)])
        obtain ⟨ao2, cap2, rfl, _⟩ := ownT_row hown.out
        clear hk hkn
        go_wp2_with fail
        go_ret
        exact ⟨_, onceT P, rfl, by rw [← HQ.out]; exact hown.out, HE.out, hb.out⟩
  · rw [may_no hc] at HM
    have H1 : Hid (placesP (bl s) = []) := Lib.hid (by unfold placesP; rw [treeOf_none hc])
    clear hc hs
    go_enter Tryz.func31, Tryz.ntmps31
    go_wp2_with fail
    refine HM.out.mono ?_; rintro e w1 ⟨rfl, b1⟩
    have B1 := Lib.hid b1
    clear b1
    go_wp2_with fail
    go_ret
    exact ⟨_, [], rfl, ownT_nil _ _, by rw [H1.out]; rfl, B1.out⟩
end Go.Proofs.YtiehhlolhhjgpaaGreatDoor.Pl

namespace Go.Proofs.YtiehhlolhhjgpaaGreatDoor.Pl
open Go.RowKit Go.Shelf
open Go.Maps (Keyed IsMap)
attribute [local go_sem] Oper.semAt_some

theorem keyed9 : Keyed Tryz.prog 9 := Maps.string_keyed Tryz.underlying9
theorem key9 (y : ByteArray) (h : y.size ≤ 281474976710656) : keyOf Tryz.prog 9 (.string y) = some (.string y.data.toList) := WideMaps.keyOf_string_mk Tryz.underlying9 (by unfold maxLen; omega)
theorem zero85 (w : World) : (zeroValue 42).run Tryz.prog w = .ok (.agg #[]) w := by kernel_rfl
/-- A set of texts. -/
def setF (D : DataW Nat) (y : ByteArray) : DataW Nat := D.put (.string y.data.toList) (.agg [])
def setD (l : List ByteArray) : DataW Nat := l.foldl setF (.map [])
theorem setF_map {D : DataW Nat} (h : IsMap D) (y : ByteArray) : IsMap (setF D y) := by
  obtain ⟨es, rfl⟩ := h
  exact ⟨_, rfl⟩
theorem litS_ne {x y : ByteArray} (h : x ≠ y) : Lit.string x.data.toList ≠ Lit.string y.data.toList := fun e => h (by
  injection e with e
  exact bl_inj e)
theorem has_setF (y : ByteArray) : ∀ (l : List ByteArray) (D : DataW Nat), IsMap D → (Maps.has (l.foldl setF D) (.string y.data.toList) = true ↔ Maps.has D (.string y.data.toList) = true ∨ y ∈ l)
  | [], D, _ => by simp
  | x :: l, D, hD => by
    rw [List.foldl_cons, has_setF y l _ (setF_map hD x)]
    by_cases e : y = x
    · subst e
      have h1 : Maps.has (setF D y) (.string y.data.toList) = true := Maps.has_put_same hD (show WideAt.IsKeyLit (.string y.data.toList) from trivial) _
      simp [h1]
    · have h1 : Maps.has (setF D x) (.string y.data.toList) = Maps.has D (.string y.data.toList) := Maps.has_put_other (litS_ne e) _
      rw [h1]
      simp [e]
theorem has_setD (l : List ByteArray) (y : ByteArray) : Maps.has (setD l) (.string y.data.toList) = true ↔ y ∈ l := by
  unfold setD
  rw [has_setF y l _ ⟨[], rfl⟩]
  simp [Maps.has]
theorem setD_snoc (l : List ByteArray) (y : ByteArray) : setD (l ++ [y]) = (setD l).put (.string y.data.toList) (.agg []) := by
  unfold setD
  rw [List.foldl_append]
  rfl

/-- What has come up, each once. -/
noncomputable def subL (s : ByteArray) (pre : List Pl6) : List ByteArray := onceT (pre.map (ptT s))
theorem subL_snoc (s : ByteArray) (pre : List Pl6) (x : Pl6) : subL s (pre ++ [x]) = onceF (subL s pre) (ptT s x) := by
  unfold subL onceT
  rw [List.map_append, List.foldl_append]
  rfl
theorem subL_len (s : ByteArray) (pre : List Pl6) : (subL s pre).length ≤ pre.length := by
  have := once_len (pre.map (ptT s))
  rw [List.length_map] at this
  exact this
theorem sub_vis {s : ByteArray} (h : checkP (bl s) = 0) : (subL s (vis s).1).map bl = onceL (placesP (bl s)) := by
  obtain ⟨T, tv, te, tr, hv⟩ := vis_term h
  unfold subL placesP
  rw [once_map, tr, hv, List.map_map, List.map_map]
  congr 1
  show _ = T.places.map Tm.enc
  rw [← offs_snd T 0 1, List.map_map]
  refine List.map_congr_left fun y hy => ?_
  show bl (ptT s y.1) = y.2.enc
  rw [pt_at tv te hy, bl_tx]
theorem ptT_size (s : ByteArray) (x : Pl6) : (ptT s x).size ≤ s.size := by
  unfold ptT
  rw [size_bl, bl_extract, List.length_drop, List.length_take, bl_length]
  omega

/-- What Subs holds while it goes over the places. -/
def SubI (w : World) (t : ByteArray) (BL : Nat) (pre : List Pl6) (W : World) : Prop :=
  LstI w t BL (subL t) pre W ∧ Boxed W (BL + 1 + 1) 63 (.map (some (BL + 1))) ∧ W.ownsMap Tryz.prog 9 unitElem (BL + 1) (subL t pre).length (setD (subL t pre))
theorem subI_own (w : World) (t : ByteArray) (BL : Nat) (B : Nat) (h : w.heap.size ≤ B) (h2 : BL + 1 < B) : OwnFrom B (SubI w t BL) :=
  OwnFrom.and (lstI_own w t BL _ B h) (OwnFrom.and (Own.from (boxed_own _ _ _) _) (fun _ _ _ row hs hg hr => hs.kept hg (fun e => by have := (hr _ e.symm).1; omega)))

theorem one_row (W : World) (y : ByteArray) : ∀ (j : Nat) (u : Value), [Value.string y][j]? = some u → (W.alloc (.cells #[.string y] 9)).cell? ((⟨W.heap.size, 0, none⟩ : Addr).add j) = some u := by
  intro j u hu
  cases j with
  | zero =>
    have hu' : Value.string y = u := by simpa using hu
    subst hu'
    exact (Boxed.new W 9 (.string y)).cell
  | succ j => simp at hu
theorem own_ne_map {W : World} {n₀ k n : Nat} {v : Value} {l : List ByteArray} {D : DataW Nat} (h : OwnT W n₀ v l) (hm : W.ownsMap Tryz.prog 9 unitElem k n D) : some k ≠ v.ownBlock := by
  obtain ⟨es, clock, hb, _⟩ := hm
  rcases h.2 with ⟨rfl, _⟩ | ⟨g, cap, cur, rfl, _, hgb, _⟩
  · simp [Value.ownBlock]
  · intro e
    obtain rfl : k = g := by simpa [Value.ownBlock] using e
    rw [hgb] at hb; cases hb
theorem one_cell (y : ByteArray) : ∀ u ∈ [Value.string y], u.oneCell' = true := by
  intro u hu
  have : u = Value.string y := by simpa using hu
  rw [this]; rfl
/-- What a store into the map leaves. -/
theorem sub_updated {w W3 W4 : World} {t : ByteArray} {BL : Nat} {v : Value} {l : List ByteArray} {n : Nat} {D : DataW Nat} (hm : W3.ownsMap Tryz.prog 9 unitElem (BL + 1) n D) (hv : Boxed W3 BL 29 v) (hrow : OwnT W3 (w.heap.size + 1) v l) (hbt : Boxed W3 w.heap.size 9 (.string t)) (hbw : Below w.heap.size w W3)
    (hbm : Boxed W3 (BL + 1 + 1) 63 (.map (some (BL + 1)))) (hg : W3.grownBy W4 (some (BL + 1))) (hBL : w.heap.size + 1 ≤ BL) :
    Boxed W4 BL 29 v ∧ OwnT W4 (w.heap.size + 1) v l ∧ Boxed W4 w.heap.size 9 (.string t) ∧ Below w.heap.size w W4 ∧ Boxed W4 (BL + 1 + 1) 63 (.map (some (BL + 1))) ∧ KeepP W3 W4 := by
  obtain ⟨es, clock, hb, _⟩ := hm
  refine ⟨hv.kept hg (by simp), World.ownsRow.kept hrow hg ?_, hbt.kept hg (by simp; omega), hbw.grown hg hbw.size (fun k e => by cases e; omega), hbm.kept hg (by simp), hg.size, fun b cs hc => ?_⟩
  · rcases hrow.2 with ⟨rfl, _⟩ | ⟨g, cap, cur, rfl, _, hgb, _⟩
    · exact .inl rfl
    · refine .inr (fun e => ?_)
      obtain rfl : g = BL + 1 := by simpa [Value.ownBlock] using e
      rw [hgb] at hb; cases hb
  · refine (hg.block b (Array.getElem?_eq_some_iff.1 hc).1 (fun e => ?_)).trans hc
    obtain rfl : b = BL + 1 := by simpa using e
    rw [hc] at hb; cases hb

set_option maxRecDepth 100000 in
set_option maxHeartbeats 4000000 in
theorem subs6_any (t : ByteArray) (ht : t.size ≤ 281474976710656) (w : World) :
    Calls Tryz.prog 28 #[.string t] w fun e w' => ∃ (v : Value) (L : List ByteArray), e = .returned v ∧ OwnT w' w.heap.size v L ∧ L.map bl = onceL (placesP (bl t)) ∧ Below w.heap.size w w' := by
  have HA := are1_any t ht (w.alloc (.cells #[.string t] 9))
  rw [World.size_alloc] at HA
  have HA := Lib.hid HA
  refine (callsIn_wide (n := 5)).1 ?_
  by_cases hc : checkP (bl t) = 0
  · rw [may_yes hc] at HA
    have hv := sub_vis hc
    have hz0 : (vis t).2.2 = 0 := by obtain ⟨T, _, _, _, h⟩ := vis_term hc; rw [h]
    have hcnt := vis_count hc
    have HV := Lib.hid hv
    have HZ := Lib.hid hz0
    clear hv hc hz0
    refine callsIn_of_wp_marks Tryz.func28 rfl trivial ?_ rfl
    have hmm := @run_makeMap Tryz.prog
    simp only [Tryz.ntmps28, List.size_toArray, List.length_cons, List.length_nil, Nat.reduceAdd, Nat.reduceSub, Array.replicate_succ, Array.replicate_zero, List.push_toArray, List.append_toArray, List.nil_append, List.cons_append]
    gi_wp2_with (first | (refine ⟨trivial, ?_⟩; gi_at_call 53; refine (callsIn_wide.2 HA.out).mono ?_; rintro e w1 ⟨rfl, b1⟩; have bT1 : Boxed w1 w.heap.size 9 (.string t) := (b1.block _ (Nat.lt_succ_self _)).trans (Boxed.new w 9 (.string t)); have cT1 := (((bT1.alloc (.cells #[.slice none 0 0] 29)).alloc (.map #[] 0)).alloc (.cells #[.map (some (w1.heap.size + 1))] 63)).cell) | (refine ⟨trivial, ?_⟩; gi_at_call 54; refine (callsIn_wide.2 (places_in t _)).mono ?_; rintro e w2 ⟨rfl, rfl⟩))
    obtain ⟨W0, hW0⟩ : ∃ W0, (((w1.alloc (.cells #[.slice none 0 0] 29)).alloc (.map #[] 0)).alloc (.cells #[.map (some (w1.heap.size + 1))] 63)).alloc (.cells #[.string t] 9) = W0 := ⟨_, rfl⟩
    have hb1 := b1.size
    rw [World.size_alloc] at hb1
    have bL : Boxed W0 w1.heap.size 29 (.slice none 0 0) := by rw [← hW0]; exact (((Boxed.new w1 _ _).alloc _).alloc _).alloc _
    have bM : Boxed W0 (w1.heap.size + 1 + 1) 63 (.map (some (w1.heap.size + 1))) := by
      rw [← hW0]
      have h := (Boxed.new ((w1.alloc (.cells #[.slice none 0 0] 29)).alloc (.map #[] 0)) 63 (.map (some (w1.heap.size + 1)))).alloc (.cells #[.string t] 9)
      simpa using h
    have bP : Boxed W0 (w1.heap.size + 1 + 1 + 1) 9 (.string t) := by
      rw [← hW0]
      have h := Boxed.new (((w1.alloc (.cells #[.slice none 0 0] 29)).alloc (.map #[] 0)).alloc (.cells #[.map (some (w1.heap.size + 1))] 63)) 9 (.string t)
      simpa using h
    have hs1 : w1.heap.size + 1 + 1 + 1 < W0.heap.size := bP.lt
    have hM : W0.ownsMap (H := Nat) Tryz.prog 9 unitElem (w1.heap.size + 1) 0 (.map []) := by
      rw [← hW0]
      have h := ((World.ownsMap_made (H := Nat) (w1.alloc (.cells #[.slice none 0 0] 29)) Tryz.prog 9 unitElem).alloc (.cells #[.map (some (w1.heap.size + 1))] 63)).alloc (.cells #[.string t] 9)
      simpa using h
    have hI : SubI w t w1.heap.size [] W0 := by
      refine ⟨⟨⟨_, bL, World.ownsRow_nil _ _ _ _, trivial⟩, ?_, ?_⟩, bM, hM⟩
      · rw [← hW0]; exact (((bT1.alloc _).alloc _).alloc _).alloc _
      · rw [← hW0]
        exact ((((((Below.refl _ w).alloc (Nat.le_refl _) _).trans (b1.mono (Nat.le_succ _))).alloc (by omega) _).alloc (by simp; omega) _).alloc (by simp; omega) _).alloc (by simp; omega) _
    rw [hW0]
    have hw0 : w.heap.size ≤ W0.heap.size := by omega
    have hBL : w.heap.size + 1 ≤ w1.heap.size := hb1
    have hBL2 : w1.heap.size + 1 < W0.heap.size := by omega
    clear hW0 b1 bT1 cT1 hs1 hb1 bL bM hM
    generalize w1.heap.size = BL at *
    refine wpIn_places t ht (BL + 1 + 1 + 1) bP rfl (SubI w t BL) (fun _ _ _ => False) (subI_own w t BL _ hw0 hBL2) (fun c => fun _ _ _ _ h _ _ => h) hI
      (PlAx w.heap.size (fun b x => { tmps := #[.string t, .pointer (some ⟨w.heap.size, 0, none⟩), .slice none 0 0, .pointer (some ⟨BL, 0, none⟩), .pointer (some ⟨BL + 1 + 1, 0, none⟩), .pointer (some ⟨b, 0, none⟩), undef, undef, undef, .string t, .slice (some ⟨w.heap.size + 1, 0, none⟩) 1 1, .bool true, .bool false, .map (some (BL + 1)), .string t, .func (.func 86) #[] #[.pointer (some ⟨BL + 1 + 1 + 1, 0, none⟩)], encPl x, undef, undef, undef, undef, undef, undef, undef, undef, undef, undef, undef, undef, undef, undef, undef, undef, undef, undef, undef, undef], defers := [] }))
      (plAx_own _ _ _) ?assign ?body ?done ?stop ?throw
    case assign =>
      intro m l pre x W K hi hK
      have hzr := Lib.hid hK
      clear hK
      unfold encPl cellsPl
      gi_wp2
      exact hzr.out _ _ ((KeepsOthers.alloc _ _).from _) (KeepP.alloc _ _) ((subI_own w t BL W0.heap.size hw0 hBL2).alloc _ hi) ⟨W.heap.size, hi.1.2.2.size, World.alloc_heap_new _ _, rfl⟩
    case body =>
      rintro m l pre x a' W hl hi ⟨b, hb, hbx, rfl⟩ hpre
      have hx0 := (place_cells hbx).1
      have hok := (vis_any t x pre hpre).1
      rw [bl_length] at hok
      have hle := hcnt _ hpre
      rw [List.length_append, List.length_singleton] at hle
      have hlp := subL_len t pre
      have HC := Lib.hid (fun V => termat_any t x.at_ hok ht V)
      rw [show t.extract x.at_ (x.at_ + (frontP ((bl t).drop x.at_)).1) = ptT t x from rfl] at HC
      have hkey : keyOf Tryz.prog 9 (.string (ptT t x)) = some (.string (ptT t x).data.toList) := key9 _ (Nat.le_trans (ptT_size t x) ht)
      have HN : Hid (subL t (pre ++ [x]) = onceF (subL t pre) (ptT t x)) := Lib.hid (subL_snoc t pre x)
      generalize ptT t x = y at *
      have cT := hi.1.2.1.cell
      have HI := Lib.hid hi
      have HX := Lib.hid hbx
      obtain ⟨i0, hi0, hz0, hz1, hz2⟩ := info_parts infoStr6
      clear hi hbx hpre
      by_cases hm : y ∈ subL t pre
      · have hh : Maps.has (setD (subL t pre)) (.string y.data.toList) = true := (has_setD _ _).2 hm
        have HM := Lib.hid hm
        clear hm
        gi_wp2_with (first | (refine ⟨trivial, hdd _, ?_⟩; gi_at_call 55; refine (callsIn_wide.2 (HC.out _)).mono ?_; rintro e w2 ⟨rfl, b2⟩; have cM2 := (boxed_below HI.out.2.1 b2).cell; have hown2 := HI.out.2.2.kept (row := none) ⟨b2.os, b2.tape, b2.output, b2.size, fun k hk _ => b2.block k hk⟩ (by simp)) | (gi_at_lookup; refine wpListIn_lookup_own_unit _ rfl _ _ 63 rfl 9 42 keyed9 Tryz.underlying63 (zero85 _) (BL + 1) (subL t pre).length (setD (subL t pre)) rfl hown2 _ _ rfl hkey ?_; rw [hh]))
        have h2 := subI_own w t BL W0.heap.size hw0 hBL2 pre W w2 none HI.out ⟨b2.os, b2.tape, b2.output, b2.size, fun k hk _ => b2.block k hk⟩ (fun r e => by cases e)
        have h3 := (subI_own w t BL W0.heap.size hw0 hBL2).alloc (.cells #[] 42) h2
        refine ⟨((keepsOthers_below b2).trans (KeepsOthers.alloc _ _)).from _, (KeepP.of_below b2).trans (KeepP.alloc _ _), ?_⟩
        have he : subL t (pre ++ [x]) = subL t pre := HN.out.trans (onceF_yes HM.out)
        unfold SubI LstI at h3 ⊢
        rw [he]
        exact h3
      · have hh : Maps.has (setD (subL t pre)) (.string y.data.toList) = false := by
          cases e : Maps.has (setD (subL t pre)) (.string y.data.toList) with
          | false => rfl
          | true => exact absurd ((has_setD _ _).1 e) hm
        have HM := Lib.hid hm
        obtain ⟨⟨⟨v, hbv, hrow, _⟩, hbt, hbw⟩, hbm, hown⟩ := HI.out
        have HH := Lib.hid (And.intro hbv (And.intro hrow (And.intro hbt (And.intro hbw (And.intro hbm hown)))))
        clear hm hbv hrow hbt hbw hbm hown
        gi_wp2_with (first | (refine ⟨trivial, hdd _, ?_⟩; gi_at_call 55; refine (callsIn_wide.2 (HC.out _)).mono ?_; rintro e w2 ⟨rfl, b2⟩; have cM2 := (boxed_below HI.out.2.1 b2).cell; have cM3 := ((boxed_below HI.out.2.1 b2).alloc (.cells #[] 42)).cell; have hown2 := HI.out.2.2.kept (row := none) ⟨b2.os, b2.tape, b2.output, b2.size, fun k hk _ => b2.block k hk⟩ (by simp)) | (gi_at_lookup; refine wpListIn_lookup_own_unit _ rfl _ _ 63 rfl 9 42 keyed9 Tryz.underlying63 (zero85 _) (BL + 1) (subL t pre).length (setD (subL t pre)) rfl hown2 _ _ rfl hkey ?_; rw [hh]) | (gi_at_mapUpdate; refine wpListIn_mapUpdate_own _ rfl _ _ _ 63 rfl 9 42 keyed9 Tryz.underlying63 unitElem (BL + 1) (subL t pre).length (setD (subL t pre)) rfl (hown2.alloc _) (by unfold maxLen; omega) _ _ _ rfl rfl hkey (.agg []) [] unitElem_mk ?_; intro w4 hown4 hg4; have hU := (sub_updated (t := t) (hown2.alloc (.cells #[] 42)) ((boxed_below HH.out.1 b2).alloc _) (World.ownsRow.alloc (ownT_below HH.out.2.1 b2) _) ((boxed_below HH.out.2.2.1 b2).alloc _) ((below_step HH.out.2.2.2.1 b2).alloc (Nat.le_trans HH.out.2.2.2.1.size b2.size) _) ((boxed_below HH.out.2.2.2.2.1 b2).alloc _) hg4 hBL); have cV4 := hU.1.cell; have HU := Lib.hid hU; clear hU) | (gi_at_builtin; refine wpListIn_append_own _ rfl _ _ 29 rfl (w.heap.size + 1) 9 i0 (.string ⟨#[]⟩) 1 16 Tryz.underlying29 hi0 hz0 hz1 hz2 rfl (by decide) v (subL t pre).length (txts (subL t pre)) rfl (World.ownsRow.alloc HU.out.2.1 _) ⟨w4.heap.size, 0, none⟩ 1 1 [.string y] rfl rfl (one_row w4 y) (one_cell y) (by unfold maxLen; omega) (by omega) ?_ ?_))
        · rw [World.size_alloc]; have := HU.out.1.lt; omega
        intro v' w5 hown5 hgrow5 _
        obtain ⟨g, cap', rfl⟩ := ownsRow_succ hown5
        obtain ⟨u1, u2, u3, u4, u5, u6⟩ := HU.out
        have hown5' : OwnT w5 (w.heap.size + 1) (.slice (some ⟨g, 0, none⟩) ((subL t pre).length + 1) cap') (subL t pre ++ [y]) := by
          unfold OwnT
          rw [List.length_append, List.length_singleton, show txts (subL t pre ++ [y]) = txts (subL t pre) ++ [.string y] by simp [txts]]
          exact hown5
        obtain ⟨a1, a2, a3, a4, a5, a6⟩ := append_stored u1 u2 (Nat.le_of_lt (Nat.lt_of_le_of_lt hBL (u1.lt))) hBL hown5' hgrow5
        have cA := a1.cell
        have fA := a1.frozen
        have HA5 := Lib.hid (And.intro a2 (And.intro a3 (And.intro a4 (And.intro a5 a6))))
        have HU5 := Lib.hid (And.intro u3 (And.intro u4 (And.intro u5 u6)))
        have HM4 := Lib.hid hown4
        have HG4 := Lib.hid hg4
        have HG5 := Lib.hid hgrow5
        clear hown5 hown5' a1 a2 a3 a4 a5 a6 u1 u2 u3 u4 u5 u6 hown4 hg4 hgrow5
        gi_wp2
        obtain ⟨a2, a3, a4, a5, a6⟩ := HA5.out
        obtain ⟨u3, u4, u5, u6⟩ := HU5.out
        have hne : some (BL + 1) ≠ v.ownBlock := own_ne_map HU.out.2.1 HM4.out
        have h5 : Boxed w5 (BL + 1 + 1) 63 (.map (some (BL + 1))) := (u5.alloc _).kept HG5.out (u5.not_row (by decide) HU.out.2.1)
        have he : subL t (pre ++ [x]) = subL t pre ++ [y] := HN.out.trans (onceF_no HM.out)
        refine ⟨((((keepsOthers_below b2).trans (KeepsOthers.alloc _ _)).from _).trans (KeepsFrom.of_grownBy HG4.out (fun j e => by cases e; exact hBL2))).trans (a4.from _), (((KeepP.of_below b2).trans (KeepP.alloc _ _)).trans u6).trans a6, ?_⟩
        unfold SubI LstI
        rw [he, setD_snoc]
        refine ⟨⟨⟨_, a2, a3, trivial⟩, (a5.block _ (Nat.lt_succ_self _)).trans u3, u4.trans (a5.mono (Nat.le_succ _))⟩, h5.other (by omega) _, ?_⟩
        rw [List.length_append, List.length_singleton]
        exact World.ownsMap.setCell ((HM4.out.alloc _).kept HG5.out hne) (by simp) _
    case done =>
      rintro D W hD _ ⟨⟨⟨v, hb, hrow, _⟩, hbt, hbw⟩, _⟩ hK
      have hc := hb.cell
      obtain ⟨ao, cap, rfl, _⟩ := ownT_row (show OwnT W (w.heap.size + 1) v (subL t (vis t).1) from hrow)
      have HR := Lib.hid hrow
      clear hb hbt hrow
      gi_wp2
      exact leave_mark hK (results_tmp rfl _ _ _) ⟨.slice ao (subL t (vis t).1).length cap, subL t (vis t).1, rfl, ownT_low (ownsRow_putObj HR.out _ hK rfl) (Nat.le_succ _), HV.out, below_mark hbw (by omega) hK _⟩
    case stop =>
      rintro D c pre W hD hq h hK
      exact h.elim
    case throw =>
      rintro D W hD hz hi hK
      exact absurd HZ.out hz
  · rw [may_no hc] at HA
    have H1 : Hid (onceL (placesP (bl t)) = []) := Lib.hid (by unfold placesP; rw [treeOf_none hc]; rfl)
    rw [H1.out]
    clear hc
    refine callsIn_of_wp_marks Tryz.func28 rfl trivial ?_ rfl
    have hmm := @run_makeMap Tryz.prog
    simp only [Tryz.ntmps28, List.size_toArray, List.length_cons, List.length_nil, Nat.reduceAdd, Nat.reduceSub, Array.replicate_succ, Array.replicate_zero, List.push_toArray, List.append_toArray, List.nil_append, List.cons_append]
    gi_wp2_with (refine ⟨trivial, ?_⟩; gi_at_call 53; refine (callsIn_wide.2 HA.out).mono ?_; rintro e w1 ⟨rfl, b1⟩)
    exact ⟨_, results_tmp rfl _ _ _, _, [], rfl, ownT_nil _ _, rfl, ((Below.refl _ w).alloc (Nat.le_refl _) _).trans (b1.mono (Nat.le_succ _))⟩
end Go.Proofs.YtiehhlolhhjgpaaGreatDoor.Pl

namespace Go.Proofs.YtiehhlolhhjgpaaGreatDoor.Pl
open Go.RowKit

theorem rows_alike {a b : List ByteArray} (hl : a.length = b.length) (h : ∀ j, j < a.length → a.getD j ByteArray.empty = b.getD j ByteArray.empty) : a = b := by
  refine List.ext_getElem hl fun j h1 h2 => ?_
  have := h j h1
  simpa [List.getD_eq_getElem?_getD, h1, h2] using this

set_option maxHeartbeats 1000000 in
set_option maxRecDepth 100000 in
theorem rsame_any (a b : List ByteArray) (ao bo : Option Addr) (ca cb : Nat) (ha : a.length ≤ 281474976710656) (_hb : b.length ≤ 281474976710656) (w : World) (hra : TxtRow w ao a) (hrb : TxtRow w bo b) (r : Bool) (hr : r = true ↔ a = b) :
    Calls Tryz.prog 11 #[.slice ao a.length ca, .slice bo b.length cb] w fun e w' => e = .returned (.bool r) ∧ Below w.heap.size w w' := by
  have HA := Lib.hid hra
  have HB := Lib.hid hrb
  have HNO : Hid (a ≠ b → r = false) := Lib.hid (fun h => by
    cases e : r with
    | false => rfl
    | true => exact absurd (hr.1 e) h)
  by_cases hl : a.length = b.length
  · have HYES : Hid ((∀ j, j < a.length → a.getD j ByteArray.empty = b.getD j ByteArray.empty) → r = true) := Lib.hid (fun h => hr.2 (rows_alike hl h))
    have HDIF : Hid (∀ k, a.getD k ByteArray.empty ≠ b.getD k ByteArray.empty → r = false) := Lib.hid (fun k h => HNO.out (fun e => h (by rw [e])))
    obtain ⟨n, hn⟩ : ∃ n, n = a.length := ⟨_, rfl⟩
    have hna : a.length = n := hn.symm
    have hnb : b.length = n := by rw [← hl, hna]
    rw [hna, hnb]
    rw [hna] at HYES ha
    clear hra hrb hr hl hn _hb
    go_enter Tryz.func11, Tryz.ntmps11
    go_wp2_with fail
    go_loopw [5] (fun iv wr => ∃ k : Nat, iv = .int .i64 k ∧ k ≤ n ∧ Hid (∀ j, j < k → a.getD j ByteArray.empty = b.getD j ByteArray.empty) ∧ Hid (Below w.heap.size w wr)) (fun iv _ => n - (intOf iv).toNat)
    case atStart => exact ⟨0, rfl, Nat.zero_le _, Lib.hid (fun j hj => absurd hj (Nat.not_lt_zero j)), Lib.hid (Below.refl _ _)⟩
    case round =>
      obtain ⟨k, rfl, hkn, hch, hb⟩ := hrel
      by_cases hk : k < n
      · have hk' : (k : Int) < (n : Int) := by omega
        rcases HA.out.below hb.out with e | ⟨b1, off1, rfl, hlt1, hc1⟩
        · exfalso; rw [e] at hna; simp at hna; omega
        rcases HB.out.below hb.out with e | ⟨b2, off2, rfl, hlt2, hc2⟩
        · exfalso; rw [e] at hnb; simp at hnb; omega
        have ck1 := hc1 k (by omega)
        have ck2 := hc2 k (by omega)
        have HD := Lib.hid (HDIF.out k)
        have HX : Hid (a.getD k ByteArray.empty = b.getD k ByteArray.empty → ∀ j, j < k + 1 → a.getD j ByteArray.empty = b.getD j ByteArray.empty) := Lib.hid (fun h j hj => by
          by_cases e : j = k
          · rw [e]; exact h
          · exact hch.out j (by omega))
        generalize a.getD k ByteArray.empty = x at *
        generalize b.getD k ByteArray.empty = y at *
        clear hc1 hlt1 hc2 hlt2
        by_cases e : x = y
        · have HQ := Lib.hid (HX.out e)
          subst e
          go_wp2_with fail
          go_quiet (fail)
          go_wp2_with fail
          go_roundw
          case rel => exact ⟨k + 1, by go_num, by omega, HQ, Lib.hid (by first | exact hb.out | exact below_drewN hb.out _)⟩
          case measure => simp [intOf]; omega
        · obtain ⟨g1, g2⟩ := str6_ne e
          have HQ := Lib.hid (HD.out e)
          clear e
          go_wp2_with fail
          go_quiet (fail)
          go_wp2_with fail
          go_ret
          exact ⟨ret6_bool HQ.out.symm, by first | exact hb.out | exact below_drewN hb.out _⟩
      · obtain rfl : k = n := by omega
        have HQ := Lib.hid (HYES.out (fun j hj => hch.out j hj))
        clear hk hkn
        go_wp2_with fail
        go_ret
        exact ⟨ret6_bool HQ.out.symm, hb.out⟩
  · have HQ := Lib.hid (HNO.out (fun e => hl (by rw [e])))
    obtain ⟨n, hn⟩ : ∃ n, n = a.length := ⟨_, rfl⟩
    obtain ⟨m, hm⟩ : ∃ m, m = b.length := ⟨_, rfl⟩
    rw [← hn] at hl ha ⊢
    rw [← hm] at hl _hb ⊢
    have hl1 : ((n : Int) != (m : Int)) = true := by rw [bne_iff_ne]; omega
    have hl2 : ((n : Int) == (m : Int)) = false := by rw [beq_eq_false_iff_ne]; omega
    clear hra hrb hr hn hm hl
    go_enter Tryz.func11, Tryz.ntmps11
    go_wp2_with fail
    go_ret
    exact ⟨ret6_bool HQ.out.symm, Below.refl _ _⟩
end Go.Proofs.YtiehhlolhhjgpaaGreatDoor.Pl
