/- What term's Parts answers. -/
import Derived.Test.YtbdlegjklfkdmaaGreatDoorBallC31
import Derived.Test.YtbdlegjklfkdmaaGreatDoorBallC30
namespace Go.Proofs.YtbdlegjklfkdmaaGreatDoor.Pl
open Go.RowKit Go.Shelf
attribute [local go_sem] Oper.semAt_some

/-- The term at a place. -/
def ptT (s : ByteArray) (x : Pl6) : ByteArray := s.extract x.at_ (x.at_ + (frontP ((bl s).drop x.at_)).1)
theorem pt_at {s : ByteArray} {T : Tm} (hT : T.valid) (eT : bl s = T.enc) {y : Pl6 × Tm} (hy : y ∈ offT 0 1 T) : ptT s y.1 = tx y.2 := by
  obtain ⟨r, hr⟩ := offs_at (bl s) T 0 1 [] (by rw [List.drop_zero, eT, List.append_nil]) y hy
  have hv := places_valid hT (offs_place hy)
  refine bl_inj ?_
  unfold ptT
  rw [bl_extract, bl_tx, hr, front_enc hv, List.drop_take, hr, Nat.add_sub_cancel_left, List.take_left]
/-- The parts: what stands one deeper. -/
def pieceL (s : ByteArray) (l : List Pl6) : List ByteArray := (l.filter fun x => x.dep == 2).map (ptT s)
theorem pieceL_yes (s : ByteArray) (l : List Pl6) (x : Pl6) (h : x.dep = 2) : pieceL s (l ++ [x]) = pieceL s l ++ [ptT s x] := by simp [pieceL, h]
theorem pieceL_no (s : ByteArray) (l : List Pl6) (x : Pl6) (h : x.dep ≠ 2) : pieceL s (l ++ [x]) = pieceL s l := by simp [pieceL, h]
theorem pieceL_len (s : ByteArray) (l : List Pl6) : (pieceL s l).length ≤ l.length := by
  rw [pieceL, List.length_map]; exact List.length_filter_le _ _
theorem part_vis {s : ByteArray} (h : checkP (bl s) = 0) : partsP (bl s) = ((pieceL s (vis s).1).map bl, true) := by
  obtain ⟨T, tv, te, tr, hv⟩ := vis_term h
  obtain ⟨hd, l⟩ := T
  have h1 : pieceL s (vis s).1 = l.map tx := by
    have h2 := offs_parts hd l 0 1
    rw [hv, pieceL, List.filter_map, List.map_map]
    conv => rhs; rw [← h2, List.map_map]
    refine List.map_congr_left fun y hy => ?_
    exact pt_at tv te (List.mem_filter.1 hy).1
  unfold partsP
  rw [tr, h1, List.map_map]
  rfl

/-- A row of texts in a box, and the text that is gone over in another. -/
def LstI (w : World) (t : ByteArray) (BL : Nat) (f : List Pl6 → List ByteArray) (pre : List Pl6) (W : World) : Prop :=
  (∃ v, Boxed W BL 53 v ∧ W.ownsRow (w.heap.size + 1) 9 1 v (f pre).length (txts (f pre)) ∧ True) ∧ Boxed W w.heap.size 9 (.string t) ∧ Below w.heap.size w W
theorem lstI_own (w : World) (t : ByteArray) (BL : Nat) (f : List Pl6 → List ByteArray) (B : Nat) (h : w.heap.size ≤ B) : OwnFrom B (LstI w t BL f) :=
  OwnFrom.and (Own.from (holdsRow_own (w.heap.size + 1) BL 53 9 1 (fun pre => (f pre).length) (fun pre => txts (f pre)) (fun _ _ => True)) _)
    (OwnFrom.and (Own.from (boxed_own _ _ _) _) (ownFrom_below (Nat.le_refl _) h))

theorem boxed_below {W W' : World} {B : Nat} {t : TypeId} {v : Value} (h : Boxed W B t v) (b : Below W.heap.size W W') : Boxed W' B t v := (b.block _ h.lt).trans h
theorem infoStr6 : (Tryz.prog.info? 9).map (fun i => (i.zero, i.size, i.bytes)) = some (some (.string ⟨#[]⟩), 1, 16) := by kernel_rfl

/-- One text more, appended: the run. -/
theorem append_run {W1 : World} {n₀ : Nat} {v : Value} {l : List ByteArray} (y : ByteArray) (hrow : OwnT W1 n₀ v l) (hn : n₀ ≤ W1.heap.size) (hl : l.length ≤ 100000) :
    ∃ v' w', (Builtin.append_ #[53, 53] 53 #[v, .slice (some ⟨W1.heap.size, 0, none⟩) 1 1]).run Tryz.prog (W1.alloc (.cells #[.string y] 9)) = .ok v' w' ∧ OwnT w' n₀ v' (l ++ [y]) ∧ (W1.alloc (.cells #[.string y] 9)).grownBy w' v.ownBlock := by
  obtain ⟨i0, hi, hz0, hz1, hz2⟩ := info_parts infoStr6
  obtain ⟨v', w', hrun, hown', hgrow, _⟩ := run_append_own (P := Tryz.prog) (W1.alloc (.cells #[.string y] 9)) n₀ 53 53 9 i0 (.string ⟨#[]⟩) 1 16 Tryz.underlying53 hi hz0 hz1 hz2 rfl (by decide) v l.length (txts l) (World.ownsRow.alloc hrow _) ⟨W1.heap.size, 0, none⟩ 1 1 [.string y] rfl
    (by
      intro j u hu
      cases j with
      | zero =>
        have hu' : Value.string y = u := by simpa using hu
        subst hu'
        exact (Boxed.new W1 9 (.string y)).cell
      | succ j => simp at hu)
    (by intro u hu; have : u = Value.string y := by simpa using hu
        rw [this]; rfl)
    (by unfold maxLen; omega) (by omega) (by simp; omega)
  refine ⟨v', w', hrun, ?_, hgrow⟩
  unfold OwnT
  rw [List.length_append, List.length_singleton, show txts (l ++ [y]) = txts l ++ [.string y] by simp [txts]]
  exact hown'

/-- What storing it leaves. -/
theorem append_stored {W1 w' : World} {n₀ BL : Nat} {v v' : Value} {l l' : List ByteArray} {y : ByteArray} (hv : Boxed W1 BL 53 v) (hrow : OwnT W1 n₀ v l) (hn : n₀ ≤ W1.heap.size) (hB : n₀ ≤ BL)
    (hown' : OwnT w' n₀ v' l') (hgrow : (W1.alloc (.cells #[.string y] 9)).grownBy w' v.ownBlock) :
    Boxed w' BL 53 v ∧ Boxed (w'.setCell ⟨BL, 0, none⟩ v') BL 53 v' ∧ OwnT (w'.setCell ⟨BL, 0, none⟩ v') n₀ v' l' ∧ KeepsOthers W1 (w'.setCell ⟨BL, 0, none⟩ v') ∧ Below n₀ W1 (w'.setCell ⟨BL, 0, none⟩ v') ∧ KeepP W1 (w'.setCell ⟨BL, 0, none⟩ v') := by
  obtain ⟨a1, a2, a3, a4, a5⟩ := Boxed.appended (tmp := .cells #[.string y] 9) hv (by decide) hrow hn hB hown' hgrow
  refine ⟨a1, a2, a3, a4, a5, a4.1, fun b cs hb => ?_⟩
  have hlt := (Array.getElem?_eq_some_iff.1 hb).1
  have h1 := (Below.heap_alloc W1 (.cells #[.string y] 9) b hlt).trans hb
  have h2 := (hgrow.block b (by simp; omega) (fun e => by
    rcases hrow.2 with ⟨rfl, _⟩ | ⟨g, cap, cur, rfl, _, hgb, _⟩
    · simp [Value.ownBlock] at e
    · obtain rfl : b = g := by simpa [Value.ownBlock] using e
      rw [hb] at hgb; cases hgb)).trans h1
  exact (Below.heap_setCell w' ⟨BL, 0, none⟩ v' b (fun e => by
    have e' : b = BL := e
    subst e'
    rw [show W1.heap[b]? = _ from hv] at hb; cases hb)).trans h2

theorem ownT_low {W : World} {B B' : Nat} {v : Value} {l : List ByteArray} (h : OwnT W B v l) (hB : B' ≤ B) : OwnT W B' v l := by
  refine ⟨h.1, ?_⟩
  rcases h.2 with hn | ⟨g, cap, cur, hv, hbg, rest⟩
  · exact .inl hn
  · exact .inr ⟨g, cap, cur, hv, Nat.le_trans hB hbg, rest⟩
theorem grown_drew6 (W : World) : W.grownBy W.drew none := ⟨rfl, rfl, rfl, Nat.le_refl _, fun _ _ _ => rfl⟩
/-- How far the world has come: a call, a new row, an append, a store, one behind the other. -/
def PW (U0 : World) (y : ByteArray) (App : World → World → Value → Prop) (Fin : World → Prop) : Bool → Bool → Bool → Bool → Value → Value → World → Prop
  | false, false, false, false, _, _, w' => w' = U0
  | true, false, false, false, _, _, w' => Below U0.heap.size U0 w'
  | true, true, false, false, x21, _, w' => ∃ W1, Below U0.heap.size U0 W1 ∧ w' = W1.alloc (.cells #[.string y] 9) ∧ x21 = .slice (some ⟨W1.heap.size, 0, none⟩) 1 1
  | true, true, true, false, _, x22, w' => ∃ W1, Below U0.heap.size U0 W1 ∧ App W1 w' x22
  | true, true, true, true, _, _, w' => Fin w'
  | _, _, _, _, _, _, _ => False
section
variable {U0 : World} {y : ByteArray} {App : World → World → Value → Prop} {Fin : World → Prop} {q4 q5 q6 q7 : Bool} {x21 x22 : Value} {w' w2 : World}
theorem pw_below (h : PW U0 y App Fin q4 q5 false q7 x21 x22 w') : Below U0.heap.size U0 w' := by
  cases q4 <;> cases q5 <;> cases q7 <;> simp only [PW] at h
  · subst h; exact Below.refl _ _
  · exact h
  · obtain ⟨W1, h1, rfl, _⟩ := h; exact h1.alloc h1.size _
theorem pw_u0 (h : PW U0 y App Fin false q5 q6 q7 x21 x22 w') : w' = U0 := by
  cases q5 <;> cases q6 <;> cases q7 <;> simp only [PW] at h
  exact h
theorem pw_four (h : PW U0 y App Fin false q5 q6 q7 x21 x22 U0) (b : Below U0.heap.size U0 w2) : PW U0 y App Fin true q5 q6 q7 x21 x22 w2 := by
  cases q5 <;> cases q6 <;> cases q7 <;> simp only [PW] at h ⊢
  exact b
theorem pw_five (h : PW U0 y App Fin true false q6 q7 x21 x22 w') : PW U0 y App Fin true true q6 q7 (.slice (some ⟨w'.heap.size, 0, none⟩) 1 1) x22 (w'.alloc (.cells #[.string y] 9)) := by
  cases q6 <;> cases q7 <;> simp only [PW] at h ⊢
  exact ⟨w', h, rfl, rfl⟩
theorem pw_six (h : PW U0 y App Fin q4 true false q7 x21 x22 w') : q4 = true ∧ ∃ W1, Below U0.heap.size U0 W1 ∧ w' = W1.alloc (.cells #[.string y] 9) ∧ x21 = .slice (some ⟨W1.heap.size, 0, none⟩) 1 1 := by
  cases q4 <;> cases q7 <;> simp only [PW] at h
  exact ⟨rfl, h⟩
theorem pw_sixed (h : PW U0 y App Fin true true false q7 x21 x22 w') {v : Value} (k : ∃ W1, Below U0.heap.size U0 W1 ∧ App W1 w2 v) : PW U0 y App Fin true true true q7 x21 v w2 := by
  cases q7 <;> simp only [PW] at h ⊢
  exact k
theorem pw_seven (h : PW U0 y App Fin q4 q5 true false x21 x22 w') : q4 = true ∧ q5 = true ∧ ∃ W1, Below U0.heap.size U0 W1 ∧ App W1 w' x22 := by
  cases q4 <;> cases q5 <;> simp only [PW] at h
  exact ⟨rfl, rfl, h⟩
end

set_option maxRecDepth 100000 in
set_option maxHeartbeats 4000000 in
theorem parts6_any (t : ByteArray) (ht : t.size ≤ 281474976710656) (w : World) :
    Calls Tryz.prog 23 #[.string t] w fun e w' => ∃ (v : Value) (L : List ByteArray), e = .returned (.tuple #[v, .bool (partsP (bl t)).2]) ∧ OwnT w' w.heap.size v L ∧ L.map bl = (partsP (bl t)).1 ∧ Below w.heap.size w w' := by
  have HA := are1_any t ht (w.alloc (.cells #[.string t] 9))
  rw [World.size_alloc] at HA
  have HA := Lib.hid HA
  refine (callsIn_wide (n := 5)).1 ?_
  by_cases hc : checkP (bl t) = 0
  · rw [may_yes hc] at HA
    have hv := part_vis hc
    have hz0 : (vis t).2.2 = 0 := by obtain ⟨T, _, _, _, h⟩ := vis_term hc; rw [h]
    have hcnt := vis_count hc
    have HV := Lib.hid hv
    have HZ := Lib.hid hz0
    clear hv hc hz0
    refine callsIn_of_wp_marks Tryz.func23 rfl trivial ?_ rfl
    simp only [Tryz.ntmps23, List.size_toArray, List.length_cons, List.length_nil, Nat.reduceAdd, Nat.reduceSub, Array.replicate_succ, Array.replicate_zero, List.push_toArray, List.append_toArray, List.nil_append, List.cons_append]
    gi_wp2_with (first | (refine ⟨trivial, ?_⟩; gi_at_call 63; refine (callsIn_wide.2 HA.out).mono ?_; rintro e w1 ⟨rfl, b1⟩; have bT1 : Boxed w1 w.heap.size 9 (.string t) := (b1.block _ (Nat.lt_succ_self _)).trans (Boxed.new w 9 (.string t)); have cT1 := (bT1.alloc (.cells #[.slice none 0 0] 53)).cell) | (refine ⟨trivial, ?_⟩; gi_at_call 64; refine (callsIn_wide.2 (places_in t _)).mono ?_; rintro e w2 ⟨rfl, rfl⟩))
    obtain ⟨W0, hW0⟩ : ∃ W0, (w1.alloc (.cells #[.slice none 0 0] 53)).alloc (.cells #[.string t] 9) = W0 := ⟨_, rfl⟩
    have hb1 := b1.size
    rw [World.size_alloc] at hb1
    have bL : Boxed W0 w1.heap.size 53 (.slice none 0 0) := by rw [← hW0]; exact (Boxed.new w1 _ _).alloc _
    have bP : Boxed W0 (w1.heap.size + 1) 9 (.string t) := by rw [← hW0]; have h := Boxed.new (w1.alloc (.cells #[.slice none 0 0] 53)) 9 (.string t); simpa using h
    have hs1 : w1.heap.size + 1 < W0.heap.size := bP.lt
    have hI : LstI w t w1.heap.size (pieceL t) [] W0 := by
      refine ⟨⟨_, bL, World.ownsRow_nil _ _ _ _, trivial⟩, ?_, ?_⟩
      · rw [← hW0]; exact (bT1.alloc _).alloc _
      · rw [← hW0]
        exact ((((Below.refl _ w).alloc (Nat.le_refl _) _).trans (b1.mono (Nat.le_succ _))).alloc (by omega) _).alloc (by simp; omega) _
    rw [hW0]
    have hw0 : w.heap.size ≤ W0.heap.size := by omega
    have hBL : w.heap.size + 1 ≤ w1.heap.size := hb1
    have hBL2 : w1.heap.size < W0.heap.size := by omega
    clear hW0 b1 bT1 cT1 hs1 hb1 bL
    generalize w1.heap.size = BL at *
    refine wpIn_places t ht (BL + 1) bP rfl (LstI w t BL (pieceL t)) (fun _ _ _ => False) (lstI_own w t BL _ _ hw0) (fun c => fun _ _ _ _ h _ _ => h) hI
      (PlAx w.heap.size (fun b x => { tmps := #[.string t, .pointer (some ⟨w.heap.size, 0, none⟩), .slice none 0 0, .bool false, .pointer (some ⟨BL, 0, none⟩), .pointer (some ⟨b, 0, none⟩), .string t, .slice (some ⟨w.heap.size + 1, 0, none⟩) 1 1, .bool true, .bool false, .string t, .func (.func 104) #[] #[.pointer (some ⟨BL + 1, 0, none⟩)], encPl x, undef, undef, undef, undef, undef, undef, undef, undef, undef, undef, undef], defers := [] }))
      (plAx_own _ _ _) ?assign ?body ?done ?stop ?throw
    case assign =>
      intro m l pre x W K hi hK
      have hzr := Lib.hid hK
      clear hK
      unfold encPl cellsPl
      gi_wp2
      exact hzr.out _ _ ((KeepsOthers.alloc _ _).from _) (KeepP.alloc _ _) ((lstI_own w t BL (pieceL t) W0.heap.size hw0).alloc _ hi) ⟨W.heap.size, hi.2.2.size, World.alloc_heap_new _ _, rfl⟩
    case body =>
      rintro m l pre x a' W hl hi ⟨b, hb, hbx, rfl⟩ hpre
      have hx1 := (place_cells hbx).2.1
      have hok := (vis_any t x pre hpre).1
      rw [bl_length] at hok
      have hle := hcnt _ hpre
      rw [List.length_append, List.length_singleton] at hle
      have hlp := pieceL_len t pre
      have HC := Lib.hid (fun V => termat_any t x.at_ hok ht V)
      rw [show t.extract x.at_ (x.at_ + (frontP ((bl t).drop x.at_)).1) = ptT t x from rfl] at HC
      have HI := Lib.hid hi
      have HX := Lib.hid hbx
      clear hi hbx hpre
      by_cases hd : x.dep = 2
      · have hq : ((x.dep : Int) == 2) = true := by rw [hd]; rfl
        have HD := Lib.hid hd
        have mixed : Tryz.prog.follows .mixedOrders = true := by kernel_rfl
        clear hd
        gi_wp2
        refine wpIn_region_any mixed ?_
        obtain ⟨U0, hU0⟩ : ∃ U0, ({ W with drawn := W.drawn + 1 } : World) = U0 := ⟨_, rfl⟩
        rw [hU0]
        have hKW : KeepsOthers W U0 := by rw [← hU0]; exact KeepsOthers.drew W
        have hPW : KeepP W U0 := by rw [← hU0]; exact KeepP.of_below (Below.refl _ W).drew
        have hI0 : LstI w t BL (pieceL t) pre U0 := by
          rw [← hU0]
          exact lstI_own w t BL (pieceL t) W0.heap.size hw0 pre W W.drew none HI.out (grown_drew6 W) (fun r e => by cases e)
        have bX : U0.heap[b]? = some (.cells (cellsPl x) 102 (0, 0)) := by rw [← hU0]; exact HX.out
        obtain ⟨⟨v, bV, hrow, _⟩, bT, hB⟩ := hI0
        obtain ⟨y, hy⟩ : ∃ y, y = ptT t x := ⟨_, rfl⟩
        rw [← hy] at HC
        have hy2 : pieceL t (pre ++ [x]) = pieceL t pre ++ [y] := by rw [pieceL_yes t pre x HD.out, hy]
        obtain ⟨App, hApp⟩ : ∃ App : World → World → Value → Prop, App = fun W1 w' x22 => OwnT w' (w.heap.size + 1) x22 (pieceL t pre ++ [y]) ∧ (W1.alloc (.cells #[.string y] 9)).grownBy w' v.ownBlock := ⟨_, rfl⟩
        obtain ⟨Fin, hFin⟩ : ∃ Fin : World → Prop, Fin = fun w' => KeepsFrom W0.heap.size W w' ∧ KeepP W w' ∧ LstI w t BL (pieceL t) (pre ++ [x]) w' := ⟨_, rfl⟩
        have hUs := hB.size
        have hbL := bV.lt
        have HAPP : Hid (∀ W1, Below U0.heap.size U0 W1 → ∃ v' w2, (Builtin.append_ #[53, 53] 53 #[v, .slice (some ⟨W1.heap.size, 0, none⟩) 1 1]).run Tryz.prog (W1.alloc (.cells #[.string y] 9)) = .ok v' w2 ∧ App W1 w2 v') := Lib.hid (fun W1 hW1 => by
          rw [hApp]
          exact append_run y (ownT_below hrow hW1) (by have := hW1.size; omega) (by omega))
        have HFIN : Hid (∀ W1 w' x22, Below U0.heap.size U0 W1 → App W1 w' x22 → ∃ ao cap, x22 = .slice ao ((pieceL t pre).length + 1) cap ∧ w'.cell? ⟨BL, 0, none⟩ = some v ∧ w'.frozen? ⟨BL, 0, none⟩ = false ∧ Fin (w'.setCell ⟨BL, 0, none⟩ x22)) := Lib.hid (fun W1 w' x22 hW1 ha => by
          rw [hApp] at ha
          obtain ⟨hown', hgrow⟩ := ha
          obtain ⟨a1, a2, a3, a4, a5, a6⟩ := append_stored (boxed_below bV hW1) (ownT_below hrow hW1) (by have := hW1.size; omega) hBL hown' hgrow
          obtain ⟨ao, cap, he, _⟩ := ownT_row hown'
          refine ⟨ao, cap, by rw [he]; simp, a1.cell, a1.frozen, ?_⟩
          rw [hFin]
          refine ⟨((hKW.trans (keepsOthers_below hW1)).trans a4).from _, (hPW.trans (KeepP.of_below hW1)).trans a6, ⟨x22, a2, by rw [hy2]; exact a3, trivial⟩, ?_, ?_⟩
          · exact (a5.block _ (Nat.lt_succ_self _)).trans (boxed_below bT hW1)
          · exact (below_step hB hW1).trans (a5.mono (Nat.le_succ _)))
        have HFW : Hid (∀ w', Fin w' → KeepsFrom W0.heap.size W w' ∧ KeepP W w' ∧ LstI w t BL (pieceL t) (pre ++ [x]) w') := Lib.hid (fun w' h => by rw [hFin] at h; exact h)
        clear hApp hFin hy hy2 hU0 hKW hPW hrow hB HI HX
        refine wpAnyIn_inv (fun listed a' w' => ∃ q0 q1 q2 q3 q4 q5 q6 q7 : Bool, ∃ x16 x17 x18 x19 x20 x21 x22 : Value, listed = #[q0, q1, q2, q3, q4, q5, q6, q7] ∧ a' = { tmps := #[.string t, .pointer (some ⟨w.heap.size, 0, none⟩), .slice none 0 0, .bool false, .pointer (some ⟨BL, 0, none⟩), .pointer (some ⟨b, 0, none⟩), .string t, .slice (some ⟨w.heap.size + 1, 0, none⟩) 1 1, .bool true, .bool false, .string t, .func (.func 104) #[] #[.pointer (some ⟨BL + 1, 0, none⟩)], encPl x, .pointer (some ⟨b, 1, none⟩), .int .i64 x.dep, .bool true, x16, x17, x18, x19, x20, x21, x22, undef], defers := [] } ∧ ((q0 = true → x16 = v) ∧ (q1 = true → x17 = .string t) ∧ (q2 = true → x18 = .pointer (some ⟨b, 0, none⟩)) ∧ (q3 = true → x19 = .int .i64 x.at_) ∧ (q4 = true → x20 = .string y)) ∧ PW U0 y App Fin q4 q5 q6 q7 x21 x22 w' ∧ (q4 = true → q1 = true ∧ q3 = true) ∧ (q6 = true → q0 = true)) ?_ ?_ _ _ _ _ (by decide) ?_
        · intro listed a' w' i hI hi
          obtain ⟨q0, q1, q2, q3, q4, q5, q6, q7, x16, x17, x18, x19, x20, x21, x22, rfl, rfl, ⟨h0, h1, h2, h3, h4⟩, hw, c1, c2⟩ := hI
          have hun := (mem_ready.1 hi).1
          rcases i with _ | _ | _ | _ | _ | _ | _ | _ | i
          · have e0 : q0 = false := hun
            have f6 : q6 = false := by cases q6 with | false => rfl | true => exact absurd (c2 rfl) (by simp [e0])
            subst f6
            have hbx2 := boxed_below bV (pw_below hw)
            have hc := hbx2.cell
            refine wpOpIn_want rfl rfl (fun K hK => ?_)
            have H := Lib.hid (And.intro h0 (And.intro h1 (And.intro h2 (And.intro h3 (And.intro h4 (And.intro hw (And.intro c1 c2)))))))
            clear h0 h1 h2 h3 h4 hw c1 c2
            clear hbx2
            go_simp
            obtain ⟨h0, h1, h2, h3, h4, hw, c1, c2⟩ := H.out
            exact hK _ _ ⟨true, q1, q2, q3, q4, q5, false, q7, v, x17, x18, x19, x20, x21, x22, rfl, rfl, ⟨fun _ => rfl, h1, h2, h3, h4⟩, hw, c1, fun _ => rfl⟩
          · have e1 : q1 = false := hun
            have f4 : q4 = false := by cases q4 with | false => rfl | true => exact absurd (c1 rfl).1 (by simp [e1])
            subst f4
            obtain rfl := (pw_u0 hw).symm
            have hc := bT.cell
            refine wpOpIn_want rfl rfl (fun K hK => ?_)
            have H := Lib.hid (And.intro h0 (And.intro h1 (And.intro h2 (And.intro h3 (And.intro h4 (And.intro hw (And.intro c1 c2)))))))
            clear h0 h1 h2 h3 h4 hw c1 c2
            go_simp
            obtain ⟨h0, h1, h2, h3, h4, hw, c1, c2⟩ := H.out
            exact hK _ _ ⟨q0, true, q2, q3, false, q5, q6, q7, x16, .string t, x18, x19, x20, x21, x22, rfl, rfl, ⟨h0, fun _ => rfl, h2, h3, h4⟩, hw, fun h => (by cases h), c2⟩
          · have e2 : q2 = false := hun
            refine wpOpIn_want rfl rfl (fun K hK => ?_)
            have H := Lib.hid (And.intro h0 (And.intro h1 (And.intro h2 (And.intro h3 (And.intro h4 (And.intro hw (And.intro c1 c2)))))))
            clear h0 h1 h2 h3 h4 hw c1 c2
            go_simp
            obtain ⟨h0, h1, h2, h3, h4, hw, c1, c2⟩ := H.out
            exact hK _ _ ⟨q0, q1, true, q3, q4, q5, q6, q7, x16, x17, .pointer (some ⟨b, 0, none⟩), x19, x20, x21, x22, rfl, rfl, ⟨h0, h1, fun _ => rfl, h3, h4⟩, hw, c1, c2⟩
          · have e3 : q3 = false := hun
            have d2 : q2 = true := dep hi rfl ⟨2, .data⟩ (by simp) rfl
            obtain rfl := (h2 d2).symm
            have f4 : q4 = false := by cases q4 with | false => rfl | true => exact absurd (c1 rfl).2 (by simp [e3])
            subst f4
            obtain rfl := (pw_u0 hw).symm
            have hc := (place_cells bX).1
            refine wpOpIn_want rfl rfl (fun K hK => ?_)
            have H := Lib.hid (And.intro h0 (And.intro h1 (And.intro h2 (And.intro h3 (And.intro h4 (And.intro hw (And.intro c1 c2)))))))
            clear h0 h1 h2 h3 h4 hw c1 c2
            go_simp
            obtain ⟨h0, h1, h2, h3, h4, hw, c1, c2⟩ := H.out
            exact hK _ _ ⟨q0, q1, q2, true, false, q5, q6, q7, x16, x17, .pointer (some ⟨b, 0, none⟩), .int .i64 x.at_, x20, x21, x22, rfl, rfl, ⟨h0, h1, h2, fun _ => rfl, h4⟩, hw, fun h => (by cases h), c2⟩
          · have e4 : q4 = false := hun
            have d1 : q1 = true := dep hi rfl ⟨1, .data⟩ (by simp) rfl
            have d3 : q3 = true := dep hi rfl ⟨3, .data⟩ (by simp) rfl
            obtain rfl := (h1 d1).symm
            obtain rfl := (h3 d3).symm
            subst e4
            obtain rfl := (pw_u0 hw).symm
            refine wpOpIn_want rfl rfl (fun K hK => ?_)
            have H := Lib.hid (And.intro h0 (And.intro h1 (And.intro h2 (And.intro h3 (And.intro h4 (And.intro hw (And.intro c1 c2)))))))
            clear h0 h1 h2 h3 h4 hw c1 c2
            go_simp
            refine ⟨trivial, hdd _, ?_⟩
            refine (callsIn_wide.2 (HC.out _)).mono ?_
            rintro e w2 ⟨rfl, b2⟩
            obtain ⟨h0, h1, h2, h3, h4, hw, c1, c2⟩ := H.out
            exact hK _ _ ⟨q0, q1, q2, q3, true, q5, q6, q7, x16, .string t, x18, .int .i64 x.at_, .string y, x21, x22, rfl, rfl, ⟨h0, h1, h2, h3, fun _ => rfl⟩, pw_four hw b2, fun _ => ⟨d1, d3⟩, c2⟩
          · have e5 : q5 = false := hun
            have d4 : q4 = true := dep hi rfl ⟨4, .data⟩ (by simp) rfl
            obtain rfl := (h4 d4).symm
            subst d4
            subst e5
            refine wpOpIn_want rfl rfl (fun K hK => ?_)
            have H := Lib.hid (And.intro h0 (And.intro h1 (And.intro h2 (And.intro h3 (And.intro h4 (And.intro hw (And.intro c1 c2)))))))
            clear h0 h1 h2 h3 h4 hw c1 c2
            go_simp
            obtain ⟨h0, h1, h2, h3, h4, hw, c1, c2⟩ := H.out
            exact hK _ _ ⟨q0, q1, q2, q3, true, true, q6, q7, x16, x17, x18, x19, .string y, .slice (some ⟨w'.heap.size, 0, none⟩) 1 1, x22, rfl, rfl, ⟨h0, h1, h2, h3, h4⟩, pw_five hw, c1, c2⟩
          · have e6 : q6 = false := hun
            have d0 : q0 = true := dep hi rfl ⟨0, .data⟩ (by simp) rfl
            have d5 : q5 = true := dep hi rfl ⟨5, .data⟩ (by simp) rfl
            obtain rfl := (h0 d0).symm
            subst d5
            subst e6
            obtain ⟨rfl, W1, hW1, rfl, rfl⟩ := pw_six hw
            obtain ⟨v', w2, hrun, happ⟩ := HAPP.out W1 hW1
            exact wpOpIn_append rfl rfl (.tmp 16) (.tmp 21) 53 rfl rfl rfl hrun ⟨q0, q1, q2, q3, true, true, true, q7, v, x17, x18, x19, x20, _, v', rfl, rfl, ⟨fun _ => rfl, h1, h2, h3, h4⟩, pw_sixed hw ⟨W1, hW1, happ⟩, c1, fun _ => d0⟩
          · have e7 : q7 = false := hun
            have d6 : q6 = true := dep hi rfl ⟨6, .data⟩ (by simp) rfl
            subst d6
            subst e7
            obtain ⟨rfl, rfl, W1, hW1, happ⟩ := pw_seven hw
            obtain ⟨ao, cap, rfl, hcb, hfb, hfin⟩ := HFIN.out W1 w' x22 hW1 happ
            refine wpOpIn_want rfl rfl (fun K hK => ?_)
            have H := Lib.hid (And.intro h0 (And.intro h1 (And.intro h2 (And.intro h3 (And.intro h4 (And.intro hw (And.intro c1 c2)))))))
            clear h0 h1 h2 h3 h4 hw c1 c2
            go_simp
            obtain ⟨h0, h1, h2, h3, h4, hw, c1, c2⟩ := H.out
            exact hK _ _ ⟨q0, q1, q2, q3, true, true, true, true, x16, x17, x18, x19, x20, x21, _, rfl, rfl, ⟨h0, h1, h2, h3, h4⟩, hfin, c1, c2⟩
          · exact absurd (mem_ready.1 hi).2 (by rintro ⟨o, ho, _⟩; simp at ho)
        · rintro listed a' w' ⟨q0, q1, q2, q3, q4, q5, q6, q7, x16, x17, x18, x19, x20, x21, x22, rfl, rfl, _, hw, _, _⟩ hr
          have hall := fun i (hi : i < 8) => all_listed (by kernel_rfl) rfl hr 8 i hi hi
          obtain rfl : q4 = true := hall 4 (by decide)
          obtain rfl : q5 = true := hall 5 (by decide)
          obtain rfl : q6 = true := hall 6 (by decide)
          obtain rfl : q7 = true := hall 7 (by decide)
          exact HFW.out _ hw
        · exact ⟨false, false, false, false, false, false, false, false, undef, undef, undef, undef, undef, undef, undef, rfl, rfl, by simp, rfl, by simp, by simp⟩
      · have hq : ((x.dep : Int) == 2) = false := by rw [beq_eq_false_iff_ne]; omega
        have HD := Lib.hid hd
        clear hd
        gi_wp2
        obtain ⟨h1, h2, h3⟩ := HI.out
        refine ⟨KeepsFrom.refl _ _, KeepP.refl _, ?_, h2, h3⟩
        rw [pieceL_no t pre x HD.out]
        exact h1
    case done =>
      rintro D W hD _ ⟨⟨v, hb, hrow, _⟩, hbt, hbw⟩ hK
      have hc := hb.cell
      obtain ⟨ao, cap, rfl, _⟩ := ownT_row (show OwnT W (w.heap.size + 1) v (pieceL t (vis t).1) from hrow)
      have HR := Lib.hid hrow
      clear hb hbt hrow
      gi_wp2
      exact leave_mark hK (results_tmp2 rfl _ _ _) ⟨_, _, by rw [HV.out]; rfl, ownT_low (ownsRow_putObj HR.out _ hK rfl) (Nat.le_succ _), by rw [HV.out], below_mark hbw (by omega) hK _⟩
    case stop =>
      rintro D c pre W hD hq h hK
      exact h.elim
    case throw =>
      rintro D W hD hz hi hK
      exact absurd HZ.out hz
  · rw [may_no hc] at HA
    have H1 : Hid (partsP (bl t) = ([], false)) := Lib.hid (by unfold partsP; rw [treeOf_none hc])
    rw [H1.out]
    clear hc
    refine callsIn_of_wp_marks Tryz.func23 rfl trivial ?_ rfl
    simp only [Tryz.ntmps23, List.size_toArray, List.length_cons, List.length_nil, Nat.reduceAdd, Nat.reduceSub, Array.replicate_succ, Array.replicate_zero, List.push_toArray, List.append_toArray, List.nil_append, List.cons_append]
    gi_wp2_with (refine ⟨trivial, ?_⟩; gi_at_call 63; refine (callsIn_wide.2 HA.out).mono ?_; rintro e w1 ⟨rfl, b1⟩)
    exact ⟨_, results_tmp2 rfl _ _ _, _, [], rfl, ownT_nil _ _, rfl, ((Below.refl _ w).alloc (Nat.le_refl _) _).trans (b1.mono (Nat.le_succ _))⟩
end Go.Proofs.YtbdlegjklfkdmaaGreatDoor.Pl
