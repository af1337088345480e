/- What term's Subs answers. -/
import Derived.Test.YtfghhhghhjbiaaaTermPieces
import Derived.Test.YtfghhhghhjbiaaaTermSubs
import Derived.Maps.OwnIn
import Derived.StringKeys
import Derived.Carry
namespace Go.Proofs.Ytfghhhghhjbiaaa.Pl
open Go.RowKit Go.Shelf
open Go.Maps (Keyed IsMap)
attribute [local go_sem] Oper.semAt_some

theorem keyed9 : Keyed Try.prog 9 := Maps.string_keyed Try.underlying9
theorem key9 (y : ByteArray) (h : y.size ≤ 281474976710656) : keyOf Try.prog 9 (.string y) = some (.string y.data.toList) := WideMaps.keyOf_string_mk Try.underlying9 (by unfold maxLen; omega)
theorem zero85 (w : World) : (zeroValue 85).run Try.prog w = .ok (.agg #[]) w := by kernel_rfl
/-- A set of texts. -/
def setF (D : DataW Nat) (y : ByteArray) : DataW Nat := D.put (.string y.data.toList) (.agg [])
def setD (l : List ByteArray) : DataW Nat := l.foldl setF (.map [])
theorem setF_map {D : DataW Nat} (h : IsMap D) (y : ByteArray) : IsMap (setF D y) := by
  obtain ⟨es, rfl⟩ := h
  exact ⟨_, rfl⟩
theorem litS_ne {x y : ByteArray} (h : x ≠ y) : Lit.string x.data.toList ≠ Lit.string y.data.toList := fun e => h (by
  injection e with e
  exact bl_inj e)
theorem has_setF (y : ByteArray) : ∀ (l : List ByteArray) (D : DataW Nat), IsMap D → (Maps.has (l.foldl setF D) (.string y.data.toList) = true ↔ Maps.has D (.string y.data.toList) = true ∨ y ∈ l)
  | [], D, _ => by simp
  | x :: l, D, hD => by
    rw [List.foldl_cons, has_setF y l _ (setF_map hD x)]
    by_cases e : y = x
    · subst e
      have h1 : Maps.has (setF D y) (.string y.data.toList) = true := Maps.has_put_same hD (show WideAt.IsKeyLit (.string y.data.toList) from trivial) _
      simp [h1]
    · have h1 : Maps.has (setF D x) (.string y.data.toList) = Maps.has D (.string y.data.toList) := Maps.has_put_other (litS_ne e) _
      rw [h1]
      simp [e]
theorem has_setD (l : List ByteArray) (y : ByteArray) : Maps.has (setD l) (.string y.data.toList) = true ↔ y ∈ l := by
  unfold setD
  rw [has_setF y l _ ⟨[], rfl⟩]
  simp [Maps.has]
theorem setD_snoc (l : List ByteArray) (y : ByteArray) : setD (l ++ [y]) = (setD l).put (.string y.data.toList) (.agg []) := by
  unfold setD
  rw [List.foldl_append]
  rfl

/-- What has come up, each once. -/
noncomputable def subL (s : ByteArray) (pre : List Pl6) : List ByteArray := onceT (pre.map (ptT s))
theorem subL_snoc (s : ByteArray) (pre : List Pl6) (x : Pl6) : subL s (pre ++ [x]) = onceF (subL s pre) (ptT s x) := by
  unfold subL onceT
  rw [List.map_append, List.foldl_append]
  rfl
theorem subL_len (s : ByteArray) (pre : List Pl6) : (subL s pre).length ≤ pre.length := by
  have := once_len (pre.map (ptT s))
  rw [List.length_map] at this
  exact this
theorem sub_vis {s : ByteArray} (h : checkP (bl s) = 0) : (subL s (vis s).1).map bl = onceL (placesP (bl s)) := by
  obtain ⟨T, tv, te, tr, hv⟩ := vis_term h
  unfold subL placesP
  rw [once_map, tr, hv, List.map_map, List.map_map]
  congr 1
  show _ = T.places.map Tm.enc
  rw [← offs_snd T 0 1, List.map_map]
  refine List.map_congr_left fun y hy => ?_
  show bl (ptT s y.1) = y.2.enc
  rw [pt_at tv te hy, bl_tx]
theorem ptT_size (s : ByteArray) (x : Pl6) : (ptT s x).size ≤ s.size := by
  unfold ptT
  rw [size_bl, bl_extract, List.length_drop, List.length_take, bl_length]
  omega

/-- What Subs holds while it goes over the places. -/
def SubI (w : World) (t : ByteArray) (BL : Nat) (pre : List Pl6) (W : World) : Prop :=
  LstI w t BL (subL t) pre W ∧ Boxed W (BL + 1 + 1) 84 (.map (some (BL + 1))) ∧ W.ownsMap Try.prog 9 unitElem (BL + 1) (subL t pre).length (setD (subL t pre))
theorem subI_own (w : World) (t : ByteArray) (BL : Nat) (B : Nat) (h : w.heap.size ≤ B) (h2 : BL + 1 < B) : OwnFrom B (SubI w t BL) :=
  OwnFrom.and (lstI_own w t BL _ B h) (OwnFrom.and (Own.from (boxed_own _ _ _) _) (fun _ _ _ row hs hg hr => hs.kept hg (fun e => by have := (hr _ e.symm).1; omega)))

theorem one_row (W : World) (y : ByteArray) : ∀ (j : Nat) (u : Value), [Value.string y][j]? = some u → (W.alloc (.cells #[.string y] 9)).cell? ((⟨W.heap.size, 0, none⟩ : Addr).add j) = some u := by
  intro j u hu
  cases j with
  | zero =>
    have hu' : Value.string y = u := by simpa using hu
    subst hu'
    exact (Boxed.new W 9 (.string y)).cell
  | succ j => simp at hu
theorem own_ne_map {W : World} {n₀ k n : Nat} {v : Value} {l : List ByteArray} {D : DataW Nat} (h : OwnT W n₀ v l) (hm : W.ownsMap Try.prog 9 unitElem k n D) : some k ≠ v.ownBlock := by
  obtain ⟨es, clock, hb, _⟩ := hm
  rcases h.2 with ⟨rfl, _⟩ | ⟨g, cap, cur, rfl, _, hgb, _⟩
  · simp [Value.ownBlock]
  · intro e
    obtain rfl : k = g := by simpa [Value.ownBlock] using e
    rw [hgb] at hb; cases hb
theorem one_cell (y : ByteArray) : ∀ u ∈ [Value.string y], u.oneCell' = true := by
  intro u hu
  have : u = Value.string y := by simpa using hu
  rw [this]; rfl
/-- What a store into the map leaves. -/
theorem sub_updated {w W3 W4 : World} {t : ByteArray} {BL : Nat} {v : Value} {l : List ByteArray} {n : Nat} {D : DataW Nat} (hm : W3.ownsMap Try.prog 9 unitElem (BL + 1) n D) (hv : Boxed W3 BL 27 v) (hrow : OwnT W3 (w.heap.size + 1) v l) (hbt : Boxed W3 w.heap.size 9 (.string t)) (hbw : Below w.heap.size w W3)
    (hbm : Boxed W3 (BL + 1 + 1) 84 (.map (some (BL + 1)))) (hg : W3.grownBy W4 (some (BL + 1))) (hBL : w.heap.size + 1 ≤ BL) :
    Boxed W4 BL 27 v ∧ OwnT W4 (w.heap.size + 1) v l ∧ Boxed W4 w.heap.size 9 (.string t) ∧ Below w.heap.size w W4 ∧ Boxed W4 (BL + 1 + 1) 84 (.map (some (BL + 1))) ∧ KeepP W3 W4 := by
  obtain ⟨es, clock, hb, _⟩ := hm
  refine ⟨hv.kept hg (by simp), World.ownsRow.kept hrow hg ?_, hbt.kept hg (by simp; omega), hbw.grown hg hbw.size (fun k e => by cases e; omega), hbm.kept hg (by simp), hg.size, fun b cs hc => ?_⟩
  · rcases hrow.2 with ⟨rfl, _⟩ | ⟨g, cap, cur, rfl, _, hgb, _⟩
    · exact .inl rfl
    · refine .inr (fun e => ?_)
      obtain rfl : g = BL + 1 := by simpa [Value.ownBlock] using e
      rw [hgb] at hb; cases hb
  · refine (hg.block b (Array.getElem?_eq_some_iff.1 hc).1 (fun e => ?_)).trans hc
    obtain rfl : b = BL + 1 := by simpa using e
    rw [hc] at hb; cases hb

set_option maxRecDepth 100000 in
set_option maxHeartbeats 4000000 in
theorem subs6_any (t : ByteArray) (ht : t.size ≤ 281474976710656) (w : World) :
    Calls Try.prog 46 #[.string t] w fun e w' => ∃ (v : Value) (L : List ByteArray), e = .returned v ∧ OwnT w' w.heap.size v L ∧ L.map bl = onceL (placesP (bl t)) ∧ Below w.heap.size w w' := by
  have HA := are1_any t ht (w.alloc (.cells #[.string t] 9))
  rw [World.size_alloc] at HA
  have HA := Lib.hid HA
  refine (callsIn_wide (n := 5)).1 ?_
  by_cases hc : checkP (bl t) = 0
  · rw [may_yes hc] at HA
    have hv := sub_vis hc
    have hz0 : (vis t).2.2 = 0 := by obtain ⟨T, _, _, _, h⟩ := vis_term hc; rw [h]
    have hcnt := vis_count hc
    have HV := Lib.hid hv
    have HZ := Lib.hid hz0
    clear hv hc hz0
    refine callsIn_of_wp_marks Try.func46 rfl trivial ?_ rfl
    have hmm := @run_makeMap Try.prog
    simp only [Try.ntmps46, List.size_toArray, List.length_cons, List.length_nil, Nat.reduceAdd, Nat.reduceSub, Array.replicate_succ, Array.replicate_zero, List.push_toArray, List.append_toArray, List.nil_append, List.cons_append]
    gi_wp2_with (first | (refine ⟨trivial, ?_⟩; gi_at_call 54; refine (callsIn_wide.2 HA.out).mono ?_; rintro e w1 ⟨rfl, b1⟩; have bT1 : Boxed w1 w.heap.size 9 (.string t) := (b1.block _ (Nat.lt_succ_self _)).trans (Boxed.new w 9 (.string t)); have cT1 := (((bT1.alloc (.cells #[.slice none 0 0] 27)).alloc (.map #[] 0)).alloc (.cells #[.map (some (w1.heap.size + 1))] 84)).cell) | (refine ⟨trivial, ?_⟩; gi_at_call 49; refine (callsIn_wide.2 (places_in t _)).mono ?_; rintro e w2 ⟨rfl, rfl⟩))
    obtain ⟨W0, hW0⟩ : ∃ W0, (((w1.alloc (.cells #[.slice none 0 0] 27)).alloc (.map #[] 0)).alloc (.cells #[.map (some (w1.heap.size + 1))] 84)).alloc (.cells #[.string t] 9) = W0 := ⟨_, rfl⟩
    have hb1 := b1.size
    rw [World.size_alloc] at hb1
    have bL : Boxed W0 w1.heap.size 27 (.slice none 0 0) := by rw [← hW0]; exact (((Boxed.new w1 _ _).alloc _).alloc _).alloc _
    have bM : Boxed W0 (w1.heap.size + 1 + 1) 84 (.map (some (w1.heap.size + 1))) := by
      rw [← hW0]
      have h := (Boxed.new ((w1.alloc (.cells #[.slice none 0 0] 27)).alloc (.map #[] 0)) 84 (.map (some (w1.heap.size + 1)))).alloc (.cells #[.string t] 9)
      simpa using h
    have bP : Boxed W0 (w1.heap.size + 1 + 1 + 1) 9 (.string t) := by
      rw [← hW0]
      have h := Boxed.new (((w1.alloc (.cells #[.slice none 0 0] 27)).alloc (.map #[] 0)).alloc (.cells #[.map (some (w1.heap.size + 1))] 84)) 9 (.string t)
      simpa using h
    have hs1 : w1.heap.size + 1 + 1 + 1 < W0.heap.size := bP.lt
    have hM : W0.ownsMap (H := Nat) Try.prog 9 unitElem (w1.heap.size + 1) 0 (.map []) := by
      rw [← hW0]
      have h := ((World.ownsMap_made (H := Nat) (w1.alloc (.cells #[.slice none 0 0] 27)) Try.prog 9 unitElem).alloc (.cells #[.map (some (w1.heap.size + 1))] 84)).alloc (.cells #[.string t] 9)
      simpa using h
    have hI : SubI w t w1.heap.size [] W0 := by
      refine ⟨⟨⟨_, bL, World.ownsRow_nil _ _ _ _, trivial⟩, ?_, ?_⟩, bM, hM⟩
      · rw [← hW0]; exact (((bT1.alloc _).alloc _).alloc _).alloc _
      · rw [← hW0]
        exact ((((((Below.refl _ w).alloc (Nat.le_refl _) _).trans (b1.mono (Nat.le_succ _))).alloc (by omega) _).alloc (by simp; omega) _).alloc (by simp; omega) _).alloc (by simp; omega) _
    rw [hW0]
    have hw0 : w.heap.size ≤ W0.heap.size := by omega
    have hBL : w.heap.size + 1 ≤ w1.heap.size := hb1
    have hBL2 : w1.heap.size + 1 < W0.heap.size := by omega
    clear hW0 b1 bT1 cT1 hs1 hb1 bL bM hM
    generalize w1.heap.size = BL at *
    refine wpIn_places t ht (BL + 1 + 1 + 1) bP rfl (SubI w t BL) (fun _ _ _ => False) (subI_own w t BL _ hw0 hBL2) (fun c => fun _ _ _ _ h _ _ => h) hI
      (PlAx w.heap.size (fun b x => { tmps := #[.string t, .pointer (some ⟨w.heap.size, 0, none⟩), .slice none 0 0, .pointer (some ⟨BL, 0, none⟩), .pointer (some ⟨BL + 1 + 1, 0, none⟩), .pointer (some ⟨b, 0, none⟩), undef, undef, undef, .string t, .slice (some ⟨w.heap.size + 1, 0, none⟩) 1 1, .bool true, .bool false, .map (some (BL + 1)), .string t, .func (.func 77) #[] #[.pointer (some ⟨BL + 1 + 1 + 1, 0, none⟩)], encPl x, undef, undef, undef, undef, undef, undef, undef, undef, undef, undef, undef, undef, undef, undef, undef, undef, undef, undef, undef, undef], defers := [] }))
      (plAx_own _ _ _) ?assign ?body ?done ?stop ?throw
    case assign =>
      intro m l pre x W K hi hK
      have hzr := Lib.hid hK
      clear hK
      unfold encPl cellsPl
      gi_wp2
      exact hzr.out _ _ ((KeepsOthers.alloc _ _).from _) (KeepP.alloc _ _) ((subI_own w t BL W0.heap.size hw0 hBL2).alloc _ hi) ⟨W.heap.size, hi.1.2.2.size, World.alloc_heap_new _ _, rfl⟩
    case body =>
      rintro m l pre x a' W hl hi ⟨b, hb, hbx, rfl⟩ hpre
      have hx0 := (place_cells hbx).1
      have hok := (vis_any t x pre hpre).1
      rw [bl_length] at hok
      have hle := hcnt _ hpre
      rw [List.length_append, List.length_singleton] at hle
      have hlp := subL_len t pre
      have HC := Lib.hid (fun V => termat_any t x.at_ hok ht V)
      rw [show t.extract x.at_ (x.at_ + (frontP ((bl t).drop x.at_)).1) = ptT t x from rfl] at HC
      have hkey : keyOf Try.prog 9 (.string (ptT t x)) = some (.string (ptT t x).data.toList) := key9 _ (Nat.le_trans (ptT_size t x) ht)
      have HN : Hid (subL t (pre ++ [x]) = onceF (subL t pre) (ptT t x)) := Lib.hid (subL_snoc t pre x)
      generalize ptT t x = y at *
      have cT := hi.1.2.1.cell
      have HI := Lib.hid hi
      have HX := Lib.hid hbx
      obtain ⟨i0, hi0, hz0, hz1, hz2⟩ := info_parts infoStr6
      clear hi hbx hpre
      by_cases hm : y ∈ subL t pre
      · have hh : Maps.has (setD (subL t pre)) (.string y.data.toList) = true := (has_setD _ _).2 hm
        have HM := Lib.hid hm
        clear hm
        gi_wp2_with (first | (refine ⟨trivial, hdd _, ?_⟩; gi_at_call 55; refine (callsIn_wide.2 (HC.out _)).mono ?_; rintro e w2 ⟨rfl, b2⟩; have cM2 := (boxed_below HI.out.2.1 b2).cell; have hown2 := HI.out.2.2.kept (row := none) ⟨b2.os, b2.tape, b2.output, b2.size, fun k hk _ => b2.block k hk⟩ (by simp)) | (gi_at_lookup; refine wpListIn_lookup_own_unit _ rfl _ _ 84 rfl 9 85 keyed9 Try.underlying84 (zero85 _) (BL + 1) (subL t pre).length (setD (subL t pre)) rfl hown2 _ _ rfl hkey ?_; rw [hh]))
        have h2 := subI_own w t BL W0.heap.size hw0 hBL2 pre W w2 none HI.out ⟨b2.os, b2.tape, b2.output, b2.size, fun k hk _ => b2.block k hk⟩ (fun r e => by cases e)
        have h3 := (subI_own w t BL W0.heap.size hw0 hBL2).alloc (.cells #[] 85) h2
        refine ⟨((keepsOthers_below b2).trans (KeepsOthers.alloc _ _)).from _, (KeepP.of_below b2).trans (KeepP.alloc _ _), ?_⟩
        have he : subL t (pre ++ [x]) = subL t pre := HN.out.trans (onceF_yes HM.out)
        unfold SubI LstI at h3 ⊢
        rw [he]
        exact h3
      · have hh : Maps.has (setD (subL t pre)) (.string y.data.toList) = false := by
          cases e : Maps.has (setD (subL t pre)) (.string y.data.toList) with
          | false => rfl
          | true => exact absurd ((has_setD _ _).1 e) hm
        have HM := Lib.hid hm
        obtain ⟨⟨⟨v, hbv, hrow, _⟩, hbt, hbw⟩, hbm, hown⟩ := HI.out
        have HH := Lib.hid (And.intro hbv (And.intro hrow (And.intro hbt (And.intro hbw (And.intro hbm hown)))))
        clear hm hbv hrow hbt hbw hbm hown
        gi_wp2_with (first | (refine ⟨trivial, hdd _, ?_⟩; gi_at_call 55; refine (callsIn_wide.2 (HC.out _)).mono ?_; rintro e w2 ⟨rfl, b2⟩; have cM2 := (boxed_below HI.out.2.1 b2).cell; have cM3 := ((boxed_below HI.out.2.1 b2).alloc (.cells #[] 85)).cell; have hown2 := HI.out.2.2.kept (row := none) ⟨b2.os, b2.tape, b2.output, b2.size, fun k hk _ => b2.block k hk⟩ (by simp)) | (gi_at_lookup; refine wpListIn_lookup_own_unit _ rfl _ _ 84 rfl 9 85 keyed9 Try.underlying84 (zero85 _) (BL + 1) (subL t pre).length (setD (subL t pre)) rfl hown2 _ _ rfl hkey ?_; rw [hh]) | (gi_at_mapUpdate; refine wpListIn_mapUpdate_own _ rfl _ _ _ 84 rfl 9 85 keyed9 Try.underlying84 unitElem (BL + 1) (subL t pre).length (setD (subL t pre)) rfl (hown2.alloc _) (by unfold maxLen; omega) _ _ _ rfl rfl hkey (.agg []) [] unitElem_mk ?_; intro w4 hown4 hg4; have hU := (sub_updated (t := t) (hown2.alloc (.cells #[] 85)) ((boxed_below HH.out.1 b2).alloc _) (World.ownsRow.alloc (ownT_below HH.out.2.1 b2) _) ((boxed_below HH.out.2.2.1 b2).alloc _) ((below_step HH.out.2.2.2.1 b2).alloc (Nat.le_trans HH.out.2.2.2.1.size b2.size) _) ((boxed_below HH.out.2.2.2.2.1 b2).alloc _) hg4 hBL); have cV4 := hU.1.cell; have HU := Lib.hid hU; clear hU) | (gi_at_builtin; refine wpListIn_append_own _ rfl _ _ 27 rfl (w.heap.size + 1) 9 i0 (.string ⟨#[]⟩) 1 16 Try.underlying27 hi0 hz0 hz1 hz2 rfl (by decide) v (subL t pre).length (txts (subL t pre)) rfl (World.ownsRow.alloc HU.out.2.1 _) ⟨w4.heap.size, 0, none⟩ 1 1 [.string y] rfl rfl (one_row w4 y) (one_cell y) (by unfold maxLen; omega) (by omega) ?_ ?_))
        · rw [World.size_alloc]; have := HU.out.1.lt; omega
        intro v' w5 hown5 hgrow5 _
        obtain ⟨g, cap', rfl⟩ := ownsRow_succ hown5
        obtain ⟨u1, u2, u3, u4, u5, u6⟩ := HU.out
        have hown5' : OwnT w5 (w.heap.size + 1) (.slice (some ⟨g, 0, none⟩) ((subL t pre).length + 1) cap') (subL t pre ++ [y]) := by
          unfold OwnT
          rw [List.length_append, List.length_singleton, show txts (subL t pre ++ [y]) = txts (subL t pre) ++ [.string y] by simp [txts]]
          exact hown5
        obtain ⟨a1, a2, a3, a4, a5, a6⟩ := append_stored u1 u2 (Nat.le_of_lt (Nat.lt_of_le_of_lt hBL (u1.lt))) hBL hown5' hgrow5
        have cA := a1.cell
        have fA := a1.frozen
        have HA5 := Lib.hid (And.intro a2 (And.intro a3 (And.intro a4 (And.intro a5 a6))))
        have HU5 := Lib.hid (And.intro u3 (And.intro u4 (And.intro u5 u6)))
        have HM4 := Lib.hid hown4
        have HG4 := Lib.hid hg4
        have HG5 := Lib.hid hgrow5
        clear hown5 hown5' a1 a2 a3 a4 a5 a6 u1 u2 u3 u4 u5 u6 hown4 hg4 hgrow5
        gi_wp2
        obtain ⟨a2, a3, a4, a5, a6⟩ := HA5.out
        obtain ⟨u3, u4, u5, u6⟩ := HU5.out
        have hne : some (BL + 1) ≠ v.ownBlock := own_ne_map HU.out.2.1 HM4.out
        have h5 : Boxed w5 (BL + 1 + 1) 84 (.map (some (BL + 1))) := (u5.alloc _).kept HG5.out (u5.not_row (by decide) HU.out.2.1)
        have he : subL t (pre ++ [x]) = subL t pre ++ [y] := HN.out.trans (onceF_no HM.out)
        refine ⟨((((keepsOthers_below b2).trans (KeepsOthers.alloc _ _)).from _).trans (KeepsFrom.of_grownBy HG4.out (fun j e => by cases e; exact hBL2))).trans (a4.from _), (((KeepP.of_below b2).trans (KeepP.alloc _ _)).trans u6).trans a6, ?_⟩
        unfold SubI LstI
        rw [he, setD_snoc]
        refine ⟨⟨⟨_, a2, a3, trivial⟩, (a5.block _ (Nat.lt_succ_self _)).trans u3, u4.trans (a5.mono (Nat.le_succ _))⟩, h5.other (by omega) _, ?_⟩
        rw [List.length_append, List.length_singleton]
        exact World.ownsMap.setCell ((HM4.out.alloc _).kept HG5.out hne) (by simp) _
    case done =>
      rintro D W hD _ ⟨⟨⟨v, hb, hrow, _⟩, hbt, hbw⟩, _⟩ hK
      have hc := hb.cell
      obtain ⟨ao, cap, rfl, _⟩ := ownT_row (show OwnT W (w.heap.size + 1) v (subL t (vis t).1) from hrow)
      have HR := Lib.hid hrow
      clear hb hbt hrow
      gi_wp2
      exact leave_mark hK (results_tmp rfl _ _ _) ⟨.slice ao (subL t (vis t).1).length cap, subL t (vis t).1, rfl, ownT_low (ownsRow_putObj HR.out _ hK rfl) (Nat.le_succ _), HV.out, below_mark hbw (by omega) hK _⟩
    case stop =>
      rintro D c pre W hD hq h hK
      exact h.elim
    case throw =>
      rintro D W hD hz hi hK
      exact absurd HZ.out hz
  · rw [may_no hc] at HA
    have H1 : Hid (onceL (placesP (bl t)) = []) := Lib.hid (by unfold placesP; rw [treeOf_none hc]; rfl)
    rw [H1.out]
    clear hc
    refine callsIn_of_wp_marks Try.func46 rfl trivial ?_ rfl
    have hmm := @run_makeMap Try.prog
    simp only [Try.ntmps46, List.size_toArray, List.length_cons, List.length_nil, Nat.reduceAdd, Nat.reduceSub, Array.replicate_succ, Array.replicate_zero, List.push_toArray, List.append_toArray, List.nil_append, List.cons_append]
    gi_wp2_with (refine ⟨trivial, ?_⟩; gi_at_call 54; refine (callsIn_wide.2 HA.out).mono ?_; rintro e w1 ⟨rfl, b1⟩)
    exact ⟨_, results_tmp rfl _ _ _, _, [], rfl, ownT_nil _ _, rfl, ((Below.refl _ w).alloc (Nat.le_refl _) _).trans (b1.mono (Nat.le_succ _))⟩
end Go.Proofs.Ytfghhhghhjbiaaa.Pl
