/- What term's Size and Depth answer. -/
import Derived.Test.YtfghhhghhjbiaaaTermHeads
import Derived.Test.YtfghhhghhjbiaaaTermPlaces
namespace Go.Proofs.Ytfghhhghhjbiaaa.Pl
open Go.RowKit Go.Shelf
attribute [local go_sem] Oper.semAt_some

/-- The places of a term. -/
theorem vis_term {s : ByteArray} (h : checkP (bl s) = 0) : ∃ T : Tm, T.valid ∧ bl s = T.enc ∧ treeOf (bl s) = some T ∧ vis s = ((offT 0 1 T).map Prod.fst, T.enc.length, 0) := by
  obtain ⟨T, tv, te, tr⟩ := tree_of h
  refine ⟨T, tv, te, tr, ?_⟩
  have h1 := vis_tree (bl s) T tv.1 16 tv.2.1 (Nat.le_refl _) 0 [] (by rw [List.drop_zero, te, List.append_nil])
  rw [Nat.zero_add] at h1
  exact h1
theorem below_mark {B : Nat} {w V : World} {D : Nat} {o : Obj} (h : Below B w V) (hB : B ≤ D) (hD : V.heap[D]? = some o) (o' : Obj) : Below B w (V.putObj D o') :=
  h.grown (grownBy_putObj' V D o') (by have := (Array.getElem?_eq_some_iff.1 hD).1; omega) (fun k e => by cases e; exact hB)
theorem leave_mark {n : Nat} {fn : Func} {tmps : Array Value} {R : Ending → World → Prop} {D : Nat} {V : World} {v : Value} (hm : V.heap[D]? = some (.deferred (some [])))
    (h : (results fn tmps).run Try.prog (V.putObj D (.deferred none)) = .ok v (V.putObj D (.deferred none))) (hR : R (.returned v) (V.putObj D (.deferred none))) :
    LeavesInM Fence.wide n Try.prog fn tmps R [markOf D] .returning V :=
  ⟨by simp, .inl ⟨D, _, rfl, run_takeDeferred hm, v, h, hR⟩⟩
theorem vis_count {s : ByteArray} (h : checkP (bl s) = 0) (q : List Pl6) (hq : q <+: (vis s).1) : q.length ≤ 16384 := by
  obtain ⟨T, tv, te, tr, hv⟩ := vis_term h
  have h1 := hq.length_le
  rw [hv, List.length_map] at h1
  have h2 : (offT 0 1 T).length = T.places.length := by rw [← offs_snd T 0 1, List.length_map]
  have h3 := places_count T tv.1
  have h4 := tv.2.2
  omega

/-- A counter's box, and nothing below turned. -/
def CntI (w : World) (B : Nat) (f : List Pl6 → Nat) (pre : List Pl6) (W : World) : Prop := Boxed W B 3 (.int .i64 (f pre)) ∧ Below w.heap.size w W
theorem cntI_own (w : World) (B : Nat) (f : List Pl6 → Nat) (C : Nat) (h : w.heap.size ≤ C) : OwnFrom C (CntI w B f) :=
  OwnFrom.and (Own.from (boxed_own _ _ _) _) (ownFrom_below (Nat.le_refl _) h)

set_option maxRecDepth 100000 in
set_option maxHeartbeats 4000000 in
theorem size6_any (s : ByteArray) (hs : s.size ≤ 281474976710656) (w : World) :
    Calls Try.prog 22 #[.string s] w fun e w' => e = .returned (.int .i64 (sizeP (bl s))) ∧ Below w.heap.size w w' := by
  have HA := Lib.hid (are1_any s hs w)
  refine (callsIn_wide (n := 5)).1 ?_
  by_cases hc : checkP (bl s) = 0
  · rw [may_yes hc] at HA
    obtain ⟨T, tv, te, tr, hv⟩ := vis_term hc
    have hz : sizeP (bl s) = (vis s).1.length := by
      unfold sizeP; rw [tr, hv, List.length_map]
      show T.places.length = _
      rw [← offs_snd T 0 1, List.length_map]
    have hz0 : (vis s).2.2 = 0 := by rw [hv]
    have hcnt := vis_count hc
    rw [hz]
    clear tv te tr hv hz hc
    refine callsIn_of_wp_marks Try.func22 rfl trivial ?_ rfl
    simp only [Try.ntmps22, List.size_toArray, List.length_cons, List.length_nil, Nat.reduceAdd, Nat.reduceSub, Array.replicate_succ, Array.replicate_zero, List.push_toArray, List.append_toArray, List.nil_append, List.cons_append]
    gi_wp2_with (first | (refine ⟨trivial, ?_⟩; gi_at_call 54; refine (callsIn_wide.2 HA.out).mono ?_; rintro e w1 ⟨rfl, b1⟩) | (refine ⟨trivial, ?_⟩; gi_at_call 49; refine (callsIn_wide.2 (places_in s _)).mono ?_; rintro e w2 ⟨rfl, rfl⟩))
    obtain ⟨W0, hW0⟩ : ∃ W0, (w1.alloc (.cells #[.int .i64 0] 3)).alloc (.cells #[.string s] 9) = W0 := ⟨_, rfl⟩
    have bN : Boxed W0 w1.heap.size 3 (.int .i64 0) := by rw [← hW0]; exact (Boxed.new w1 _ _).alloc _
    have bS : Boxed W0 (w1.heap.size + 1) 9 (.string s) := by rw [← hW0]; have h := Boxed.new (w1.alloc (.cells #[.int .i64 0] 3)) 9 (.string s); simpa using h
    have hB0 : Below w.heap.size w W0 := by rw [← hW0]; exact (b1.alloc b1.size _).alloc (by have := b1.size; simp; omega) _
    have hsz : W0.heap.size = w1.heap.size + 2 := by rw [← hW0]; simp
    have hb1 := b1.size
    rw [hW0]
    clear hW0 b1
    refine wpIn_places s hs (w1.heap.size + 1) bS rfl (CntI w w1.heap.size List.length) (fun _ _ _ => False) (cntI_own w _ _ _ (by omega)) (fun c => fun _ _ _ _ h _ _ => h) ⟨bN, hB0⟩
      (fun x a' W => a' = { tmps := #[.string s, undef, .int .i64 0, .pointer (some ⟨w1.heap.size, 0, none⟩), .string s, .slice (some ⟨w.heap.size, 0, none⟩) 1 1, .bool true, .bool false, .string s, .func (.func 77) #[] #[.pointer (some ⟨w1.heap.size + 1, 0, none⟩)], encPl x, undef, undef, undef], defers := [] })
      (fun x a' _ _ _ _ h _ _ => h) ?assign ?body ?done ?stop ?throw
    case assign =>
      intro m l pre x W K hi hK
      have hzr := Lib.hid hK
      clear hK
      gi_wp2
      exact hzr.out _ _ (KeepsFrom.refl _ _) (KeepP.refl _) hi rfl
    case body =>
      rintro m l pre x a' W hl ⟨hb, hbw⟩ rfl hpre
      have hc := hb.cell
      have hf := hb.frozen
      have hle := hcnt _ hpre
      rw [List.length_append, List.length_singleton] at hle
      have HB := Lib.hid hb
      clear hb hpre
      gi_wp2
      refine ⟨(KeepsOthers.setCell _ _ _).from _, KeepP.setBox HB.out (by decide) _, ?_, hbw.setCell (p := ⟨w1.heap.size, 0, none⟩) hb1 _⟩
      rw [List.length_append, List.length_singleton]
      exact HB.out.set _
    case done =>
      rintro D W hD _ ⟨hb, hbw⟩ hK
      have hc := hb.cell
      obtain ⟨n, hn⟩ : ∃ n, n = (vis s).1.length := ⟨_, rfl⟩
      rw [← hn] at hc
      have HN := Lib.hid hn
      clear hb hn
      gi_wp2
      exact leave_mark hK (results_tmp rfl _ _ _) ⟨by rw [← HN.out]; rfl, below_mark hbw (by omega) hK _⟩
    case stop =>
      rintro D c pre W hD hq h hK
      exact h.elim
    case throw =>
      rintro D W hD hz hi hK
      exact absurd hz0 hz
  · rw [may_no hc] at HA
    have H1 : Hid (sizeP (bl s) = 0) := Lib.hid (by unfold sizeP; rw [treeOf_none hc])
    rw [H1.out]
    clear hc
    refine callsIn_of_wp_marks Try.func22 rfl trivial ?_ rfl
    simp only [Try.ntmps22, List.size_toArray, List.length_cons, List.length_nil, Nat.reduceAdd, Nat.reduceSub, Array.replicate_succ, Array.replicate_zero, List.push_toArray, List.append_toArray, List.nil_append, List.cons_append]
    gi_wp2_with (refine ⟨trivial, ?_⟩; gi_at_call 54; refine (callsIn_wide.2 HA.out).mono ?_; rintro e w1 ⟨rfl, b1⟩)
    exact ⟨_, results_tmp rfl _ _ _, rfl, b1⟩

/-- How deep the deepest is. -/
def deepL (l : List Pl6) : Nat := (l.map fun x => x.dep).foldl max 0
theorem deepL_snoc (l : List Pl6) (x : Pl6) : deepL (l ++ [x]) = max (deepL l) x.dep := by
  unfold deepL; rw [List.map_append, List.foldl_append]; rfl
theorem deepL_le (l : List Pl6) (h : ∀ x ∈ l, x.dep ≤ 16) : deepL l ≤ 16 := by
  have hh : ∀ (l : List Pl6) (a : Nat), a ≤ 16 → (∀ x ∈ l, x.dep ≤ 16) → (l.map fun x => x.dep).foldl max a ≤ 16 := by
    intro l
    induction l with
    | nil => intro a ha _; exact ha
    | cons x l ih => intro a ha hx; exact ih _ (show max a x.dep ≤ 16 by have := hx x (List.mem_cons_self ..); omega) (fun y hy => hx y (List.mem_cons_of_mem _ hy))
  exact hh l 0 (by decide) h

set_option maxRecDepth 100000 in
set_option maxHeartbeats 4000000 in
theorem depth6_any (s : ByteArray) (hs : s.size ≤ 281474976710656) (w : World) :
    Calls Try.prog 24 #[.string s] w fun e w' => e = .returned (.int .i64 (depthP (bl s))) ∧ Below w.heap.size w w' := by
  have HA := Lib.hid (are1_any s hs w)
  refine (callsIn_wide (n := 5)).1 ?_
  by_cases hc : checkP (bl s) = 0
  · rw [may_yes hc] at HA
    obtain ⟨T, tv, te, tr, hv⟩ := vis_term hc
    have hz : depthP (bl s) = deepL (vis s).1 := by
      unfold depthP deepL; rw [tr, hv, List.map_map]
      have := offs_deep T 0 1 (by decide)
      rw [Nat.sub_self, Nat.zero_add] at this
      exact this.symm
    have hz0 : (vis s).2.2 = 0 := by rw [hv]
    rw [hz]
    clear tv te tr hv hz hc
    refine callsIn_of_wp_marks Try.func24 rfl trivial ?_ rfl
    simp only [Try.ntmps24, List.size_toArray, List.length_cons, List.length_nil, Nat.reduceAdd, Nat.reduceSub, Array.replicate_succ, Array.replicate_zero, List.push_toArray, List.append_toArray, List.nil_append, List.cons_append]
    gi_wp2_with (first | (refine ⟨trivial, ?_⟩; gi_at_call 54; refine (callsIn_wide.2 HA.out).mono ?_; rintro e w1 ⟨rfl, b1⟩) | (refine ⟨trivial, ?_⟩; gi_at_call 49; refine (callsIn_wide.2 (places_in s _)).mono ?_; rintro e w2 ⟨rfl, rfl⟩))
    obtain ⟨W0, hW0⟩ : ∃ W0, (w1.alloc (.cells #[.int .i64 0] 3)).alloc (.cells #[.string s] 9) = W0 := ⟨_, rfl⟩
    have bN : Boxed W0 w1.heap.size 3 (.int .i64 0) := by rw [← hW0]; exact (Boxed.new w1 _ _).alloc _
    have bS : Boxed W0 (w1.heap.size + 1) 9 (.string s) := by rw [← hW0]; have h := Boxed.new (w1.alloc (.cells #[.int .i64 0] 3)) 9 (.string s); simpa using h
    have hB0 : Below w.heap.size w W0 := by rw [← hW0]; exact (b1.alloc b1.size _).alloc (by have := b1.size; simp; omega) _
    have hsz : W0.heap.size = w1.heap.size + 2 := by rw [← hW0]; simp
    have hb1 := b1.size
    rw [hW0]
    clear hW0 b1
    refine wpIn_places s hs (w1.heap.size + 1) bS rfl (CntI w w1.heap.size deepL) (fun _ _ _ => False) (cntI_own w _ _ _ (by omega)) (fun c => fun _ _ _ _ h _ _ => h) ⟨bN, hB0⟩
      (PlAx (w1.heap.size + 1) (fun b x => { tmps := #[.string s, undef, .int .i64 0, .pointer (some ⟨w1.heap.size, 0, none⟩), .pointer (some ⟨b, 0, none⟩), .string s, .slice (some ⟨w.heap.size, 0, none⟩) 1 1, .bool true, .bool false, .string s, .func (.func 77) #[] #[.pointer (some ⟨w1.heap.size + 1, 0, none⟩)], encPl x, undef, undef, undef, undef, undef], defers := [] }))
      (plAx_own _ _ _) ?assign ?body ?done ?stop ?throw
    case assign =>
      intro m l pre x W K hi hK
      have hzr := Lib.hid hK
      clear hK
      unfold encPl cellsPl
      gi_wp2
      have hlt := hi.1.lt
      exact hzr.out _ _ ((KeepsOthers.alloc _ _).from _) (KeepP.alloc _ _) ((cntI_own w _ _ W0.heap.size (by omega)).alloc _ hi) ⟨W.heap.size, by omega, World.alloc_heap_new _ _, rfl⟩
    case body =>
      rintro m l pre x a' W hl ⟨hb, hbw⟩ ⟨b, hbb, hbx, rfl⟩ hpre
      have hx1 := (place_cells hbx).2.1
      have hc := hb.cell
      have hf := hb.frozen
      have hle : deepL pre ≤ 16 := deepL_le _ (fun y hy => by
        have := (vis_ok (bl s) 16 0 (Nat.le_refl _) (Nat.zero_le _)).1 y (hpre.subset (List.mem_append_left _ hy))
        exact this.2.2.2.1)
      have hxd : x.dep ≤ 16 := (vis_any s x pre hpre).2.2.2.1
      have HB := Lib.hid hb
      have HE : Hid (deepL (pre ++ [x]) = max (deepL pre) x.dep) := Lib.hid (deepL_snoc _ _)
      generalize deepL pre = dp at *
      clear hb hpre hbx
      gi_wp2
      refine ⟨(KeepsOthers.setCell _ _ _).from _, KeepP.setBox HB.out (by decide) _, ?_, hbw.setCell (p := ⟨w1.heap.size, 0, none⟩) hb1 _⟩
      have hmx : ((max dp x.dep : Nat) : Int) = max (dp : Int) (x.dep : Int) := by omega
      rw [HE.out, hmx]
      exact HB.out.set _
    case done =>
      rintro D W hD _ ⟨hb, hbw⟩ hK
      have hc := hb.cell
      obtain ⟨n, hn⟩ : ∃ n, n = deepL (vis s).1 := ⟨_, rfl⟩
      rw [← hn] at hc
      have HN := Lib.hid hn
      clear hb hn
      gi_wp2
      exact leave_mark hK (results_tmp rfl _ _ _) ⟨by rw [← HN.out]; rfl, below_mark hbw (by omega) hK _⟩
    case stop =>
      rintro D c pre W hD hq h hK
      exact h.elim
    case throw =>
      rintro D W hD hz hi hK
      exact absurd hz0 hz
  · rw [may_no hc] at HA
    have H1 : Hid (depthP (bl s) = 0) := Lib.hid (by unfold depthP; rw [treeOf_none hc])
    rw [H1.out]
    clear hc
    refine callsIn_of_wp_marks Try.func24 rfl trivial ?_ rfl
    simp only [Try.ntmps24, List.size_toArray, List.length_cons, List.length_nil, Nat.reduceAdd, Nat.reduceSub, Array.replicate_succ, Array.replicate_zero, List.push_toArray, List.append_toArray, List.nil_append, List.cons_append]
    gi_wp2_with (refine ⟨trivial, ?_⟩; gi_at_call 54; refine (callsIn_wide.2 HA.out).mono ?_; rintro e w1 ⟨rfl, b1⟩)
    exact ⟨_, results_tmp rfl _ _ _, rfl, b1⟩
end Go.Proofs.Ytfghhhghhjbiaaa.Pl
