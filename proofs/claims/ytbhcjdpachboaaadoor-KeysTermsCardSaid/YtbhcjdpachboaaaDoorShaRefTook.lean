/- What the document's consts and took answer. -/
import Derived.Test.YtbhcjdpachboaaaDoorShaRefWords
import Derived.Deep.CutRange
namespace Go.Proofs.YtbhcjdpachboaaaDoor.Pl
open Go.RowKit

theorem wpList_build_eq {P : Program} {ops : Array Oper} {rest : List Oper} {o : Oper} {a : Act} {w : World} {Q : Exit → Act → World → Prop} (hg : o.guard = none) (t : TypeId) (parts : Array (Nat × Operand)) (ho : o.op = .build t parts)
    (cells : Array Value) (hf : P.built t (parts.map fun (i, x) => (i, a.eval x)).toList = some cells)
    (h : wpList P ops Q rest (a.put o.dst (.agg cells)) w) : wpList P ops Q (o :: rest) a w :=
  wpList_build hg t parts ho (by rw [hf]; rfl) (by rw [hf]; exact h)

set_option maxRecDepth 100000 in
theorem consts_any (w : World) : Calls Tryd.prog 63 #[] w fun e w' => e = .returned (.agg (row .u32 KL)) ∧ Below w.heap.size w w' := by
  have hs : (Tryd.prog.info? 99).map (·.size) = some (row .u32 KL).size := by rw [row_size, KL_length]; kernel_rfl
  have HS := Lib.hid hs
  have HN := Lib.hid (Go.heap_alloc_new w (.cells (row .u32 (List.replicate 64 0)) 99))
  have hl : (row .u32 (List.replicate 64 0)).size = (row .u32 KL).size := by rw [row_size, row_size, KL_length, List.length_replicate]
  have HLN := Lib.hid hl
  clear hs hl
  go_enter Tryd.func63, Tryd.ntmps63
  go_wp2_with (first
    | (refine wpList_build_eq rfl 99 _ rfl (row .u32 KL) (by kernel_rfl) ?_)
    | (refine wpList_store_row rfl 99 _ _ rfl w.heap.size (row .u32 KL) rfl rfl 99 _ HN.out HS.out HLN.out (row_one _ _) ?_))
  rw [World.setRow_alloc_new]
  refine bodyPost_ret (v := .agg (row .u32 KL)) ?_ rfl ⟨rfl, (Below.refl _ _).alloc (Nat.le_refl _) _⟩
  exact results_cell_row rfl _ _ w.heap.size 99 _ (0, 0) _ rfl (Go.heap_alloc_new _ _) Tryd.underlying99 rfl HS.out
theorem turn_2q (x : Nat) (hx : x < 4294967296) (w : World) (n : Nat) : Calls Tryd.prog 64 #[.int .u32 x, .int .u64 2] (w.drewN n) fun e w'' => e = .returned (.int .u32 (rr 2 x : Nat)) ∧ ∃ m, w'' = w.drewN m :=
  Calls.quiet_of_same (turn_2 x hx _)
theorem turn_6q (x : Nat) (hx : x < 4294967296) (w : World) (n : Nat) : Calls Tryd.prog 64 #[.int .u32 x, .int .u64 6] (w.drewN n) fun e w'' => e = .returned (.int .u32 (rr 6 x : Nat)) ∧ ∃ m, w'' = w.drewN m :=
  Calls.quiet_of_same (turn_6 x hx _)
theorem turn_11q (x : Nat) (hx : x < 4294967296) (w : World) (n : Nat) : Calls Tryd.prog 64 #[.int .u32 x, .int .u64 11] (w.drewN n) fun e w'' => e = .returned (.int .u32 (rr 11 x : Nat)) ∧ ∃ m, w'' = w.drewN m :=
  Calls.quiet_of_same (turn_11 x hx _)
theorem turn_13q (x : Nat) (hx : x < 4294967296) (w : World) (n : Nat) : Calls Tryd.prog 64 #[.int .u32 x, .int .u64 13] (w.drewN n) fun e w'' => e = .returned (.int .u32 (rr 13 x : Nat)) ∧ ∃ m, w'' = w.drewN m :=
  Calls.quiet_of_same (turn_13 x hx _)
theorem turn_22q (x : Nat) (hx : x < 4294967296) (w : World) (n : Nat) : Calls Tryd.prog 64 #[.int .u32 x, .int .u64 22] (w.drewN n) fun e w'' => e = .returned (.int .u32 (rr 22 x : Nat)) ∧ ∃ m, w'' = w.drewN m :=
  Calls.quiet_of_same (turn_22 x hx _)
theorem turn_25q (x : Nat) (hx : x < 4294967296) (w : World) (n : Nat) : Calls Tryd.prog 64 #[.int .u32 x, .int .u64 25] (w.drewN n) fun e w'' => e = .returned (.int .u32 (rr 25 x : Nat)) ∧ ∃ m, w'' = w.drewN m :=
  Calls.quiet_of_same (turn_25 x hx _)

theorem rnd_list (k x a b c d e f g h : Nat) : (rnd k x ⟨a, b, c, d, e, f, g, h⟩).list = [add32 (T1 e f g h k x) (T2 a b c), a, b, c, add32 d (T1 e f g h k x), e, f, g] := by rw [rnd, S8.list]
/-- Eight stores, one a cell. -/
def put8 (w : World) (g : Nat) (v0 v1 v2 v3 v4 v5 v6 v7 : Value) : World :=
  (((((((w.setCell ⟨g, 0, none⟩ v0).setCell ⟨g, 1, none⟩ v1).setCell ⟨g, 2, none⟩ v2).setCell ⟨g, 3, none⟩ v3).setCell ⟨g, 4, none⟩ v4).setCell ⟨g, 5, none⟩ v5).setCell ⟨g, 6, none⟩ v6).setCell ⟨g, 7, none⟩ v7
theorem set8 {w : World} {gg a b c d e f g h : Nat} {t : TypeId} (hh : w.heap[gg]? = some (.cells (row .u32 [a, b, c, d, e, f, g, h]) t (0, 0))) (v0 v1 v2 v3 v4 v5 v6 v7 : Nat) :
    (put8 w gg (.int .u32 v0) (.int .u32 v1) (.int .u32 v2) (.int .u32 v3) (.int .u32 v4) (.int .u32 v5) (.int .u32 v6) (.int .u32 v7)).heap[gg]? = some (.cells (row .u32 [v0, v1, v2, v3, v4, v5, v6, v7]) t (0, 0)) :=
  heap_step (heap_step (heap_step (heap_step (heap_step (heap_step (heap_step (heap_step hh v0) v1) v2) v3) v4) v5) v6) v7
theorem keep8 {w : World} {gg b : Nat} {o : Option Obj} {v0 v1 v2 v3 v4 v5 v6 v7 : Value} (h : w.heap[b]? = o) (hb : b ≠ gg) : (put8 w gg v0 v1 v2 v3 v4 v5 v6 v7).heap[b]? = o :=
  heap_keep (heap_keep (heap_keep (heap_keep (heap_keep (heap_keep (heap_keep (heap_keep h hb) hb) hb) hb) hb) hb) hb) hb
theorem below8 {B : Nat} {w0 w : World} {gg : Nat} {v0 v1 v2 v3 v4 v5 v6 v7 : Value} (h : Below B w0 w) (hb : B ≤ gg) : Below B w0 (put8 w gg v0 v1 v2 v3 v4 v5 v6 v7) :=
  (((((((h.setCell hb _).setCell hb _).setCell hb _).setCell hb _).setCell hb _).setCell hb _).setCell hb _).setCell hb _
theorem first_int (a b c e f g h k x : Nat) : ((h : Int) + (Sg1 e : Nat) + (ch e f g : Nat) + k + x + ((Sg0 a : Nat) + (mj a b c : Nat))) % 4294967296 = (add32 (T1 e f g h k x) (T2 a b c) : Nat) := by
  rw [add32, T1, T2]; omega
theorem fifth_int (d e f g h k x : Nat) : ((d : Int) + ((h : Int) + (Sg1 e : Nat) + (ch e f g : Nat) + k + x)) % 4294967296 = (add32 d (T1 e f g h k x) : Nat) := by
  rw [add32, T1]; omega
set_option maxHeartbeats 1000000 in
set_option maxRecDepth 100000 in
theorem took_any (s : S8) (hs : s.fits) (B : ByteArray) (hB : B.size = 64) (w : World) :
    Calls Tryd.prog 57 #[.agg (row .u32 s.list), .string B] w fun e w' => e = .returned (.agg (row .u32 (proc s (nums B)).list)) ∧ Below w.heap.size w w' := by
  have HB := Lib.hid hB
  have HF := Lib.hid hs
  have hs35 : (Tryd.prog.info? 91).map (·.size) = some (row .u32 s.list).size := by rw [row_size]; kernel_rfl
  have hsw : (Tryd.prog.info? 99).map (·.size) = some (row .u32 (wds (nums B))).size := by rw [row_size, wds_length]; kernel_rfl
  have hsk : (Tryd.prog.info? 99).map (·.size) = some (row .u32 KL).size := by rw [row_size, KL_length]; kernel_rfl
  have HS35 := Lib.hid hs35
  have HSW := Lib.hid hsw
  have HSK := Lib.hid hsk
  clear hs35 hsw hsk hB hs
  go_enter Tryd.func57, Tryd.ntmps57
  go_upto_region 1 with fail
  go_cut [5, 6] from 14 to 16 (fun p5 p6 wx => ∃ g5 g6, p5 = .pointer (some ⟨g5, 0, none⟩) ∧ p6 = .pointer (some ⟨g6, 0, none⟩) ∧ Hid (wx.heap[w.heap.size]? = some (.cells (row .u32 s.list) 91 (0, 0))) ∧ Hid (wx.heap[w.heap.size + 1]? = some (.cells (row .u32 (List.replicate 8 0)) 91 (0, 0))) ∧
    Hid (wx.heap[g5]? = some (.cells (row .u32 (wds (nums B))) 99 (0, 0))) ∧ Hid (wx.heap[g6]? = some (.cells (row .u32 KL) 99 (0, 0))) ∧ Hid (Below w.heap.size w wx))
  case first =>
    go_wp2_with fail
    refine (refwords_any B HB.out _).mono ?_; rintro e w1 ⟨rfl, hb1⟩
    have hb1' : Below ((w.alloc (.cells (row .u32 s.list) 91)).alloc (.cells (row .u32 (List.replicate 8 0)) 91)).heap.size ((w.alloc (.cells (row .u32 s.list) 91)).alloc (.cells (row .u32 (List.replicate 8 0)) 91)) w1 := hb1
    have k0 := heap_below hb1' (heap2_0 _ _ _)
    have k1 := heap_below hb1' (heap2_1 _ _ _)
    have kb := below_step (below2 _ _ _) hb1'
    have hz := hb1'.size
    rw [size_alloc', size_alloc'] at hz
    clear hb1 hb1'
    have K0 := Lib.hid k0
    have K1 := Lib.hid k1
    have KB := Lib.hid kb
    clear k0 k1 kb
    go_wp2_with fail
    refine (consts_any _).mono ?_; rintro e w2 ⟨rfl, hb2⟩
    have L0 := Lib.hid (heap_below hb2 K0.out)
    have L1 := Lib.hid (heap_below hb2 K1.out)
    have LB := Lib.hid (below_step KB.out hb2)
    have hz2 := hb2.size
    clear hb2
    have N0 := Lib.hid (heap2_0 w2 (.cells (row .u32 (List.replicate 64 0)) 99) (.cells (row .u32 (List.replicate 64 0)) 99))
    have N1 := Lib.hid (heap_setRow (heap2_1 w2 (.cells (row .u32 (List.replicate 64 0)) 99) (.cells (row .u32 (List.replicate 64 0)) 99)) (g := w2.heap.size) (by omega) (row .u32 (wds (nums B))))
    go_wp2_with (first
      | (refine wpList_store_row rfl 99 _ _ rfl w2.heap.size (row .u32 (wds (nums B))) rfl rfl 99 (row .u32 (List.replicate 64 0)) N0.out HSW.out (by rw [row_size, row_size, wds_length, List.length_replicate]) (row_one _ _) ?_)
      | (refine wpList_store_row rfl 99 _ _ rfl (w2.heap.size + 1) (row .u32 KL) rfl rfl 99 (row .u32 (List.replicate 64 0)) N1.out HSK.out (by rw [row_size, row_size, KL_length, List.length_replicate]) (row_one _ _) ?_))
    go_meet
    exact ⟨w2.heap.size, w2.heap.size + 1, rfl, rfl, Lib.hid (heap_setRow (heap_setRow (heap_alloc (heap_alloc L0.out _) _) (by omega) _) (by omega) _), Lib.hid (heap_setRow (heap_setRow (heap_alloc (heap_alloc L1.out _) _) (by omega) _) (by omega) _),
      Lib.hid (heap_setRow (setRow_heap _ _ _ _ _ _ N0.out) (by omega) _), Lib.hid (setRow_heap _ _ _ _ _ _ N1.out), Lib.hid (below_setRow (below_setRow ((LB.out.alloc (by have := LB.out.size; omega) _).alloc (by have := LB.out.size; rw [size_alloc']; omega) _) (by have := LB.out.size; omega) _) (by have := LB.out.size; omega) _)⟩
  case rest =>
    obtain ⟨g5, g6, rfl, rfl, h2, h4, h5, h6, hbw⟩ := hcut
    have N7 := Lib.hid (Go.heap_alloc_new wc (.cells (row .u32 (List.replicate 8 0)) 91))
    go_wp2_with (first
      | (refine wpList_load_row rfl 91 _ rfl w.heap.size rfl 91 _ _ _ h2.out Tryd.underlying91 rfl HS35.out ?_)
      | (refine wpList_store_row rfl 91 _ _ rfl wc.heap.size (row .u32 s.list) rfl rfl 91 (row .u32 (List.replicate 8 0)) N7.out HS35.out (by rw [row_size, row_size]; rfl) (row_one _ _) ?_))
    rw [World.setRow_alloc_new]
    have hsz := hbw.out.size
    obtain ⟨g7, eg7⟩ : ∃ g7, g7 = wc.heap.size := ⟨_, rfl⟩
    have lt2 := (Array.getElem?_eq_some_iff.1 h2.out).1
    have lt4 := (Array.getElem?_eq_some_iff.1 h4.out).1
    have lt5 := (Array.getElem?_eq_some_iff.1 h5.out).1
    have lt6 := (Array.getElem?_eq_some_iff.1 h6.out).1
    have M2 := Lib.hid (heap_alloc h2.out (.cells (row .u32 s.list) 91))
    have M4 := Lib.hid (heap_alloc h4.out (.cells (row .u32 s.list) 91))
    have M5 := Lib.hid (heap_alloc h5.out (.cells (row .u32 s.list) 91))
    have M6 := Lib.hid (heap_alloc h6.out (.cells (row .u32 s.list) 91))
    have M7 := Lib.hid (Go.heap_alloc_new wc (.cells (row .u32 s.list) 91))
    have MB := Lib.hid (hbw.out.alloc (by omega) (.cells (row .u32 s.list) 91))
    rw [← eg7] at M7 lt2 lt4 lt5 lt6
    have n2 : Hid (w.heap.size ≠ g7) := Lib.hid (by omega)
    have n4 : Hid (w.heap.size + 1 ≠ g7) := Lib.hid (by omega)
    have n5 : Hid (g5 ≠ g7) := Lib.hid (by omega)
    have n6 : Hid (g6 ≠ g7) := Lib.hid (by omega)
    have n7 : Hid (w.heap.size ≤ g7) := Lib.hid (by omega)
    rw [← eg7]
    generalize wc.alloc (.cells (row .u32 s.list) 91) = W at *
    clear N7 hsz lt2 lt4 lt5 lt6 eg7 h2 h4 h5 h6 hbw
    go_loopw [8] (fun i wr => ∃ (t : Nat) (q : S8), t ≤ 64 ∧ i = .int .i64 t ∧ Hid (q = rn (wds (nums B)) s t) ∧ Hid (wr.heap[w.heap.size]? = some (.cells (row .u32 s.list) 91 (0, 0))) ∧ Hid (wr.heap[w.heap.size + 1]? = some (.cells (row .u32 (List.replicate 8 0)) 91 (0, 0))) ∧
      Hid (wr.heap[g5]? = some (.cells (row .u32 (wds (nums B))) 99 (0, 0))) ∧ Hid (wr.heap[g6]? = some (.cells (row .u32 KL) 99 (0, 0))) ∧ Hid (wr.heap[g7]? = some (.cells (row .u32 q.list) 91 (0, 0))) ∧ Hid (Below w.heap.size w wr)) (fun i _ => 64 - (intOf i).toNat)
    case atStart => exact ⟨0, s, by omega, rfl, Lib.hid rfl, M2, M4, M5, M6, M7, MB⟩
    case round =>
      clear M2 M4 M5 M6 M7 MB
      obtain ⟨t, q, ht, rfl, hq, R2, R4, R5, R6, R7, RB⟩ := hrel
      by_cases hlt : t < 64
      · obtain ⟨l1, l2, l3, l4, l5, l6, l7, l8⟩ := (show q.fits by rw [hq.out]; exact rn_fits _ HF.out t)
        have HQ : Hid (rn (wds (nums B)) s (t + 1) = rnd (KL.getD t 0) ((wds (nums B)).getD t 0) q) := Lib.hid (by rw [hq.out]; rfl)
        obtain ⟨k, EK⟩ : ∃ k, Hid (KL.getD t 0 = k) := ⟨_, Lib.hid rfl⟩
        obtain ⟨x, EX⟩ : ∃ x, Hid ((wds (nums B)).getD t 0 = x) := ⟨_, Lib.hid rfl⟩
        have HQ' : Hid (rn (wds (nums B)) s (t + 1) = rnd k x q) := Lib.hid (by rw [← EK.out, ← EX.out]; exact HQ.out)
        clear HQ hq
        obtain ⟨a, b, c, d, e, f, g, h⟩ := q
        dsimp only at *
        have R7 : Hid (wr.heap[g7]? = some (.cells (row .u32 [a, b, c, d, e, f, g, h]) 91 (0, 0))) := R7
        have c0 : wr.cell? ⟨g7, 0, none⟩ = some (.int .u32 a) := (at_row (l := [a, b, c, d, e, f, g, h]) R7.out 0 (by simp)).1
        have c1 : wr.cell? ⟨g7, 1, none⟩ = some (.int .u32 b) := (at_row (l := [a, b, c, d, e, f, g, h]) R7.out 1 (by simp)).1
        have c2 : wr.cell? ⟨g7, 2, none⟩ = some (.int .u32 c) := (at_row (l := [a, b, c, d, e, f, g, h]) R7.out 2 (by simp)).1
        have c3 : wr.cell? ⟨g7, 3, none⟩ = some (.int .u32 d) := (at_row (l := [a, b, c, d, e, f, g, h]) R7.out 3 (by simp)).1
        have c4 : wr.cell? ⟨g7, 4, none⟩ = some (.int .u32 e) := (at_row (l := [a, b, c, d, e, f, g, h]) R7.out 4 (by simp)).1
        have c5 : wr.cell? ⟨g7, 5, none⟩ = some (.int .u32 f) := (at_row (l := [a, b, c, d, e, f, g, h]) R7.out 5 (by simp)).1
        have c6 : wr.cell? ⟨g7, 6, none⟩ = some (.int .u32 g) := (at_row (l := [a, b, c, d, e, f, g, h]) R7.out 6 (by simp)).1
        have c7 : wr.cell? ⟨g7, 7, none⟩ = some (.int .u32 h) := (at_row (l := [a, b, c, d, e, f, g, h]) R7.out 7 (by simp)).1
        have cx : wr.cell? ⟨g5, t, none⟩ = some (.int .u32 x) := by have := (at_row R5.out t (by rw [wds_length]; exact hlt)).1; rwa [EX.out] at this
        have ck : wr.cell? ⟨g6, t, none⟩ = some (.int .u32 k) := by have := (at_row R6.out t (by rw [KL_length]; exact hlt)).1; rwa [EK.out] at this
        go_wp2_with fail
        go_quiet (fail)
        clear c0 c1 c2 c3 c4 c5 c6 c7 cx ck
        have V2 : Hid ((wr.drewN nq).heap[w.heap.size]? = _) := R2
        have V4 : Hid ((wr.drewN nq).heap[w.heap.size + 1]? = _) := R4
        have V5 : Hid ((wr.drewN nq).heap[g5]? = _) := R5
        have V6 : Hid ((wr.drewN nq).heap[g6]? = _) := R6
        have V7 : Hid ((wr.drewN nq).heap[g7]? = _) := R7
        have VB := Lib.hid (below_drewN RB.out nq)
        generalize hVV : wr.drewN nq = V at *
        clear hVV R2 R4 R5 R6 R7 RB
        have c0 : V.cell? ⟨g7, 0, none⟩ = some (.int .u32 a) := (at_row (l := [a, b, c, d, e, f, g, h]) V7.out 0 (by simp)).1
        have c1 : V.cell? ⟨g7, 1, none⟩ = some (.int .u32 b) := (at_row (l := [a, b, c, d, e, f, g, h]) V7.out 1 (by simp)).1
        have c2 : V.cell? ⟨g7, 2, none⟩ = some (.int .u32 c) := (at_row (l := [a, b, c, d, e, f, g, h]) V7.out 2 (by simp)).1
        have c3 : V.cell? ⟨g7, 3, none⟩ = some (.int .u32 d) := (at_row (l := [a, b, c, d, e, f, g, h]) V7.out 3 (by simp)).1
        have c4 : V.cell? ⟨g7, 4, none⟩ = some (.int .u32 e) := (at_row (l := [a, b, c, d, e, f, g, h]) V7.out 4 (by simp)).1
        have c5 : V.cell? ⟨g7, 5, none⟩ = some (.int .u32 f) := (at_row (l := [a, b, c, d, e, f, g, h]) V7.out 5 (by simp)).1
        have c6 : V.cell? ⟨g7, 6, none⟩ = some (.int .u32 g) := (at_row (l := [a, b, c, d, e, f, g, h]) V7.out 6 (by simp)).1
        have c7 : V.cell? ⟨g7, 7, none⟩ = some (.int .u32 h) := (at_row (l := [a, b, c, d, e, f, g, h]) V7.out 7 (by simp)).1
        have cx : V.cell? ⟨g5, t, none⟩ = some (.int .u32 x) := by have := (at_row V5.out t (by rw [wds_length]; exact hlt)).1; rwa [EX.out] at this
        have ck : V.cell? ⟨g6, t, none⟩ = some (.int .u32 k) := by have := (at_row V6.out t (by rw [KL_length]; exact hlt)).1; rwa [EK.out] at this
        have g1 := Sg1_int e l5
        have gc := ch_int e f g l5 l6 l7
        have gs : IntKind.u32.signed = false := rfl
        go_wp2_with fail
        go_quiet ((go_at_call 64; (first | with_reducible exact turn_6q _ l5 _ _ | with_reducible exact turn_11q _ l5 _ _ | with_reducible exact turn_25q _ l5 _ _)))
        clear g1 gc gs
        clear c0 c1 c2 c3 c4 c5 c6 c7 cx ck
        have U2 : Hid ((V.drewN nq).heap[w.heap.size]? = _) := V2
        have U4 : Hid ((V.drewN nq).heap[w.heap.size + 1]? = _) := V4
        have U5 : Hid ((V.drewN nq).heap[g5]? = _) := V5
        have U6 : Hid ((V.drewN nq).heap[g6]? = _) := V6
        have U7 : Hid ((V.drewN nq).heap[g7]? = _) := V7
        have UB := Lib.hid (below_drewN VB.out nq)
        generalize hVU : V.drewN nq = U at *
        clear hVU V2 V4 V5 V6 V7 VB nq
        have c0 : U.cell? ⟨g7, 0, none⟩ = some (.int .u32 a) := (at_row (l := [a, b, c, d, e, f, g, h]) U7.out 0 (by simp)).1
        have c1 : U.cell? ⟨g7, 1, none⟩ = some (.int .u32 b) := (at_row (l := [a, b, c, d, e, f, g, h]) U7.out 1 (by simp)).1
        have c2 : U.cell? ⟨g7, 2, none⟩ = some (.int .u32 c) := (at_row (l := [a, b, c, d, e, f, g, h]) U7.out 2 (by simp)).1
        have c3 : U.cell? ⟨g7, 3, none⟩ = some (.int .u32 d) := (at_row (l := [a, b, c, d, e, f, g, h]) U7.out 3 (by simp)).1
        have c4 : U.cell? ⟨g7, 4, none⟩ = some (.int .u32 e) := (at_row (l := [a, b, c, d, e, f, g, h]) U7.out 4 (by simp)).1
        have c5 : U.cell? ⟨g7, 5, none⟩ = some (.int .u32 f) := (at_row (l := [a, b, c, d, e, f, g, h]) U7.out 5 (by simp)).1
        have c6 : U.cell? ⟨g7, 6, none⟩ = some (.int .u32 g) := (at_row (l := [a, b, c, d, e, f, g, h]) U7.out 6 (by simp)).1
        have c7 : U.cell? ⟨g7, 7, none⟩ = some (.int .u32 h) := (at_row (l := [a, b, c, d, e, f, g, h]) U7.out 7 (by simp)).1
        have cx : U.cell? ⟨g5, t, none⟩ = some (.int .u32 x) := by have := (at_row U5.out t (by rw [wds_length]; exact hlt)).1; rwa [EX.out] at this
        have ck : U.cell? ⟨g6, t, none⟩ = some (.int .u32 k) := by have := (at_row U6.out t (by rw [KL_length]; exact hlt)).1; rwa [EK.out] at this
        have g0 := Sg0_int a l1
        have gm := mj_int a b c l1 l2 l3
        go_wp2_with fail
        go_quiet ((go_at_call 64; (first | with_reducible exact turn_2q _ l1 _ _ | with_reducible exact turn_13q _ l1 _ _ | with_reducible exact turn_22q _ l1 _ _)))
        clear g0 gm
        clear c0 c1 c2 c3 c4 c5 c6 c7 cx ck
        have Y2 : Hid ((U.drewN nq).heap[w.heap.size]? = _) := U2
        have Y4 : Hid ((U.drewN nq).heap[w.heap.size + 1]? = _) := U4
        have Y5 : Hid ((U.drewN nq).heap[g5]? = _) := U5
        have Y6 : Hid ((U.drewN nq).heap[g6]? = _) := U6
        have Y7 : Hid ((U.drewN nq).heap[g7]? = _) := U7
        have YB := Lib.hid (below_drewN UB.out nq)
        generalize hVY : U.drewN nq = Y at *
        clear hVY U2 U4 U5 U6 U7 UB nq
        have c0 : Y.cell? ⟨g7, 0, none⟩ = some (.int .u32 a) := (at_row (l := [a, b, c, d, e, f, g, h]) Y7.out 0 (by simp)).1
        have c1 : Y.cell? ⟨g7, 1, none⟩ = some (.int .u32 b) := (at_row (l := [a, b, c, d, e, f, g, h]) Y7.out 1 (by simp)).1
        have c2 : Y.cell? ⟨g7, 2, none⟩ = some (.int .u32 c) := (at_row (l := [a, b, c, d, e, f, g, h]) Y7.out 2 (by simp)).1
        have c3 : Y.cell? ⟨g7, 3, none⟩ = some (.int .u32 d) := (at_row (l := [a, b, c, d, e, f, g, h]) Y7.out 3 (by simp)).1
        have c4 : Y.cell? ⟨g7, 4, none⟩ = some (.int .u32 e) := (at_row (l := [a, b, c, d, e, f, g, h]) Y7.out 4 (by simp)).1
        have c5 : Y.cell? ⟨g7, 5, none⟩ = some (.int .u32 f) := (at_row (l := [a, b, c, d, e, f, g, h]) Y7.out 5 (by simp)).1
        have c6 : Y.cell? ⟨g7, 6, none⟩ = some (.int .u32 g) := (at_row (l := [a, b, c, d, e, f, g, h]) Y7.out 6 (by simp)).1
        have c7 : Y.cell? ⟨g7, 7, none⟩ = some (.int .u32 h) := (at_row (l := [a, b, c, d, e, f, g, h]) Y7.out 7 (by simp)).1
        have cx : Y.cell? ⟨g5, t, none⟩ = some (.int .u32 x) := by have := (at_row Y5.out t (by rw [wds_length]; exact hlt)).1; rwa [EX.out] at this
        have ck : Y.cell? ⟨g6, t, none⟩ = some (.int .u32 k) := by have := (at_row Y6.out t (by rw [KL_length]; exact hlt)).1; rwa [EK.out] at this
        have ga := first_int a b c e f g h k x
        have ge := fifth_int d e f g h k x
        have HRL := Lib.hid (rnd_list k x a b c d e f g h)
        generalize add32 (T1 e f g h k x) (T2 a b c) = y at ga HRL
        generalize add32 d (T1 e f g h k x) = z at ge HRL
        have fz : ∀ o, Y.frozen? ⟨g7, o, none⟩ = false := fun o => frozen_of_row Y g7 o _ _ Y7.out
        have f0 := fz 0
        have f1 := fz 1
        have f2 := fz 2
        have f3 := fz 3
        have f4 := fz 4
        have f5 := fz 5
        have f6 := fz 6
        have f7 := fz 7
        clear fz
        go_wp2_with fail
        go_roundw
        case rel => exact ⟨t + 1, rnd k x ⟨a, b, c, d, e, f, g, h⟩, by omega, by go_num, Lib.hid HQ'.out.symm, Lib.hid (keep8 Y2.out n2.out), Lib.hid (keep8 Y4.out n4.out), Lib.hid (keep8 Y5.out n5.out), Lib.hid (keep8 Y6.out n6.out), Lib.hid (by rw [HRL.out]; exact set8 Y7.out y a b c z e f g), Lib.hid (below8 YB.out n7.out)⟩
        case measure => simp [intOf]; omega
      · obtain rfl : t = 64 := by omega
        have HQ : Hid (q = rnAll (wds (nums B)) s) := Lib.hid (by rw [hq.out, rnAll, shut_eq])
        clear hq hlt ht
        go_wp2_with fail
        rw [show ((64 : Nat) : Int) = 64 from rfl]
        go_loopw [13] (fun i wr => ∃ (j : Nat) (l : List Nat), j ≤ 8 ∧ i = .int .i64 j ∧ l.length = 8 ∧ Hid (∀ i, l.getD i 0 = if i < j then add32 (s.list.getD i 0) (q.list.getD i 0) else q.list.getD i 0) ∧ wr.heap[w.heap.size]? = some (.cells (row .u32 s.list) 91 (0, 0)) ∧ Hid (wr.heap[w.heap.size + 1]? = some (.cells (row .u32 (List.replicate 8 0)) 91 (0, 0))) ∧ wr.heap[g7]? = some (.cells (row .u32 l) 91 (0, 0)) ∧ Hid (Below w.heap.size w wr)) (fun i _ => 8 - (intOf i).toNat)
        case atStart => exact ⟨0, q.list, by omega, rfl, rfl, Lib.hid (fun i => by simp), R2.out, R4, R7.out, RB⟩
        case round =>
          clear R2 R4 R5 R6 R7 RB
          obtain ⟨j, l, hj, rfl, hl, hag, H0, H4, H7, hbw⟩ := hrel
          by_cases hlt : j < 8
          · obtain ⟨c7, f7⟩ := at_row H7 j (by omega)
            have c0 := (at_row H0 j (by simp [S8.list]; omega)).1
            rw [hag.out j, if_neg (by omega)] at c7
            obtain ⟨v, HV⟩ : ∃ v, Hid (v = add32 (s.list.getD j 0) (q.list.getD j 0)) := ⟨_, Lib.hid rfl⟩
            have hv := add32_int (q.list.getD j 0) (s.list.getD j 0)
            rw [show add32 (q.list.getD j 0) (s.list.getD j 0) = add32 (s.list.getD j 0) (q.list.getD j 0) by unfold add32; rw [Nat.add_comm], ← HV.out] at hv
            generalize hx0 : s.list.getD j 0 = x0 at c0 hv HV
            generalize hx1 : q.list.getD j 0 = x1 at c7 hv HV
            have HX0 := Lib.hid hx0
            have HX1 := Lib.hid hx1
            have H0' := Lib.hid H0
            have H7' := Lib.hid H7
            have HL8 := Lib.hid hl
            clear H0 H7 hl hx0 hx1
            go_wp2_with fail
            go_region
            go_wp2_with fail
            go_roundw
            case rel =>
              refine ⟨j + 1, l.set j v, by omega, by go_num, by simp [HL8.out], Lib.hid ?_, heap_keep H0'.out n2.out, Lib.hid (heap_keep H4.out n4.out), heap_step H7'.out v, Lib.hid ((hbw.out.setCell n7.out _).drew)⟩
              intro i
              rw [getD_set _ _ _ _ (by rw [HL8.out]; exact hlt)]
              by_cases e : i = j
              · subst e; rw [if_pos rfl, if_pos (by omega), HX0.out, HX1.out, HV.out]
              · rw [if_neg e, hag.out i]
                by_cases h : i < j
                · rw [if_pos h, if_pos (by omega)]
                · rw [if_neg h, if_neg (by omega)]
            case measure => simp [intOf]; omega
          · obtain rfl : j = 8 := by omega
            have e : l = (proc s (nums B)).list := getD_ext (by rw [hl]; rfl) (fun i hi => by
              rw [hag.out i, if_pos (by omega), HQ.out]
              obtain rfl | rfl | rfl | rfl | rfl | rfl | rfl | rfl : i = 0 ∨ i = 1 ∨ i = 2 ∨ i = 3 ∨ i = 4 ∨ i = 5 ∨ i = 6 ∨ i = 7 := by omega
              all_goals rfl)
            subst e
            have H7' := Lib.hid H7
            have hs8 : (Tryd.prog.info? 91).map (·.size) = some (row .u32 (proc s (nums B)).list).size := by rw [row_size]; kernel_rfl
            have HS8 := Lib.hid hs8
            clear H0 H7 hl hag hs8 hlt hj
            go_wp2_with (first
              | (refine wpList_load_row rfl 91 _ rfl g7 rfl 91 _ _ _ H7'.out Tryd.underlying91 rfl HS8.out ?_)
              | (refine wpList_store_row rfl 91 _ _ rfl (w.heap.size + 1) _ rfl rfl 91 _ H4.out HS8.out (by rw [row_size, row_size]; rfl) (row_one _ _) ?_))
            refine bodyPost_ret (v := .agg (row .u32 (proc s (nums B)).list)) ?_ rfl ⟨rfl, below_setRow hbw.out (by omega) _⟩
            exact results_cell_row rfl _ _ (w.heap.size + 1) 91 _ (0, 0) _ rfl (setRow_heap _ _ _ _ _ _ H4.out) Tryd.underlying91 rfl HS8.out
end Go.Proofs.YtbhcjdpachboaaaDoor.Pl
