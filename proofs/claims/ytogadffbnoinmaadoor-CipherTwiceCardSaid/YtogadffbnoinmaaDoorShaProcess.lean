/- What sha.process answers. -/
import Derived.Test.YtogadffbnoinmaaDoorShaWords
namespace Go.Proofs.YtogadffbnoinmaaDoor.Pl
open Go.RowKit
/-- The table of the numbers K lies where the program's text lays it. -/
def Tab (w : World) : Prop := 0 < w.heap.size ∧ ∀ j, j < 64 → w.cell? ⟨0, j, none⟩ = some (.int .u32 ((KL.getD j 0 : Nat) : Int))
theorem Tab.below {w w' : World} (h : Tab w) (hb : Below w.heap.size w w') : Tab w' :=
  ⟨Nat.lt_of_lt_of_le h.1 hb.size, fun j hj => by rw [hb.cell (p := ⟨0, j, none⟩) h.1]; exact h.2 j hj⟩

theorem right_6q (x : Nat) (hx : x < 4294967296) (w : World) (n : Nat) : Calls Tryd.prog 43 #[.int .u32 x, .int .i64 6] (w.drewN n) fun e w'' => e = .returned (.int .u32 (rr 6 x : Nat)) ∧ ∃ m, w'' = w.drewN m :=
  Calls.quiet_of_same ((right_6 x hx _).mono fun _ _ h => ⟨h.1, h.2.symm⟩)
theorem right_11q (x : Nat) (hx : x < 4294967296) (w : World) (n : Nat) : Calls Tryd.prog 43 #[.int .u32 x, .int .i64 11] (w.drewN n) fun e w'' => e = .returned (.int .u32 (rr 11 x : Nat)) ∧ ∃ m, w'' = w.drewN m :=
  Calls.quiet_of_same ((right_11 x hx _).mono fun _ _ h => ⟨h.1, h.2.symm⟩)
theorem right_25q (x : Nat) (hx : x < 4294967296) (w : World) (n : Nat) : Calls Tryd.prog 43 #[.int .u32 x, .int .i64 25] (w.drewN n) fun e w'' => e = .returned (.int .u32 (rr 25 x : Nat)) ∧ ∃ m, w'' = w.drewN m :=
  Calls.quiet_of_same ((right_25 x hx _).mono fun _ _ h => ⟨h.1, h.2.symm⟩)

set_option maxRecDepth 100000 in
theorem process_any (s : S8) (hs : s.fits) (B : List Nat) (hB : B.length = 64) (hb : ∀ j, B.getD j 0 < 256) (w : World) (hT : Tab w) :
    Calls Tryd.prog 38 #[.agg (row .u32 s.list), .agg (row .u8 B)] w fun e w' => e = .returned (.agg (row .u32 (proc s B).list)) ∧ Below w.heap.size w w' := by
  have HT := Lib.hid hT
  have HB := Lib.hid hb
  have HL := Lib.hid hB
  clear hT hb hB
  have hsz : (Tryd.prog.info? 51).map (·.size) = some (row .u8 B).size := by rw [row_size, HL.out]; kernel_rfl
  have hsw : (Tryd.prog.info? 71).map (·.size) = some (row .u32 (wds B)).size := by rw [row_size, wds_length]; kernel_rfl
  have HS := Lib.hid hsz
  have HSW := Lib.hid hsw
  clear hsz hsw
  go_enter Tryd.func38, Tryd.ntmps38
  have h1 := heap3_1 w (.cells (row .u32 s.list) 64) (.cells (row .u8 B) 51) (.cells (row .u32 (List.replicate 8 0)) 64)
  have H1 := Lib.hid h1
  clear h1
  go_wp2_with (refine wpList_load_row rfl 51 _ rfl (w.heap.size + 1) rfl 51 _ _ _ H1.out Tryd.underlying51 rfl HS.out ?_)
  refine (words_any B HL.out HB.out _).mono ?_; rintro e w1 ⟨rfl, hb1⟩
  have hb1' : Below (((w.alloc (.cells (row .u32 s.list) 64)).alloc (.cells (row .u8 B) 51)).alloc (.cells (row .u32 (List.replicate 8 0)) 64)).heap.size (((w.alloc (.cells (row .u32 s.list) 64)).alloc (.cells (row .u8 B) 51)).alloc (.cells (row .u32 (List.replicate 8 0)) 64)) w1 := hb1
  clear hb1 H1
  have H0 := Lib.hid (heap_below hb1' (heap3_0 _ _ _ _))
  have H2 := Lib.hid (heap_below hb1' (heap3_2 _ _ _ _))
  have hz := hb1'.size
  rw [size_alloc', size_alloc', size_alloc'] at hz
  have HBW := Lib.hid (below_step (below3 _ _ _ _) hb1')
  clear hb1'
  have HN := Lib.hid (Go.heap_alloc_new w1 (.cells (row .u32 (List.replicate 64 0)) 71))
  go_wp2_with (refine wpList_store_row rfl 71 _ _ rfl w1.heap.size (row .u32 (wds B)) rfl rfl 71 (row .u32 (List.replicate 64 0)) HN.out HSW.out (by rw [row_size, row_size, wds_length, List.length_replicate]) (row_one _ _) ?_)
  rw [World.setRow_alloc_new]
  generalize hW : w1.alloc (.cells (row .u32 (wds B)) 71) = W
  have K0 : W.heap[w.heap.size]? = some (.cells (row .u32 s.list) 64 (0, 0)) := by rw [← hW]; exact heap_alloc H0.out _
  have K2 := Lib.hid (show W.heap[w.heap.size + 1 + 1]? = some (.cells (row .u32 (List.replicate 8 0)) 64 (0, 0)) by rw [← hW]; exact heap_alloc H2.out _)
  have K5 : W.heap[w1.heap.size]? = some (.cells (row .u32 (wds B)) 71 (0, 0)) := by rw [← hW]; exact Go.heap_alloc_new _ _
  have KW := Lib.hid (show Below w.heap.size w W by rw [← hW]; exact HBW.out.alloc (by omega) _)
  clear hW H0 H2 HBW HN HS
  have e0 := (at_row K0 0 (by simp [S8.list])).1
  have e1 := (at_row K0 1 (by simp [S8.list])).1
  have e2 := (at_row K0 2 (by simp [S8.list])).1
  have e3 := (at_row K0 3 (by simp [S8.list])).1
  have e4 := (at_row K0 4 (by simp [S8.list])).1
  have e5 := (at_row K0 5 (by simp [S8.list])).1
  have e6 := (at_row K0 6 (by simp [S8.list])).1
  have e7 := (at_row K0 7 (by simp [S8.list])).1
  have KK0 := Lib.hid K0
  have KK5 := Lib.hid K5
  clear K0 K5
  rw [show s.list.getD 0 0 = s.a from rfl] at e0
  rw [show s.list.getD 1 0 = s.b from rfl] at e1
  rw [show s.list.getD 2 0 = s.c from rfl] at e2
  rw [show s.list.getD 3 0 = s.d from rfl] at e3
  rw [show s.list.getD 4 0 = s.e from rfl] at e4
  rw [show s.list.getD 5 0 = s.f from rfl] at e5
  rw [show s.list.getD 6 0 = s.g from rfl] at e6
  rw [show s.list.getD 7 0 = s.h from rfl] at e7
  go_wp2_with fail
  go_quiet (fail)
  go_wp2_with fail
  go_loopw [6, 7, 8, 9, 10, 11, 12, 13, 37] (fun s6 s7 s8 s9 s10 s11 s12 s13 i wr => ∃ (t : Nat) (q : S8), t ≤ 64 ∧ Hid (q = rn (wds B) s t) ∧ i = .int .i64 t ∧ Hid (wr.heap = W.heap) ∧ Hid (Below w.heap.size w wr) ∧ s6 = .int .u32 q.a ∧ s7 = .int .u32 q.b ∧ s8 = .int .u32 q.c ∧ s9 = .int .u32 q.d ∧ s10 = .int .u32 q.e ∧ s11 = .int .u32 q.f ∧ s12 = .int .u32 q.g ∧ s13 = .int .u32 q.h) (fun _ _ _ _ _ _ _ _ i _ => 64 - (intOf i).toNat)
  case atStart => exact ⟨0, s, by omega, Lib.hid rfl, rfl, Lib.hid (by simp), Lib.hid (below_drewN KW.out _), rfl, rfl, rfl, rfl, rfl, rfl, rfl, rfl⟩
  case round =>
    clear nq
    obtain ⟨t, q, ht, hq, rfl, hwh, KR, rfl, rfl, rfl, rfl, rfl, rfl, rfl, rfl⟩ := hrel
    clear e0 e1 e2 e3 e4 e5 e6 e7
    by_cases hlt : t < 64
    · obtain ⟨l1, l2, l3, l4, l5, l6, l7, l8⟩ := (show q.fits by rw [hq.out]; exact rn_fits _ hs t)
      have c0 := ((HT.out).below (KR.out)).2 t hlt
      have c1 := (at_row (w := wr) (by rw [hwh.out]; exact KK5.out) t (by rw [wds_length]; exact hlt)).1
      have HQ : Hid (rn (wds B) s (t + 1) = rnd (KL.getD t 0) ((wds B).getD t 0) q) := Lib.hid (by rw [hq.out]; rfl)
      generalize KL.getD t 0 = k at *
      generalize (wds B).getD t 0 = x at *
      obtain ⟨a, b, c, d, e, f, g, h⟩ := q
      dsimp only at *
      have g1 := Sg1_int e l5
      have g0 := Sg0_int a l1
      have gm := mj_int a b c l1 l2 l3
      have g2 := T2_int a b c
      have gt := T1_int e f g h k x
      have gc := ch_int e f g l5 l6 l7
      have gs : IntKind.u32.signed = false := rfl
      have ga := add32_int (T1 e f g h k x) (T2 a b c)
      have ge := add32_int d (T1 e f g h k x)
      go_wp2_with fail
      go_quiet ((go_at_call 43; (first | with_reducible exact right_6q _ l5 _ _ | with_reducible exact right_11q _ l5 _ _ | with_reducible exact right_25q _ l5 _ _)))
      go_wp2_with fail; refine (right_2 _ l1 _).mono ?_; rintro e w' ⟨rfl, rfl⟩
      go_wp2_with fail; refine (right_13 _ l1 _).mono ?_; rintro e w' ⟨rfl, rfl⟩
      go_wp2_with fail; refine (right_22 _ l1 _).mono ?_; rintro e w' ⟨rfl, rfl⟩
      go_wp2_with fail
      go_roundw
      case rel => exact ⟨t + 1, _, by omega, Lib.hid HQ.out.symm, by go_num, Lib.hid hwh.out, Lib.hid (below_drewN KR.out _), rfl, rfl, rfl, rfl, rfl, rfl, rfl, rfl⟩
      case measure => simp [intOf]; omega
    · obtain rfl : t = 64 := by omega
      clear hlt ht
      have HQ : Hid (q = rnAll (wds B) s) := Lib.hid (by rw [hq.out, rnAll, shut_eq])
      clear hq
      go_wp2_with fail
      rw [show ((64 : Nat) : Int) = 64 from rfl]
      have H0 : wr.heap[w.heap.size]? = some (.cells (row .u32 s.list) 64 (0, 0)) := by rw [hwh.out]; exact KK0.out
      have H2 : wr.heap[w.heap.size + 1 + 1]? = some (.cells (row .u32 (List.replicate 8 0)) 64 (0, 0)) := by rw [hwh.out]; exact K2.out
      go_loopw [109] (fun i wr => ∃ (j : Nat) (l : List Nat), j ≤ 8 ∧ i = .int .i64 j ∧ l.length = 8 ∧ Hid (∀ i, l.getD i 0 = if i < j then add32 (s.list.getD i 0) (q.list.getD i 0) else s.list.getD i 0) ∧ wr.heap[w.heap.size]? = some (.cells (row .u32 l) 64 (0, 0)) ∧ wr.heap[w.heap.size + 1 + 1]? = some (.cells (row .u32 (List.replicate 8 0)) 64 (0, 0)) ∧ Below w.heap.size w wr) (fun i _ => 8 - (intOf i).toNat)
      case atStart => exact ⟨0, s.list, by omega, rfl, rfl, Lib.hid (fun i => by simp), H0, H2, KR.out⟩
      case round =>
        clear H0 H2 KR hwh
        obtain ⟨j, l, hj, rfl, hl, hag, H0, H2, hbw⟩ := hrel
        by_cases hlt : j < 8
        · obtain ⟨c0, f0⟩ := at_row H0 j (by omega)
          have hix : ∀ V : World, (Instr.index 64 (.agg #[.int .u32 q.a, .int .u32 q.b, .int .u32 q.c, .int .u32 q.d, .int .u32 q.e, .int .u32 q.f, .int .u32 q.g, .int .u32 q.h]) (.int .i64 (j : Int))).run Tryd.prog V = .ok (.int .u32 ((q.list.getD j 0 : Nat) : Int)) V := fun V => by
            obtain rfl | rfl | rfl | rfl | rfl | rfl | rfl | rfl : j = 0 ∨ j = 1 ∨ j = 2 ∨ j = 3 ∨ j = 4 ∨ j = 5 ∨ j = 6 ∨ j = 7 := by omega
            all_goals kernel_rfl
          rw [hag.out j, if_neg (by omega)] at c0
          obtain ⟨v, HV⟩ : ∃ v, Hid (v = add32 (s.list.getD j 0) (q.list.getD j 0)) := ⟨_, Lib.hid rfl⟩
          have hv := add32_int (s.list.getD j 0) (q.list.getD j 0)
          rw [← HV.out] at hv
          have HIX := Lib.hid hix
          clear hix
          have hix := HIX.out
          generalize hx0 : s.list.getD j 0 = x0 at c0 hv HV
          have H0' := Lib.hid H0
          have H2' := Lib.hid H2
          have HL8 := Lib.hid hl
          clear H0 H2 hl HIX
          generalize hx1 : q.list.getD j 0 = x1 at hix hv HV
          have HX0 := Lib.hid hx0
          have HX1 := Lib.hid hx1
          clear hx0 hx1
          go_wp2_with fail
          go_roundw
          case rel =>
            refine ⟨j + 1, l.set j v, by omega, by go_num, by simp [HL8.out], Lib.hid ?_, heap_step H0'.out v, heap_keep H2'.out (by omega), hbw.setCell (by simp) _⟩
            intro i
            rw [getD_set _ _ _ _ (by rw [HL8.out]; exact hlt)]
            by_cases e : i = j
            · subst e; rw [if_pos rfl, if_pos (by omega), HX0.out, HX1.out, HV.out]
            · rw [if_neg e, hag.out i]
              by_cases h : i < j
              · rw [if_pos h, if_pos (by omega)]
              · rw [if_neg h, if_neg (by omega)]
          case measure => simp [intOf]; omega
        · obtain rfl : j = 8 := by omega
          have e : l = (proc s B).list := getD_ext (by rw [hl]; rfl) (fun i hi => by
            rw [hag.out i, if_pos (by omega), HQ.out]
            obtain rfl | rfl | rfl | rfl | rfl | rfl | rfl | rfl : i = 0 ∨ i = 1 ∨ i = 2 ∨ i = 3 ∨ i = 4 ∨ i = 5 ∨ i = 6 ∨ i = 7 := by omega
            all_goals rfl)
          subst e
          have H0' := Lib.hid H0
          have H2' := Lib.hid H2
          have hs8 : (Tryd.prog.info? 64).map (·.size) = some (row .u32 (proc s B).list).size := by rw [row_size]; kernel_rfl
          have HS8 := Lib.hid hs8
          clear H0 H2 hl hag hs8 hlt hj
          go_wp2_with (first
            | (refine wpList_load_row rfl 64 _ rfl w.heap.size rfl 64 _ _ _ H0'.out Tryd.underlying64 rfl HS8.out ?_)
            | (refine wpList_store_row rfl 64 _ _ rfl (w.heap.size + 1 + 1) _ rfl rfl 64 _ H2'.out HS8.out (by rw [row_size, row_size]; rfl) (row_one _ _) ?_))
          refine bodyPost_ret (v := .agg (row .u32 (proc s B).list)) ?_ rfl ⟨rfl, below_setRow hbw (by omega) _⟩
          exact results_cell_row rfl _ _ (w.heap.size + 1 + 1) 64 _ (0, 0) _ rfl (setRow_heap _ _ _ _ _ _ H2'.out) Tryd.underlying64 rfl HS8.out
end Go.Proofs.YtogadffbnoinmaaDoor.Pl
