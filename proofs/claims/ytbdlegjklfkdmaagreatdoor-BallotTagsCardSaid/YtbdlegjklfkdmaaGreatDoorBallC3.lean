/- What sha.process answers. What sha.joined answers. A Hash in memory, and what sha.New, Len, Copy answer. The hash of a text over plain numbers: block by block, and what waits. Hexadecimal digits; an index into a text; plain facts. What hmac.Same answers: whether two texts are equal. What hmac.Same answers, under a name of its own. The padded text, and its blocks. What the document's Padded answers. -/
import Derived.Test.YtbdlegjklfkdmaaGreatDoorBallC2
import Derived.Laws.IdiomStrings
import Derived.Deep.MidRow
import Derived.Laws.CopyRow
import Derived.IntWalk
import Derived.Deep.RegionLaw
import Derived.Deep.AppendLies
import Derived.Laws.BitsAllLaws
import Derived.ArgAppend
import Derived.Lib.ConvBytes
namespace Go.Proofs.YtbdlegjklfkdmaaGreatDoor.Pl
open Go.RowKit
/-- The table of the numbers K lies where the program's text lays it. -/
def Tab (w : World) : Prop := 1 < w.heap.size ∧ ∀ j, j < 64 → w.cell? ⟨1, j, none⟩ = some (.int .u32 ((KL.getD j 0 : Nat) : Int))
theorem Tab.below {w w' : World} (h : Tab w) (hb : Below w.heap.size w w') : Tab w' :=
  ⟨Nat.lt_of_lt_of_le h.1 hb.size, fun j hj => by rw [hb.cell (p := ⟨1, j, none⟩) h.1]; exact h.2 j hj⟩

theorem right_6q (x : Nat) (hx : x < 4294967296) (w : World) (n : Nat) : Calls Tryz.prog 155 #[.int .u32 x, .int .i64 6] (w.drewN n) fun e w'' => e = .returned (.int .u32 (rr 6 x : Nat)) ∧ ∃ m, w'' = w.drewN m :=
  Calls.quiet_of_same ((right_6 x hx _).mono fun _ _ h => ⟨h.1, h.2.symm⟩)
theorem right_11q (x : Nat) (hx : x < 4294967296) (w : World) (n : Nat) : Calls Tryz.prog 155 #[.int .u32 x, .int .i64 11] (w.drewN n) fun e w'' => e = .returned (.int .u32 (rr 11 x : Nat)) ∧ ∃ m, w'' = w.drewN m :=
  Calls.quiet_of_same ((right_11 x hx _).mono fun _ _ h => ⟨h.1, h.2.symm⟩)
theorem right_25q (x : Nat) (hx : x < 4294967296) (w : World) (n : Nat) : Calls Tryz.prog 155 #[.int .u32 x, .int .i64 25] (w.drewN n) fun e w'' => e = .returned (.int .u32 (rr 25 x : Nat)) ∧ ∃ m, w'' = w.drewN m :=
  Calls.quiet_of_same ((right_25 x hx _).mono fun _ _ h => ⟨h.1, h.2.symm⟩)

set_option maxRecDepth 100000 in
theorem process_any (s : S8) (hs : s.fits) (B : List Nat) (hB : B.length = 64) (hb : ∀ j, B.getD j 0 < 256) (w : World) (hT : Tab w) :
    Calls Tryz.prog 144 #[.agg (row .u32 s.list), .agg (row .u8 B)] w fun e w' => e = .returned (.agg (row .u32 (proc s B).list)) ∧ Below w.heap.size w w' := by
  have HT := Lib.hid hT
  have HB := Lib.hid hb
  have HL := Lib.hid hB
  clear hT hb hB
  have hsz : (Tryz.prog.info? 119).map (·.size) = some (row .u8 B).size := by rw [row_size, HL.out]; kernel_rfl
  have hsw : (Tryz.prog.info? 178).map (·.size) = some (row .u32 (wds B)).size := by rw [row_size, wds_length]; kernel_rfl
  have HS := Lib.hid hsz
  have HSW := Lib.hid hsw
  clear hsz hsw
  go_enter Tryz.func144, Tryz.ntmps144
  have h1 := heap3_1 w (.cells (row .u32 s.list) 161) (.cells (row .u8 B) 119) (.cells (row .u32 (List.replicate 8 0)) 161)
  have H1 := Lib.hid h1
  clear h1
  go_wp2_with (refine wpList_load_row rfl 119 _ rfl (w.heap.size + 1) rfl 119 _ _ _ H1.out Tryz.underlying119 rfl HS.out ?_)
  refine (words_any B HL.out HB.out _).mono ?_; rintro e w1 ⟨rfl, hb1⟩
  have hb1' : Below (((w.alloc (.cells (row .u32 s.list) 161)).alloc (.cells (row .u8 B) 119)).alloc (.cells (row .u32 (List.replicate 8 0)) 161)).heap.size (((w.alloc (.cells (row .u32 s.list) 161)).alloc (.cells (row .u8 B) 119)).alloc (.cells (row .u32 (List.replicate 8 0)) 161)) w1 := hb1
  clear hb1 H1
  have H0 := Lib.hid (heap_below hb1' (heap3_0 _ _ _ _))
  have H2 := Lib.hid (heap_below hb1' (heap3_2 _ _ _ _))
  have hz := hb1'.size
  rw [size_alloc', size_alloc', size_alloc'] at hz
  have HBW := Lib.hid (below_step (below3 _ _ _ _) hb1')
  clear hb1'
  have HN := Lib.hid (Go.heap_alloc_new w1 (.cells (row .u32 (List.replicate 64 0)) 178))
  go_wp2_with (refine wpList_store_row rfl 178 _ _ rfl w1.heap.size (row .u32 (wds B)) rfl rfl 178 (row .u32 (List.replicate 64 0)) HN.out HSW.out (by rw [row_size, row_size, wds_length, List.length_replicate]) (row_one _ _) ?_)
  rw [World.setRow_alloc_new]
  generalize hW : w1.alloc (.cells (row .u32 (wds B)) 178) = W
  have K0 : W.heap[w.heap.size]? = some (.cells (row .u32 s.list) 161 (0, 0)) := by rw [← hW]; exact heap_alloc H0.out _
  have K2 := Lib.hid (show W.heap[w.heap.size + 1 + 1]? = some (.cells (row .u32 (List.replicate 8 0)) 161 (0, 0)) by rw [← hW]; exact heap_alloc H2.out _)
  have K5 : W.heap[w1.heap.size]? = some (.cells (row .u32 (wds B)) 178 (0, 0)) := by rw [← hW]; exact Go.heap_alloc_new _ _
  have KW := Lib.hid (show Below w.heap.size w W by rw [← hW]; exact HBW.out.alloc (by omega) _)
  clear hW H0 H2 HBW HN HS
  have e0 := (at_row K0 0 (by simp [S8.list])).1
  have e1 := (at_row K0 1 (by simp [S8.list])).1
  have e2 := (at_row K0 2 (by simp [S8.list])).1
  have e3 := (at_row K0 3 (by simp [S8.list])).1
  have e4 := (at_row K0 4 (by simp [S8.list])).1
  have e5 := (at_row K0 5 (by simp [S8.list])).1
  have e6 := (at_row K0 6 (by simp [S8.list])).1
  have e7 := (at_row K0 7 (by simp [S8.list])).1
  have KK0 := Lib.hid K0
  have KK5 := Lib.hid K5
  clear K0 K5
  rw [show s.list.getD 0 0 = s.a from rfl] at e0
  rw [show s.list.getD 1 0 = s.b from rfl] at e1
  rw [show s.list.getD 2 0 = s.c from rfl] at e2
  rw [show s.list.getD 3 0 = s.d from rfl] at e3
  rw [show s.list.getD 4 0 = s.e from rfl] at e4
  rw [show s.list.getD 5 0 = s.f from rfl] at e5
  rw [show s.list.getD 6 0 = s.g from rfl] at e6
  rw [show s.list.getD 7 0 = s.h from rfl] at e7
  go_wp2_with fail
  go_quiet (fail)
  go_wp2_with fail
  go_loopw [6, 7, 8, 9, 10, 11, 12, 13, 37] (fun s6 s7 s8 s9 s10 s11 s12 s13 i wr => ∃ (t : Nat) (q : S8), t ≤ 64 ∧ Hid (q = rn (wds B) s t) ∧ i = .int .i64 t ∧ Hid (wr.heap = W.heap) ∧ Hid (Below w.heap.size w wr) ∧ s6 = .int .u32 q.a ∧ s7 = .int .u32 q.b ∧ s8 = .int .u32 q.c ∧ s9 = .int .u32 q.d ∧ s10 = .int .u32 q.e ∧ s11 = .int .u32 q.f ∧ s12 = .int .u32 q.g ∧ s13 = .int .u32 q.h) (fun _ _ _ _ _ _ _ _ i _ => 64 - (intOf i).toNat)
  case atStart => exact ⟨0, s, by omega, Lib.hid rfl, rfl, Lib.hid (by simp), Lib.hid (below_drewN KW.out _), rfl, rfl, rfl, rfl, rfl, rfl, rfl, rfl⟩
  case round =>
    clear nq
    obtain ⟨t, q, ht, hq, rfl, hwh, KR, rfl, rfl, rfl, rfl, rfl, rfl, rfl, rfl⟩ := hrel
    clear e0 e1 e2 e3 e4 e5 e6 e7
    by_cases hlt : t < 64
    · obtain ⟨l1, l2, l3, l4, l5, l6, l7, l8⟩ := (show q.fits by rw [hq.out]; exact rn_fits _ hs t)
      have c0 := ((HT.out).below (KR.out)).2 t hlt
      have c1 := (at_row (w := wr) (by rw [hwh.out]; exact KK5.out) t (by rw [wds_length]; exact hlt)).1
      have HQ : Hid (rn (wds B) s (t + 1) = rnd (KL.getD t 0) ((wds B).getD t 0) q) := Lib.hid (by rw [hq.out]; rfl)
      generalize KL.getD t 0 = k at *
      generalize (wds B).getD t 0 = x at *
      obtain ⟨a, b, c, d, e, f, g, h⟩ := q
      dsimp only at *
      have g1 := Sg1_int e l5
      have g0 := Sg0_int a l1
      have gm := mj_int a b c l1 l2 l3
      have g2 := T2_int a b c
      have gt := T1_int e f g h k x
      have gc := ch_int e f g l5 l6 l7
      have gs : IntKind.u32.signed = false := rfl
      have ga := add32_int (T1 e f g h k x) (T2 a b c)
      have ge := add32_int d (T1 e f g h k x)
      go_wp2_with fail
      go_quiet ((go_at_call 155; (first | with_reducible exact right_6q _ l5 _ _ | with_reducible exact right_11q _ l5 _ _ | with_reducible exact right_25q _ l5 _ _)))
      go_wp2_with fail; refine (right_2 _ l1 _).mono ?_; rintro e w' ⟨rfl, rfl⟩
      go_wp2_with fail; refine (right_13 _ l1 _).mono ?_; rintro e w' ⟨rfl, rfl⟩
      go_wp2_with fail; refine (right_22 _ l1 _).mono ?_; rintro e w' ⟨rfl, rfl⟩
      go_wp2_with fail
      go_roundw
      case rel => exact ⟨t + 1, _, by omega, Lib.hid HQ.out.symm, by go_num, Lib.hid hwh.out, Lib.hid (below_drewN KR.out _), rfl, rfl, rfl, rfl, rfl, rfl, rfl, rfl⟩
      case measure => simp [intOf]; omega
    · obtain rfl : t = 64 := by omega
      clear hlt ht
      have HQ : Hid (q = rnAll (wds B) s) := Lib.hid (by rw [hq.out, rnAll, shut_eq])
      clear hq
      go_wp2_with fail
      rw [show ((64 : Nat) : Int) = 64 from rfl]
      have H0 : wr.heap[w.heap.size]? = some (.cells (row .u32 s.list) 161 (0, 0)) := by rw [hwh.out]; exact KK0.out
      have H2 : wr.heap[w.heap.size + 1 + 1]? = some (.cells (row .u32 (List.replicate 8 0)) 161 (0, 0)) := by rw [hwh.out]; exact K2.out
      go_loopw [109] (fun i wr => ∃ (j : Nat) (l : List Nat), j ≤ 8 ∧ i = .int .i64 j ∧ l.length = 8 ∧ Hid (∀ i, l.getD i 0 = if i < j then add32 (s.list.getD i 0) (q.list.getD i 0) else s.list.getD i 0) ∧ wr.heap[w.heap.size]? = some (.cells (row .u32 l) 161 (0, 0)) ∧ wr.heap[w.heap.size + 1 + 1]? = some (.cells (row .u32 (List.replicate 8 0)) 161 (0, 0)) ∧ Below w.heap.size w wr) (fun i _ => 8 - (intOf i).toNat)
      case atStart => exact ⟨0, s.list, by omega, rfl, rfl, Lib.hid (fun i => by simp), H0, H2, KR.out⟩
      case round =>
        clear H0 H2 KR hwh
        obtain ⟨j, l, hj, rfl, hl, hag, H0, H2, hbw⟩ := hrel
        by_cases hlt : j < 8
        · obtain ⟨c0, f0⟩ := at_row H0 j (by omega)
          have hix : ∀ V : World, (Instr.index 161 (.agg #[.int .u32 q.a, .int .u32 q.b, .int .u32 q.c, .int .u32 q.d, .int .u32 q.e, .int .u32 q.f, .int .u32 q.g, .int .u32 q.h]) (.int .i64 (j : Int))).run Tryz.prog V = .ok (.int .u32 ((q.list.getD j 0 : Nat) : Int)) V := fun V => by
            obtain rfl | rfl | rfl | rfl | rfl | rfl | rfl | rfl : j = 0 ∨ j = 1 ∨ j = 2 ∨ j = 3 ∨ j = 4 ∨ j = 5 ∨ j = 6 ∨ j = 7 := by omega
            all_goals kernel_rfl
          rw [hag.out j, if_neg (by omega)] at c0
          obtain ⟨v, HV⟩ : ∃ v, Hid (v = add32 (s.list.getD j 0) (q.list.getD j 0)) := ⟨_, Lib.hid rfl⟩
          have hv := add32_int (s.list.getD j 0) (q.list.getD j 0)
          rw [← HV.out] at hv
          have HIX := Lib.hid hix
          clear hix
          have hix := HIX.out
          generalize hx0 : s.list.getD j 0 = x0 at c0 hv HV
          have H0' := Lib.hid H0
          have H2' := Lib.hid H2
          have HL8 := Lib.hid hl
          clear H0 H2 hl HIX
          generalize hx1 : q.list.getD j 0 = x1 at hix hv HV
          have HX0 := Lib.hid hx0
          have HX1 := Lib.hid hx1
          clear hx0 hx1
          go_wp2_with fail
          go_roundw
          case rel =>
            refine ⟨j + 1, l.set j v, by omega, by go_num, by simp [HL8.out], Lib.hid ?_, heap_step H0'.out v, heap_keep H2'.out (by omega), hbw.setCell (by simp) _⟩
            intro i
            rw [getD_set _ _ _ _ (by rw [HL8.out]; exact hlt)]
            by_cases e : i = j
            · subst e; rw [if_pos rfl, if_pos (by omega), HX0.out, HX1.out, HV.out]
            · rw [if_neg e, hag.out i]
              by_cases h : i < j
              · rw [if_pos h, if_pos (by omega)]
              · rw [if_neg h, if_neg (by omega)]
          case measure => simp [intOf]; omega
        · obtain rfl : j = 8 := by omega
          have e : l = (proc s B).list := getD_ext (by rw [hl]; rfl) (fun i hi => by
            rw [hag.out i, if_pos (by omega), HQ.out]
            obtain rfl | rfl | rfl | rfl | rfl | rfl | rfl | rfl : i = 0 ∨ i = 1 ∨ i = 2 ∨ i = 3 ∨ i = 4 ∨ i = 5 ∨ i = 6 ∨ i = 7 := by omega
            all_goals rfl)
          subst e
          have H0' := Lib.hid H0
          have H2' := Lib.hid H2
          have hs8 : (Tryz.prog.info? 161).map (·.size) = some (row .u32 (proc s B).list).size := by rw [row_size]; kernel_rfl
          have HS8 := Lib.hid hs8
          clear H0 H2 hl hag hs8 hlt hj
          go_wp2_with (first
            | (refine wpList_load_row rfl 161 _ rfl w.heap.size rfl 161 _ _ _ H0'.out Tryz.underlying161 rfl HS8.out ?_)
            | (refine wpList_store_row rfl 161 _ _ rfl (w.heap.size + 1 + 1) _ rfl rfl 161 _ H2'.out HS8.out (by rw [row_size, row_size]; rfl) (row_one _ _) ?_))
          refine bodyPost_ret (v := .agg (row .u32 (proc s B).list)) ?_ rfl ⟨rfl, below_setRow hbw (by omega) _⟩
          exact results_cell_row rfl _ _ (w.heap.size + 1 + 1) 161 _ (0, 0) _ rfl (setRow_heap _ _ _ _ _ _ H2'.out) Tryz.underlying161 rfl HS8.out
end Go.Proofs.YtbdlegjklfkdmaaGreatDoor.Pl

namespace Go.Proofs.YtbdlegjklfkdmaaGreatDoor.Pl
open Go.RowKit

/-- The byte number i of eight numbers. -/
def outAt (s : S8) (i : Nat) : Nat := s.list.getD (i / 4) 0 / 2 ^ (8 * (3 - i % 4)) % 256
/-- The bytes of eight numbers, the most significant first. -/
def outs (s : S8) : List Nat := (List.range 32).map (outAt s)
def bytesOf (l : List Nat) : ByteArray := ⟨(l.map UInt8.ofNat).toArray⟩
theorem outs_length (s : S8) : (outs s).length = 32 := by simp [outs]
theorem outs_at (s : S8) (j : Nat) (h : j < 32) : (outs s).getD j 0 = outAt s j := by
  simp [outs, List.getD_eq_getElem?_getD, h]
theorem outAt_lt (s : S8) (i : Nat) : outAt s i < 256 := Nat.mod_lt _ (by decide)

theorem add_none (b o j : Nat) : (⟨b, o, none⟩ : Addr).add j = ⟨b, o + j, none⟩ := by unfold Addr.add; split <;> simp_all
theorem slice32 (b : Nat) (W : World) :
    (Instr.sliceAt 185 (.pointer (some ⟨b, 0, none⟩)) none none none).run Tryz.prog W = .ok (.slice (some ⟨b, 0, none⟩) 32 32) W := by
  have ha : Tryz.prog.arrayLen 185 = 32 := by simp [Program.arrayLen, Tryz.underlying185]
  have he : Tryz.prog.elem 185 = 5 := by simp [Program.elem, Tryz.underlying185]
  rw [run_sliceAt_array_all W 185 ⟨b, 0, none⟩ (by rw [ha, he]; exact Tryz.underlying185), ha, he]
  have hs : (sizeOf 5).run Tryz.prog W = .ok 1 W := by kernel_rfl
  rw [hs]
  simp only [Result.andThen, slicedAt]
  rw [if_neg (by omega), add_none]
theorem back_string (w : World) (b o cap : Nat) (l : List Nat) (hl : ∀ j, l.getD j 0 < 256) (hc : ∀ j, j < l.length → w.cell? ⟨b, o + j, none⟩ = some (.int .u8 ((l.getD j 0 : Nat) : Int))) :
    (convert 121 9 (.slice (some ⟨b, o, none⟩) l.length cap)).run Tryz.prog w = .ok (.string (bytesOf l)) w := by
  have h := run_convert_bytes_back (P := Tryz.prog) w 121 9 5 ⟨b, o, none⟩ cap (l.map UInt8.ofNat) Tryz.underlying121 Tryz.underlying5 Tryz.underlying9 (fun j hj => by
    rw [add_none]
    have hj' : j < l.length := by simpa using hj
    rw [hc j hj']
    have h1 := hl j
    rw [List.getD_eq_getElem?_getD, List.getElem?_eq_getElem hj', Option.getD_some] at h1
    have h3 : ((l.map UInt8.ofNat)[j]).toNat = l[j] := by simp; omega
    rw [h3, List.getD_eq_getElem?_getD, List.getElem?_eq_getElem hj', Option.getD_some])
  simpa [bytesOf] using h

set_option maxRecDepth 100000 in
theorem joined_any (s : S8) (w : World) :
    Calls Tryz.prog 153 #[.agg (row .u32 s.list)] w fun e w' => e = .returned (.string (bytesOf (outs s))) ∧ Below w.heap.size w w' := by
  go_enter Tryz.func153, Tryz.ntmps153
  go_wp2_with fail
  go_loopw [5] (fun i wr => ∃ (k : Nat) (l : List Nat), k ≤ 32 ∧ i = .int .i64 k ∧ l.length = 32 ∧ Hid (Agrees l (outAt s) k) ∧ wr.heap[w.heap.size]? = some (.cells (row .u32 s.list) 161 (0, 0)) ∧ wr.heap[w.heap.size + 1]? = some (.cells (row .u8 l) 185 (0, 0)) ∧ Below w.heap.size w wr) (fun i _ => 32 - (intOf i).toNat)
  case atStart =>
    refine ⟨0, List.replicate 32 0, by omega, rfl, by simp, Lib.hid (Agrees.zero _ _), ?_, ?_, ?_⟩
    · rw [Go.heap_alloc_old _ _ (by simp), Go.heap_alloc_new]
    · have := Go.heap_alloc_new (w.alloc (.cells (row .u32 s.list) 161)) (.cells (row .u8 (List.replicate 32 0)) 185)
      rw [size_alloc'] at this
      exact this
    · exact ((Below.refl _ _).alloc (Nat.le_refl _) _).alloc (by simp) _
  case round =>
    obtain ⟨k, l, hk, rfl, hl, hag, h0, h1, hbw⟩ := hrel
    by_cases hlt : k < 32
    · have c0 := (at_row h0 (k / 4) (by simp [S8.list]; omega)).1
      obtain ⟨c1, f1⟩ := at_row h1 k (by omega)
      have H0 := Lib.hid h0
      have H1 := Lib.hid h1
      have HL := Lib.hid hl
      clear h0 h1 hl
      have q1 : ((k : Int) / 4).toNat = k / 4 := by omega
      have q2 : (0 : Int) ≤ 8 * (3 - (k : Int) % 4) := by omega
      have q3 : (8 * (3 - (k : Int) % 4)).toNat = 8 * (3 - k % 4) := by omega
      have q4 : (0 : Int) ≤ (k : Int) / 4 := by omega
      have q5 : (k : Int) / 4 < 8 := by omega
      obtain ⟨v, HV⟩ : ∃ v, Hid (v = outAt s k) := ⟨_, Lib.hid rfl⟩
      have hv : ((s.list.getD (k / 4) 0 : Nat) : Int) / 2 ^ (8 * (3 - k % 4)) % 256 = (v : Int) := by
        rw [HV.out, outAt, Int.natCast_emod, Int.natCast_ediv, Int.natCast_pow]; rfl
      generalize s.list.getD (k / 4) 0 = x at c0 hv
      go_wp2_with fail
      go_roundw
      case rel =>
        refine ⟨k + 1, l.set k v, by omega, by go_num, by simp [HL.out], Lib.hid ?_, heap_keep H0.out (by omega), heap_step H1.out v, hbw.setCell (by simp) _⟩
        rw [HV.out]; exact hag.out.next (by rw [HL.out]; omega)
      case measure => simp [intOf]; omega
    · obtain rfl : k = 32 := by omega
      have e : l = outs s := getD_ext (by rw [hl, outs_length]) (fun i hi => by rw [outs_at s i (by omega), hag.out i (by omega)])
      subst e
      have hsl := slice32 (w.heap.size + 1)
      have hcv := back_string wr (w.heap.size + 1) 0 32 (outs s) (fun j => by
        by_cases h : j < 32
        · rw [outs_at s j h]; exact outAt_lt s j
        · rw [List.getD_eq_getElem?_getD, List.getElem?_eq_none (by omega)]; decide) (fun j hj => by rw [Nat.zero_add]; exact (at_row h1 j hj).1)
      rw [outs_length] at hcv
      clear h0 h1 hl hag
      go_wp2_with fail
      go_ret
      exact ⟨rfl, hbw⟩
end Go.Proofs.YtbdlegjklfkdmaaGreatDoor.Pl

namespace Go.Proofs.YtbdlegjklfkdmaaGreatDoor.Pl
open Go.RowKit

/-- The cells of a Hash: its state, the bytes that wait, the size. -/
def hcells (s : S8) (wt : List Nat) (n : Nat) : Array Value := ((s.list.map fun (x : Nat) => Value.int .u32 (x : Int)) ++ (wt.map fun (x : Nat) => Value.int .u8 (x : Int)) ++ [Value.int .u64 (n : Int)]).toArray
/-- Block b is a Hash with these parts. -/
def HashAt (w : World) (b : Nat) (s : S8) (wt : List Nat) (n : Nat) : Prop := w.heap[b]? = some (.cells (hcells s wt n) 163 (0, 0)) ∧ wt.length = 64
theorem hcells_size {s : S8} {wt : List Nat} (n : Nat) (h : wt.length = 64) : (hcells s wt n).size = 73 := by simp [hcells, S8.list, h]
theorem hcells_one (s : S8) (wt : List Nat) (n : Nat) : (hcells s wt n).all (·.oneCell') = true := by
  rw [Array.all_eq_true_iff_forall_mem]
  intro v hv
  simp only [hcells, List.mem_toArray, List.mem_append, List.mem_map, List.mem_singleton] at hv
  rcases hv with (⟨_, _, rfl⟩ | ⟨_, _, rfl⟩) | rfl <;> rfl
theorem HashAt.size {w : World} {b : Nat} {s : S8} {wt : List Nat} {n : Nat} (h : HashAt w b s wt n) : w.cell? ⟨b, 72, none⟩ = some (.int .u64 (n : Int)) ∧ w.frozen? ⟨b, 72, none⟩ = false := by
  refine ⟨?_, frozen_of_row w b 72 _ _ h.1⟩
  rw [cell_of_row w b 72 _ _ (0, 0) h.1]
  simp [hcells, S8.list, h.2]
theorem HashAt.lt {w : World} {b : Nat} {s : S8} {wt : List Nat} {n : Nat} (h : HashAt w b s wt n) : b < w.heap.size := (Array.getElem?_eq_some_iff.1 h.1).1
theorem HashAt.below {w w' : World} {b : Nat} {s : S8} {wt : List Nat} {n : Nat} (h : HashAt w b s wt n) (hb : Below w.heap.size w w') : HashAt w' b s wt n := ⟨heap_below hb h.1, h.2⟩
theorem HashAt.setSize {w : World} {b : Nat} {s : S8} {wt : List Nat} {n : Nat} (h : HashAt w b s wt n) (m : Nat) : HashAt (w.setCell ⟨b, 72, none⟩ (.int .u64 (m : Int))) b s wt m := by
  refine ⟨?_, h.2⟩
  rw [heap_setCell_same w b 72 _ _ _ h.1]
  congr 2
  apply Array.ext'
  simp [hcells, S8.list, h.2]
theorem HashAt.state {w : World} {b : Nat} {s : S8} {wt : List Nat} {n : Nat} (h : HashAt w b s wt n) : w.rangeAt b 0 (s.list.map fun (x : Nat) => Value.int .u32 (x : Int)) := by
  intro j v hv
  have hj : j < 8 := by have := (List.getElem?_eq_some_iff.1 hv).1; simpa [S8.list] using this
  rw [cell_of_row w b (0 + j) _ _ (0, 0) h.1, ← hv, Nat.zero_add]
  simp only [hcells, List.getElem?_toArray]
  rw [List.append_assoc, List.getElem?_append_left (by simpa [S8.list] using hj)]
theorem HashAt.wait {w : World} {b : Nat} {s : S8} {wt : List Nat} {n : Nat} (h : HashAt w b s wt n) : w.rangeAt b 8 (wt.map fun (x : Nat) => Value.int .u8 (x : Int)) := by
  intro j v hv
  have hj : j < 64 := by have := (List.getElem?_eq_some_iff.1 hv).1; simpa [h.2] using this
  rw [cell_of_row w b (8 + j) _ _ (0, 0) h.1, ← hv]
  simp only [hcells, List.getElem?_toArray]
  rw [List.append_assoc, List.getElem?_append_right (by simp [S8.list]), List.getElem?_append_left (by simp [S8.list, h.2]; omega)]
  congr 1
  simp [S8.list]
theorem HashAt.there {w : World} {b : Nat} {s : S8} {wt : List Nat} {n : Nat} (h : HashAt w b s wt n) (o k : Nat) (hk : o + k ≤ 73) : w.there b o k := by
  intro j hj
  refine ⟨?_, frozen_of_row w b _ _ _ h.1⟩
  rw [cell_of_row w b (o + j) _ _ (0, 0) h.1]
  have : o + j < (hcells s wt n).size := by rw [hcells_size n h.2]; omega
  simp [this]
theorem setCells_row (g : Nat) (t : TypeId) : ∀ (vs : List Value) (o : Nat) (cur : Array Value) (w : World), w.heap[g]? = some (.cells cur t (0, 0)) → o + vs.length ≤ cur.size →
    w.setCells g o vs = w.setRow g (cur.toList.take o ++ vs ++ cur.toList.drop (o + vs.length)).toArray
  | [], o, cur, w, hg, _ => by
    simp only [World.setCells, List.append_nil, List.length_nil, Nat.add_zero, List.take_append_drop, Array.toArray_toList]
    rw [setRow_self w g cur t (0, 0) hg]
  | v :: rest, o, cur, w, hg, hl => by
    have ih := setCells_row g t rest (o + 1) (cur.setIfInBounds o v) (w.setRow g (cur.setIfInBounds o v)) (setRow_heap w g cur _ t _ hg) (by simp at hl ⊢; omega)
    rw [World.setCells, setCell_eq_setRow w g o cur t (0, 0) v hg, ih, setRow_setRow]
    congr 2
    have e := list_seg_step cur.toList o v rest (by simp at hl ⊢; omega)
    simpa [Array.toList_setIfInBounds, Nat.add_assoc] using e
theorem HashAt.setState {w : World} {b : Nat} {s : S8} {wt : List Nat} {n : Nat} (h : HashAt w b s wt n) (q : S8) : HashAt (w.setCells b 0 (q.list.map fun (x : Nat) => Value.int .u32 (x : Int))) b q wt n := by
  refine ⟨?_, h.2⟩
  rw [setCells_row b _ _ 0 _ w h.1 (by rw [hcells_size n h.2]; simp [S8.list]), setRow_heap w b _ _ _ _ h.1]
  congr 2
/-- The state to begin with. -/
def S0 : S8 := ⟨1779033703, 3144134277, 1013904242, 2773480762, 1359893119, 2600822924, 528734635, 1541459225⟩
theorem S0_fits : S0.fits := by unfold S8.fits; decide
def Z0 : S8 := ⟨0, 0, 0, 0, 0, 0, 0, 0⟩
theorem zero_hash (w : World) : (zeroValue 163).run Tryz.prog w = .ok (.agg (hcells Z0 (List.replicate 64 0) 0)) w := by kernel_rfl

theorem first_hash : (((((((((hcells Z0 (List.replicate 64 0) 0).setIfInBounds 0 (.int .u32 1779033703)).setIfInBounds 1 (.int .u32 3144134277)).setIfInBounds 2 (.int .u32 1013904242)).setIfInBounds 3 (.int .u32 2773480762)).setIfInBounds 4 (.int .u32 1359893119)).setIfInBounds 5 (.int .u32 2600822924)).setIfInBounds 6 (.int .u32 528734635)).setIfInBounds 7 (.int .u32 1541459225)) = hcells S0 (List.replicate 64 0) 0 := by kernel_rfl
set_option maxRecDepth 100000 in
theorem new_any (w : World) : Calls Tryz.prog 127 #[] w fun e w' => e = .returned (.pointer (some ⟨w.heap.size, 0, none⟩)) ∧ HashAt w' w.heap.size S0 (List.replicate 64 0) 0 ∧ w.heap.size < w'.heap.size ∧ Below w.heap.size w w' := by
  have hzv := zero_hash
  have hfs := first_hash
  have hzs : (hcells Z0 (List.replicate 64 0) 0).size = 73 := hcells_size 0 (by simp)
  go_enter Tryz.func127, Tryz.ntmps127
  go_wp2_with fail
  go_ret
  refine ⟨rfl, ⟨Go.heap_alloc_new _ _, by simp⟩, by simp, (Below.refl _ _).alloc (Nat.le_refl _) _⟩

set_option maxRecDepth 100000 in
theorem copy_any (w : World) (b : Nat) (s : S8) (wt : List Nat) (n : Nat) (h : HashAt w b s wt n) :
    Calls Tryz.prog 199 #[.pointer (some ⟨b, 0, none⟩)] w fun e w' => e = .returned (.pointer (some ⟨w.heap.size, 0, none⟩)) ∧ HashAt w' w.heap.size s wt n ∧ w.heap.size < w'.heap.size ∧ Below w.heap.size w w' := by
  have hs : (Tryz.prog.info? 163).map (·.size) = some (hcells s wt n).size := by rw [hcells_size n h.2]; kernel_rfl
  have HS := Lib.hid hs
  have HC := Lib.hid h.1
  have hne : ¬ b = w.heap.size := by have := h.lt; omega
  have hz : (hcells Z0 (List.replicate 64 0) 0).size = (hcells s wt n).size := by rw [hcells_size _ h.2, hcells_size _ (by simp)]
  have HZ := Lib.hid hz
  have HL := Lib.hid h
  clear hs hz h
  have hzv := zero_hash
  go_enter Tryz.func199, Tryz.ntmps199
  go_wp2_with (first
    | (refine wpList_load_row rfl 163 _ rfl b rfl 163 _ _ _ HC.out Tryz.underlying163 rfl HS.out ?_)
    | (refine wpList_store_row rfl 163 _ _ rfl w.heap.size _ rfl rfl 163 _ (Go.heap_alloc_new _ _) HS.out HZ.out (hcells_one _ _ _) ?_))
  go_ret
  rw [World.setRow_alloc_new]
  exact ⟨rfl, ⟨Go.heap_alloc_new _ _, HL.out.2⟩, by simp, (Below.refl _ _).alloc (Nat.le_refl _) _⟩
end Go.Proofs.YtbdlegjklfkdmaaGreatDoor.Pl

namespace Go.Proofs.YtbdlegjklfkdmaaGreatDoor.Pl
open Go.RowKit

/-- The state behind the first k blocks of m. -/
noncomputable def ab (m : List Nat) : Nat → S8
  | 0 => S0
  | k + 1 => proc (ab m k) ((m.drop (64 * k)).take 64)
theorem ab_fits (m : List Nat) (k : Nat) : (ab m k).fits := by
  cases k with
  | zero => exact S0_fits
  | succ k => exact proc_fits _ _
theorem ab_append (m c : List Nat) (k : Nat) (h : 64 * k ≤ m.length) : ab (m ++ c) k = ab m k := by
  induction k with
  | zero => rfl
  | succ k ih =>
    rw [ab, ab, ih (by omega), List.drop_append_of_le_length (by omega), List.take_append_of_le_length (by rw [List.length_drop]; omega)]
/-- The bytes that wait for a whole block. -/
def tail (m : List Nat) : List Nat := m.drop (64 * (m.length / 64))
theorem tail_length (m : List Nat) : (tail m).length = m.length % 64 := by rw [tail, List.length_drop]; omega
/-- The state behind the whole blocks of m. -/
noncomputable def st (m : List Nat) : S8 := ab m (m.length / 64)
theorem st_part (m c : List Nat) (h : m.length % 64 + c.length < 64) : st (m ++ c) = st m := by
  rw [st, st, List.length_append, show (m.length + c.length) / 64 = m.length / 64 by omega, ab_append _ _ _ (by omega)]
theorem tail_part (m c : List Nat) (h : m.length % 64 + c.length < 64) : tail (m ++ c) = tail m ++ c := by
  rw [tail, tail, List.length_append, show (m.length + c.length) / 64 = m.length / 64 by omega, List.drop_append_of_le_length (by omega)]
theorem st_full (m c : List Nat) (h : m.length % 64 + c.length = 64) : st (m ++ c) = proc (st m) (tail m ++ c) := by
  rw [st, List.length_append, show (m.length + c.length) / 64 = m.length / 64 + 1 by omega, ab, ab_append _ _ _ (by omega), st, tail]
  rw [List.drop_append_of_le_length (by omega), List.take_of_length_le (by rw [List.length_append, List.length_drop]; omega)]
theorem tail_full (m c : List Nat) (h : m.length % 64 + c.length = 64) : tail (m ++ c) = [] := by
  apply List.eq_nil_of_length_eq_zero
  rw [tail_length, List.length_append]; omega
/-- Numbers that are bytes. -/
def Bytes (m : List Nat) : Prop := ∀ x ∈ m, x < 256
theorem Bytes.at {m : List Nat} (h : Bytes m) (j : Nat) : m.getD j 0 < 256 := by
  by_cases hj : j < m.length
  · rw [List.getD_eq_getElem?_getD, List.getElem?_eq_getElem hj]; exact h _ (List.getElem_mem hj)
  · rw [List.getD_eq_getElem?_getD, List.getElem?_eq_none (by omega)]; decide
theorem Bytes.append {m c : List Nat} (h : Bytes m) (k : Bytes c) : Bytes (m ++ c) := by
  intro x hx; rcases List.mem_append.1 hx with hx | hx
  · exact h x hx
  · exact k x hx
theorem Bytes.take {m : List Nat} (h : Bytes m) (n : Nat) : Bytes (m.take n) := fun x hx => h x (List.mem_of_mem_take hx)
theorem Bytes.drop {m : List Nat} (h : Bytes m) (n : Nat) : Bytes (m.drop n) := fun x hx => h x (List.mem_of_mem_drop hx)
/-- The bytes of a text. -/
def nums (s : ByteArray) : List Nat := s.data.toList.map UInt8.toNat
theorem nums_bytes (s : ByteArray) : Bytes (nums s) := by
  intro x hx
  obtain ⟨c, _, rfl⟩ := List.mem_map.1 hx
  exact c.toNat_lt
theorem nums_length (s : ByteArray) : (nums s).length = s.size := by rw [nums, List.length_map]; rfl

theorem splice_mid {α : Type} (A W Z C : List α) (a r : Nat) (hA : A.length = a) (hr : r + C.length ≤ W.length) :
    (A ++ W ++ Z).take (a + r) ++ C ++ (A ++ W ++ Z).drop (a + r + C.length) = A ++ (W.take r ++ C ++ W.drop (r + C.length)) ++ Z := by
  subst hA
  rw [List.append_assoc A W Z, List.take_length_add_append, List.take_append_of_le_length (by omega)]
  rw [show A.length + r + C.length = A.length + (r + C.length) by omega, List.drop_length_add_append, List.drop_append_of_le_length (by omega)]
  simp
def u8s (c : List Nat) : List Value := c.map fun (x : Nat) => Value.int .u8 (x : Int)
/-- A copy goes into the bytes that wait. -/
theorem HashAt.setWait {w : World} {b : Nat} {s : S8} {wt : List Nat} {n : Nat} (h : HashAt w b s wt n) (r : Nat) (c : List Nat) (hr : r + c.length ≤ 64) :
    HashAt (w.setRow b ((hcells s wt n).toList.take (8 + r) ++ (c.map fun (x : Nat) => Value.int .u8 (x : Int)) ++ (hcells s wt n).toList.drop (8 + r + c.length)).toArray) b s (wt.take r ++ c ++ wt.drop (r + c.length)) n := by
  refine ⟨?_, by simp [h.2]; omega⟩
  rw [setRow_heap w b _ _ _ _ h.1]
  congr 2
  apply Array.ext'
  have h8 : (s.list.map fun (x : Nat) => Value.int .u32 (x : Int)).length = 8 := by simp [S8.list]
  have := splice_mid (s.list.map fun (x : Nat) => Value.int .u32 (x : Int)) (wt.map fun (x : Nat) => Value.int .u8 (x : Int)) [Value.int .u64 (n : Int)] (c.map fun (x : Nat) => Value.int .u8 (x : Int)) 8 r h8 (by simp [h.2]; omega)
  rw [List.length_map] at this
  simpa only [hcells, List.map_append, List.map_take, List.map_drop] using this
/-- The size in bits, as eight bytes. -/
def lenAt (n j : Nat) : Nat := n * 8 / 2 ^ (8 * (7 - j)) % 256
def lenB (n : Nat) : List Nat := (List.range 8).map (lenAt n)
/-- What waits, the byte 128, and bytes 0 up to 64. -/
def base (m : List Nat) : List Nat := tail m ++ 128 :: List.replicate (63 - m.length % 64) 0
theorem base_length (m : List Nat) : (base m).length = 64 := by
  rw [base, List.length_append, tail_length, List.length_cons, List.length_replicate]; omega
/-- The state behind the padded text. -/
noncomputable def fin (m : List Nat) : S8 :=
  if 56 ≤ m.length % 64 then proc (proc (st m) (base m)) (List.replicate 56 0 ++ lenB m.length) else proc (st m) ((base m).take 56 ++ lenB m.length)
/-- The hash. -/
noncomputable def digest (m : List Nat) : List Nat := outs (fin m)
theorem lenB_length (n : Nat) : (lenB n).length = 8 := by simp [lenB]
theorem lenB_at (n j : Nat) (h : j < 8) : (lenB n).getD j 0 = lenAt n j := by simp [lenB, List.getD_eq_getElem?_getD, h]
theorem lenAt_lt (n j : Nat) : lenAt n j < 256 := Nat.mod_lt _ (by decide)
theorem Bytes.base {m : List Nat} (h : Bytes m) : Bytes (base m) := by
  refine Bytes.append (h.drop _) ?_
  intro x hx
  rcases List.mem_cons.1 hx with rfl | hx
  · decide
  · rw [List.eq_of_mem_replicate hx]; decide
end Go.Proofs.YtbdlegjklfkdmaaGreatDoor.Pl

namespace Go.Proofs.YtbdlegjklfkdmaaGreatDoor.Pl
open Go.RowKit

/-- The hexadecimal digit of a number below 16. -/
def dg (x : Nat) : Nat := if x < 10 then 48 + x else 87 + x
theorem info_u8 : (Tryz.prog.info? 5).map (fun i => (i.zero, i.size, i.bytes)) = some (some (.int .u8 0), 1, 1) := by kernel_rfl

theorem str_index (s : ByteArray) (k c : Nat) (hk : k < s.size) (hc : c = (nums s).getD k 0) (V : World) : (Instr.index 9 (.string s) (.int .i64 (k : Int))).run Tryz.prog V = .ok (.int .u8 (c : Int)) V := by
  rw [run_index_string V 9 s .i64 k Tryz.underlying9, dif_pos ⟨by omega, by omega⟩, hc]
  congr 2
  have hk' : k < s.data.toList.length := by simpa using hk
  simp only [nums, List.getD_eq_getElem?_getD, List.getElem?_map, List.getElem?_eq_getElem hk', Option.map_some, Option.getD_some, Int.toNat_natCast]
  rfl
theorem take_next (l : List Nat) (k : Nat) (h : k < l.length) : l.take (k + 1) = l.take k ++ [l.getD k 0] := by
  rw [List.take_succ_eq_append_getElem h, List.getD_eq_getElem?_getD, List.getElem?_eq_getElem h, Option.getD_some]
end Go.Proofs.YtbdlegjklfkdmaaGreatDoor.Pl

namespace Go.Proofs.YtbdlegjklfkdmaaGreatDoor.Pl
open Go.RowKit

/-- What has differed in the first k numbers. -/
def dif (l m : List Nat) : Nat → Nat
  | 0 => 0
  | k + 1 => dif l m k ||| (l.getD k 0 ^^^ m.getD k 0)
theorem or_zero (a b : Nat) : a ||| b = 0 ↔ a = 0 ∧ b = 0 := by
  constructor
  · intro h
    constructor
    · apply Nat.eq_of_testBit_eq; intro i
      have := congrArg (fun x => x.testBit i) h
      simp only [Nat.testBit_or, Nat.zero_testBit, Bool.or_eq_false_iff] at this
      rw [this.1, Nat.zero_testBit]
    · apply Nat.eq_of_testBit_eq; intro i
      have := congrArg (fun x => x.testBit i) h
      simp only [Nat.testBit_or, Nat.zero_testBit, Bool.or_eq_false_iff] at this
      rw [this.2, Nat.zero_testBit]
  · rintro ⟨rfl, rfl⟩; rfl
theorem xor_zero (a b : Nat) : a ^^^ b = 0 ↔ a = b := by
  constructor
  · intro h
    apply Nat.eq_of_testBit_eq; intro i
    have := congrArg (fun x => x.testBit i) h
    simp only [Nat.testBit_xor, Nat.zero_testBit] at this
    cases h1 : a.testBit i <;> cases h2 : b.testBit i <;> simp_all
  · rintro rfl; exact Nat.xor_self a
theorem dif_lt {l m : List Nat} (hl : Bytes l) (hm : Bytes m) (k : Nat) : dif l m k < 256 := by
  induction k with
  | zero => exact (by decide : (0 : Nat) < 256)
  | succ k ih => exact Nat.or_lt_two_pow (n := 8) ih (Nat.xor_lt_two_pow (n := 8) (hl.at k) (hm.at k))
theorem dif_zero {l m : List Nat} (k : Nat) : dif l m k = 0 ↔ ∀ j, j < k → l.getD j 0 = m.getD j 0 := by
  induction k with
  | zero => exact ⟨fun _ j hj => absurd hj (by omega), fun _ => rfl⟩
  | succ k ih =>
    rw [dif, or_zero, xor_zero, ih]
    constructor
    · rintro ⟨h1, h2⟩ j hj
      by_cases e : j = k
      · subst e; exact h2
      · exact h1 j (by omega)
    · exact fun h => ⟨fun j hj => h j (by omega), h k (by omega)⟩
theorem nums_inj {a b : ByteArray} (h : nums a = nums b) : a = b := by
  apply ByteArray.ext
  apply Array.ext'
  exact (List.map_inj_right (fun x y hxy => UInt8.toNat_inj.1 hxy)).1 h
theorem dif_all {a b : ByteArray} (h : a.size = b.size) : dif (nums a) (nums b) a.size = 0 ↔ a = b := by
  rw [dif_zero]
  constructor
  · exact fun k => nums_inj (getD_ext (by rw [nums_length, nums_length, h]) (fun i hi => k i (by rwa [nums_length] at hi)))
  · rintro rfl j _; rfl
end Go.Proofs.YtbdlegjklfkdmaaGreatDoor.Pl

namespace Go.Proofs.YtbdlegjklfkdmaaGreatDoor.Pl
open Go.RowKit

set_option maxRecDepth 100000 in
theorem hsame_any (a b : ByteArray) (hn : a.size ≤ 1000000) (w : World) (r : Bool) (hr : r = decide (a = b)) :
    Calls Tryz.prog 102 #[.string a, .string b] w fun e w' => e = .returned (.bool r) ∧ Below w.heap.size w w' := by
  have HR := Lib.hid hr
  clear hr
  by_cases hsz : a.size = b.size
  · have HSZ := Lib.hid hsz
    have e1 : ((a.size : Int) != (b.size : Int)) = false := by rw [hsz]; simp
    obtain ⟨n, en⟩ : ∃ n, n = a.size := ⟨_, rfl⟩
    have EN := Lib.hid en
    clear hsz en
    go_enter Tryz.func102, Tryz.ntmps102
    go_wp2_with fail
    go_loopw [5, 14] (fun d i wr => ∃ k x : Nat, k ≤ a.size ∧ i = .int .i64 k ∧ d = .int .u8 x ∧ Hid (x = dif (nums a) (nums b) k) ∧ Hid (Below w.heap.size w wr)) (fun _ i _ => a.size - (intOf i).toNat)
    case atStart => exact ⟨0, 0, by omega, rfl, rfl, Lib.hid rfl, Lib.hid (Below.refl _ _)⟩
    case round =>
      obtain ⟨k, x, hk, rfl, rfl, hx, hbw⟩ := hrel
      by_cases hlt : k < a.size
      · obtain ⟨c, ec⟩ : ∃ c : Nat, c = (nums a).getD k 0 := ⟨_, rfl⟩
        obtain ⟨d, ed⟩ : ∃ d : Nat, d = (nums b).getD k 0 := ⟨_, rfl⟩
        have i1 : ∀ V : World, (Instr.index 9 (.string a) (.int .i64 (k : Int))).run Tryz.prog V = .ok (.int .u8 (c : Int)) V := str_index a k c hlt ec
        have i2 : ∀ V : World, (Instr.index 9 (.string b) (.int .i64 (k : Int))).run Tryz.prog V = .ok (.int .u8 (d : Int)) V := str_index b k d (by rw [← HSZ.out]; exact hlt) ed
        have hc : c < 256 := by rw [ec]; exact (nums_bytes a).at k
        have hd : d < 256 := by rw [ed]; exact (nums_bytes b).at k
        have hx' : x < 256 := by rw [hx.out]; exact dif_lt (nums_bytes a) (nums_bytes b) k
        have b1 : bits .xor .u8 (c : Int) (d : Int) = ((c ^^^ d : Nat) : Int) := u8_xor_nat c d hc hd
        have b2 : bits .or .u8 (x : Int) ((c ^^^ d : Nat) : Int) = ((x ||| (c ^^^ d) : Nat) : Int) := u8_or_nat x _ hx' (Nat.xor_lt_two_pow (n := 8) hc hd)
        have hz : x ||| (c ^^^ d) = dif (nums a) (nums b) (k + 1) := by rw [dif, ← ec, ← ed, ← hx.out]
        generalize x ||| (c ^^^ d) = z at b2 hz
        generalize c ^^^ d = y at b1 b2
        have HZ := Lib.hid hz
        clear hz hc hd hx'
        have HC := Lib.hid ec
        have HD := Lib.hid ed
        clear ec ed
        go_wp2_with fail
        go_quiet (fail)
        go_wp2
        exact ⟨⟨k + 1, z, by omega, by go_num, by simp, HZ, Lib.hid (below_drewN hbw.out _)⟩, by simp [intOf]; omega⟩
      · obtain rfl : k = a.size := by omega
        have q : ((x : Int) == 0) = r := by
          rw [HR.out]
          have h := dif_all HSZ.out
          rw [← hx.out] at h
          by_cases e : a = b
          · rw [decide_eq_true e, beq_iff_eq]; have := h.2 e; omega
          · rw [decide_eq_false e, beq_eq_false_iff_ne]; intro e0; exact e (h.1 (by omega))
        have HQ := Lib.hid hbw
        clear hx hbw
        go_wp2
        go_ret
        exact ⟨rfl, HQ.out.out⟩
  · have e1 : ((a.size : Int) != (b.size : Int)) = true := by simp; omega
    have HN : Hid (decide (a = b) = false) := Lib.hid (decide_eq_false (fun e => hsz (by rw [e])))
    clear hsz
    go_enter Tryz.func102, Tryz.ntmps102
    go_wp2_with fail
    go_ret
    exact ⟨by rw [HR.out, HN.out]; rfl, Below.refl _ _⟩
end Go.Proofs.YtbdlegjklfkdmaaGreatDoor.Pl

namespace Go.Proofs.YtbdlegjklfkdmaaGreatDoor.Pl

/-- How many bytes 0 stand behind the byte 128. -/
def zs (n : Nat) : Nat := (119 - n % 64) % 64
def padded (m : List Nat) : List Nat := m ++ 128 :: List.replicate (zs m.length) 0 ++ lenB m.length
theorem zs_spec (n : Nat) : (n + 1 + zs n) % 64 = 56 := by unfold zs; omega
theorem zs_before (n z : Nat) (h : z < zs n) : (n + 1 + z) % 64 ≠ 56 := by unfold zs at h; omega
theorem zs_le (n : Nat) : zs n ≤ 63 := by unfold zs; omega
theorem padded_length (m : List Nat) : (padded m).length = m.length + 1 + zs m.length + 8 := by
  simp [padded, lenB_length]; omega
theorem padded_mod (m : List Nat) : (padded m).length % 64 = 0 := by rw [padded_length]; have := zs_spec m.length; omega
theorem Bytes.padded {m : List Nat} (h : Bytes m) : Bytes (padded m) := by
  refine Bytes.append (Bytes.append h ?_) ?_
  · intro x hx
    rcases List.mem_cons.1 hx with rfl | hx
    · decide
    · rw [List.eq_of_mem_replicate hx]; decide
  · intro x hx
    obtain ⟨i, _, rfl⟩ := List.mem_map.1 hx
    exact lenAt_lt _ _
theorem ab_padded (m : List Nat) : ab (padded m) ((padded m).length / 64) = fin m := by
  have hm : m = m.take (64 * (m.length / 64)) ++ tail m := (List.take_append_drop _ _).symm
  have hq : (m.take (64 * (m.length / 64))).length = 64 * (m.length / 64) := by rw [List.length_take]; omega
  have ht := tail_length m
  have hd : (padded m).drop (64 * (m.length / 64)) = tail m ++ 128 :: List.replicate (zs m.length) 0 ++ lenB m.length := by
    rw [padded, List.append_assoc, List.append_assoc, List.drop_append_of_le_length (by omega)]
    rfl
  have h0 : ab (padded m) (m.length / 64) = st m := by
    rw [padded, List.append_assoc, ab_append _ _ _ (by omega), st]
  rw [padded_length]
  by_cases h : 56 ≤ m.length % 64
  · have hz : zs m.length = 119 - m.length % 64 := by unfold zs; omega
    have hb1 : ((padded m).drop (64 * (m.length / 64))).take 64 = base m := by
      rw [hd, base, hz, show 119 - m.length % 64 = (63 - m.length % 64) + 56 by omega, ← List.replicate_append_replicate]
      rw [List.append_assoc, List.cons_append, List.append_assoc, ← List.cons_append, ← List.append_assoc]
      rw [List.take_append_of_le_length (by rw [List.length_append, List.length_cons, List.length_replicate, ht]; omega), List.take_of_length_le (by rw [List.length_append, List.length_cons, List.length_replicate, ht]; omega)]
    have hb2 : ((padded m).drop (64 * (m.length / 64 + 1))).take 64 = List.replicate 56 0 ++ lenB m.length := by
      rw [show 64 * (m.length / 64 + 1) = 64 * (m.length / 64) + 64 by omega, ← List.drop_drop, hd, hz, show 119 - m.length % 64 = (63 - m.length % 64) + 56 by omega, ← List.replicate_append_replicate]
      rw [List.append_assoc, List.cons_append, List.append_assoc, ← List.cons_append, ← List.append_assoc]
      rw [List.drop_left' (by rw [List.length_append, List.length_cons, List.length_replicate, ht]; omega), List.take_of_length_le (by rw [List.length_append, List.length_replicate, lenB_length]; omega)]
    rw [show (m.length + 1 + zs m.length + 8) / 64 = m.length / 64 + 1 + 1 by omega, ab, ab, hb1, hb2, h0, fin, if_pos h]
  · have hz : zs m.length = 55 - m.length % 64 := by unfold zs; omega
    have hb1 : ((padded m).drop (64 * (m.length / 64))).take 64 = (base m).take 56 ++ lenB m.length := by
      have e : (base m).take 56 = tail m ++ 128 :: List.replicate (zs m.length) 0 := by
        rw [base, hz, show 63 - m.length % 64 = (55 - m.length % 64) + 8 by omega, ← List.replicate_append_replicate, ← List.cons_append, ← List.append_assoc]
        rw [List.take_append_of_le_length (by rw [List.length_append, List.length_cons, List.length_replicate, ht]; omega), List.take_of_length_le (by rw [List.length_append, List.length_cons, List.length_replicate, ht]; omega)]
      rw [hd, e, List.take_of_length_le (by rw [List.length_append, List.length_append, List.length_cons, List.length_replicate, lenB_length, ht]; omega)]
    rw [show (m.length + 1 + zs m.length + 8) / 64 = m.length / 64 + 1 by omega, ab, hb1, h0, fin, if_neg h]
end Go.Proofs.YtbdlegjklfkdmaaGreatDoor.Pl

namespace Go.Proofs.YtbdlegjklfkdmaaGreatDoor.Pl
open Go.RowKit

/-- A slice of bytes in a block from B on, which reads as l; what is spare may be written. -/
def Own8 (w : World) (B : Nat) (v : Value) (l : List Nat) : Prop :=
  ∃ g cap, v = .slice (some ⟨g, 0, none⟩) l.length cap ∧ B ≤ g ∧ l.length ≤ cap ∧ (∀ j, j < l.length → w.cell? ⟨g, j, none⟩ = some (.int .u8 ((l.getD j 0 : Nat) : Int))) ∧
    ∀ j, j < cap → (w.cell? ⟨g, j, none⟩).isSome = true ∧ w.frozen? ⟨g, j, none⟩ = false
theorem Own8.alloc {w : World} {B : Nat} {v : Value} {l : List Nat} (h : Own8 w B v l) (o : Obj) : Own8 (w.alloc o) B v l := by
  obtain ⟨g, cap, hv, hB, hl, h1, h2⟩ := h
  refine ⟨g, cap, hv, hB, hl, fun j hj => ?_, fun j hj => ?_⟩
  · have := h1 j hj
    rw [World.cell?_alloc_lt _ _ _ (World.block_lt_of_cell? w _ this)]; exact this
  · obtain ⟨k1, k2⟩ := h2 j hj
    obtain ⟨u, hu⟩ := Option.isSome_iff_exists.1 k1
    have hb := World.block_lt_of_cell? w _ hu
    exact ⟨by rw [World.cell?_alloc_lt _ _ _ hb]; exact k1, by rw [World.frozen?_alloc_past _ _ _ hb]; exact k2⟩

theorem u8s_at (l : List Nat) (j : Nat) (h : j < l.length) : (u8s l)[j]? = some (.int .u8 ((l.getD j 0 : Nat) : Int)) := by
  simp [u8s, List.getD_eq_getElem?_getD, h]
theorem u8s_snoc (l : List Nat) (x : Nat) : u8s (l ++ [x]) = u8s l ++ [.int .u8 (x : Int)] := by simp [u8s]
theorem getD_snoc (l : List Nat) (x j : Nat) : (l ++ [x]).getD j 0 = if j < l.length then l.getD j 0 else if j = l.length then x else 0 := by
  rw [List.getD_eq_getElem?_getD]
  by_cases h : j < l.length
  · rw [if_pos h, List.getElem?_append_left h, List.getD_eq_getElem?_getD]
  · rw [if_neg h, List.getElem?_append_right (by omega)]
    by_cases e : j = l.length
    · rw [if_pos e, e]; simp
    · rw [if_neg e, List.getElem?_eq_none (by simp; omega)]; rfl

theorem wpList_push8 {ops : Array Oper} {rest : List Oper} {o : Oper} {a : Act} {Q : Exit → Act → World → Prop} {w : World} (hg : o.guard = none) (s y : Operand)
    (hop : o.op = Op.call { callee := Callee.builtin Builtin.append, args := #[s, y], argTypes := #[121, 121] })
    (B : Nat) (v : Value) (l : List Nat) (hs : a.eval s = v) (hown : Own8 w B v l) (hBw : B ≤ w.heap.size) (b c x : Nat) (hx : a.eval y = .slice (some ⟨b, 0, none⟩) 1 c) (hc : w.cell? ⟨b, 0, none⟩ = some (.int .u8 (x : Int))) (hl : l.length < 1000000)
    (K : ∀ v' w', Own8 w' B v' (l ++ [x]) → Below B w w' → wpList Tryz.prog ops Q rest (a.put o.dst v') w') : wpList Tryz.prog ops Q (o :: rest) a w := by
  obtain ⟨i0, hi, hz0, hz1, hz2⟩ := info_parts info_u8
  obtain ⟨g, cap, hv, hB, hcap, h1, h2⟩ := hown
  refine wpList_append_arg w hg s y 121 hop 5 i0 (.int .u8 0) 1 1 Tryz.underlying121 hi hz0 hz1 hz2 rfl (by decide) g 0 l.length cap (u8s l) (by rw [hs, hv]) (by simp [u8s]) ?_
    ⟨b, 0, none⟩ 1 c [.int .u8 (x : Int)] hx rfl ?_ ?_ ?_ (by unfold maxLen; omega) (by omega) ?_ ?_
  · intro j u hu
    have hj : j < l.length := by have := (List.getElem?_eq_some_iff.1 hu).1; simpa [u8s] using this
    rw [u8s_at l j hj] at hu
    rw [Nat.zero_add, h1 j hj, hu]
  · intro j u hu
    obtain rfl : j = 0 := by have := (List.getElem?_eq_some_iff.1 hu).1; simp at this; exact this
    simp at hu
    subst hu
    rw [add_none]; exact hc
  · intro u hu; simp at hu; subst hu; rfl
  · intro hr j hj
    have hj0 : j = 0 := by simp at hj; exact hj
    subst hj0
    rw [show 0 + l.length * 1 + 0 = l.length by omega]
    exact h2 l.length (by omega)
  · intro hr
    refine K _ _ ⟨g, cap, by simp, hB, by simp; omega, fun j hj => ?_, fun j hj => ?_⟩ ?_
    · rw [show 0 + l.length * 1 = l.length by omega, getD_snoc]
      simp at hj
      by_cases h : j < l.length
      · rw [if_pos h, World.cell?_setCells_out g _ _ _ _ (fun _ _ => Or.inl h)]; exact h1 j h
      · obtain rfl : j = l.length := by omega
        rw [if_neg h, if_pos rfl]
        have := World.cell?_setCells_in g [.int .u8 (x : Int)] l.length w (fun i hi' => by
          have hi0 : i = 0 := by simp at hi'; exact hi'
          subst hi0
          exact (h2 (l.length + 0) (by omega)).1) 0 (by simp)
        exact this
    · refine ⟨World.isSome_setCells g _ _ _ _ (h2 j hj).1, ?_⟩
      rw [World.frozen?_setCells]; exact (h2 j hj).2
    · exact ((Below.refl B w).setCell (p := ⟨g, 0 + l.length * 1, none⟩) hB _)
  · intro hr v' w' hown' hgrow
    obtain ⟨g', cap', rfl, hg', hlt⟩ := hown'.form (by omega)
    refine K _ _ ⟨g', cap', by simp, by omega, ?_, fun j hj => ?_, fun j hj => ?_⟩ ?_
    · rcases hown'.2 with ⟨h', _⟩ | ⟨g'', cap'', cur, h', _, _, hn, _⟩
      · simp at h'
      · simp only [Value.slice.injEq] at h'
        obtain ⟨_, _, rfl⟩ := h'
        simpa using hn
    · have hj' : j < (l.length + 1) * 1 := by simp at hj; omega
      rw [hown'.cellAt j hj', ← u8s_snoc, u8s_at _ _ hj]
    · rcases hown'.2 with ⟨h', _⟩ | ⟨g'', cap'', cur, h', _, hg, hn, _, hsz, _⟩
      · simp at h'
      · simp only [Value.slice.injEq, Option.some.injEq, Addr.mk.injEq, and_true, true_and] at h'
        obtain ⟨rfl, rfl⟩ := h'
        have hj' : j < cur.size := by rw [hsz]; omega
        refine ⟨?_, frozen_of_row w' g' j cur _ hg⟩
        rw [cell_of_row w' g' j cur _ (0, 0) hg]
        simp [hj']
    · exact (Below.refl B w).grown hgrow (by omega) (fun k hk => by cases hk)

theorem own_bytes (w : World) (s : ByteArray) : Own8 (Lib.bytesWorld w 5 s) w.heap.size (.slice (some ⟨w.heap.size, 0, none⟩) s.size (grownCap w s.size 0 5)) (nums s) := by
  have hb := Lib.bytesWorld_at_new w 5 s
  have hg : s.size ≤ grownCap w s.size 0 5 := grownCap_ge w s.size 0 5
  have hz : (Lib.bytesCells w 5 s).size = grownCap w s.size 0 5 := by
    have : s.data.size = s.size := rfl
    simp [Lib.bytesCells]; omega
  refine ⟨w.heap.size, _, by rw [nums_length], Nat.le_refl _, by rw [nums_length]; exact hg, fun j hj => ?_, fun j hj => ?_⟩
  · rw [nums_length] at hj
    rw [Lib.bytesWorld_cell w _ s j hj]
    simp only [nums, List.getD_eq_getElem?_getD, List.getElem?_map, Array.getElem?_toList]
    cases s.data[j]? <;> rfl
  · rw [← hz] at hj
    refine ⟨by rw [cell_of_row _ _ _ _ _ _ hb]; simp [hj], ?_⟩
    simp only [World.frozen?, hb]
    simp; omega
theorem below_bytes (w : World) (s : ByteArray) : Below w.heap.size w (Lib.bytesWorld w 5 s) :=
  ⟨rfl, rfl, rfl, by rw [Lib.bytesWorld_size]; omega, fun k hk => Lib.bytesWorld_at_old w _ s k hk⟩

set_option maxHeartbeats 1000000 in
set_option maxRecDepth 100000 in
theorem padded_any (s : ByteArray) (hs : s.size ≤ 900000) (w : World) :
    Calls Tryz.prog 145 #[.string s] w fun e w' => e = .returned (.string (bytesOf (padded (nums s)))) ∧ Below w.heap.size w w' := by
  have hcv := Lib.run_convert_string_bytes (P := Tryz.prog) w 9 121 5 s Tryz.underlying9 Tryz.underlying121 Tryz.underlying5
  have hO := own_bytes w s
  have hB := below_bytes w s
  generalize (.slice (some ⟨w.heap.size, 0, none⟩) s.size (grownCap w s.size 0 5) : Value) = v0 at hcv hO
  generalize Lib.bytesWorld w 5 s = W0 at hcv hO hB
  have HO := Lib.hid hO
  have HB := Lib.hid hB
  have HL := Lib.hid (nums_length s)
  clear hO hB
  obtain ⟨m, em⟩ : ∃ m, m = nums s := ⟨_, rfl⟩
  rw [← em]
  rw [← em] at HO HL
  have EM := Lib.hid em
  clear em
  have hcell : (W0.alloc (.cells #[.int .u8 128] 5)).cell? ⟨W0.heap.size, 0, none⟩ = some (.int .u8 ((128 : Nat) : Int)) := by
    rw [cell_of_row _ _ _ _ _ _ (Go.heap_alloc_new _ _)]; rfl
  have HC := Lib.hid hcell
  clear hcell
  go_enter Tryz.func145, Tryz.ntmps145
  go_wp2_with (at_builtin; refine wpList_push8 rfl _ _ rfl w.heap.size v0 m rfl (HO.out.alloc _) (by have := HB.out.size; simp; omega) W0.heap.size 1 128 rfl HC.out (by rw [HL.out]; omega) ?_; intro v1 w1 hown1 hb1)
  have HB1 := Lib.hid ((HB.out.alloc (by have := HB.out.size; exact this) (.cells #[.int .u8 128] 5)).trans hb1)
  have HO1 := Lib.hid hown1
  clear hown1 hb1 HC HB HO hcv
  go_loopw [3] (fun v wr => ∃ z : Nat, z ≤ zs m.length ∧ Hid (Own8 wr w.heap.size v (m ++ 128 :: List.replicate z 0)) ∧ Hid (Below w.heap.size w wr)) (fun v _ => match v with | .slice _ n _ => m.length + 65 - n | _ => 0)
  case atStart => exact ⟨0, by omega, HO1, HB1⟩
  case round =>
    clear HO1 HB1
    obtain ⟨z, hz, hown, hbw⟩ := hrel
    have hown' := hown.out
    obtain ⟨g, cap, rfl, right⟩ := hown'
    obtain ⟨n, en⟩ : ∃ n, n = (m ++ 128 :: List.replicate z 0).length := ⟨_, rfl⟩
    have en' : n = m.length + 1 + z := by rw [en]; simp; omega
    have hml := HL.out
    rw [← en] at hown ⊢
    have EN := Lib.hid en
    have EN' := Lib.hid en'
    have HML := Lib.hid hml
    clear en
    by_cases hlt : z < zs m.length
    · have hz4 : n % 64 ≠ 56 := by have := zs_before m.length z hlt; rwa [← en'] at this
      obtain ⟨r, er⟩ : ∃ r, r = n % 64 := ⟨_, rfl⟩
      have hz1 : ((n : Nat) : Int).tmod 64 = (r : Int) := by rw [Int.tmod_eq_emod_of_nonneg (by omega)]; omega
      have hz2 : ((n : Nat) : Int) % 64 = (r : Int) := by omega
      have hz3 : ((r : Int) == 56) = false := by simp; omega
      have hz5 : ((r : Int) != 56) = true := by simp; omega
      clear hz4 er
      have hcell : (wr.alloc (.cells #[.int .u8 0] 5)).cell? ⟨wr.heap.size, 0, none⟩ = some (.int .u8 ((0 : Nat) : Int)) := by
        rw [cell_of_row _ _ _ _ _ _ (Go.heap_alloc_new _ _)]; rfl
      have HC := Lib.hid hcell
      have hzl := zs_le m.length
      clear hcell en' hml
      go_wp2_with (at_builtin; refine wpList_push8 rfl _ _ rfl w.heap.size (.slice (some ⟨g, 0, none⟩) n cap) (m ++ 128 :: List.replicate z 0) rfl (hown.out.alloc _) (by have := hbw.out.size; simp; omega) wr.heap.size 1 0 rfl HC.out (by rw [← EN.out, EN'.out, HML.out]; omega) ?_; intro v2 w2 hown2 hb2)
      go_roundw
      case rel =>
        have e : (m ++ 128 :: List.replicate z 0) ++ [0] = m ++ 128 :: List.replicate (z + 1) 0 := by
          rw [List.append_assoc, List.cons_append, ← List.replicate_succ']
        rw [e] at hown2
        exact ⟨z + 1, by omega, Lib.hid hown2, Lib.hid ((hbw.out.alloc (by have := hbw.out.size; omega) _).trans hb2)⟩
      case measure =>
        obtain ⟨g', cap', rfl, _⟩ := hown2
        have := EN'.out
        rw [List.length_append, ← EN.out]
        simp; omega
    · obtain rfl : z = zs m.length := by omega
      have hz0 := zs_spec m.length
      have hz1 : ((n : Nat) : Int).tmod 64 = 56 := by rw [Int.tmod_eq_emod_of_nonneg (by omega)]; omega
      have hz2 : ((n : Nat) : Int) % 64 = 56 := by omega
      clear en' hml
      go_wp2_with fail
      go_loopw [3, 5] (fun v i wr => ∃ j : Nat, j ≤ 8 ∧ i = .int .i64 (7 - j) ∧ Hid (Own8 wr w.heap.size v ((m ++ 128 :: List.replicate (zs m.length) 0) ++ (lenB m.length).take j)) ∧ Hid (Below w.heap.size w wr)) (fun _ i _ => (intOf i + 1).toNat)
      case atStart => exact ⟨0, by omega, rfl, Lib.hid (by rw [List.take_zero, List.append_nil]; exact hown.out), hbw⟩
      case round =>
        clear hown hbw right
        obtain ⟨j, hj, rfl, hown, hbw⟩ := hrel
        obtain ⟨p, ep⟩ : ∃ p, p = m ++ 128 :: List.replicate (zs m.length) 0 := ⟨_, rfl⟩
        have hpl : p.length = m.length + 1 + zs m.length := by rw [← EN'.out, EN.out, ep]
        have EP := Lib.hid ep
        rw [← ep] at hown
        have hown' := hown.out
        obtain ⟨g1, cap1, rfl, right⟩ := hown'
        have hln : (p ++ (lenB m.length).take j).length = p.length + j := by rw [List.length_append, List.length_take, lenB_length]; omega
        rw [hln] at hown ⊢ right
        have HLN := Lib.hid hln
        have HPL := Lib.hid hpl
        obtain ⟨n1, en1⟩ : ∃ n1, n1 = p.length + j := ⟨_, rfl⟩
        rw [← en1] at hown ⊢
        have EN1 := Lib.hid en1
        clear hpl hln right en1 ep
        by_cases hlt : j < 8
        · obtain ⟨sh, esh⟩ : ∃ sh, sh = 8 * (7 - j) := ⟨_, rfl⟩
          have h1 : (8 : Int) * (7 - (j : Int)) = (sh : Int) := by omega
          obtain ⟨x, ex⟩ : ∃ x, x = lenAt m.length j := ⟨_, rfl⟩
          have h2 : (8 * (s.size : Int) / 2 ^ sh) % 256 = (x : Int) := by
            rw [ex, lenAt, HL.out, ← esh, Nat.mul_comm, Int.natCast_emod, Int.natCast_ediv, Int.natCast_pow]; rfl
          have hcell : (wr.alloc (.cells #[.int .u8 (x : Int)] 5)).cell? ⟨wr.heap.size, 0, none⟩ = some (.int .u8 (x : Int)) := by
            rw [cell_of_row _ _ _ _ _ _ (Go.heap_alloc_new _ _)]; rfl
          have HC := Lib.hid hcell
          have h3 : sh ≤ 56 := by omega
          have h4 : IntKind.u64.wrap (sh : Int) = sh := by rw [IntKind.wrap_u64]; omega
          have h5 : ∀ y : Int, IntKind.u8.wrap y = y % 256 := IntKind.wrap_u8'
          have EX := Lib.hid ex
          clear esh ex hcell
          go_wp2_with (at_builtin; refine wpList_push8 rfl _ _ rfl w.heap.size (.slice (some ⟨g1, 0, none⟩) n1 cap1) (p ++ (lenB m.length).take j) rfl (hown.out.alloc _) (by have := hbw.out.size; simp; omega) wr.heap.size 1 x rfl HC.out (by rw [HLN.out, HPL.out]; have := HML.out; have := zs_le m.length; omega) ?_; intro v2 w2 hown2 hb2)
          go_roundw
          case rel =>
            have e : (p ++ (lenB m.length).take j) ++ [x] = (m ++ 128 :: List.replicate (zs m.length) 0) ++ (lenB m.length).take (j + 1) := by
              rw [List.append_assoc, take_next _ _ (by rw [lenB_length]; exact hlt), lenB_at _ _ hlt, EX.out, EP.out]
            rw [e] at hown2
            exact ⟨j + 1, by omega, by go_num, Lib.hid hown2, Lib.hid ((hbw.out.alloc (by have := hbw.out.size; omega) _).trans hb2)⟩
          case measure => simp [intOf]; omega
        · obtain rfl : j = 8 := by omega
          have hall : p ++ (lenB m.length).take 8 = padded m := by
            rw [List.take_of_length_le (by rw [lenB_length]; exact Nat.le_refl _), EP.out]; rfl
          have ho := hown.out
          have hn := HLN.out
          rw [hall] at ho hn
          obtain ⟨g2, cap2, hv, _, _, hc, _⟩ := ho
          have hbm : Bytes (padded m) := Bytes.padded (by rw [EM.out]; exact nums_bytes s)
          have hcv := back_string wr g2 0 cap2 (padded m) (fun i => hbm.at i) (fun i hi => by rw [Nat.zero_add]; exact hc i hi)
          rw [← hv] at hcv
          have HCV := Lib.hid hcv
          clear hown hall hn hv hc hbm hcv
          have hcv := HCV.out
          go_wp2_with fail
          go_ret
          exact ⟨rfl, hbw.out⟩
end Go.Proofs.YtbdlegjklfkdmaaGreatDoor.Pl
