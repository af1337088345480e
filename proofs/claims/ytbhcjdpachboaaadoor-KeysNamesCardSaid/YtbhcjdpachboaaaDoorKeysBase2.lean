/- What sha.process answers. What sha.joined answers. A Hash in memory, and what sha.New, Len, Copy answer. The hash of a text over plain numbers: block by block, and what waits. Hexadecimal digits; an index into a text; plain facts. The hash of a text by reckoning: the same as of the definitions, step by step, each number reckoned once. The sums that the tags of layer 3's examples are made of, reckoned. The padded text, and its blocks. What hmac.Same answers: whether two texts are equal. What the document's Same of layer 6 answers: are two rows of texts alike? -/
import Derived.Test.YtbhcjdpachboaaaDoorKeysBase1
import Derived.Laws.IdiomStrings
import Derived.Deep.MidRow
import Derived.Laws.CopyRow
import Derived.IntWalk
import Derived.Deep.RegionLaw
import Derived.Deep.AppendLies
import Derived.KernelRfl
import Derived.Laws.BitsAllLaws
namespace Go.Proofs.YtbhcjdpachboaaaDoor.Pl
open Go.RowKit
/-- The table of the numbers K lies where the program's text lays it. -/
def Tab (w : World) : Prop := 2 < w.heap.size ∧ ∀ j, j < 64 → w.cell? ⟨2, j, none⟩ = some (.int .u32 ((KL.getD j 0 : Nat) : Int))
theorem Tab.below {w w' : World} (h : Tab w) (hb : Below w.heap.size w w') : Tab w' :=
  ⟨Nat.lt_of_lt_of_le h.1 hb.size, fun j hj => by rw [hb.cell (p := ⟨2, j, none⟩) h.1]; exact h.2 j hj⟩

theorem right_6q (x : Nat) (hx : x < 4294967296) (w : World) (n : Nat) : Calls Tryd.prog 60 #[.int .u32 x, .int .i64 6] (w.drewN n) fun e w'' => e = .returned (.int .u32 (rr 6 x : Nat)) ∧ ∃ m, w'' = w.drewN m :=
  Calls.quiet_of_same ((right_6 x hx _).mono fun _ _ h => ⟨h.1, h.2.symm⟩)
theorem right_11q (x : Nat) (hx : x < 4294967296) (w : World) (n : Nat) : Calls Tryd.prog 60 #[.int .u32 x, .int .i64 11] (w.drewN n) fun e w'' => e = .returned (.int .u32 (rr 11 x : Nat)) ∧ ∃ m, w'' = w.drewN m :=
  Calls.quiet_of_same ((right_11 x hx _).mono fun _ _ h => ⟨h.1, h.2.symm⟩)
theorem right_25q (x : Nat) (hx : x < 4294967296) (w : World) (n : Nat) : Calls Tryd.prog 60 #[.int .u32 x, .int .i64 25] (w.drewN n) fun e w'' => e = .returned (.int .u32 (rr 25 x : Nat)) ∧ ∃ m, w'' = w.drewN m :=
  Calls.quiet_of_same ((right_25 x hx _).mono fun _ _ h => ⟨h.1, h.2.symm⟩)

set_option maxRecDepth 100000 in
theorem process_any (s : S8) (hs : s.fits) (B : List Nat) (hB : B.length = 64) (hb : ∀ j, B.getD j 0 < 256) (w : World) (hT : Tab w) :
    Calls Tryd.prog 54 #[.agg (row .u32 s.list), .agg (row .u8 B)] w fun e w' => e = .returned (.agg (row .u32 (proc s B).list)) ∧ Below w.heap.size w w' := by
  have HT := Lib.hid hT
  have HB := Lib.hid hb
  have HL := Lib.hid hB
  clear hT hb hB
  have hsz : (Tryd.prog.info? 75).map (·.size) = some (row .u8 B).size := by rw [row_size, HL.out]; kernel_rfl
  have hsw : (Tryd.prog.info? 99).map (·.size) = some (row .u32 (wds B)).size := by rw [row_size, wds_length]; kernel_rfl
  have HS := Lib.hid hsz
  have HSW := Lib.hid hsw
  clear hsz hsw
  go_enter Tryd.func54, Tryd.ntmps54
  have h1 := heap3_1 w (.cells (row .u32 s.list) 91) (.cells (row .u8 B) 75) (.cells (row .u32 (List.replicate 8 0)) 91)
  have H1 := Lib.hid h1
  clear h1
  go_wp2_with (refine wpList_load_row rfl 75 _ rfl (w.heap.size + 1) rfl 75 _ _ _ H1.out Tryd.underlying75 rfl HS.out ?_)
  refine (words_any B HL.out HB.out _).mono ?_; rintro e w1 ⟨rfl, hb1⟩
  have hb1' : Below (((w.alloc (.cells (row .u32 s.list) 91)).alloc (.cells (row .u8 B) 75)).alloc (.cells (row .u32 (List.replicate 8 0)) 91)).heap.size (((w.alloc (.cells (row .u32 s.list) 91)).alloc (.cells (row .u8 B) 75)).alloc (.cells (row .u32 (List.replicate 8 0)) 91)) w1 := hb1
  clear hb1 H1
  have H0 := Lib.hid (heap_below hb1' (heap3_0 _ _ _ _))
  have H2 := Lib.hid (heap_below hb1' (heap3_2 _ _ _ _))
  have hz := hb1'.size
  rw [size_alloc', size_alloc', size_alloc'] at hz
  have HBW := Lib.hid (below_step (below3 _ _ _ _) hb1')
  clear hb1'
  have HN := Lib.hid (Go.heap_alloc_new w1 (.cells (row .u32 (List.replicate 64 0)) 99))
  go_wp2_with (refine wpList_store_row rfl 99 _ _ rfl w1.heap.size (row .u32 (wds B)) rfl rfl 99 (row .u32 (List.replicate 64 0)) HN.out HSW.out (by rw [row_size, row_size, wds_length, List.length_replicate]) (row_one _ _) ?_)
  rw [World.setRow_alloc_new]
  generalize hW : w1.alloc (.cells (row .u32 (wds B)) 99) = W
  have K0 : W.heap[w.heap.size]? = some (.cells (row .u32 s.list) 91 (0, 0)) := by rw [← hW]; exact heap_alloc H0.out _
  have K2 := Lib.hid (show W.heap[w.heap.size + 1 + 1]? = some (.cells (row .u32 (List.replicate 8 0)) 91 (0, 0)) by rw [← hW]; exact heap_alloc H2.out _)
  have K5 : W.heap[w1.heap.size]? = some (.cells (row .u32 (wds B)) 99 (0, 0)) := by rw [← hW]; exact Go.heap_alloc_new _ _
  have KW := Lib.hid (show Below w.heap.size w W by rw [← hW]; exact HBW.out.alloc (by omega) _)
  clear hW H0 H2 HBW HN HS
  have e0 := (at_row K0 0 (by simp [S8.list])).1
  have e1 := (at_row K0 1 (by simp [S8.list])).1
  have e2 := (at_row K0 2 (by simp [S8.list])).1
  have e3 := (at_row K0 3 (by simp [S8.list])).1
  have e4 := (at_row K0 4 (by simp [S8.list])).1
  have e5 := (at_row K0 5 (by simp [S8.list])).1
  have e6 := (at_row K0 6 (by simp [S8.list])).1
  have e7 := (at_row K0 7 (by simp [S8.list])).1
  have KK0 := Lib.hid K0
  have KK5 := Lib.hid K5
  clear K0 K5
  rw [show s.list.getD 0 0 = s.a from rfl] at e0
  rw [show s.list.getD 1 0 = s.b from rfl] at e1
  rw [show s.list.getD 2 0 = s.c from rfl] at e2
  rw [show s.list.getD 3 0 = s.d from rfl] at e3
  rw [show s.list.getD 4 0 = s.e from rfl] at e4
  rw [show s.list.getD 5 0 = s.f from rfl] at e5
  rw [show s.list.getD 6 0 = s.g from rfl] at e6
  rw [show s.list.getD 7 0 = s.h from rfl] at e7
  go_wp2_with fail
  go_quiet (fail)
  go_wp2_with fail
  go_loopw [6, 7, 8, 9, 10, 11, 12, 13, 37] (fun s6 s7 s8 s9 s10 s11 s12 s13 i wr => ∃ (t : Nat) (q : S8), t ≤ 64 ∧ Hid (q = rn (wds B) s t) ∧ i = .int .i64 t ∧ Hid (wr.heap = W.heap) ∧ Hid (Below w.heap.size w wr) ∧ s6 = .int .u32 q.a ∧ s7 = .int .u32 q.b ∧ s8 = .int .u32 q.c ∧ s9 = .int .u32 q.d ∧ s10 = .int .u32 q.e ∧ s11 = .int .u32 q.f ∧ s12 = .int .u32 q.g ∧ s13 = .int .u32 q.h) (fun _ _ _ _ _ _ _ _ i _ => 64 - (intOf i).toNat)
  case atStart => exact ⟨0, s, by omega, Lib.hid rfl, rfl, Lib.hid (by simp), Lib.hid (below_drewN KW.out _), rfl, rfl, rfl, rfl, rfl, rfl, rfl, rfl⟩
  case round =>
    clear nq
    obtain ⟨t, q, ht, hq, rfl, hwh, KR, rfl, rfl, rfl, rfl, rfl, rfl, rfl, rfl⟩ := hrel
    clear e0 e1 e2 e3 e4 e5 e6 e7
    by_cases hlt : t < 64
    · obtain ⟨l1, l2, l3, l4, l5, l6, l7, l8⟩ := (show q.fits by rw [hq.out]; exact rn_fits _ hs t)
      have c0 := ((HT.out).below (KR.out)).2 t hlt
      have c1 := (at_row (w := wr) (by rw [hwh.out]; exact KK5.out) t (by rw [wds_length]; exact hlt)).1
      have HQ : Hid (rn (wds B) s (t + 1) = rnd (KL.getD t 0) ((wds B).getD t 0) q) := Lib.hid (by rw [hq.out]; rfl)
      generalize KL.getD t 0 = k at *
      generalize (wds B).getD t 0 = x at *
      obtain ⟨a, b, c, d, e, f, g, h⟩ := q
      dsimp only at *
      have g1 := Sg1_int e l5
      have g0 := Sg0_int a l1
      have gm := mj_int a b c l1 l2 l3
      have g2 := T2_int a b c
      have gt := T1_int e f g h k x
      have gc := ch_int e f g l5 l6 l7
      have gs : IntKind.u32.signed = false := rfl
      have ga := add32_int (T1 e f g h k x) (T2 a b c)
      have ge := add32_int d (T1 e f g h k x)
      go_wp2_with fail
      go_quiet ((go_at_call 60; (first | with_reducible exact right_6q _ l5 _ _ | with_reducible exact right_11q _ l5 _ _ | with_reducible exact right_25q _ l5 _ _)))
      go_wp2_with fail; refine (right_2 _ l1 _).mono ?_; rintro e w' ⟨rfl, rfl⟩
      go_wp2_with fail; refine (right_13 _ l1 _).mono ?_; rintro e w' ⟨rfl, rfl⟩
      go_wp2_with fail; refine (right_22 _ l1 _).mono ?_; rintro e w' ⟨rfl, rfl⟩
      go_wp2_with fail
      go_roundw
      case rel => exact ⟨t + 1, _, by omega, Lib.hid HQ.out.symm, by go_num, Lib.hid hwh.out, Lib.hid (below_drewN KR.out _), rfl, rfl, rfl, rfl, rfl, rfl, rfl, rfl⟩
      case measure => simp [intOf]; omega
    · obtain rfl : t = 64 := by omega
      clear hlt ht
      have HQ : Hid (q = rnAll (wds B) s) := Lib.hid (by rw [hq.out, rnAll, shut_eq])
      clear hq
      go_wp2_with fail
      rw [show ((64 : Nat) : Int) = 64 from rfl]
      have H0 : wr.heap[w.heap.size]? = some (.cells (row .u32 s.list) 91 (0, 0)) := by rw [hwh.out]; exact KK0.out
      have H2 : wr.heap[w.heap.size + 1 + 1]? = some (.cells (row .u32 (List.replicate 8 0)) 91 (0, 0)) := by rw [hwh.out]; exact K2.out
      go_loopw [109] (fun i wr => ∃ (j : Nat) (l : List Nat), j ≤ 8 ∧ i = .int .i64 j ∧ l.length = 8 ∧ Hid (∀ i, l.getD i 0 = if i < j then add32 (s.list.getD i 0) (q.list.getD i 0) else s.list.getD i 0) ∧ wr.heap[w.heap.size]? = some (.cells (row .u32 l) 91 (0, 0)) ∧ wr.heap[w.heap.size + 1 + 1]? = some (.cells (row .u32 (List.replicate 8 0)) 91 (0, 0)) ∧ Below w.heap.size w wr) (fun i _ => 8 - (intOf i).toNat)
      case atStart => exact ⟨0, s.list, by omega, rfl, rfl, Lib.hid (fun i => by simp), H0, H2, KR.out⟩
      case round =>
        clear H0 H2 KR hwh
        obtain ⟨j, l, hj, rfl, hl, hag, H0, H2, hbw⟩ := hrel
        by_cases hlt : j < 8
        · obtain ⟨c0, f0⟩ := at_row H0 j (by omega)
          have hix : ∀ V : World, (Instr.index 91 (.agg #[.int .u32 q.a, .int .u32 q.b, .int .u32 q.c, .int .u32 q.d, .int .u32 q.e, .int .u32 q.f, .int .u32 q.g, .int .u32 q.h]) (.int .i64 (j : Int))).run Tryd.prog V = .ok (.int .u32 ((q.list.getD j 0 : Nat) : Int)) V := fun V => by
            obtain rfl | rfl | rfl | rfl | rfl | rfl | rfl | rfl : j = 0 ∨ j = 1 ∨ j = 2 ∨ j = 3 ∨ j = 4 ∨ j = 5 ∨ j = 6 ∨ j = 7 := by omega
            all_goals kernel_rfl
          rw [hag.out j, if_neg (by omega)] at c0
          obtain ⟨v, HV⟩ : ∃ v, Hid (v = add32 (s.list.getD j 0) (q.list.getD j 0)) := ⟨_, Lib.hid rfl⟩
          have hv := add32_int (s.list.getD j 0) (q.list.getD j 0)
          rw [← HV.out] at hv
          have HIX := Lib.hid hix
          clear hix
          have hix := HIX.out
          generalize hx0 : s.list.getD j 0 = x0 at c0 hv HV
          have H0' := Lib.hid H0
          have H2' := Lib.hid H2
          have HL8 := Lib.hid hl
          clear H0 H2 hl HIX
          generalize hx1 : q.list.getD j 0 = x1 at hix hv HV
          have HX0 := Lib.hid hx0
          have HX1 := Lib.hid hx1
          clear hx0 hx1
          go_wp2_with fail
          go_roundw
          case rel =>
            refine ⟨j + 1, l.set j v, by omega, by go_num, by simp [HL8.out], Lib.hid ?_, heap_step H0'.out v, heap_keep H2'.out (by omega), hbw.setCell (by simp) _⟩
            intro i
            rw [getD_set _ _ _ _ (by rw [HL8.out]; exact hlt)]
            by_cases e : i = j
            · subst e; rw [if_pos rfl, if_pos (by omega), HX0.out, HX1.out, HV.out]
            · rw [if_neg e, hag.out i]
              by_cases h : i < j
              · rw [if_pos h, if_pos (by omega)]
              · rw [if_neg h, if_neg (by omega)]
          case measure => simp [intOf]; omega
        · obtain rfl : j = 8 := by omega
          have e : l = (proc s B).list := getD_ext (by rw [hl]; rfl) (fun i hi => by
            rw [hag.out i, if_pos (by omega), HQ.out]
            obtain rfl | rfl | rfl | rfl | rfl | rfl | rfl | rfl : i = 0 ∨ i = 1 ∨ i = 2 ∨ i = 3 ∨ i = 4 ∨ i = 5 ∨ i = 6 ∨ i = 7 := by omega
            all_goals rfl)
          subst e
          have H0' := Lib.hid H0
          have H2' := Lib.hid H2
          have hs8 : (Tryd.prog.info? 91).map (·.size) = some (row .u32 (proc s B).list).size := by rw [row_size]; kernel_rfl
          have HS8 := Lib.hid hs8
          clear H0 H2 hl hag hs8 hlt hj
          go_wp2_with (first
            | (refine wpList_load_row rfl 91 _ rfl w.heap.size rfl 91 _ _ _ H0'.out Tryd.underlying91 rfl HS8.out ?_)
            | (refine wpList_store_row rfl 91 _ _ rfl (w.heap.size + 1 + 1) _ rfl rfl 91 _ H2'.out HS8.out (by rw [row_size, row_size]; rfl) (row_one _ _) ?_))
          refine bodyPost_ret (v := .agg (row .u32 (proc s B).list)) ?_ rfl ⟨rfl, below_setRow hbw (by omega) _⟩
          exact results_cell_row rfl _ _ (w.heap.size + 1 + 1) 91 _ (0, 0) _ rfl (setRow_heap _ _ _ _ _ _ H2'.out) Tryd.underlying91 rfl HS8.out
end Go.Proofs.YtbhcjdpachboaaaDoor.Pl

namespace Go.Proofs.YtbhcjdpachboaaaDoor.Pl
open Go.RowKit

/-- The byte number i of eight numbers. -/
def outAt (s : S8) (i : Nat) : Nat := s.list.getD (i / 4) 0 / 2 ^ (8 * (3 - i % 4)) % 256
/-- The bytes of eight numbers, the most significant first. -/
def outs (s : S8) : List Nat := (List.range 32).map (outAt s)
def bytesOf (l : List Nat) : ByteArray := ⟨(l.map UInt8.ofNat).toArray⟩
theorem outs_length (s : S8) : (outs s).length = 32 := by simp [outs]
theorem outs_at (s : S8) (j : Nat) (h : j < 32) : (outs s).getD j 0 = outAt s j := by
  simp [outs, List.getD_eq_getElem?_getD, h]
theorem outAt_lt (s : S8) (i : Nat) : outAt s i < 256 := Nat.mod_lt _ (by decide)

theorem add_none (b o j : Nat) : (⟨b, o, none⟩ : Addr).add j = ⟨b, o + j, none⟩ := by unfold Addr.add; split <;> simp_all
theorem slice32 (b : Nat) (W : World) :
    (Instr.sliceAt 105 (.pointer (some ⟨b, 0, none⟩)) none none none).run Tryd.prog W = .ok (.slice (some ⟨b, 0, none⟩) 32 32) W := by
  have ha : Tryd.prog.arrayLen 105 = 32 := by simp [Program.arrayLen, Tryd.underlying105]
  have he : Tryd.prog.elem 105 = 5 := by simp [Program.elem, Tryd.underlying105]
  rw [run_sliceAt_array_all W 105 ⟨b, 0, none⟩ (by rw [ha, he]; exact Tryd.underlying105), ha, he]
  have hs : (sizeOf 5).run Tryd.prog W = .ok 1 W := by kernel_rfl
  rw [hs]
  simp only [Result.andThen, slicedAt]
  rw [if_neg (by omega), add_none]
theorem back_string (w : World) (b o cap : Nat) (l : List Nat) (hl : ∀ j, l.getD j 0 < 256) (hc : ∀ j, j < l.length → w.cell? ⟨b, o + j, none⟩ = some (.int .u8 ((l.getD j 0 : Nat) : Int))) :
    (convert 74 9 (.slice (some ⟨b, o, none⟩) l.length cap)).run Tryd.prog w = .ok (.string (bytesOf l)) w := by
  have h := run_convert_bytes_back (P := Tryd.prog) w 74 9 5 ⟨b, o, none⟩ cap (l.map UInt8.ofNat) Tryd.underlying74 Tryd.underlying5 Tryd.underlying9 (fun j hj => by
    rw [add_none]
    have hj' : j < l.length := by simpa using hj
    rw [hc j hj']
    have h1 := hl j
    rw [List.getD_eq_getElem?_getD, List.getElem?_eq_getElem hj', Option.getD_some] at h1
    have h3 : ((l.map UInt8.ofNat)[j]).toNat = l[j] := by simp; omega
    rw [h3, List.getD_eq_getElem?_getD, List.getElem?_eq_getElem hj', Option.getD_some])
  simpa [bytesOf] using h

set_option maxRecDepth 100000 in
theorem joined_any (s : S8) (w : World) :
    Calls Tryd.prog 58 #[.agg (row .u32 s.list)] w fun e w' => e = .returned (.string (bytesOf (outs s))) ∧ Below w.heap.size w w' := by
  go_enter Tryd.func58, Tryd.ntmps58
  go_wp2_with fail
  go_loopw [5] (fun i wr => ∃ (k : Nat) (l : List Nat), k ≤ 32 ∧ i = .int .i64 k ∧ l.length = 32 ∧ Hid (Agrees l (outAt s) k) ∧ wr.heap[w.heap.size]? = some (.cells (row .u32 s.list) 91 (0, 0)) ∧ wr.heap[w.heap.size + 1]? = some (.cells (row .u8 l) 105 (0, 0)) ∧ Below w.heap.size w wr) (fun i _ => 32 - (intOf i).toNat)
  case atStart =>
    refine ⟨0, List.replicate 32 0, by omega, rfl, by simp, Lib.hid (Agrees.zero _ _), ?_, ?_, ?_⟩
    · rw [Go.heap_alloc_old _ _ (by simp), Go.heap_alloc_new]
    · have := Go.heap_alloc_new (w.alloc (.cells (row .u32 s.list) 91)) (.cells (row .u8 (List.replicate 32 0)) 105)
      rw [size_alloc'] at this
      exact this
    · exact ((Below.refl _ _).alloc (Nat.le_refl _) _).alloc (by simp) _
  case round =>
    obtain ⟨k, l, hk, rfl, hl, hag, h0, h1, hbw⟩ := hrel
    by_cases hlt : k < 32
    · have c0 := (at_row h0 (k / 4) (by simp [S8.list]; omega)).1
      obtain ⟨c1, f1⟩ := at_row h1 k (by omega)
      have H0 := Lib.hid h0
      have H1 := Lib.hid h1
      have HL := Lib.hid hl
      clear h0 h1 hl
      have q1 : ((k : Int) / 4).toNat = k / 4 := by omega
      have q2 : (0 : Int) ≤ 8 * (3 - (k : Int) % 4) := by omega
      have q3 : (8 * (3 - (k : Int) % 4)).toNat = 8 * (3 - k % 4) := by omega
      have q4 : (0 : Int) ≤ (k : Int) / 4 := by omega
      have q5 : (k : Int) / 4 < 8 := by omega
      obtain ⟨v, HV⟩ : ∃ v, Hid (v = outAt s k) := ⟨_, Lib.hid rfl⟩
      have hv : ((s.list.getD (k / 4) 0 : Nat) : Int) / 2 ^ (8 * (3 - k % 4)) % 256 = (v : Int) := by
        rw [HV.out, outAt, Int.natCast_emod, Int.natCast_ediv, Int.natCast_pow]; rfl
      generalize s.list.getD (k / 4) 0 = x at c0 hv
      go_wp2_with fail
      go_roundw
      case rel =>
        refine ⟨k + 1, l.set k v, by omega, by go_num, by simp [HL.out], Lib.hid ?_, heap_keep H0.out (by omega), heap_step H1.out v, hbw.setCell (by simp) _⟩
        rw [HV.out]; exact hag.out.next (by rw [HL.out]; omega)
      case measure => simp [intOf]; omega
    · obtain rfl : k = 32 := by omega
      have e : l = outs s := getD_ext (by rw [hl, outs_length]) (fun i hi => by rw [outs_at s i (by omega), hag.out i (by omega)])
      subst e
      have hsl := slice32 (w.heap.size + 1)
      have hcv := back_string wr (w.heap.size + 1) 0 32 (outs s) (fun j => by
        by_cases h : j < 32
        · rw [outs_at s j h]; exact outAt_lt s j
        · rw [List.getD_eq_getElem?_getD, List.getElem?_eq_none (by omega)]; decide) (fun j hj => by rw [Nat.zero_add]; exact (at_row h1 j hj).1)
      rw [outs_length] at hcv
      clear h0 h1 hl hag
      go_wp2_with fail
      go_ret
      exact ⟨rfl, hbw⟩
end Go.Proofs.YtbhcjdpachboaaaDoor.Pl

namespace Go.Proofs.YtbhcjdpachboaaaDoor.Pl
open Go.RowKit

/-- The cells of a Hash: its state, the bytes that wait, the size. -/
def hcells (s : S8) (wt : List Nat) (n : Nat) : Array Value := ((s.list.map fun (x : Nat) => Value.int .u32 (x : Int)) ++ (wt.map fun (x : Nat) => Value.int .u8 (x : Int)) ++ [Value.int .u64 (n : Int)]).toArray
/-- Block b is a Hash with these parts. -/
def HashAt (w : World) (b : Nat) (s : S8) (wt : List Nat) (n : Nat) : Prop := w.heap[b]? = some (.cells (hcells s wt n) 94 (0, 0)) ∧ wt.length = 64
theorem hcells_size {s : S8} {wt : List Nat} (n : Nat) (h : wt.length = 64) : (hcells s wt n).size = 73 := by simp [hcells, S8.list, h]
theorem HashAt.size {w : World} {b : Nat} {s : S8} {wt : List Nat} {n : Nat} (h : HashAt w b s wt n) : w.cell? ⟨b, 72, none⟩ = some (.int .u64 (n : Int)) ∧ w.frozen? ⟨b, 72, none⟩ = false := by
  refine ⟨?_, frozen_of_row w b 72 _ _ h.1⟩
  rw [cell_of_row w b 72 _ _ (0, 0) h.1]
  simp [hcells, S8.list, h.2]
theorem HashAt.lt {w : World} {b : Nat} {s : S8} {wt : List Nat} {n : Nat} (h : HashAt w b s wt n) : b < w.heap.size := (Array.getElem?_eq_some_iff.1 h.1).1
theorem HashAt.below {w w' : World} {b : Nat} {s : S8} {wt : List Nat} {n : Nat} (h : HashAt w b s wt n) (hb : Below w.heap.size w w') : HashAt w' b s wt n := ⟨heap_below hb h.1, h.2⟩
theorem HashAt.setSize {w : World} {b : Nat} {s : S8} {wt : List Nat} {n : Nat} (h : HashAt w b s wt n) (m : Nat) : HashAt (w.setCell ⟨b, 72, none⟩ (.int .u64 (m : Int))) b s wt m := by
  refine ⟨?_, h.2⟩
  rw [heap_setCell_same w b 72 _ _ _ h.1]
  congr 2
  apply Array.ext'
  simp [hcells, S8.list, h.2]
theorem HashAt.state {w : World} {b : Nat} {s : S8} {wt : List Nat} {n : Nat} (h : HashAt w b s wt n) : w.rangeAt b 0 (s.list.map fun (x : Nat) => Value.int .u32 (x : Int)) := by
  intro j v hv
  have hj : j < 8 := by have := (List.getElem?_eq_some_iff.1 hv).1; simpa [S8.list] using this
  rw [cell_of_row w b (0 + j) _ _ (0, 0) h.1, ← hv, Nat.zero_add]
  simp only [hcells, List.getElem?_toArray]
  rw [List.append_assoc, List.getElem?_append_left (by simpa [S8.list] using hj)]
theorem HashAt.wait {w : World} {b : Nat} {s : S8} {wt : List Nat} {n : Nat} (h : HashAt w b s wt n) : w.rangeAt b 8 (wt.map fun (x : Nat) => Value.int .u8 (x : Int)) := by
  intro j v hv
  have hj : j < 64 := by have := (List.getElem?_eq_some_iff.1 hv).1; simpa [h.2] using this
  rw [cell_of_row w b (8 + j) _ _ (0, 0) h.1, ← hv]
  simp only [hcells, List.getElem?_toArray]
  rw [List.append_assoc, List.getElem?_append_right (by simp [S8.list]), List.getElem?_append_left (by simp [S8.list, h.2]; omega)]
  congr 1
  simp [S8.list]
theorem HashAt.there {w : World} {b : Nat} {s : S8} {wt : List Nat} {n : Nat} (h : HashAt w b s wt n) (o k : Nat) (hk : o + k ≤ 73) : w.there b o k := by
  intro j hj
  refine ⟨?_, frozen_of_row w b _ _ _ h.1⟩
  rw [cell_of_row w b (o + j) _ _ (0, 0) h.1]
  have : o + j < (hcells s wt n).size := by rw [hcells_size n h.2]; omega
  simp [this]
theorem setCells_row (g : Nat) (t : TypeId) : ∀ (vs : List Value) (o : Nat) (cur : Array Value) (w : World), w.heap[g]? = some (.cells cur t (0, 0)) → o + vs.length ≤ cur.size →
    w.setCells g o vs = w.setRow g (cur.toList.take o ++ vs ++ cur.toList.drop (o + vs.length)).toArray
  | [], o, cur, w, hg, _ => by
    simp only [World.setCells, List.append_nil, List.length_nil, Nat.add_zero, List.take_append_drop, Array.toArray_toList]
    rw [setRow_self w g cur t (0, 0) hg]
  | v :: rest, o, cur, w, hg, hl => by
    have ih := setCells_row g t rest (o + 1) (cur.setIfInBounds o v) (w.setRow g (cur.setIfInBounds o v)) (setRow_heap w g cur _ t _ hg) (by simp at hl ⊢; omega)
    rw [World.setCells, setCell_eq_setRow w g o cur t (0, 0) v hg, ih, setRow_setRow]
    congr 2
    have e := list_seg_step cur.toList o v rest (by simp at hl ⊢; omega)
    simpa [Array.toList_setIfInBounds, Nat.add_assoc] using e
theorem HashAt.setState {w : World} {b : Nat} {s : S8} {wt : List Nat} {n : Nat} (h : HashAt w b s wt n) (q : S8) : HashAt (w.setCells b 0 (q.list.map fun (x : Nat) => Value.int .u32 (x : Int))) b q wt n := by
  refine ⟨?_, h.2⟩
  rw [setCells_row b _ _ 0 _ w h.1 (by rw [hcells_size n h.2]; simp [S8.list]), setRow_heap w b _ _ _ _ h.1]
  congr 2
/-- The state to begin with. -/
def S0 : S8 := ⟨1779033703, 3144134277, 1013904242, 2773480762, 1359893119, 2600822924, 528734635, 1541459225⟩
theorem S0_fits : S0.fits := by unfold S8.fits; decide
def Z0 : S8 := ⟨0, 0, 0, 0, 0, 0, 0, 0⟩
theorem zero_hash (w : World) : (zeroValue 94).run Tryd.prog w = .ok (.agg (hcells Z0 (List.replicate 64 0) 0)) w := by kernel_rfl

theorem first_hash : (((((((((hcells Z0 (List.replicate 64 0) 0).setIfInBounds 0 (.int .u32 1779033703)).setIfInBounds 1 (.int .u32 3144134277)).setIfInBounds 2 (.int .u32 1013904242)).setIfInBounds 3 (.int .u32 2773480762)).setIfInBounds 4 (.int .u32 1359893119)).setIfInBounds 5 (.int .u32 2600822924)).setIfInBounds 6 (.int .u32 528734635)).setIfInBounds 7 (.int .u32 1541459225)) = hcells S0 (List.replicate 64 0) 0 := by kernel_rfl
set_option maxRecDepth 100000 in
theorem new_any (w : World) : Calls Tryd.prog 46 #[] w fun e w' => e = .returned (.pointer (some ⟨w.heap.size, 0, none⟩)) ∧ HashAt w' w.heap.size S0 (List.replicate 64 0) 0 ∧ w.heap.size < w'.heap.size ∧ Below w.heap.size w w' := by
  have hzv := zero_hash
  have hfs := first_hash
  have hzs : (hcells Z0 (List.replicate 64 0) 0).size = 73 := hcells_size 0 (by simp)
  go_enter Tryd.func46, Tryd.ntmps46
  go_wp2_with fail
  go_ret
  refine ⟨rfl, ⟨Go.heap_alloc_new _ _, by simp⟩, by simp, (Below.refl _ _).alloc (Nat.le_refl _) _⟩

end Go.Proofs.YtbhcjdpachboaaaDoor.Pl

namespace Go.Proofs.YtbhcjdpachboaaaDoor.Pl
open Go.RowKit

/-- The state behind the first k blocks of m. -/
noncomputable def ab (m : List Nat) : Nat → S8
  | 0 => S0
  | k + 1 => proc (ab m k) ((m.drop (64 * k)).take 64)
theorem ab_fits (m : List Nat) (k : Nat) : (ab m k).fits := by
  cases k with
  | zero => exact S0_fits
  | succ k => exact proc_fits _ _
theorem ab_append (m c : List Nat) (k : Nat) (h : 64 * k ≤ m.length) : ab (m ++ c) k = ab m k := by
  induction k with
  | zero => rfl
  | succ k ih =>
    rw [ab, ab, ih (by omega), List.drop_append_of_le_length (by omega), List.take_append_of_le_length (by rw [List.length_drop]; omega)]
/-- The bytes that wait for a whole block. -/
def tail (m : List Nat) : List Nat := m.drop (64 * (m.length / 64))
theorem tail_length (m : List Nat) : (tail m).length = m.length % 64 := by rw [tail, List.length_drop]; omega
/-- The state behind the whole blocks of m. -/
noncomputable def st (m : List Nat) : S8 := ab m (m.length / 64)
theorem st_part (m c : List Nat) (h : m.length % 64 + c.length < 64) : st (m ++ c) = st m := by
  rw [st, st, List.length_append, show (m.length + c.length) / 64 = m.length / 64 by omega, ab_append _ _ _ (by omega)]
theorem tail_part (m c : List Nat) (h : m.length % 64 + c.length < 64) : tail (m ++ c) = tail m ++ c := by
  rw [tail, tail, List.length_append, show (m.length + c.length) / 64 = m.length / 64 by omega, List.drop_append_of_le_length (by omega)]
theorem st_full (m c : List Nat) (h : m.length % 64 + c.length = 64) : st (m ++ c) = proc (st m) (tail m ++ c) := by
  rw [st, List.length_append, show (m.length + c.length) / 64 = m.length / 64 + 1 by omega, ab, ab_append _ _ _ (by omega), st, tail]
  rw [List.drop_append_of_le_length (by omega), List.take_of_length_le (by rw [List.length_append, List.length_drop]; omega)]
theorem tail_full (m c : List Nat) (h : m.length % 64 + c.length = 64) : tail (m ++ c) = [] := by
  apply List.eq_nil_of_length_eq_zero
  rw [tail_length, List.length_append]; omega
/-- Numbers that are bytes. -/
def Bytes (m : List Nat) : Prop := ∀ x ∈ m, x < 256
theorem Bytes.at {m : List Nat} (h : Bytes m) (j : Nat) : m.getD j 0 < 256 := by
  by_cases hj : j < m.length
  · rw [List.getD_eq_getElem?_getD, List.getElem?_eq_getElem hj]; exact h _ (List.getElem_mem hj)
  · rw [List.getD_eq_getElem?_getD, List.getElem?_eq_none (by omega)]; decide
theorem Bytes.append {m c : List Nat} (h : Bytes m) (k : Bytes c) : Bytes (m ++ c) := by
  intro x hx; rcases List.mem_append.1 hx with hx | hx
  · exact h x hx
  · exact k x hx
theorem Bytes.take {m : List Nat} (h : Bytes m) (n : Nat) : Bytes (m.take n) := fun x hx => h x (List.mem_of_mem_take hx)
theorem Bytes.drop {m : List Nat} (h : Bytes m) (n : Nat) : Bytes (m.drop n) := fun x hx => h x (List.mem_of_mem_drop hx)
/-- The bytes of a text. -/
def nums (s : ByteArray) : List Nat := s.data.toList.map UInt8.toNat
theorem nums_bytes (s : ByteArray) : Bytes (nums s) := by
  intro x hx
  obtain ⟨c, _, rfl⟩ := List.mem_map.1 hx
  exact c.toNat_lt
theorem nums_length (s : ByteArray) : (nums s).length = s.size := by rw [nums, List.length_map]; rfl

theorem splice_mid {α : Type} (A W Z C : List α) (a r : Nat) (hA : A.length = a) (hr : r + C.length ≤ W.length) :
    (A ++ W ++ Z).take (a + r) ++ C ++ (A ++ W ++ Z).drop (a + r + C.length) = A ++ (W.take r ++ C ++ W.drop (r + C.length)) ++ Z := by
  subst hA
  rw [List.append_assoc A W Z, List.take_length_add_append, List.take_append_of_le_length (by omega)]
  rw [show A.length + r + C.length = A.length + (r + C.length) by omega, List.drop_length_add_append, List.drop_append_of_le_length (by omega)]
  simp
def u8s (c : List Nat) : List Value := c.map fun (x : Nat) => Value.int .u8 (x : Int)
/-- A copy goes into the bytes that wait. -/
theorem HashAt.setWait {w : World} {b : Nat} {s : S8} {wt : List Nat} {n : Nat} (h : HashAt w b s wt n) (r : Nat) (c : List Nat) (hr : r + c.length ≤ 64) :
    HashAt (w.setRow b ((hcells s wt n).toList.take (8 + r) ++ (c.map fun (x : Nat) => Value.int .u8 (x : Int)) ++ (hcells s wt n).toList.drop (8 + r + c.length)).toArray) b s (wt.take r ++ c ++ wt.drop (r + c.length)) n := by
  refine ⟨?_, by simp [h.2]; omega⟩
  rw [setRow_heap w b _ _ _ _ h.1]
  congr 2
  apply Array.ext'
  have h8 : (s.list.map fun (x : Nat) => Value.int .u32 (x : Int)).length = 8 := by simp [S8.list]
  have := splice_mid (s.list.map fun (x : Nat) => Value.int .u32 (x : Int)) (wt.map fun (x : Nat) => Value.int .u8 (x : Int)) [Value.int .u64 (n : Int)] (c.map fun (x : Nat) => Value.int .u8 (x : Int)) 8 r h8 (by simp [h.2]; omega)
  rw [List.length_map] at this
  simpa only [hcells, List.map_append, List.map_take, List.map_drop] using this
/-- The size in bits, as eight bytes. -/
def lenAt (n j : Nat) : Nat := n * 8 / 2 ^ (8 * (7 - j)) % 256
def lenB (n : Nat) : List Nat := (List.range 8).map (lenAt n)
/-- What waits, the byte 128, and bytes 0 up to 64. -/
def base (m : List Nat) : List Nat := tail m ++ 128 :: List.replicate (63 - m.length % 64) 0
theorem base_length (m : List Nat) : (base m).length = 64 := by
  rw [base, List.length_append, tail_length, List.length_cons, List.length_replicate]; omega
/-- The state behind the padded text. -/
noncomputable def fin (m : List Nat) : S8 :=
  if 56 ≤ m.length % 64 then proc (proc (st m) (base m)) (List.replicate 56 0 ++ lenB m.length) else proc (st m) ((base m).take 56 ++ lenB m.length)
/-- The hash. -/
noncomputable def digest (m : List Nat) : List Nat := outs (fin m)
theorem lenB_length (n : Nat) : (lenB n).length = 8 := by simp [lenB]
theorem lenB_at (n j : Nat) (h : j < 8) : (lenB n).getD j 0 = lenAt n j := by simp [lenB, List.getD_eq_getElem?_getD, h]
theorem lenAt_lt (n j : Nat) : lenAt n j < 256 := Nat.mod_lt _ (by decide)
theorem Bytes.base {m : List Nat} (h : Bytes m) : Bytes (base m) := by
  refine Bytes.append (h.drop _) ?_
  intro x hx
  rcases List.mem_cons.1 hx with rfl | hx
  · decide
  · rw [List.eq_of_mem_replicate hx]; decide
end Go.Proofs.YtbhcjdpachboaaaDoor.Pl

namespace Go.Proofs.YtbhcjdpachboaaaDoor.Pl
open Go.RowKit

theorem info_u8 : (Tryd.prog.info? 5).map (fun i => (i.zero, i.size, i.bytes)) = some (some (.int .u8 0), 1, 1) := by kernel_rfl

theorem str_index (s : ByteArray) (k c : Nat) (hk : k < s.size) (hc : c = (nums s).getD k 0) (V : World) : (Instr.index 9 (.string s) (.int .i64 (k : Int))).run Tryd.prog V = .ok (.int .u8 (c : Int)) V := by
  rw [run_index_string V 9 s .i64 k Tryd.underlying9, dif_pos ⟨by omega, by omega⟩, hc]
  congr 2
  have hk' : k < s.data.toList.length := by simpa using hk
  simp only [nums, List.getD_eq_getElem?_getD, List.getElem?_map, List.getElem?_eq_getElem hk', Option.map_some, Option.getD_some, Int.toNat_natCast]
  rfl
theorem take_next (l : List Nat) (k : Nat) (h : k < l.length) : l.take (k + 1) = l.take k ++ [l.getD k 0] := by
  rw [List.take_succ_eq_append_getElem h, List.getD_eq_getElem?_getD, List.getElem?_eq_getElem h, Option.getD_some]
end Go.Proofs.YtbhcjdpachboaaaDoor.Pl

namespace Go.Proofs.YtbhcjdpachboaaaDoor.Pl

end Go.Proofs.YtbhcjdpachboaaaDoor.Pl

namespace Go.Proofs.YtbhcjdpachboaaaDoor.Pl

set_option maxRecDepth 100000
end Go.Proofs.YtbhcjdpachboaaaDoor.Pl

namespace Go.Proofs.YtbhcjdpachboaaaDoor.Pl

/-- How many bytes 0 stand behind the byte 128. -/
def zs (n : Nat) : Nat := (119 - n % 64) % 64
def padded (m : List Nat) : List Nat := m ++ 128 :: List.replicate (zs m.length) 0 ++ lenB m.length
theorem zs_spec (n : Nat) : (n + 1 + zs n) % 64 = 56 := by unfold zs; omega
theorem zs_before (n z : Nat) (h : z < zs n) : (n + 1 + z) % 64 ≠ 56 := by unfold zs at h; omega
theorem zs_le (n : Nat) : zs n ≤ 63 := by unfold zs; omega
theorem padded_length (m : List Nat) : (padded m).length = m.length + 1 + zs m.length + 8 := by
  simp [padded, lenB_length]; omega
theorem padded_mod (m : List Nat) : (padded m).length % 64 = 0 := by rw [padded_length]; have := zs_spec m.length; omega
theorem Bytes.padded {m : List Nat} (h : Bytes m) : Bytes (padded m) := by
  refine Bytes.append (Bytes.append h ?_) ?_
  · intro x hx
    rcases List.mem_cons.1 hx with rfl | hx
    · decide
    · rw [List.eq_of_mem_replicate hx]; decide
  · intro x hx
    obtain ⟨i, _, rfl⟩ := List.mem_map.1 hx
    exact lenAt_lt _ _
theorem ab_padded (m : List Nat) : ab (padded m) ((padded m).length / 64) = fin m := by
  have hm : m = m.take (64 * (m.length / 64)) ++ tail m := (List.take_append_drop _ _).symm
  have hq : (m.take (64 * (m.length / 64))).length = 64 * (m.length / 64) := by rw [List.length_take]; omega
  have ht := tail_length m
  have hd : (padded m).drop (64 * (m.length / 64)) = tail m ++ 128 :: List.replicate (zs m.length) 0 ++ lenB m.length := by
    rw [padded, List.append_assoc, List.append_assoc, List.drop_append_of_le_length (by omega)]
    rfl
  have h0 : ab (padded m) (m.length / 64) = st m := by
    rw [padded, List.append_assoc, ab_append _ _ _ (by omega), st]
  rw [padded_length]
  by_cases h : 56 ≤ m.length % 64
  · have hz : zs m.length = 119 - m.length % 64 := by unfold zs; omega
    have hb1 : ((padded m).drop (64 * (m.length / 64))).take 64 = base m := by
      rw [hd, base, hz, show 119 - m.length % 64 = (63 - m.length % 64) + 56 by omega, ← List.replicate_append_replicate]
      rw [List.append_assoc, List.cons_append, List.append_assoc, ← List.cons_append, ← List.append_assoc]
      rw [List.take_append_of_le_length (by rw [List.length_append, List.length_cons, List.length_replicate, ht]; omega), List.take_of_length_le (by rw [List.length_append, List.length_cons, List.length_replicate, ht]; omega)]
    have hb2 : ((padded m).drop (64 * (m.length / 64 + 1))).take 64 = List.replicate 56 0 ++ lenB m.length := by
      rw [show 64 * (m.length / 64 + 1) = 64 * (m.length / 64) + 64 by omega, ← List.drop_drop, hd, hz, show 119 - m.length % 64 = (63 - m.length % 64) + 56 by omega, ← List.replicate_append_replicate]
      rw [List.append_assoc, List.cons_append, List.append_assoc, ← List.cons_append, ← List.append_assoc]
      rw [List.drop_left' (by rw [List.length_append, List.length_cons, List.length_replicate, ht]; omega), List.take_of_length_le (by rw [List.length_append, List.length_replicate, lenB_length]; omega)]
    rw [show (m.length + 1 + zs m.length + 8) / 64 = m.length / 64 + 1 + 1 by omega, ab, ab, hb1, hb2, h0, fin, if_pos h]
  · have hz : zs m.length = 55 - m.length % 64 := by unfold zs; omega
    have hb1 : ((padded m).drop (64 * (m.length / 64))).take 64 = (base m).take 56 ++ lenB m.length := by
      have e : (base m).take 56 = tail m ++ 128 :: List.replicate (zs m.length) 0 := by
        rw [base, hz, show 63 - m.length % 64 = (55 - m.length % 64) + 8 by omega, ← List.replicate_append_replicate, ← List.cons_append, ← List.append_assoc]
        rw [List.take_append_of_le_length (by rw [List.length_append, List.length_cons, List.length_replicate, ht]; omega), List.take_of_length_le (by rw [List.length_append, List.length_cons, List.length_replicate, ht]; omega)]
      rw [hd, e, List.take_of_length_le (by rw [List.length_append, List.length_append, List.length_cons, List.length_replicate, lenB_length, ht]; omega)]
    rw [show (m.length + 1 + zs m.length + 8) / 64 = m.length / 64 + 1 by omega, ab, hb1, h0, fin, if_neg h]
end Go.Proofs.YtbhcjdpachboaaaDoor.Pl

namespace Go.Proofs.YtbhcjdpachboaaaDoor.Pl
open Go.RowKit

theorem xor_zero (a b : Nat) : a ^^^ b = 0 ↔ a = b := by
  constructor
  · intro h
    apply Nat.eq_of_testBit_eq; intro i
    have := congrArg (fun x => x.testBit i) h
    simp only [Nat.testBit_xor, Nat.zero_testBit] at this
    cases h1 : a.testBit i <;> cases h2 : b.testBit i <;> simp_all
  · rintro rfl; exact Nat.xor_self a
theorem nums_inj {a b : ByteArray} (h : nums a = nums b) : a = b := by
  apply ByteArray.ext
  apply Array.ext'
  exact (List.map_inj_right (fun x y hxy => UInt8.toNat_inj.1 hxy)).1 h
end Go.Proofs.YtbhcjdpachboaaaDoor.Pl

namespace Go.Proofs.YtbhcjdpachboaaaDoor.Pl
open Go.RowKit

theorem rows_alike {a b : List ByteArray} (hl : a.length = b.length) (h : ∀ j, j < a.length → a.getD j ByteArray.empty = b.getD j ByteArray.empty) : a = b := by
  refine List.ext_getElem hl fun j h1 h2 => ?_
  have := h j h1
  simpa [List.getD_eq_getElem?_getD, h1, h2] using this

set_option maxHeartbeats 1000000 in
set_option maxRecDepth 100000 in
theorem rsame_any (a b : List ByteArray) (ao bo : Option Addr) (ca cb : Nat) (ha : a.length ≤ 281474976710656) (_hb : b.length ≤ 281474976710656) (w : World) (hra : TxtRow w ao a) (hrb : TxtRow w bo b) (r : Bool) (hr : r = true ↔ a = b) :
    Calls Tryd.prog 14 #[.slice ao a.length ca, .slice bo b.length cb] w fun e w' => e = .returned (.bool r) ∧ Below w.heap.size w w' := by
  have HA := Lib.hid hra
  have HB := Lib.hid hrb
  have HNO : Hid (a ≠ b → r = false) := Lib.hid (fun h => by
    cases e : r with
    | false => rfl
    | true => exact absurd (hr.1 e) h)
  by_cases hl : a.length = b.length
  · have HYES : Hid ((∀ j, j < a.length → a.getD j ByteArray.empty = b.getD j ByteArray.empty) → r = true) := Lib.hid (fun h => hr.2 (rows_alike hl h))
    have HDIF : Hid (∀ k, a.getD k ByteArray.empty ≠ b.getD k ByteArray.empty → r = false) := Lib.hid (fun k h => HNO.out (fun e => h (by rw [e])))
    obtain ⟨n, hn⟩ : ∃ n, n = a.length := ⟨_, rfl⟩
    have hna : a.length = n := hn.symm
    have hnb : b.length = n := by rw [← hl, hna]
    rw [hna, hnb]
    rw [hna] at HYES ha
    clear hra hrb hr hl hn _hb
    go_enter Tryd.func14, Tryd.ntmps14
    go_wp2_with fail
    go_loopw [5] (fun iv wr => ∃ k : Nat, iv = .int .i64 k ∧ k ≤ n ∧ Hid (∀ j, j < k → a.getD j ByteArray.empty = b.getD j ByteArray.empty) ∧ Hid (Below w.heap.size w wr)) (fun iv _ => n - (intOf iv).toNat)
    case atStart => exact ⟨0, rfl, Nat.zero_le _, Lib.hid (fun j hj => absurd hj (Nat.not_lt_zero j)), Lib.hid (Below.refl _ _)⟩
    case round =>
      obtain ⟨k, rfl, hkn, hch, hb⟩ := hrel
      by_cases hk : k < n
      · have hk' : (k : Int) < (n : Int) := by omega
        rcases HA.out.below hb.out with e | ⟨b1, off1, rfl, hlt1, hc1⟩
        · exfalso; rw [e] at hna; simp at hna; omega
        rcases HB.out.below hb.out with e | ⟨b2, off2, rfl, hlt2, hc2⟩
        · exfalso; rw [e] at hnb; simp at hnb; omega
        have ck1 := hc1 k (by omega)
        have ck2 := hc2 k (by omega)
        have HD := Lib.hid (HDIF.out k)
        have HX : Hid (a.getD k ByteArray.empty = b.getD k ByteArray.empty → ∀ j, j < k + 1 → a.getD j ByteArray.empty = b.getD j ByteArray.empty) := Lib.hid (fun h j hj => by
          by_cases e : j = k
          · rw [e]; exact h
          · exact hch.out j (by omega))
        generalize a.getD k ByteArray.empty = x at *
        generalize b.getD k ByteArray.empty = y at *
        clear hc1 hlt1 hc2 hlt2
        by_cases e : x = y
        · have HQ := Lib.hid (HX.out e)
          subst e
          go_wp2_with fail
          go_quiet (fail)
          go_wp2_with fail
          go_roundw
          case rel => exact ⟨k + 1, by go_num, by omega, HQ, Lib.hid (by first | exact hb.out | exact below_drewN hb.out _)⟩
          case measure => simp [intOf]; omega
        · obtain ⟨g1, g2⟩ := str6_ne e
          have HQ := Lib.hid (HD.out e)
          clear e
          go_wp2_with fail
          go_quiet (fail)
          go_wp2_with fail
          go_ret
          exact ⟨ret6_bool HQ.out.symm, by first | exact hb.out | exact below_drewN hb.out _⟩
      · obtain rfl : k = n := by omega
        have HQ := Lib.hid (HYES.out (fun j hj => hch.out j hj))
        clear hk hkn
        go_wp2_with fail
        go_ret
        exact ⟨ret6_bool HQ.out.symm, hb.out⟩
  · have HQ := Lib.hid (HNO.out (fun e => hl (by rw [e])))
    obtain ⟨n, hn⟩ : ∃ n, n = a.length := ⟨_, rfl⟩
    obtain ⟨m, hm⟩ : ∃ m, m = b.length := ⟨_, rfl⟩
    rw [← hn] at hl ha ⊢
    rw [← hm] at hl _hb ⊢
    have hl1 : ((n : Int) != (m : Int)) = true := by rw [bne_iff_ne]; omega
    have hl2 : ((n : Int) == (m : Int)) = false := by rw [beq_eq_false_iff_ne]; omega
    clear hra hrb hr hn hm hl
    go_enter Tryd.func14, Tryd.ntmps14
    go_wp2_with fail
    go_ret
    exact ⟨ret6_bool HQ.out.symm, Below.refl _ _⟩
end Go.Proofs.YtbhcjdpachboaaaDoor.Pl
