/- What sha.words answers. -/
import Derived.Test.YtogadffbnoinmaaDoorShaRight
import Derived.Test.YtogadffbnoinmaaDoorShaRowk
import Derived.Test.YtogadffbnoinmaaDoorCommon
import Derived.BigRegion
import Derived.BigQuiet
import Derived.Deep.QuietTactic
import Derived.LoopTactic
namespace Go.Proofs.YtogadffbnoinmaaDoor.Pl
open Go.RowKit

/-- A slice of an array of 64 bytes from l on. -/
theorem slice64 (b o l : Nat) (hl : l < 64) (k : IntKind) (z : Int) (hz : z = (l : Int)) (W : World) :
    (Instr.sliceAt 51 (.pointer (some ⟨b, o, none⟩)) (some (.int k z)) none none).run Tryd.prog W = .ok (.slice (some ⟨b, o + l, none⟩) (64 - l) (64 - l)) W := by
  subst hz
  have ha : Tryd.prog.arrayLen 51 = 64 := by simp [Program.arrayLen, Tryd.underlying51]
  have he : Tryd.prog.elem 51 = 5 := by simp [Program.elem, Tryd.underlying51]
  rw [run_sliceAt_array_l W 51 ⟨b, o, none⟩ (by rw [ha, he]; exact Tryd.underlying51) k (l : Int) (by omega) (by rw [ha]; omega), ha, he]
  have hs : (sizeOf 5).run Tryd.prog W = .ok 1 W := by kernel_rfl
  rw [hs]
  simp only [Result.andThen, slicedAt, Int.toNat_natCast]
  rw [if_neg (by omega), Nat.mul_one]
  have hadd : (⟨b, o, none⟩ : Addr).add l = ⟨b, o + l, none⟩ := by unfold Addr.add; split <;> simp_all
  rw [hadd]

set_option maxRecDepth 100000 in
theorem four_int (v a b c d : Nat) (h : v = wnext a b c d) : ((a : Int) + (sg0 b : Nat) + c + (sg1 d : Nat)) % 4294967296 = (v : Int) := by
  rw [h, wnext, add32, add32, add32]; omega
set_option maxRecDepth 100000 in
theorem words_any (B : List Nat) (hB : B.length = 64) (hb : ∀ j, B.getD j 0 < 256) (w : World) : Calls Tryd.prog 42 #[.agg (row .u8 B)] w fun e w' => e = .returned (.agg (row .u32 (wds B))) ∧ Below w.heap.size w w' := by
  go_enter Tryd.func42, Tryd.ntmps42
  go_wp2
  go_loopw [11] (fun i wr => ∃ (k : Nat) (l : List Nat), k ≤ 16 ∧ i = .int .i64 k ∧ l.length = 64 ∧ Hid (Agrees l (fun j => (wds B).getD j 0) k) ∧ wr.heap[w.heap.size]? = some (.cells (row .u8 B) 51 (0, 0)) ∧ wr.heap[w.heap.size + 1]? = some (.cells (row .u32 (List.replicate 64 0)) 71 (0, 0)) ∧ wr.heap[w.heap.size + 1 + 1]? = some (.cells (row .u32 l) 71 (0, 0)) ∧ Below w.heap.size w wr) (fun i _ => 16 - (intOf i).toNat)
  case atStart =>
    refine ⟨0, List.replicate 64 0, by omega, rfl, by simp, Lib.hid (Agrees.zero _ _), ?_, ?_, ?_, ?_⟩
    · exact heap3_0 _ _ _ _
    · exact heap3_1 _ _ _ _
    · exact heap3_2 _ _ _ _
    · exact below3 _ _ _ _
  case round =>
    obtain ⟨k, l, hk, rfl, hl, hag, h0, h1, h2, hbw⟩ := hrel
    by_cases hlt : k < 16
    · have c0 := (at_row h0 (4 * k) (by omega)).1
      have c1 := (at_row h0 (4 * k + 1) (by omega)).1
      have c2 := (at_row h0 (4 * k + 2) (by omega)).1
      have c3 := (at_row h0 (4 * k + 3) (by omega)).1
      obtain ⟨c4, f4⟩ := at_row h2 k (by omega)
      have H0 := Lib.hid h0
      have H1 := Lib.hid h1
      have H2 := Lib.hid h2
      clear h0 h1 h2
      have hsl := slice64 w.heap.size 0 (4 * k) (by omega) .i64 (4 * (k : Int)) (by omega)
      rw [Nat.zero_add] at hsl
      have HV : Hid ((wds B).getD k 0 = _) := Lib.hid (wds_low B k hlt)
      have hv := be_int _ _ _ _ (hb (4 * k)) (hb (4 * k + 1)) (hb (4 * k + 2)) (hb (4 * k + 3))
      rw [← HV.out] at hv
      clear HV
      obtain ⟨v, HW⟩ : ∃ v, Hid (v = (wds B).getD k 0) := ⟨_, Lib.hid rfl⟩
      rw [← HW.out] at hv
      generalize B.getD (4 * k) 0 = x0 at *
      generalize B.getD (4 * k + 1) 0 = x1 at *
      generalize B.getD (4 * k + 2) 0 = x2 at *
      generalize B.getD (4 * k + 3) 0 = x3 at *
      have HL := Lib.hid hl
      have hi0 : (0 : Int) < ((64 - 4 * k : Nat) : Int) := by omega
      have hi1 : (1 : Int) < ((64 - 4 * k : Nat) : Int) := by omega
      have hi2 : (2 : Int) < ((64 - 4 * k : Nat) : Int) := by omega
      have hi3 : (3 : Int) < ((64 - 4 * k : Nat) : Int) := by omega
      clear hl hB
      go_wp2_with fail
      go_region
      go_wp2_with fail
      go_roundw
      case rel =>
        refine ⟨k + 1, l.set k v, by omega, by go_num, by simp [HL.out], Lib.hid ?_, heap_keep H0.out (by omega), heap_keep H1.out (by omega), heap_step H2.out v, (hbw.setCell (by simp; omega) _).drew⟩
        rw [HW.out]; exact hag.out.next (by rw [HL.out]; omega)
      case measure => simp [intOf]; omega
    · obtain rfl : k = 16 := by omega
      clear hk hlt
      go_wp2_with fail
      rw [show ((16 : Nat) : Int) = 16 from rfl]
      go_loopw [6] (fun i wr => ∃ (k : Nat) (l : List Nat), k ≤ 64 ∧ 16 ≤ k ∧ i = .int .i64 k ∧ l.length = 64 ∧ Hid (Agrees l (fun j => (wds B).getD j 0) k) ∧ wr.heap[w.heap.size]? = some (.cells (row .u8 B) 51 (0, 0)) ∧ wr.heap[w.heap.size + 1]? = some (.cells (row .u32 (List.replicate 64 0)) 71 (0, 0)) ∧ wr.heap[w.heap.size + 1 + 1]? = some (.cells (row .u32 l) 71 (0, 0)) ∧ Below w.heap.size w wr) (fun i _ => 64 - (intOf i).toNat)
      case atStart => exact ⟨16, l, by omega, by omega, rfl, hl, hag, h0, h1, h2, hbw⟩
      case round =>
        clear hl hag h0 h1 h2 hbw l
        obtain ⟨k, l, hk, hk1, rfl, hl, hag, h0, h1, h2, hbw⟩ := hrel
        by_cases hlt : k < 64
        · have c0 := (at_row h2 (k - 16) (by omega)).1
          have c1 := (at_row h2 (k - 15) (by omega)).1
          have c2 := (at_row h2 (k - 7) (by omega)).1
          have c3 := (at_row h2 (k - 2) (by omega)).1
          obtain ⟨c4, f4⟩ := at_row h2 k (by omega)
          have H0 := Lib.hid h0
          have H1 := Lib.hid h1
          have H2 := Lib.hid h2
          have HL := Lib.hid hl
          clear h0 h1 h2 hl hB
          rw [hag.out _ (by omega)] at c0 c1 c2 c3
          have l0 := wds_lt B hb (k - 16)
          have l1 := wds_lt B hb (k - 15)
          have l2 := wds_lt B hb (k - 7)
          have l3 := wds_lt B hb (k - 2)
          have HV := Lib.hid (wds_high B k hk1 hlt)
          obtain ⟨v, HW⟩ : ∃ v, Hid (v = (wds B).getD k 0) := ⟨_, Lib.hid rfl⟩
          rw [← HW.out] at HV
          dsimp only at c0 c1 c2 c3
          generalize (wds B).getD (k - 16) 0 = x0 at *
          generalize (wds B).getD (k - 15) 0 = x1 at *
          generalize (wds B).getD (k - 7) 0 = x2 at *
          generalize (wds B).getD (k - 2) 0 = x3 at *
          have i16 : (((k : Int) - 16).toNat) = k - 16 := by omega
          have i15 : (((k : Int) - 15).toNat) = k - 15 := by omega
          have i7 : (((k : Int) - 7).toNat) = k - 7 := by omega
          have i2 : (((k : Int) - 2).toNat) = k - 2 := by omega
          have g0 := sg0_int x1 l1
          have g1 := sg1_int x3 l3
          go_wp2_with fail
          go_quiet (fail)
          go_wp2_with fail; refine (right_7 _ l1 _).mono ?_; rintro e w' ⟨rfl, rfl⟩
          go_wp2_with fail; refine (right_18 _ l1 _).mono ?_; rintro e w' ⟨rfl, rfl⟩
          go_wp2_with fail; refine (right_17 _ l3 _).mono ?_; rintro e w' ⟨rfl, rfl⟩
          go_wp2_with fail; refine (right_19 _ l3 _).mono ?_; rintro e w' ⟨rfl, rfl⟩
          have hv4 := four_int v x0 x1 x2 x3 HV.out
          go_wp2_with fail
          go_region
          go_wp2_with fail
          go_roundw
          case rel =>
            refine ⟨k + 1, l.set k v, by omega, by omega, by go_num, by simp [HL.out], Lib.hid ?_, heap_keep H0.out (by omega), heap_keep H1.out (by omega), heap_step H2.out v, (below_drewN hbw _).setCell (by simp; omega) _⟩
            rw [HW.out]; exact hag.out.next (by rw [HL.out]; omega)
          case measure => simp [intOf]; omega
        · obtain rfl : k = 64 := by omega
          have e := hag.out.ext hl (wds_length B)
          subst e
          have H0 := Lib.hid h0
          have H1 := Lib.hid h1
          have H2 := Lib.hid h2
          clear h0 h1 h2 hl hag hb hB
          have hsz : (Tryd.prog.info? 71).map (·.size) = some (row .u32 (wds B)).size := by rw [row_size, wds_length]; kernel_rfl
          have HS := Lib.hid hsz
          clear hsz
          go_wp2_with (first
            | (refine wpList_load_row rfl 71 _ rfl (w.heap.size + 1 + 1) rfl 71 _ _ _ H2.out Tryd.underlying71 rfl HS.out ?_)
            | (refine wpList_store_row rfl 71 _ _ rfl (w.heap.size + 1) _ rfl rfl 71 _ H1.out HS.out (by rw [row_size, row_size, wds_length, List.length_replicate]) (row_one _ _) ?_))
          refine bodyPost_ret (v := .agg (row .u32 (wds B))) ?_ rfl ⟨rfl, below_setRow hbw (by omega) _⟩
          exact results_cell_row rfl _ _ (w.heap.size + 1) 71 _ (0, 0) _ rfl (setRow_heap _ _ _ _ _ _ H1.out) Tryd.underlying71 rfl HS.out
end Go.Proofs.YtogadffbnoinmaaDoor.Pl
