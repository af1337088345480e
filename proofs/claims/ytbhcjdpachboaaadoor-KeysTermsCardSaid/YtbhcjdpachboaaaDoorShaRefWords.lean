/- What the document's turn, words and consts answer. -/
import Derived.Test.YtbhcjdpachboaaaDoorKeysBase2
import Derived.Test.YtbhcjdpachboaaaDoorKeysBase3
import Derived.StillTailTactics
namespace Go.Proofs.YtbhcjdpachboaaaDoor.Pl
open Go.RowKit

theorem turn_any (n m : Nat) (h : n + m = 32) (x : Nat) (hx : x < 4294967296) (w : World) : Calls Tryd.prog 64 #[.int .u32 x, .int .u64 n] w fun e w' => e = .returned (.int .u32 (rr n x : Nat)) ∧ w = w' := by
  have e1 : (((32 : Int) - (n : Int))) = (m : Int) := by omega
  have e3 : min n 32 = n := by omega
  have e4 : min m 32 = m := by omega
  have e5 : IntKind.u64.wrap (m : Int) = (m : Int) := by rw [IntKind.wrap_u64]; omega
  have HR : Hid (bits .or .u32 ((x : Int) / 2 ^ n) ((x : Int) * 2 ^ m % 4294967296) = (rr n x : Nat)) := Lib.hid (by
    have e1 : ((x : Int) * 2 ^ m % 4294967296) = ((x * 2 ^ m % 4294967296 : Nat) : Int) := by
      rw [Int.natCast_emod, Int.natCast_mul, Int.natCast_pow]; rfl
    have e2 : ((x : Int) / 2 ^ n) = ((x / 2 ^ n : Nat) : Int) := by rw [Int.natCast_ediv, Int.natCast_pow]; rfl
    have h2 : x / 2 ^ n < 4294967296 := Nat.lt_of_le_of_lt (Nat.div_le_self _ _) hx
    rw [e1, e2, u32_or_nat _ _ h2 (Nat.mod_lt _ (by decide)), Nat.or_comm]
    unfold rr
    rw [show 32 - n = m by omega])
  go_enter Tryd.func64, Tryd.ntmps64
  go_wp2
  rw [HR.out]
  go_ret
  exact ⟨rfl, rfl⟩
theorem turn_2 (x : Nat) (hx : x < 4294967296) (w : World) : Calls Tryd.prog 64 #[.int .u32 x, .int .u64 2] w fun e w' => e = .returned (.int .u32 (rr 2 x : Nat)) ∧ w' = w :=
  (turn_any 2 30 (by decide) x hx w).mono fun _ _ h => ⟨h.1, h.2.symm⟩
theorem turn_6 (x : Nat) (hx : x < 4294967296) (w : World) : Calls Tryd.prog 64 #[.int .u32 x, .int .u64 6] w fun e w' => e = .returned (.int .u32 (rr 6 x : Nat)) ∧ w' = w :=
  (turn_any 6 26 (by decide) x hx w).mono fun _ _ h => ⟨h.1, h.2.symm⟩
theorem turn_7 (x : Nat) (hx : x < 4294967296) (w : World) : Calls Tryd.prog 64 #[.int .u32 x, .int .u64 7] w fun e w' => e = .returned (.int .u32 (rr 7 x : Nat)) ∧ w' = w :=
  (turn_any 7 25 (by decide) x hx w).mono fun _ _ h => ⟨h.1, h.2.symm⟩
theorem turn_11 (x : Nat) (hx : x < 4294967296) (w : World) : Calls Tryd.prog 64 #[.int .u32 x, .int .u64 11] w fun e w' => e = .returned (.int .u32 (rr 11 x : Nat)) ∧ w' = w :=
  (turn_any 11 21 (by decide) x hx w).mono fun _ _ h => ⟨h.1, h.2.symm⟩
theorem turn_13 (x : Nat) (hx : x < 4294967296) (w : World) : Calls Tryd.prog 64 #[.int .u32 x, .int .u64 13] w fun e w' => e = .returned (.int .u32 (rr 13 x : Nat)) ∧ w' = w :=
  (turn_any 13 19 (by decide) x hx w).mono fun _ _ h => ⟨h.1, h.2.symm⟩
theorem turn_17 (x : Nat) (hx : x < 4294967296) (w : World) : Calls Tryd.prog 64 #[.int .u32 x, .int .u64 17] w fun e w' => e = .returned (.int .u32 (rr 17 x : Nat)) ∧ w' = w :=
  (turn_any 17 15 (by decide) x hx w).mono fun _ _ h => ⟨h.1, h.2.symm⟩
theorem turn_18 (x : Nat) (hx : x < 4294967296) (w : World) : Calls Tryd.prog 64 #[.int .u32 x, .int .u64 18] w fun e w' => e = .returned (.int .u32 (rr 18 x : Nat)) ∧ w' = w :=
  (turn_any 18 14 (by decide) x hx w).mono fun _ _ h => ⟨h.1, h.2.symm⟩
theorem turn_19 (x : Nat) (hx : x < 4294967296) (w : World) : Calls Tryd.prog 64 #[.int .u32 x, .int .u64 19] w fun e w' => e = .returned (.int .u32 (rr 19 x : Nat)) ∧ w' = w :=
  (turn_any 19 13 (by decide) x hx w).mono fun _ _ h => ⟨h.1, h.2.symm⟩
theorem turn_22 (x : Nat) (hx : x < 4294967296) (w : World) : Calls Tryd.prog 64 #[.int .u32 x, .int .u64 22] w fun e w' => e = .returned (.int .u32 (rr 22 x : Nat)) ∧ w' = w :=
  (turn_any 22 10 (by decide) x hx w).mono fun _ _ h => ⟨h.1, h.2.symm⟩
theorem turn_25 (x : Nat) (hx : x < 4294967296) (w : World) : Calls Tryd.prog 64 #[.int .u32 x, .int .u64 25] w fun e w' => e = .returned (.int .u32 (rr 25 x : Nat)) ∧ w' = w :=
  (turn_any 25 7 (by decide) x hx w).mono fun _ _ h => ⟨h.1, h.2.symm⟩

theorem char_at (s : ByteArray) (z : Int) (k c : Nat) (hz : z = (k : Int)) (hk : k < s.size) (hc : c = (nums s).getD k 0) (V : World) : (Instr.index 9 (.string s) (.int .i64 z)).run Tryd.prog V = .ok (.int .u8 (c : Int)) V := by
  rw [hz]; exact str_index s k c hk hc V

set_option maxHeartbeats 1000000 in
set_option maxRecDepth 100000 in
theorem refwords_any (s : ByteArray) (hs : s.size = 64) (w : World) : Calls Tryd.prog 62 #[.string s] w fun e w' => e = .returned (.agg (row .u32 (wds (nums s)))) ∧ Below w.heap.size w w' := by
  have hb := (nums_bytes s).at
  have HB := Lib.hid hb
  have HSZ := Lib.hid hs
  clear hb hs
  go_enter Tryd.func62, Tryd.ntmps62
  go_wp2
  go_loopw [4] (fun i wr => ∃ (k : Nat) (l : List Nat), k ≤ 16 ∧ i = .int .i64 k ∧ l.length = 64 ∧ Hid (Agrees l (fun j => (wds (nums s)).getD j 0) k) ∧ wr.heap[w.heap.size]? = some (.cells (row .u32 (List.replicate 64 0)) 99 (0, 0)) ∧ wr.heap[w.heap.size + 1]? = some (.cells (row .u32 l) 99 (0, 0)) ∧ Below w.heap.size w wr) (fun i _ => 16 - (intOf i).toNat)
  case atStart =>
    refine ⟨0, List.replicate 64 0, by omega, rfl, by simp, Lib.hid (Agrees.zero _ _), heap2_0 _ _ _, heap2_1 _ _ _, below2 _ _ _⟩
  case round =>
    obtain ⟨k, l, hk, rfl, hl, hag, h1, h2, hbw⟩ := hrel
    by_cases hlt : k < 16
    · obtain ⟨c4, f4⟩ := at_row h2 k (by omega)
      have H1 := Lib.hid h1
      have H2 := Lib.hid h2
      have HL := Lib.hid hl
      clear h1 h2 hl
      have HV : Hid ((wds (nums s)).getD k 0 = _) := Lib.hid (wds_low (nums s) k hlt)
      have hv := be_int _ _ _ _ (HB.out (4 * k)) (HB.out (4 * k + 1)) (HB.out (4 * k + 2)) (HB.out (4 * k + 3))
      rw [← HV.out] at hv
      clear HV
      obtain ⟨v, HW⟩ : ∃ v, Hid (v = (wds (nums s)).getD k 0) := ⟨_, Lib.hid rfl⟩
      rw [← HW.out] at hv
      have i0 := char_at s (4 * (k : Int)) (4 * k) _ (by omega) (by rw [HSZ.out]; omega) rfl
      have i1 := char_at s (4 * (k : Int) + 1) (4 * k + 1) _ (by omega) (by rw [HSZ.out]; omega) rfl
      have i2 := char_at s (4 * (k : Int) + 2) (4 * k + 2) _ (by omega) (by rw [HSZ.out]; omega) rfl
      have i3 := char_at s (4 * (k : Int) + 3) (4 * k + 3) _ (by omega) (by rw [HSZ.out]; omega) rfl
      generalize (nums s).getD (4 * k) 0 = x0 at hv i0
      generalize (nums s).getD (4 * k + 1) 0 = x1 at hv i1
      generalize (nums s).getD (4 * k + 2) 0 = x2 at hv i2
      generalize (nums s).getD (4 * k + 3) 0 = x3 at hv i3
      go_wp2_with fail
      go_region
      go_wp2_with fail
      go_roundw
      case rel =>
        refine ⟨k + 1, l.set k v, by omega, by go_num, by simp [HL.out], Lib.hid ?_, heap_keep H1.out (by omega), heap_step H2.out v, (hbw.setCell (by simp) _).drew⟩
        rw [HW.out]; exact hag.out.next (by rw [HL.out]; omega)
      case measure => simp [intOf]; omega
    · obtain rfl : k = 16 := by omega
      clear hk hlt
      go_wp2_with fail
      rw [show ((16 : Nat) : Int) = 16 from rfl]
      go_loopw [5] (fun i wr => ∃ (k : Nat) (l : List Nat), k ≤ 64 ∧ 16 ≤ k ∧ i = .int .i64 k ∧ l.length = 64 ∧ Hid (Agrees l (fun j => (wds (nums s)).getD j 0) k) ∧ wr.heap[w.heap.size]? = some (.cells (row .u32 (List.replicate 64 0)) 99 (0, 0)) ∧ wr.heap[w.heap.size + 1]? = some (.cells (row .u32 l) 99 (0, 0)) ∧ Below w.heap.size w wr) (fun i _ => 64 - (intOf i).toNat)
      case atStart => exact ⟨16, l, by omega, by omega, rfl, hl, hag, h1, h2, hbw⟩
      case round =>
        clear hl hag h1 h2 hbw l
        obtain ⟨k, l, hk, hk1, rfl, hl, hag, h1, h2, hbw⟩ := hrel
        by_cases hlt : k < 64
        · have c0 := (at_row h2 (k - 16) (by omega)).1
          have c1 := (at_row h2 (k - 15) (by omega)).1
          have c2 := (at_row h2 (k - 7) (by omega)).1
          have c3 := (at_row h2 (k - 2) (by omega)).1
          obtain ⟨c4, f4⟩ := at_row h2 k (by omega)
          have H1 := Lib.hid h1
          have H2 := Lib.hid h2
          have HL := Lib.hid hl
          clear h1 h2 hl
          rw [hag.out _ (by omega)] at c0 c1 c2 c3
          have l0 := wds_lt (nums s) HB.out (k - 16)
          have l1 := wds_lt (nums s) HB.out (k - 15)
          have l2 := wds_lt (nums s) HB.out (k - 7)
          have l3 := wds_lt (nums s) HB.out (k - 2)
          have HV := Lib.hid (wds_high (nums s) k hk1 hlt)
          obtain ⟨v, HW⟩ : ∃ v, Hid (v = (wds (nums s)).getD k 0) := ⟨_, Lib.hid rfl⟩
          rw [← HW.out] at HV
          dsimp only at c0 c1 c2 c3
          generalize (wds (nums s)).getD (k - 16) 0 = x0 at *
          generalize (wds (nums s)).getD (k - 15) 0 = x1 at *
          generalize (wds (nums s)).getD (k - 7) 0 = x2 at *
          generalize (wds (nums s)).getD (k - 2) 0 = x3 at *
          have i16 : (((k : Int) - 16).toNat) = k - 16 := by omega
          have i15 : (((k : Int) - 15).toNat) = k - 15 := by omega
          have i7 : (((k : Int) - 7).toNat) = k - 7 := by omega
          have i2 : (((k : Int) - 2).toNat) = k - 2 := by omega
          have g0 := sg0_int x1 l1
          have g1 := sg1_int x3 l3
          have hv4 := four_int v x0 x1 x2 x3 HV.out
          go_wp2_with fail
          go_quiet (fail)
          have d0 : (wr.drewN nq).cell? ⟨w.heap.size + 1, k - 16, none⟩ = some (.int .u32 x0) := by rw [World.cell?_drewN]; exact c0
          have d2 : (wr.drewN nq).cell? ⟨w.heap.size + 1, k - 7, none⟩ = some (.int .u32 x2) := by rw [World.cell?_drewN]; exact c2
          have d4 : (wr.drewN nq).cell? ⟨w.heap.size + 1, k, none⟩ = some (.int .u32 ((l.getD k 0 : Nat) : Int)) := by rw [World.cell?_drewN]; exact c4
          have e4 : (wr.drewN nq).frozen? ⟨w.heap.size + 1, k, none⟩ = false := f4
          have J1 : Hid ((wr.drewN nq).heap[w.heap.size]? = some (.cells (row .u32 (List.replicate 64 0)) 99 (0, 0))) := H1
          have J2 : Hid ((wr.drewN nq).heap[w.heap.size + 1]? = some (.cells (row .u32 l) 99 (0, 0))) := H2
          have JB := Lib.hid (below_drewN hbw nq)
          generalize wr.drewN nq = V at *
          clear c0 c1 c2 c3 c4 f4 H1 H2 hbw
          go_wp2_with fail
          have q1 : IntKind.i64.wrap ((k : Int) - 16) = (k : Int) - 16 := IntWalk.i64_in _ (by omega)
          have q2 : IntKind.i64.wrap ((k : Int) - 7) = (k : Int) - 7 := IntWalk.i64_in _ (by omega)
          have q3 : (0 : Int) ≤ (k : Int) - 16 := by omega
          have q4 : (0 : Int) ≤ (k : Int) - 7 := by omega
          have q5 : (k : Int) - 16 < 64 := by omega
          have q6 : (k : Int) - 7 < 64 := by omega
          have q7 : (16 : Int) ≤ (k : Int) := by omega
          have q8 : (7 : Int) ≤ (k : Int) := by omega
          refine wp_region_still_tail 29 (by kernel_rfl) (by kernel_rfl) ?_
          simp only [List.take_succ_cons, List.take_zero, List.drop_succ_cons, List.drop_zero]
          repeat still_step
          still_call (turn_7 _ l1 _)
          repeat still_step
          still_call (turn_18 _ l1 _)
          repeat still_step
          still_call (turn_17 _ l3 _)
          repeat still_step
          still_call (turn_19 _ l3 _)
          repeat still_step
          refine wpStill_nil ?_
          change wpList _ _ _ _ _ V.drew
          go_wp2_with fail
          go_roundw
          case rel =>
            refine ⟨k + 1, l.set k v, by omega, by omega, by go_num, by simp [HL.out], Lib.hid ?_, heap_keep J1.out (by omega), heap_step J2.out v, (JB.out.setCell (by simp) _).drew⟩
            rw [HW.out]; exact hag.out.next (by rw [HL.out]; omega)
          case measure => simp [intOf]; omega
        · obtain rfl : k = 64 := by omega
          have e := hag.out.ext hl (wds_length (nums s))
          subst e
          have H1 := Lib.hid h1
          have H2 := Lib.hid h2
          clear h1 h2 hl hag
          have hsz : (Tryd.prog.info? 99).map (·.size) = some (row .u32 (wds (nums s))).size := by rw [row_size, wds_length]; kernel_rfl
          have HS := Lib.hid hsz
          clear hsz
          go_wp2_with (first
            | (refine wpList_load_row rfl 99 _ rfl (w.heap.size + 1) rfl 99 _ _ _ H2.out Tryd.underlying99 rfl HS.out ?_)
            | (refine wpList_store_row rfl 99 _ _ rfl w.heap.size _ rfl rfl 99 _ H1.out HS.out (by rw [row_size, row_size, wds_length, List.length_replicate]) (row_one _ _) ?_))
          refine bodyPost_ret (v := .agg (row .u32 (wds (nums s)))) ?_ rfl ⟨rfl, below_setRow hbw (Nat.le_refl _) _⟩
          exact results_cell_row rfl _ _ w.heap.size 99 _ (0, 0) _ rfl (setRow_heap _ _ _ _ _ _ H1.out) Tryd.underlying99 rfl HS.out
end Go.Proofs.YtbhcjdpachboaaaDoor.Pl
