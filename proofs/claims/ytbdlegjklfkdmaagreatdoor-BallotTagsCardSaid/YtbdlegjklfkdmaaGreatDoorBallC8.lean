/- What New's closure answers: the block's bytes, each xor a number. What the document's turn, words and consts answer. What the document's consts and took answer. What hmac.New answers: a key that is ready. What Key.Sum answers: the tag. What cipher.ready answers: the two keys of a key, ready. What hmac.Sum answers: the tag. -/
import Derived.Test.YtbdlegjklfkdmaaGreatDoorBallC7
import Derived.Laws.BitsAllLaws
import Derived.Test.YtbdlegjklfkdmaaGreatDoorBallC3
import Derived.StillTailTactics
import Derived.Deep.CutRange
import Derived.Deep.RegionHeld3
namespace Go.Proofs.YtbdlegjklfkdmaaGreatDoor.Pl
open Go.RowKit

theorem xorb_at (n : Nat) (l : List Nat) (j : Nat) (h : j < l.length) : (xorb n l).getD j 0 = l.getD j 0 ^^^ n := by
  simp [xorb, List.getD_eq_getElem?_getD, h]
set_option maxHeartbeats 1000000 in
set_option maxRecDepth 100000 in
theorem turned_any (n : Nat) (hn : n < 256) (g : Nat) (l : List Nat) (hl : l.length = 64) (hb : Bytes l) (w : World) (h : w.heap[g]? = some (.cells (row .u8 l) 119 (0, 0))) :
    Calls Tryz.prog 94 #[.int .u8 n, .pointer (some ⟨g, 0, none⟩)] w fun e w' => e = .returned (.string (bytesOf (xorb n l))) ∧ Below w.heap.size w w' := by
  have hz := zero64
  have HS : Hid ((Tryz.prog.info? 119).map (·.size) = some (row .u8 l).size) := Lib.hid (by rw [row_size, hl]; kernel_rfl)
  have HZ : Hid ((row .u8 (List.replicate 64 0)).size = (row .u8 l).size) := Lib.hid (by rw [row_size, row_size, hl, List.length_replicate])
  have HG := Lib.hid h
  have HL := Lib.hid hl
  have HB := Lib.hid hb
  have N1 := Lib.hid (Go.heap_alloc_new w (.cells (row .u8 (List.replicate 64 0)) 119))
  have hlt := (Array.getElem?_eq_some_iff.1 h).1
  clear h hl hb
  generalize List.replicate 64 0 = Z at *
  go_enter Tryz.func94, Tryz.ntmps94
  go_wp2_with (first
    | (refine wpList_load_row rfl 119 _ rfl g rfl 119 _ _ _ HG.out Tryz.underlying119 rfl HS.out ?_)
    | (refine wpList_store_row rfl 119 _ _ rfl w.heap.size (row .u8 l) rfl rfl 119 (row .u8 Z) N1.out HS.out HZ.out (row_one _ _) ?_))
  rw [World.setRow_alloc_new]
  have M1 := Go.heap_alloc_new w (.cells (row .u8 l) 119)
  have B1 : Below w.heap.size w (w.alloc (.cells (row .u8 l) 119)) := (Below.refl _ _).alloc (Nat.le_refl _) _
  generalize w.alloc (.cells (row .u8 l) 119) = W at *
  have HM1 := Lib.hid M1
  have HB1 := Lib.hid B1
  clear M1 B1 N1 HZ hz
  go_loopw [7] (fun i wr => ∃ (k : Nat) (m : List Nat), k ≤ 64 ∧ i = .int .i64 k ∧ Hid (m.length = 64) ∧ Hid (∀ j, m.getD j 0 = if j < k then l.getD j 0 ^^^ n else l.getD j 0) ∧ Hid (wr.heap[w.heap.size]? = some (.cells (row .u8 m) 119 (0, 0))) ∧ Hid (Below w.heap.size w wr)) (fun i _ => 64 - (intOf i).toNat)
  case atStart => exact ⟨0, l, by omega, rfl, HL, Lib.hid (fun j => by rw [if_neg (by omega)]), HM1, HB1⟩
  case round =>
    clear HM1 HB1
    obtain ⟨k, m, hk, rfl, hml, hag, h1, hbw⟩ := hrel
    by_cases hlt2 : k < 64
    · obtain ⟨c1, f1⟩ := at_row h1.out k (by rw [hml.out]; exact hlt2)
      have e := hag.out k
      rw [if_neg (by omega)] at e
      obtain ⟨x, ex⟩ : ∃ x, x = l.getD k 0 := ⟨_, rfl⟩
      have hx : x < 256 := by rw [ex]; exact HB.out.at k
      rw [e, ← ex] at c1
      have EX := Lib.hid ex
      have b1 : bits .xor .u8 (x : Int) (n : Int) = ((x ^^^ n : Nat) : Int) := u8_xor_nat x n hx hn
      obtain ⟨y, ey⟩ : ∃ y, y = x ^^^ n := ⟨_, rfl⟩
      rw [← ey] at b1
      have EY := Lib.hid ey
      clear e ex ey hx
      go_wp2_with fail
      go_roundw
      case rel =>
        refine ⟨k + 1, m.set k y, by omega, by go_num, Lib.hid (by rw [List.length_set]; exact hml.out), Lib.hid (fun j => ?_), Lib.hid (heap_step h1.out y), Lib.hid (hbw.out.setCell (Nat.le_refl _) _)⟩
        rw [getD_set _ _ _ _ (by rw [hml.out]; exact hlt2), hag.out j]
        by_cases hj : j = k
        · rw [if_pos hj, if_pos (by omega), hj, EY.out, EX.out]
        · rw [if_neg hj]
          by_cases hj2 : j < k
          · rw [if_pos hj2, if_pos (by omega)]
          · rw [if_neg hj2, if_neg (by omega)]
      case measure => simp [intOf]; omega
    · obtain rfl : k = 64 := by omega
      have e : m = xorb n l := getD_ext (by rw [hml.out, xorb_length, HL.out]) (fun i hi => by
        rw [hag.out i, if_pos (by rw [hml.out] at hi; exact hi), xorb_at n l i (by rw [HL.out]; rw [hml.out] at hi; exact hi)])
      have hsl := all64 w.heap.size
      have hcv := back_string wr w.heap.size 0 64 (xorb n l) (fun j => (xorb_bytes hn HB.out).at j) (fun j hj => by
        rw [Nat.zero_add, (at_row h1.out j (by rw [e]; exact hj)).1, e])
      rw [xorb_length, HL.out] at hcv
      clear e hag hml h1
      obtain ⟨X, eX⟩ : ∃ X, X = bytesOf (xorb n l) := ⟨_, rfl⟩
      rw [← eX] at hcv
      have EX := Lib.hid eX
      clear eX
      go_wp2_with fail
      go_ret
      exact ⟨by rw [← EX.out]; rfl, hbw.out⟩
end Go.Proofs.YtbdlegjklfkdmaaGreatDoor.Pl

namespace Go.Proofs.YtbdlegjklfkdmaaGreatDoor.Pl
open Go.RowKit

theorem turn_any (n m : Nat) (h : n + m = 32) (x : Nat) (hx : x < 4294967296) (w : World) : Calls Tryz.prog 158 #[.int .u32 x, .int .u64 n] w fun e w' => e = .returned (.int .u32 (rr n x : Nat)) ∧ w = w' := by
  have e1 : (((32 : Int) - (n : Int))) = (m : Int) := by omega
  have e3 : min n 32 = n := by omega
  have e4 : min m 32 = m := by omega
  have e5 : IntKind.u64.wrap (m : Int) = (m : Int) := by rw [IntKind.wrap_u64]; omega
  have HR : Hid (bits .or .u32 ((x : Int) / 2 ^ n) ((x : Int) * 2 ^ m % 4294967296) = (rr n x : Nat)) := Lib.hid (by
    have e1 : ((x : Int) * 2 ^ m % 4294967296) = ((x * 2 ^ m % 4294967296 : Nat) : Int) := by
      rw [Int.natCast_emod, Int.natCast_mul, Int.natCast_pow]; rfl
    have e2 : ((x : Int) / 2 ^ n) = ((x / 2 ^ n : Nat) : Int) := by rw [Int.natCast_ediv, Int.natCast_pow]; rfl
    have h2 : x / 2 ^ n < 4294967296 := Nat.lt_of_le_of_lt (Nat.div_le_self _ _) hx
    rw [e1, e2, u32_or_nat _ _ h2 (Nat.mod_lt _ (by decide)), Nat.or_comm]
    unfold rr
    rw [show 32 - n = m by omega])
  go_enter Tryz.func158, Tryz.ntmps158
  go_wp2
  rw [HR.out]
  go_ret
  exact ⟨rfl, rfl⟩
theorem turn_2 (x : Nat) (hx : x < 4294967296) (w : World) : Calls Tryz.prog 158 #[.int .u32 x, .int .u64 2] w fun e w' => e = .returned (.int .u32 (rr 2 x : Nat)) ∧ w' = w :=
  (turn_any 2 30 (by decide) x hx w).mono fun _ _ h => ⟨h.1, h.2.symm⟩
theorem turn_6 (x : Nat) (hx : x < 4294967296) (w : World) : Calls Tryz.prog 158 #[.int .u32 x, .int .u64 6] w fun e w' => e = .returned (.int .u32 (rr 6 x : Nat)) ∧ w' = w :=
  (turn_any 6 26 (by decide) x hx w).mono fun _ _ h => ⟨h.1, h.2.symm⟩
theorem turn_7 (x : Nat) (hx : x < 4294967296) (w : World) : Calls Tryz.prog 158 #[.int .u32 x, .int .u64 7] w fun e w' => e = .returned (.int .u32 (rr 7 x : Nat)) ∧ w' = w :=
  (turn_any 7 25 (by decide) x hx w).mono fun _ _ h => ⟨h.1, h.2.symm⟩
theorem turn_11 (x : Nat) (hx : x < 4294967296) (w : World) : Calls Tryz.prog 158 #[.int .u32 x, .int .u64 11] w fun e w' => e = .returned (.int .u32 (rr 11 x : Nat)) ∧ w' = w :=
  (turn_any 11 21 (by decide) x hx w).mono fun _ _ h => ⟨h.1, h.2.symm⟩
theorem turn_13 (x : Nat) (hx : x < 4294967296) (w : World) : Calls Tryz.prog 158 #[.int .u32 x, .int .u64 13] w fun e w' => e = .returned (.int .u32 (rr 13 x : Nat)) ∧ w' = w :=
  (turn_any 13 19 (by decide) x hx w).mono fun _ _ h => ⟨h.1, h.2.symm⟩
theorem turn_17 (x : Nat) (hx : x < 4294967296) (w : World) : Calls Tryz.prog 158 #[.int .u32 x, .int .u64 17] w fun e w' => e = .returned (.int .u32 (rr 17 x : Nat)) ∧ w' = w :=
  (turn_any 17 15 (by decide) x hx w).mono fun _ _ h => ⟨h.1, h.2.symm⟩
theorem turn_18 (x : Nat) (hx : x < 4294967296) (w : World) : Calls Tryz.prog 158 #[.int .u32 x, .int .u64 18] w fun e w' => e = .returned (.int .u32 (rr 18 x : Nat)) ∧ w' = w :=
  (turn_any 18 14 (by decide) x hx w).mono fun _ _ h => ⟨h.1, h.2.symm⟩
theorem turn_19 (x : Nat) (hx : x < 4294967296) (w : World) : Calls Tryz.prog 158 #[.int .u32 x, .int .u64 19] w fun e w' => e = .returned (.int .u32 (rr 19 x : Nat)) ∧ w' = w :=
  (turn_any 19 13 (by decide) x hx w).mono fun _ _ h => ⟨h.1, h.2.symm⟩
theorem turn_22 (x : Nat) (hx : x < 4294967296) (w : World) : Calls Tryz.prog 158 #[.int .u32 x, .int .u64 22] w fun e w' => e = .returned (.int .u32 (rr 22 x : Nat)) ∧ w' = w :=
  (turn_any 22 10 (by decide) x hx w).mono fun _ _ h => ⟨h.1, h.2.symm⟩
theorem turn_25 (x : Nat) (hx : x < 4294967296) (w : World) : Calls Tryz.prog 158 #[.int .u32 x, .int .u64 25] w fun e w' => e = .returned (.int .u32 (rr 25 x : Nat)) ∧ w' = w :=
  (turn_any 25 7 (by decide) x hx w).mono fun _ _ h => ⟨h.1, h.2.symm⟩

theorem char_at (s : ByteArray) (z : Int) (k c : Nat) (hz : z = (k : Int)) (hk : k < s.size) (hc : c = (nums s).getD k 0) (V : World) : (Instr.index 9 (.string s) (.int .i64 z)).run Tryz.prog V = .ok (.int .u8 (c : Int)) V := by
  rw [hz]; exact str_index s k c hk hc V

set_option maxHeartbeats 1000000 in
set_option maxRecDepth 100000 in
theorem refwords_any (s : ByteArray) (hs : s.size = 64) (w : World) : Calls Tryz.prog 156 #[.string s] w fun e w' => e = .returned (.agg (row .u32 (wds (nums s)))) ∧ Below w.heap.size w w' := by
  have hb := (nums_bytes s).at
  have HB := Lib.hid hb
  have HSZ := Lib.hid hs
  clear hb hs
  go_enter Tryz.func156, Tryz.ntmps156
  go_wp2
  go_loopw [4] (fun i wr => ∃ (k : Nat) (l : List Nat), k ≤ 16 ∧ i = .int .i64 k ∧ l.length = 64 ∧ Hid (Agrees l (fun j => (wds (nums s)).getD j 0) k) ∧ wr.heap[w.heap.size]? = some (.cells (row .u32 (List.replicate 64 0)) 178 (0, 0)) ∧ wr.heap[w.heap.size + 1]? = some (.cells (row .u32 l) 178 (0, 0)) ∧ Below w.heap.size w wr) (fun i _ => 16 - (intOf i).toNat)
  case atStart =>
    refine ⟨0, List.replicate 64 0, by omega, rfl, by simp, Lib.hid (Agrees.zero _ _), heap2_0 _ _ _, heap2_1 _ _ _, below2 _ _ _⟩
  case round =>
    obtain ⟨k, l, hk, rfl, hl, hag, h1, h2, hbw⟩ := hrel
    by_cases hlt : k < 16
    · obtain ⟨c4, f4⟩ := at_row h2 k (by omega)
      have H1 := Lib.hid h1
      have H2 := Lib.hid h2
      have HL := Lib.hid hl
      clear h1 h2 hl
      have HV : Hid ((wds (nums s)).getD k 0 = _) := Lib.hid (wds_low (nums s) k hlt)
      have hv := be_int _ _ _ _ (HB.out (4 * k)) (HB.out (4 * k + 1)) (HB.out (4 * k + 2)) (HB.out (4 * k + 3))
      rw [← HV.out] at hv
      clear HV
      obtain ⟨v, HW⟩ : ∃ v, Hid (v = (wds (nums s)).getD k 0) := ⟨_, Lib.hid rfl⟩
      rw [← HW.out] at hv
      have i0 := char_at s (4 * (k : Int)) (4 * k) _ (by omega) (by rw [HSZ.out]; omega) rfl
      have i1 := char_at s (4 * (k : Int) + 1) (4 * k + 1) _ (by omega) (by rw [HSZ.out]; omega) rfl
      have i2 := char_at s (4 * (k : Int) + 2) (4 * k + 2) _ (by omega) (by rw [HSZ.out]; omega) rfl
      have i3 := char_at s (4 * (k : Int) + 3) (4 * k + 3) _ (by omega) (by rw [HSZ.out]; omega) rfl
      generalize (nums s).getD (4 * k) 0 = x0 at hv i0
      generalize (nums s).getD (4 * k + 1) 0 = x1 at hv i1
      generalize (nums s).getD (4 * k + 2) 0 = x2 at hv i2
      generalize (nums s).getD (4 * k + 3) 0 = x3 at hv i3
      go_wp2_with fail
      go_region
      go_wp2_with fail
      go_roundw
      case rel =>
        refine ⟨k + 1, l.set k v, by omega, by go_num, by simp [HL.out], Lib.hid ?_, heap_keep H1.out (by omega), heap_step H2.out v, (hbw.setCell (by simp) _).drew⟩
        rw [HW.out]; exact hag.out.next (by rw [HL.out]; omega)
      case measure => simp [intOf]; omega
    · obtain rfl : k = 16 := by omega
      clear hk hlt
      go_wp2_with fail
      rw [show ((16 : Nat) : Int) = 16 from rfl]
      go_loopw [5] (fun i wr => ∃ (k : Nat) (l : List Nat), k ≤ 64 ∧ 16 ≤ k ∧ i = .int .i64 k ∧ l.length = 64 ∧ Hid (Agrees l (fun j => (wds (nums s)).getD j 0) k) ∧ wr.heap[w.heap.size]? = some (.cells (row .u32 (List.replicate 64 0)) 178 (0, 0)) ∧ wr.heap[w.heap.size + 1]? = some (.cells (row .u32 l) 178 (0, 0)) ∧ Below w.heap.size w wr) (fun i _ => 64 - (intOf i).toNat)
      case atStart => exact ⟨16, l, by omega, by omega, rfl, hl, hag, h1, h2, hbw⟩
      case round =>
        clear hl hag h1 h2 hbw l
        obtain ⟨k, l, hk, hk1, rfl, hl, hag, h1, h2, hbw⟩ := hrel
        by_cases hlt : k < 64
        · have c0 := (at_row h2 (k - 16) (by omega)).1
          have c1 := (at_row h2 (k - 15) (by omega)).1
          have c2 := (at_row h2 (k - 7) (by omega)).1
          have c3 := (at_row h2 (k - 2) (by omega)).1
          obtain ⟨c4, f4⟩ := at_row h2 k (by omega)
          have H1 := Lib.hid h1
          have H2 := Lib.hid h2
          have HL := Lib.hid hl
          clear h1 h2 hl
          rw [hag.out _ (by omega)] at c0 c1 c2 c3
          have l0 := wds_lt (nums s) HB.out (k - 16)
          have l1 := wds_lt (nums s) HB.out (k - 15)
          have l2 := wds_lt (nums s) HB.out (k - 7)
          have l3 := wds_lt (nums s) HB.out (k - 2)
          have HV := Lib.hid (wds_high (nums s) k hk1 hlt)
          obtain ⟨v, HW⟩ : ∃ v, Hid (v = (wds (nums s)).getD k 0) := ⟨_, Lib.hid rfl⟩
          rw [← HW.out] at HV
          dsimp only at c0 c1 c2 c3
          generalize (wds (nums s)).getD (k - 16) 0 = x0 at *
          generalize (wds (nums s)).getD (k - 15) 0 = x1 at *
          generalize (wds (nums s)).getD (k - 7) 0 = x2 at *
          generalize (wds (nums s)).getD (k - 2) 0 = x3 at *
          have i16 : (((k : Int) - 16).toNat) = k - 16 := by omega
          have i15 : (((k : Int) - 15).toNat) = k - 15 := by omega
          have i7 : (((k : Int) - 7).toNat) = k - 7 := by omega
          have i2 : (((k : Int) - 2).toNat) = k - 2 := by omega
          have g0 := sg0_int x1 l1
          have g1 := sg1_int x3 l3
          have hv4 := four_int v x0 x1 x2 x3 HV.out
          go_wp2_with fail
          go_quiet (fail)
          have d0 : (wr.drewN nq).cell? ⟨w.heap.size + 1, k - 16, none⟩ = some (.int .u32 x0) := by rw [World.cell?_drewN]; exact c0
          have d2 : (wr.drewN nq).cell? ⟨w.heap.size + 1, k - 7, none⟩ = some (.int .u32 x2) := by rw [World.cell?_drewN]; exact c2
          have d4 : (wr.drewN nq).cell? ⟨w.heap.size + 1, k, none⟩ = some (.int .u32 ((l.getD k 0 : Nat) : Int)) := by rw [World.cell?_drewN]; exact c4
          have e4 : (wr.drewN nq).frozen? ⟨w.heap.size + 1, k, none⟩ = false := f4
          have J1 : Hid ((wr.drewN nq).heap[w.heap.size]? = some (.cells (row .u32 (List.replicate 64 0)) 178 (0, 0))) := H1
          have J2 : Hid ((wr.drewN nq).heap[w.heap.size + 1]? = some (.cells (row .u32 l) 178 (0, 0))) := H2
          have JB := Lib.hid (below_drewN hbw nq)
          generalize wr.drewN nq = V at *
          clear c0 c1 c2 c3 c4 f4 H1 H2 hbw
          go_wp2_with fail
          have q1 : IntKind.i64.wrap ((k : Int) - 16) = (k : Int) - 16 := IntWalk.i64_in _ (by omega)
          have q2 : IntKind.i64.wrap ((k : Int) - 7) = (k : Int) - 7 := IntWalk.i64_in _ (by omega)
          have q3 : (0 : Int) ≤ (k : Int) - 16 := by omega
          have q4 : (0 : Int) ≤ (k : Int) - 7 := by omega
          have q5 : (k : Int) - 16 < 64 := by omega
          have q6 : (k : Int) - 7 < 64 := by omega
          have q7 : (16 : Int) ≤ (k : Int) := by omega
          have q8 : (7 : Int) ≤ (k : Int) := by omega
          refine wp_region_still_tail 29 (by kernel_rfl) (by kernel_rfl) ?_
          simp only [List.take_succ_cons, List.take_zero, List.drop_succ_cons, List.drop_zero]
          repeat still_step
          still_call (turn_7 _ l1 _)
          repeat still_step
          still_call (turn_18 _ l1 _)
          repeat still_step
          still_call (turn_17 _ l3 _)
          repeat still_step
          still_call (turn_19 _ l3 _)
          repeat still_step
          refine wpStill_nil ?_
          change wpList _ _ _ _ _ V.drew
          go_wp2_with fail
          go_roundw
          case rel =>
            refine ⟨k + 1, l.set k v, by omega, by omega, by go_num, by simp [HL.out], Lib.hid ?_, heap_keep J1.out (by omega), heap_step J2.out v, (JB.out.setCell (by simp) _).drew⟩
            rw [HW.out]; exact hag.out.next (by rw [HL.out]; omega)
          case measure => simp [intOf]; omega
        · obtain rfl : k = 64 := by omega
          have e := hag.out.ext hl (wds_length (nums s))
          subst e
          have H1 := Lib.hid h1
          have H2 := Lib.hid h2
          clear h1 h2 hl hag
          have hsz : (Tryz.prog.info? 178).map (·.size) = some (row .u32 (wds (nums s))).size := by rw [row_size, wds_length]; kernel_rfl
          have HS := Lib.hid hsz
          clear hsz
          go_wp2_with (first
            | (refine wpList_load_row rfl 178 _ rfl (w.heap.size + 1) rfl 178 _ _ _ H2.out Tryz.underlying178 rfl HS.out ?_)
            | (refine wpList_store_row rfl 178 _ _ rfl w.heap.size _ rfl rfl 178 _ H1.out HS.out (by rw [row_size, row_size, wds_length, List.length_replicate]) (row_one _ _) ?_))
          refine bodyPost_ret (v := .agg (row .u32 (wds (nums s)))) ?_ rfl ⟨rfl, below_setRow hbw (Nat.le_refl _) _⟩
          exact results_cell_row rfl _ _ w.heap.size 178 _ (0, 0) _ rfl (setRow_heap _ _ _ _ _ _ H1.out) Tryz.underlying178 rfl HS.out
end Go.Proofs.YtbdlegjklfkdmaaGreatDoor.Pl

namespace Go.Proofs.YtbdlegjklfkdmaaGreatDoor.Pl
open Go.RowKit

theorem wpList_build_eq {P : Program} {ops : Array Oper} {rest : List Oper} {o : Oper} {a : Act} {w : World} {Q : Exit → Act → World → Prop} (hg : o.guard = none) (t : TypeId) (parts : Array (Nat × Operand)) (ho : o.op = .build t parts)
    (cells : Array Value) (hf : P.built t (parts.map fun (i, x) => (i, a.eval x)).toList = some cells)
    (h : wpList P ops Q rest (a.put o.dst (.agg cells)) w) : wpList P ops Q (o :: rest) a w :=
  wpList_build hg t parts ho (by rw [hf]; rfl) (by rw [hf]; exact h)

set_option maxRecDepth 100000 in
theorem consts_any (w : World) : Calls Tryz.prog 157 #[] w fun e w' => e = .returned (.agg (row .u32 KL)) ∧ Below w.heap.size w w' := by
  have hs : (Tryz.prog.info? 178).map (·.size) = some (row .u32 KL).size := by rw [row_size, KL_length]; kernel_rfl
  have HS := Lib.hid hs
  have HN := Lib.hid (Go.heap_alloc_new w (.cells (row .u32 (List.replicate 64 0)) 178))
  have hl : (row .u32 (List.replicate 64 0)).size = (row .u32 KL).size := by rw [row_size, row_size, KL_length, List.length_replicate]
  have HLN := Lib.hid hl
  clear hs hl
  go_enter Tryz.func157, Tryz.ntmps157
  go_wp2_with (first
    | (refine wpList_build_eq rfl 178 _ rfl (row .u32 KL) (by kernel_rfl) ?_)
    | (refine wpList_store_row rfl 178 _ _ rfl w.heap.size (row .u32 KL) rfl rfl 178 _ HN.out HS.out HLN.out (row_one _ _) ?_))
  rw [World.setRow_alloc_new]
  refine bodyPost_ret (v := .agg (row .u32 KL)) ?_ rfl ⟨rfl, (Below.refl _ _).alloc (Nat.le_refl _) _⟩
  exact results_cell_row rfl _ _ w.heap.size 178 _ (0, 0) _ rfl (Go.heap_alloc_new _ _) Tryz.underlying178 rfl HS.out
theorem turn_2q (x : Nat) (hx : x < 4294967296) (w : World) (n : Nat) : Calls Tryz.prog 158 #[.int .u32 x, .int .u64 2] (w.drewN n) fun e w'' => e = .returned (.int .u32 (rr 2 x : Nat)) ∧ ∃ m, w'' = w.drewN m :=
  Calls.quiet_of_same (turn_2 x hx _)
theorem turn_6q (x : Nat) (hx : x < 4294967296) (w : World) (n : Nat) : Calls Tryz.prog 158 #[.int .u32 x, .int .u64 6] (w.drewN n) fun e w'' => e = .returned (.int .u32 (rr 6 x : Nat)) ∧ ∃ m, w'' = w.drewN m :=
  Calls.quiet_of_same (turn_6 x hx _)
theorem turn_11q (x : Nat) (hx : x < 4294967296) (w : World) (n : Nat) : Calls Tryz.prog 158 #[.int .u32 x, .int .u64 11] (w.drewN n) fun e w'' => e = .returned (.int .u32 (rr 11 x : Nat)) ∧ ∃ m, w'' = w.drewN m :=
  Calls.quiet_of_same (turn_11 x hx _)
theorem turn_13q (x : Nat) (hx : x < 4294967296) (w : World) (n : Nat) : Calls Tryz.prog 158 #[.int .u32 x, .int .u64 13] (w.drewN n) fun e w'' => e = .returned (.int .u32 (rr 13 x : Nat)) ∧ ∃ m, w'' = w.drewN m :=
  Calls.quiet_of_same (turn_13 x hx _)
theorem turn_22q (x : Nat) (hx : x < 4294967296) (w : World) (n : Nat) : Calls Tryz.prog 158 #[.int .u32 x, .int .u64 22] (w.drewN n) fun e w'' => e = .returned (.int .u32 (rr 22 x : Nat)) ∧ ∃ m, w'' = w.drewN m :=
  Calls.quiet_of_same (turn_22 x hx _)
theorem turn_25q (x : Nat) (hx : x < 4294967296) (w : World) (n : Nat) : Calls Tryz.prog 158 #[.int .u32 x, .int .u64 25] (w.drewN n) fun e w'' => e = .returned (.int .u32 (rr 25 x : Nat)) ∧ ∃ m, w'' = w.drewN m :=
  Calls.quiet_of_same (turn_25 x hx _)

theorem rnd_list (k x a b c d e f g h : Nat) : (rnd k x ⟨a, b, c, d, e, f, g, h⟩).list = [add32 (T1 e f g h k x) (T2 a b c), a, b, c, add32 d (T1 e f g h k x), e, f, g] := by rw [rnd, S8.list]
/-- Eight stores, one a cell. -/
def put8 (w : World) (g : Nat) (v0 v1 v2 v3 v4 v5 v6 v7 : Value) : World :=
  (((((((w.setCell ⟨g, 0, none⟩ v0).setCell ⟨g, 1, none⟩ v1).setCell ⟨g, 2, none⟩ v2).setCell ⟨g, 3, none⟩ v3).setCell ⟨g, 4, none⟩ v4).setCell ⟨g, 5, none⟩ v5).setCell ⟨g, 6, none⟩ v6).setCell ⟨g, 7, none⟩ v7
theorem set8 {w : World} {gg a b c d e f g h : Nat} {t : TypeId} (hh : w.heap[gg]? = some (.cells (row .u32 [a, b, c, d, e, f, g, h]) t (0, 0))) (v0 v1 v2 v3 v4 v5 v6 v7 : Nat) :
    (put8 w gg (.int .u32 v0) (.int .u32 v1) (.int .u32 v2) (.int .u32 v3) (.int .u32 v4) (.int .u32 v5) (.int .u32 v6) (.int .u32 v7)).heap[gg]? = some (.cells (row .u32 [v0, v1, v2, v3, v4, v5, v6, v7]) t (0, 0)) :=
  heap_step (heap_step (heap_step (heap_step (heap_step (heap_step (heap_step (heap_step hh v0) v1) v2) v3) v4) v5) v6) v7
theorem keep8 {w : World} {gg b : Nat} {o : Option Obj} {v0 v1 v2 v3 v4 v5 v6 v7 : Value} (h : w.heap[b]? = o) (hb : b ≠ gg) : (put8 w gg v0 v1 v2 v3 v4 v5 v6 v7).heap[b]? = o :=
  heap_keep (heap_keep (heap_keep (heap_keep (heap_keep (heap_keep (heap_keep (heap_keep h hb) hb) hb) hb) hb) hb) hb) hb
theorem below8 {B : Nat} {w0 w : World} {gg : Nat} {v0 v1 v2 v3 v4 v5 v6 v7 : Value} (h : Below B w0 w) (hb : B ≤ gg) : Below B w0 (put8 w gg v0 v1 v2 v3 v4 v5 v6 v7) :=
  (((((((h.setCell hb _).setCell hb _).setCell hb _).setCell hb _).setCell hb _).setCell hb _).setCell hb _).setCell hb _
theorem first_int (a b c e f g h k x : Nat) : ((h : Int) + (Sg1 e : Nat) + (ch e f g : Nat) + k + x + ((Sg0 a : Nat) + (mj a b c : Nat))) % 4294967296 = (add32 (T1 e f g h k x) (T2 a b c) : Nat) := by
  rw [add32, T1, T2]; omega
theorem fifth_int (d e f g h k x : Nat) : ((d : Int) + ((h : Int) + (Sg1 e : Nat) + (ch e f g : Nat) + k + x)) % 4294967296 = (add32 d (T1 e f g h k x) : Nat) := by
  rw [add32, T1]; omega
set_option maxHeartbeats 1000000 in
set_option maxRecDepth 100000 in
theorem took_any (s : S8) (hs : s.fits) (B : ByteArray) (hB : B.size = 64) (w : World) :
    Calls Tryz.prog 146 #[.agg (row .u32 s.list), .string B] w fun e w' => e = .returned (.agg (row .u32 (proc s (nums B)).list)) ∧ Below w.heap.size w w' := by
  have HB := Lib.hid hB
  have HF := Lib.hid hs
  have hs35 : (Tryz.prog.info? 161).map (·.size) = some (row .u32 s.list).size := by rw [row_size]; kernel_rfl
  have hsw : (Tryz.prog.info? 178).map (·.size) = some (row .u32 (wds (nums B))).size := by rw [row_size, wds_length]; kernel_rfl
  have hsk : (Tryz.prog.info? 178).map (·.size) = some (row .u32 KL).size := by rw [row_size, KL_length]; kernel_rfl
  have HS35 := Lib.hid hs35
  have HSW := Lib.hid hsw
  have HSK := Lib.hid hsk
  clear hs35 hsw hsk hB hs
  go_enter Tryz.func146, Tryz.ntmps146
  go_upto_region 1 with fail
  go_cut [5, 6] from 14 to 16 (fun p5 p6 wx => ∃ g5 g6, p5 = .pointer (some ⟨g5, 0, none⟩) ∧ p6 = .pointer (some ⟨g6, 0, none⟩) ∧ Hid (wx.heap[w.heap.size]? = some (.cells (row .u32 s.list) 161 (0, 0))) ∧ Hid (wx.heap[w.heap.size + 1]? = some (.cells (row .u32 (List.replicate 8 0)) 161 (0, 0))) ∧
    Hid (wx.heap[g5]? = some (.cells (row .u32 (wds (nums B))) 178 (0, 0))) ∧ Hid (wx.heap[g6]? = some (.cells (row .u32 KL) 178 (0, 0))) ∧ Hid (Below w.heap.size w wx))
  case first =>
    go_wp2_with fail
    refine (refwords_any B HB.out _).mono ?_; rintro e w1 ⟨rfl, hb1⟩
    have hb1' : Below ((w.alloc (.cells (row .u32 s.list) 161)).alloc (.cells (row .u32 (List.replicate 8 0)) 161)).heap.size ((w.alloc (.cells (row .u32 s.list) 161)).alloc (.cells (row .u32 (List.replicate 8 0)) 161)) w1 := hb1
    have k0 := heap_below hb1' (heap2_0 _ _ _)
    have k1 := heap_below hb1' (heap2_1 _ _ _)
    have kb := below_step (below2 _ _ _) hb1'
    have hz := hb1'.size
    rw [size_alloc', size_alloc'] at hz
    clear hb1 hb1'
    have K0 := Lib.hid k0
    have K1 := Lib.hid k1
    have KB := Lib.hid kb
    clear k0 k1 kb
    go_wp2_with fail
    refine (consts_any _).mono ?_; rintro e w2 ⟨rfl, hb2⟩
    have L0 := Lib.hid (heap_below hb2 K0.out)
    have L1 := Lib.hid (heap_below hb2 K1.out)
    have LB := Lib.hid (below_step KB.out hb2)
    have hz2 := hb2.size
    clear hb2
    have N0 := Lib.hid (heap2_0 w2 (.cells (row .u32 (List.replicate 64 0)) 178) (.cells (row .u32 (List.replicate 64 0)) 178))
    have N1 := Lib.hid (heap_setRow (heap2_1 w2 (.cells (row .u32 (List.replicate 64 0)) 178) (.cells (row .u32 (List.replicate 64 0)) 178)) (g := w2.heap.size) (by omega) (row .u32 (wds (nums B))))
    go_wp2_with (first
      | (refine wpList_store_row rfl 178 _ _ rfl w2.heap.size (row .u32 (wds (nums B))) rfl rfl 178 (row .u32 (List.replicate 64 0)) N0.out HSW.out (by rw [row_size, row_size, wds_length, List.length_replicate]) (row_one _ _) ?_)
      | (refine wpList_store_row rfl 178 _ _ rfl (w2.heap.size + 1) (row .u32 KL) rfl rfl 178 (row .u32 (List.replicate 64 0)) N1.out HSK.out (by rw [row_size, row_size, KL_length, List.length_replicate]) (row_one _ _) ?_))
    go_meet
    exact ⟨w2.heap.size, w2.heap.size + 1, rfl, rfl, Lib.hid (heap_setRow (heap_setRow (heap_alloc (heap_alloc L0.out _) _) (by omega) _) (by omega) _), Lib.hid (heap_setRow (heap_setRow (heap_alloc (heap_alloc L1.out _) _) (by omega) _) (by omega) _),
      Lib.hid (heap_setRow (setRow_heap _ _ _ _ _ _ N0.out) (by omega) _), Lib.hid (setRow_heap _ _ _ _ _ _ N1.out), Lib.hid (below_setRow (below_setRow ((LB.out.alloc (by have := LB.out.size; omega) _).alloc (by have := LB.out.size; rw [size_alloc']; omega) _) (by have := LB.out.size; omega) _) (by have := LB.out.size; omega) _)⟩
  case rest =>
    obtain ⟨g5, g6, rfl, rfl, h2, h4, h5, h6, hbw⟩ := hcut
    have N7 := Lib.hid (Go.heap_alloc_new wc (.cells (row .u32 (List.replicate 8 0)) 161))
    go_wp2_with (first
      | (refine wpList_load_row rfl 161 _ rfl w.heap.size rfl 161 _ _ _ h2.out Tryz.underlying161 rfl HS35.out ?_)
      | (refine wpList_store_row rfl 161 _ _ rfl wc.heap.size (row .u32 s.list) rfl rfl 161 (row .u32 (List.replicate 8 0)) N7.out HS35.out (by rw [row_size, row_size]; rfl) (row_one _ _) ?_))
    rw [World.setRow_alloc_new]
    have hsz := hbw.out.size
    obtain ⟨g7, eg7⟩ : ∃ g7, g7 = wc.heap.size := ⟨_, rfl⟩
    have lt2 := (Array.getElem?_eq_some_iff.1 h2.out).1
    have lt4 := (Array.getElem?_eq_some_iff.1 h4.out).1
    have lt5 := (Array.getElem?_eq_some_iff.1 h5.out).1
    have lt6 := (Array.getElem?_eq_some_iff.1 h6.out).1
    have M2 := Lib.hid (heap_alloc h2.out (.cells (row .u32 s.list) 161))
    have M4 := Lib.hid (heap_alloc h4.out (.cells (row .u32 s.list) 161))
    have M5 := Lib.hid (heap_alloc h5.out (.cells (row .u32 s.list) 161))
    have M6 := Lib.hid (heap_alloc h6.out (.cells (row .u32 s.list) 161))
    have M7 := Lib.hid (Go.heap_alloc_new wc (.cells (row .u32 s.list) 161))
    have MB := Lib.hid (hbw.out.alloc (by omega) (.cells (row .u32 s.list) 161))
    rw [← eg7] at M7 lt2 lt4 lt5 lt6
    have n2 : Hid (w.heap.size ≠ g7) := Lib.hid (by omega)
    have n4 : Hid (w.heap.size + 1 ≠ g7) := Lib.hid (by omega)
    have n5 : Hid (g5 ≠ g7) := Lib.hid (by omega)
    have n6 : Hid (g6 ≠ g7) := Lib.hid (by omega)
    have n7 : Hid (w.heap.size ≤ g7) := Lib.hid (by omega)
    rw [← eg7]
    generalize wc.alloc (.cells (row .u32 s.list) 161) = W at *
    clear N7 hsz lt2 lt4 lt5 lt6 eg7 h2 h4 h5 h6 hbw
    go_loopw [8] (fun i wr => ∃ (t : Nat) (q : S8), t ≤ 64 ∧ i = .int .i64 t ∧ Hid (q = rn (wds (nums B)) s t) ∧ Hid (wr.heap[w.heap.size]? = some (.cells (row .u32 s.list) 161 (0, 0))) ∧ Hid (wr.heap[w.heap.size + 1]? = some (.cells (row .u32 (List.replicate 8 0)) 161 (0, 0))) ∧
      Hid (wr.heap[g5]? = some (.cells (row .u32 (wds (nums B))) 178 (0, 0))) ∧ Hid (wr.heap[g6]? = some (.cells (row .u32 KL) 178 (0, 0))) ∧ Hid (wr.heap[g7]? = some (.cells (row .u32 q.list) 161 (0, 0))) ∧ Hid (Below w.heap.size w wr)) (fun i _ => 64 - (intOf i).toNat)
    case atStart => exact ⟨0, s, by omega, rfl, Lib.hid rfl, M2, M4, M5, M6, M7, MB⟩
    case round =>
      clear M2 M4 M5 M6 M7 MB
      obtain ⟨t, q, ht, rfl, hq, R2, R4, R5, R6, R7, RB⟩ := hrel
      by_cases hlt : t < 64
      · obtain ⟨l1, l2, l3, l4, l5, l6, l7, l8⟩ := (show q.fits by rw [hq.out]; exact rn_fits _ HF.out t)
        have HQ : Hid (rn (wds (nums B)) s (t + 1) = rnd (KL.getD t 0) ((wds (nums B)).getD t 0) q) := Lib.hid (by rw [hq.out]; rfl)
        obtain ⟨k, EK⟩ : ∃ k, Hid (KL.getD t 0 = k) := ⟨_, Lib.hid rfl⟩
        obtain ⟨x, EX⟩ : ∃ x, Hid ((wds (nums B)).getD t 0 = x) := ⟨_, Lib.hid rfl⟩
        have HQ' : Hid (rn (wds (nums B)) s (t + 1) = rnd k x q) := Lib.hid (by rw [← EK.out, ← EX.out]; exact HQ.out)
        clear HQ hq
        obtain ⟨a, b, c, d, e, f, g, h⟩ := q
        dsimp only at *
        have R7 : Hid (wr.heap[g7]? = some (.cells (row .u32 [a, b, c, d, e, f, g, h]) 161 (0, 0))) := R7
        have c0 : wr.cell? ⟨g7, 0, none⟩ = some (.int .u32 a) := (at_row (l := [a, b, c, d, e, f, g, h]) R7.out 0 (by simp)).1
        have c1 : wr.cell? ⟨g7, 1, none⟩ = some (.int .u32 b) := (at_row (l := [a, b, c, d, e, f, g, h]) R7.out 1 (by simp)).1
        have c2 : wr.cell? ⟨g7, 2, none⟩ = some (.int .u32 c) := (at_row (l := [a, b, c, d, e, f, g, h]) R7.out 2 (by simp)).1
        have c3 : wr.cell? ⟨g7, 3, none⟩ = some (.int .u32 d) := (at_row (l := [a, b, c, d, e, f, g, h]) R7.out 3 (by simp)).1
        have c4 : wr.cell? ⟨g7, 4, none⟩ = some (.int .u32 e) := (at_row (l := [a, b, c, d, e, f, g, h]) R7.out 4 (by simp)).1
        have c5 : wr.cell? ⟨g7, 5, none⟩ = some (.int .u32 f) := (at_row (l := [a, b, c, d, e, f, g, h]) R7.out 5 (by simp)).1
        have c6 : wr.cell? ⟨g7, 6, none⟩ = some (.int .u32 g) := (at_row (l := [a, b, c, d, e, f, g, h]) R7.out 6 (by simp)).1
        have c7 : wr.cell? ⟨g7, 7, none⟩ = some (.int .u32 h) := (at_row (l := [a, b, c, d, e, f, g, h]) R7.out 7 (by simp)).1
        have cx : wr.cell? ⟨g5, t, none⟩ = some (.int .u32 x) := by have := (at_row R5.out t (by rw [wds_length]; exact hlt)).1; rwa [EX.out] at this
        have ck : wr.cell? ⟨g6, t, none⟩ = some (.int .u32 k) := by have := (at_row R6.out t (by rw [KL_length]; exact hlt)).1; rwa [EK.out] at this
        go_wp2_with fail
        go_quiet (fail)
        clear c0 c1 c2 c3 c4 c5 c6 c7 cx ck
        have V2 : Hid ((wr.drewN nq).heap[w.heap.size]? = _) := R2
        have V4 : Hid ((wr.drewN nq).heap[w.heap.size + 1]? = _) := R4
        have V5 : Hid ((wr.drewN nq).heap[g5]? = _) := R5
        have V6 : Hid ((wr.drewN nq).heap[g6]? = _) := R6
        have V7 : Hid ((wr.drewN nq).heap[g7]? = _) := R7
        have VB := Lib.hid (below_drewN RB.out nq)
        generalize hVV : wr.drewN nq = V at *
        clear hVV R2 R4 R5 R6 R7 RB
        have c0 : V.cell? ⟨g7, 0, none⟩ = some (.int .u32 a) := (at_row (l := [a, b, c, d, e, f, g, h]) V7.out 0 (by simp)).1
        have c1 : V.cell? ⟨g7, 1, none⟩ = some (.int .u32 b) := (at_row (l := [a, b, c, d, e, f, g, h]) V7.out 1 (by simp)).1
        have c2 : V.cell? ⟨g7, 2, none⟩ = some (.int .u32 c) := (at_row (l := [a, b, c, d, e, f, g, h]) V7.out 2 (by simp)).1
        have c3 : V.cell? ⟨g7, 3, none⟩ = some (.int .u32 d) := (at_row (l := [a, b, c, d, e, f, g, h]) V7.out 3 (by simp)).1
        have c4 : V.cell? ⟨g7, 4, none⟩ = some (.int .u32 e) := (at_row (l := [a, b, c, d, e, f, g, h]) V7.out 4 (by simp)).1
        have c5 : V.cell? ⟨g7, 5, none⟩ = some (.int .u32 f) := (at_row (l := [a, b, c, d, e, f, g, h]) V7.out 5 (by simp)).1
        have c6 : V.cell? ⟨g7, 6, none⟩ = some (.int .u32 g) := (at_row (l := [a, b, c, d, e, f, g, h]) V7.out 6 (by simp)).1
        have c7 : V.cell? ⟨g7, 7, none⟩ = some (.int .u32 h) := (at_row (l := [a, b, c, d, e, f, g, h]) V7.out 7 (by simp)).1
        have cx : V.cell? ⟨g5, t, none⟩ = some (.int .u32 x) := by have := (at_row V5.out t (by rw [wds_length]; exact hlt)).1; rwa [EX.out] at this
        have ck : V.cell? ⟨g6, t, none⟩ = some (.int .u32 k) := by have := (at_row V6.out t (by rw [KL_length]; exact hlt)).1; rwa [EK.out] at this
        have g1 := Sg1_int e l5
        have gc := ch_int e f g l5 l6 l7
        have gs : IntKind.u32.signed = false := rfl
        go_wp2_with fail
        go_quiet ((go_at_call 158; (first | with_reducible exact turn_6q _ l5 _ _ | with_reducible exact turn_11q _ l5 _ _ | with_reducible exact turn_25q _ l5 _ _)))
        clear g1 gc gs
        clear c0 c1 c2 c3 c4 c5 c6 c7 cx ck
        have U2 : Hid ((V.drewN nq).heap[w.heap.size]? = _) := V2
        have U4 : Hid ((V.drewN nq).heap[w.heap.size + 1]? = _) := V4
        have U5 : Hid ((V.drewN nq).heap[g5]? = _) := V5
        have U6 : Hid ((V.drewN nq).heap[g6]? = _) := V6
        have U7 : Hid ((V.drewN nq).heap[g7]? = _) := V7
        have UB := Lib.hid (below_drewN VB.out nq)
        generalize hVU : V.drewN nq = U at *
        clear hVU V2 V4 V5 V6 V7 VB nq
        have c0 : U.cell? ⟨g7, 0, none⟩ = some (.int .u32 a) := (at_row (l := [a, b, c, d, e, f, g, h]) U7.out 0 (by simp)).1
        have c1 : U.cell? ⟨g7, 1, none⟩ = some (.int .u32 b) := (at_row (l := [a, b, c, d, e, f, g, h]) U7.out 1 (by simp)).1
        have c2 : U.cell? ⟨g7, 2, none⟩ = some (.int .u32 c) := (at_row (l := [a, b, c, d, e, f, g, h]) U7.out 2 (by simp)).1
        have c3 : U.cell? ⟨g7, 3, none⟩ = some (.int .u32 d) := (at_row (l := [a, b, c, d, e, f, g, h]) U7.out 3 (by simp)).1
        have c4 : U.cell? ⟨g7, 4, none⟩ = some (.int .u32 e) := (at_row (l := [a, b, c, d, e, f, g, h]) U7.out 4 (by simp)).1
        have c5 : U.cell? ⟨g7, 5, none⟩ = some (.int .u32 f) := (at_row (l := [a, b, c, d, e, f, g, h]) U7.out 5 (by simp)).1
        have c6 : U.cell? ⟨g7, 6, none⟩ = some (.int .u32 g) := (at_row (l := [a, b, c, d, e, f, g, h]) U7.out 6 (by simp)).1
        have c7 : U.cell? ⟨g7, 7, none⟩ = some (.int .u32 h) := (at_row (l := [a, b, c, d, e, f, g, h]) U7.out 7 (by simp)).1
        have cx : U.cell? ⟨g5, t, none⟩ = some (.int .u32 x) := by have := (at_row U5.out t (by rw [wds_length]; exact hlt)).1; rwa [EX.out] at this
        have ck : U.cell? ⟨g6, t, none⟩ = some (.int .u32 k) := by have := (at_row U6.out t (by rw [KL_length]; exact hlt)).1; rwa [EK.out] at this
        have g0 := Sg0_int a l1
        have gm := mj_int a b c l1 l2 l3
        go_wp2_with fail
        go_quiet ((go_at_call 158; (first | with_reducible exact turn_2q _ l1 _ _ | with_reducible exact turn_13q _ l1 _ _ | with_reducible exact turn_22q _ l1 _ _)))
        clear g0 gm
        clear c0 c1 c2 c3 c4 c5 c6 c7 cx ck
        have Y2 : Hid ((U.drewN nq).heap[w.heap.size]? = _) := U2
        have Y4 : Hid ((U.drewN nq).heap[w.heap.size + 1]? = _) := U4
        have Y5 : Hid ((U.drewN nq).heap[g5]? = _) := U5
        have Y6 : Hid ((U.drewN nq).heap[g6]? = _) := U6
        have Y7 : Hid ((U.drewN nq).heap[g7]? = _) := U7
        have YB := Lib.hid (below_drewN UB.out nq)
        generalize hVY : U.drewN nq = Y at *
        clear hVY U2 U4 U5 U6 U7 UB nq
        have c0 : Y.cell? ⟨g7, 0, none⟩ = some (.int .u32 a) := (at_row (l := [a, b, c, d, e, f, g, h]) Y7.out 0 (by simp)).1
        have c1 : Y.cell? ⟨g7, 1, none⟩ = some (.int .u32 b) := (at_row (l := [a, b, c, d, e, f, g, h]) Y7.out 1 (by simp)).1
        have c2 : Y.cell? ⟨g7, 2, none⟩ = some (.int .u32 c) := (at_row (l := [a, b, c, d, e, f, g, h]) Y7.out 2 (by simp)).1
        have c3 : Y.cell? ⟨g7, 3, none⟩ = some (.int .u32 d) := (at_row (l := [a, b, c, d, e, f, g, h]) Y7.out 3 (by simp)).1
        have c4 : Y.cell? ⟨g7, 4, none⟩ = some (.int .u32 e) := (at_row (l := [a, b, c, d, e, f, g, h]) Y7.out 4 (by simp)).1
        have c5 : Y.cell? ⟨g7, 5, none⟩ = some (.int .u32 f) := (at_row (l := [a, b, c, d, e, f, g, h]) Y7.out 5 (by simp)).1
        have c6 : Y.cell? ⟨g7, 6, none⟩ = some (.int .u32 g) := (at_row (l := [a, b, c, d, e, f, g, h]) Y7.out 6 (by simp)).1
        have c7 : Y.cell? ⟨g7, 7, none⟩ = some (.int .u32 h) := (at_row (l := [a, b, c, d, e, f, g, h]) Y7.out 7 (by simp)).1
        have cx : Y.cell? ⟨g5, t, none⟩ = some (.int .u32 x) := by have := (at_row Y5.out t (by rw [wds_length]; exact hlt)).1; rwa [EX.out] at this
        have ck : Y.cell? ⟨g6, t, none⟩ = some (.int .u32 k) := by have := (at_row Y6.out t (by rw [KL_length]; exact hlt)).1; rwa [EK.out] at this
        have ga := first_int a b c e f g h k x
        have ge := fifth_int d e f g h k x
        have HRL := Lib.hid (rnd_list k x a b c d e f g h)
        generalize add32 (T1 e f g h k x) (T2 a b c) = y at ga HRL
        generalize add32 d (T1 e f g h k x) = z at ge HRL
        have fz : ∀ o, Y.frozen? ⟨g7, o, none⟩ = false := fun o => frozen_of_row Y g7 o _ _ Y7.out
        have f0 := fz 0
        have f1 := fz 1
        have f2 := fz 2
        have f3 := fz 3
        have f4 := fz 4
        have f5 := fz 5
        have f6 := fz 6
        have f7 := fz 7
        clear fz
        go_wp2_with fail
        go_roundw
        case rel => exact ⟨t + 1, rnd k x ⟨a, b, c, d, e, f, g, h⟩, by omega, by go_num, Lib.hid HQ'.out.symm, Lib.hid (keep8 Y2.out n2.out), Lib.hid (keep8 Y4.out n4.out), Lib.hid (keep8 Y5.out n5.out), Lib.hid (keep8 Y6.out n6.out), Lib.hid (by rw [HRL.out]; exact set8 Y7.out y a b c z e f g), Lib.hid (below8 YB.out n7.out)⟩
        case measure => simp [intOf]; omega
      · obtain rfl : t = 64 := by omega
        have HQ : Hid (q = rnAll (wds (nums B)) s) := Lib.hid (by rw [hq.out, rnAll, shut_eq])
        clear hq hlt ht
        go_wp2_with fail
        rw [show ((64 : Nat) : Int) = 64 from rfl]
        go_loopw [13] (fun i wr => ∃ (j : Nat) (l : List Nat), j ≤ 8 ∧ i = .int .i64 j ∧ l.length = 8 ∧ Hid (∀ i, l.getD i 0 = if i < j then add32 (s.list.getD i 0) (q.list.getD i 0) else q.list.getD i 0) ∧ wr.heap[w.heap.size]? = some (.cells (row .u32 s.list) 161 (0, 0)) ∧ Hid (wr.heap[w.heap.size + 1]? = some (.cells (row .u32 (List.replicate 8 0)) 161 (0, 0))) ∧ wr.heap[g7]? = some (.cells (row .u32 l) 161 (0, 0)) ∧ Hid (Below w.heap.size w wr)) (fun i _ => 8 - (intOf i).toNat)
        case atStart => exact ⟨0, q.list, by omega, rfl, rfl, Lib.hid (fun i => by simp), R2.out, R4, R7.out, RB⟩
        case round =>
          clear R2 R4 R5 R6 R7 RB
          obtain ⟨j, l, hj, rfl, hl, hag, H0, H4, H7, hbw⟩ := hrel
          by_cases hlt : j < 8
          · obtain ⟨c7, f7⟩ := at_row H7 j (by omega)
            have c0 := (at_row H0 j (by simp [S8.list]; omega)).1
            rw [hag.out j, if_neg (by omega)] at c7
            obtain ⟨v, HV⟩ : ∃ v, Hid (v = add32 (s.list.getD j 0) (q.list.getD j 0)) := ⟨_, Lib.hid rfl⟩
            have hv := add32_int (q.list.getD j 0) (s.list.getD j 0)
            rw [show add32 (q.list.getD j 0) (s.list.getD j 0) = add32 (s.list.getD j 0) (q.list.getD j 0) by unfold add32; rw [Nat.add_comm], ← HV.out] at hv
            generalize hx0 : s.list.getD j 0 = x0 at c0 hv HV
            generalize hx1 : q.list.getD j 0 = x1 at c7 hv HV
            have HX0 := Lib.hid hx0
            have HX1 := Lib.hid hx1
            have H0' := Lib.hid H0
            have H7' := Lib.hid H7
            have HL8 := Lib.hid hl
            clear H0 H7 hl hx0 hx1
            go_wp2_with fail
            go_region
            go_wp2_with fail
            go_roundw
            case rel =>
              refine ⟨j + 1, l.set j v, by omega, by go_num, by simp [HL8.out], Lib.hid ?_, heap_keep H0'.out n2.out, Lib.hid (heap_keep H4.out n4.out), heap_step H7'.out v, Lib.hid ((hbw.out.setCell n7.out _).drew)⟩
              intro i
              rw [getD_set _ _ _ _ (by rw [HL8.out]; exact hlt)]
              by_cases e : i = j
              · subst e; rw [if_pos rfl, if_pos (by omega), HX0.out, HX1.out, HV.out]
              · rw [if_neg e, hag.out i]
                by_cases h : i < j
                · rw [if_pos h, if_pos (by omega)]
                · rw [if_neg h, if_neg (by omega)]
            case measure => simp [intOf]; omega
          · obtain rfl : j = 8 := by omega
            have e : l = (proc s (nums B)).list := getD_ext (by rw [hl]; rfl) (fun i hi => by
              rw [hag.out i, if_pos (by omega), HQ.out]
              obtain rfl | rfl | rfl | rfl | rfl | rfl | rfl | rfl : i = 0 ∨ i = 1 ∨ i = 2 ∨ i = 3 ∨ i = 4 ∨ i = 5 ∨ i = 6 ∨ i = 7 := by omega
              all_goals rfl)
            subst e
            have H7' := Lib.hid H7
            have hs8 : (Tryz.prog.info? 161).map (·.size) = some (row .u32 (proc s (nums B)).list).size := by rw [row_size]; kernel_rfl
            have HS8 := Lib.hid hs8
            clear H0 H7 hl hag hs8 hlt hj
            go_wp2_with (first
              | (refine wpList_load_row rfl 161 _ rfl g7 rfl 161 _ _ _ H7'.out Tryz.underlying161 rfl HS8.out ?_)
              | (refine wpList_store_row rfl 161 _ _ rfl (w.heap.size + 1) _ rfl rfl 161 _ H4.out HS8.out (by rw [row_size, row_size]; rfl) (row_one _ _) ?_))
            refine bodyPost_ret (v := .agg (row .u32 (proc s (nums B)).list)) ?_ rfl ⟨rfl, below_setRow hbw.out (by omega) _⟩
            exact results_cell_row rfl _ _ (w.heap.size + 1) 161 _ (0, 0) _ rfl (setRow_heap _ _ _ _ _ _ H4.out) Tryz.underlying161 rfl HS8.out
end Go.Proofs.YtbdlegjklfkdmaaGreatDoor.Pl

namespace Go.Proofs.YtbdlegjklfkdmaaGreatDoor.Pl
open Go.RowKit

/-- Block p is a Key that is ready, of the key k. -/
def KeyAt (w : World) (p : Nat) (k : List Nat) : Prop :=
  ∃ i o, w.heap[p]? = some (.cells #[.pointer (some ⟨i, 0, none⟩), .pointer (some ⟨o, 0, none⟩)] 128 (0, 0)) ∧ Holds w i (xorb 54 (kblock k)) ∧ Holds w o (xorb 92 (kblock k))
theorem KeyAt.lt {w : World} {p : Nat} {k : List Nat} (h : KeyAt w p k) : p < w.heap.size := by
  obtain ⟨i, o, h, _, _⟩ := h
  exact (Array.getElem?_eq_some_iff.1 h).1
theorem KeyAt.below {w w' : World} {p : Nat} {k : List Nat} (h : KeyAt w p k) (hb : Below w.heap.size w w') : KeyAt w' p k := by
  obtain ⟨i, o, h, h1, h2⟩ := h
  exact ⟨i, o, heap_below hb h, h1.below hb, h2.below hb⟩
theorem pad_bytes (n : Nat) (hn : n < 256) (k : ByteArray) : Bytes (xorb n (kblock (nums k))) := xorb_bytes hn (kblock_bytes (nums_bytes k))
theorem pad_nums (n : Nat) (hn : n < 256) (k : ByteArray) : nums (bytesOf (xorb n (kblock (nums k)))) = xorb n (kblock (nums k)) := nums_bytesOf (pad_bytes n hn k)
theorem pad_size (n : Nat) (k : ByteArray) : (bytesOf (xorb n (kblock (nums k)))).size = 64 := by rw [bytesOf_size, xorb_length, kblock_length]

set_option maxHeartbeats 1000000 in
set_option maxRecDepth 100000 in
theorem hnew_any (key : ByteArray) (hl : key.size < 2305843009213693952) (w : World) (hT : Tab w) :
    Calls Tryz.prog 56 #[.string key] w fun e w' => ∃ p, e = .returned (.pointer (some ⟨p, 0, none⟩)) ∧ KeyAt w' p (nums key) ∧ w.heap.size ≤ p ∧ Below w.heap.size w w' := by
  have HT := Lib.hid hT
  have HBL := Lib.hid (block_any key hl w hT)
  have HS : Hid ((Tryz.prog.info? 119).map (·.size) = some (row .u8 (kblock (nums key))).size) := Lib.hid (by rw [row_size, kblock_length]; kernel_rfl)
  have HZ : Hid ((row .u8 (List.replicate 64 0)).size = (row .u8 (kblock (nums key))).size) := Lib.hid (by rw [row_size, row_size, kblock_length, List.length_replicate])
  have KL := Lib.hid (kblock_length (nums key))
  have KB := Lib.hid (kblock_bytes (nums_bytes key))
  have P1 := Lib.hid (fun W => begin_any (bytesOf (xorb 54 (kblock (nums key)))) (by rw [pad_size]; decide) W)
  have P2 := Lib.hid (fun W => begin_any (bytesOf (xorb 92 (kblock (nums key)))) (by rw [pad_size]; decide) W)
  have P3 := Lib.hid (pad_nums 54 (by decide) key)
  have P4 := Lib.hid (pad_nums 92 (by decide) key)
  have hz := zero64
  clear hT hl
  obtain ⟨kb, hkb⟩ : ∃ kb, kb = kblock (nums key) := ⟨_, rfl⟩
  rw [← hkb] at HBL HS HZ KL KB P1 P2 P3 P4
  have HKB := Lib.hid hkb
  clear hkb
  generalize List.replicate 64 0 = Z at *
  go_enter Tryz.func56, Tryz.ntmps56
  go_wp2_with fail
  refine HBL.out.mono ?_; rintro e w1 ⟨rfl, hb1⟩
  have N1 := Lib.hid (Go.heap_alloc_new w1 (.cells (row .u8 Z) 119))
  have B1 := Lib.hid hb1
  have T1 := Lib.hid (HT.out.below hb1)
  clear hb1
  go_wp2_with (first
    | (refine wpList_store_row rfl 119 _ _ rfl w1.heap.size (row .u8 kb) rfl rfl 119 (row .u8 Z) N1.out HS.out HZ.out (row_one _ _) ?_))
  rw [World.setRow_alloc_new]
  have B2 := Lib.hid (B1.out.alloc B1.out.size (.cells (row .u8 kb) 119))
  have T2 := Lib.hid (T1.out.below ((Below.refl w1.heap.size w1).alloc (Nat.le_refl _) (.cells (row .u8 kb) 119)))
  have C2 := Lib.hid (Go.heap_alloc_new w1 (.cells (row .u8 kb) 119))
  generalize w1.alloc (.cells (row .u8 kb) 119) = W at *
  generalize w1.heap.size = g at *
  refine (turned_any 54 (by decide) g kb KL.out KB.out W C2.out).mono ?_; rintro e w3 ⟨rfl, hb3⟩
  have B3 := Lib.hid (B2.out.trans (hb3.mono B2.out.size))
  have T3 := Lib.hid (T2.out.below hb3)
  have C3 := Lib.hid (heap_below hb3 C2.out)
  clear hb3
  go_wp2_with fail
  refine (P1.out w3 T3.out).mono ?_; rintro e w4 ⟨rfl, h4, hb4⟩
  have B4 := Lib.hid (B3.out.trans (hb4.mono B3.out.size))
  have T4 := Lib.hid (T3.out.below hb4)
  have C4 := heap_below hb4 C3.out
  rw [P3.out, HKB.out] at h4
  generalize w3.heap.size + 1 = i at *
  have H4 := Lib.hid h4
  clear h4 hb4
  go_wp2_with fail
  refine (turned_any 92 (by decide) g kb KL.out KB.out w4 C4).mono ?_; rintro e w5 ⟨rfl, hb5⟩
  have B5 := Lib.hid (B4.out.trans (hb5.mono B4.out.size))
  have T5 := Lib.hid (T4.out.below hb5)
  have H5 := Lib.hid (H4.out.below hb5)
  clear hb5 C4
  go_wp2_with fail
  refine (P2.out w5 T5.out).mono ?_; rintro e w6 ⟨rfl, h6, hb6⟩
  have B6 := Lib.hid (B5.out.trans (hb6.mono B5.out.size))
  have H6 := Lib.hid (H5.out.below hb6)
  rw [P4.out, HKB.out] at h6
  generalize w5.heap.size + 1 = o at *
  have K6 := Lib.hid h6
  clear h6 hb6
  go_wp2_with fail
  go_ret
  have hb7 : Below w6.heap.size w6 (w6.alloc (.cells #[.pointer (some ⟨i, 0, none⟩), .pointer (some ⟨o, 0, none⟩)] 128)) := (Below.refl _ _).alloc (Nat.le_refl _) _
  exact ⟨w6.heap.size, rfl, ⟨i, o, Go.heap_alloc_new _ _, H6.out.below hb7, K6.out.below hb7⟩, B6.out.size, B6.out.alloc B6.out.size _⟩
end Go.Proofs.YtbdlegjklfkdmaaGreatDoor.Pl

namespace Go.Proofs.YtbdlegjklfkdmaaGreatDoor.Pl
open Go.RowKit

theorem ks_keep {w W V : World} {p i o : Nat} {a b : List Nat}
    (h : W.cell? ⟨p, 0, none⟩ = some (.pointer (some ⟨i, 0, none⟩)) ∧ W.cell? ⟨p, 1, none⟩ = some (.pointer (some ⟨o, 0, none⟩)) ∧ Hid (Tab W) ∧ Hid (Holds W i a) ∧ Hid (Holds W o b) ∧ Hid (Below w.heap.size w W)) (hb : Below W.heap.size W V) :
    V.cell? ⟨p, 0, none⟩ = some (.pointer (some ⟨i, 0, none⟩)) ∧ V.cell? ⟨p, 1, none⟩ = some (.pointer (some ⟨o, 0, none⟩)) ∧ Hid (Tab V) ∧ Hid (Holds V i a) ∧ Hid (Holds V o b) ∧ Hid (Below w.heap.size w V) := by
  obtain ⟨h0, h1, h2, h3, h4, h5⟩ := h
  exact ⟨(hb.cell (p := ⟨p, 0, none⟩) (World.block_lt_of_cell? _ _ h0)).trans h0, (hb.cell (p := ⟨p, 1, none⟩) (World.block_lt_of_cell? _ _ h1)).trans h1, Lib.hid (h2.out.below hb), Lib.hid (h3.out.below hb), Lib.hid (h4.out.below hb), Lib.hid (h5.out.trans (hb.mono h5.out.size))⟩
theorem over_in {w W : World} {p i o : Nat} {a b : List Nat} (s : ByteArray) (ha : Hid (Bytes a)) (hl : Hid (a.length + s.size < 2305843009213693952))
    (h : W.cell? ⟨p, 0, none⟩ = some (.pointer (some ⟨i, 0, none⟩)) ∧ W.cell? ⟨p, 1, none⟩ = some (.pointer (some ⟨o, 0, none⟩)) ∧ Hid (Tab W) ∧ Hid (Holds W i a) ∧ Hid (Holds W o b) ∧ Hid (Below w.heap.size w W)) :
    Calls Tryz.prog 195 #[.agg #[.pointer (some ⟨i, 0, none⟩)], .string s] W fun e w' => e = .returned (.string (bytesOf (digest (a ++ nums s)))) ∧ Below W.heap.size W w' :=
  over_any i a ha.out s hl.out W h.2.2.1.out h.2.2.2.1.out
theorem over_out {w W : World} {p i o : Nat} {a b : List Nat} (m : List Nat) (hb : Hid (Bytes b)) (hl : Hid (b.length = 64))
    (h : W.cell? ⟨p, 0, none⟩ = some (.pointer (some ⟨i, 0, none⟩)) ∧ W.cell? ⟨p, 1, none⟩ = some (.pointer (some ⟨o, 0, none⟩)) ∧ Hid (Tab W) ∧ Hid (Holds W i a) ∧ Hid (Holds W o b) ∧ Hid (Below w.heap.size w W)) :
    Calls Tryz.prog 195 #[.agg #[.pointer (some ⟨o, 0, none⟩)], .string (bytesOf (digest m))] W fun e w' => e = .returned (.string (bytesOf (digest (b ++ digest m)))) ∧ Below W.heap.size W w' := by
  have := over_any o b hb.out (bytesOf (digest m)) (by rw [bytesOf_size, digest_length, hl.out]; decide) W h.2.2.1.out h.2.2.2.2.1.out
  rwa [nums_bytesOf (digest_bytes m)] at this

theorem drew_below (w : World) : Below w.heap.size w w.drew := (Below.refl _ _).drew
set_option maxHeartbeats 1000000 in
set_option maxRecDepth 100000 in
theorem keysum_any (p : Nat) (k : ByteArray) (s : ByteArray) (hl : s.size < 2000000000000000000) (w : World) (hT : Tab w) (hK : KeyAt w p (nums k)) :
    Calls Tryz.prog 189 #[.pointer (some ⟨p, 0, none⟩), .string s] w fun e w' => e = .returned (.string (bytesOf (tagOf (nums k) (nums s)))) ∧ Below w.heap.size w w' := by
  obtain ⟨i, o, hc, hi, ho⟩ := hK
  have c0 : w.cell? ⟨p, 0, none⟩ = some (.pointer (some ⟨i, 0, none⟩)) := cell_of_row _ _ _ _ _ _ hc
  have c1 : w.cell? ⟨p, 1, none⟩ = some (.pointer (some ⟨o, 0, none⟩)) := cell_of_row _ _ _ _ _ _ hc
  have KS := ks_keep (w := w) ⟨c0, c1, Lib.hid hT, Lib.hid hi, Lib.hid ho, Lib.hid (Below.refl _ _)⟩ (drew_below w)
  have HA := Lib.hid (pad_bytes 54 (by decide) k)
  have HB := Lib.hid (pad_bytes 92 (by decide) k)
  have LB : Hid ((xorb 92 (kblock (nums k))).length = 64) := Lib.hid (by rw [xorb_length, kblock_length])
  have LA : Hid ((xorb 54 (kblock (nums k))).length + s.size < 2305843009213693952) := Lib.hid (by rw [xorb_length, kblock_length]; omega)
  have ET : Hid (tagOf (nums k) (nums s) = digest (xorb 92 (kblock (nums k)) ++ digest (xorb 54 (kblock (nums k)) ++ nums s))) := Lib.hid (by rw [tagOf])
  generalize xorb 92 (kblock (nums k)) = b at *
  generalize xorb 54 (kblock (nums k)) = a at *
  clear c0 c1 hi ho hT hc hl

  go_enter Tryz.func189, Tryz.ntmps189
  go_wp2_with fail
  go_region_held3 (fun W => W.cell? ⟨p, 0, none⟩ = some (.pointer (some ⟨i, 0, none⟩)) ∧ W.cell? ⟨p, 1, none⟩ = some (.pointer (some ⟨o, 0, none⟩)) ∧ Hid (Tab W) ∧ Hid (Holds W i a) ∧ Hid (Holds W o b) ∧ Hid (Below w.heap.size w W)) (first | assumption | with_reducible exact ks_keep ‹_› ‹_›) (first
    | (go_at_call 195; with_reducible refine (over_in s HA LA ‹_›).mono ?_; rintro e w3 ⟨rfl, hb3⟩)
    | (go_at_call 195; with_reducible refine (over_out _ HB LB ‹_›).mono ?_; rintro e w4 ⟨rfl, hb4⟩))
  go_wp2_with fail
  go_ret
  have hB : _ ∧ _ ∧ _ ∧ _ ∧ _ ∧ Hid (Below w.heap.size w w4) := ‹_ ∧ _›
  exact ⟨by rw [ET.out]; rfl, hB.2.2.2.2.2.out⟩
end Go.Proofs.YtbdlegjklfkdmaaGreatDoor.Pl

namespace Go.Proofs.YtbdlegjklfkdmaaGreatDoor.Pl
open Go.RowKit

/-- Both keys of the key k are ready. -/
def KeysAt (w : World) (p q : Nat) (k : List Nat) : Prop := KeyAt w p (skey k) ∧ KeyAt w q (tkey k)
theorem KeysAt.below {w w' : World} {p q : Nat} {k : List Nat} (h : KeysAt w p q k) (hb : Below w.heap.size w w') : KeysAt w' p q k := ⟨h.1.below hb, h.2.below hb⟩
/-- What turns a block that is neither a key nor a hash leaves a key as it is. -/
theorem KeyAt.but {w w' : World} {p b : Nat} {k : List Nat} {cs : Array Value} {t : TypeId} {e : Nat × Nat} (h : KeyAt w p k) (hc : w.heap[b]? = some (.cells cs t e)) (h1 : t ≠ 128) (h2 : t ≠ 163) (hb : But b w w') : KeyAt w' p k := by
  obtain ⟨i, o, hp, hi, ho⟩ := h
  have ne : ∀ {j : Nat} {cs' : Array Value} {t' : TypeId} {e' : Nat × Nat}, w.heap[j]? = some (.cells cs' t' e') → t ≠ t' → j ≠ b := by
    intro j cs' t' e' hj ht hjb
    rw [hjb, hc] at hj
    injection hj with hj
    injection hj with _ hj
    exact ht hj
  refine ⟨i, o, hb.heap hp (ne hp h1), hi.but hb ?_, ho.but hb ?_⟩
  · obtain ⟨_, hh, _⟩ := hi; exact ne hh.1 h2
  · obtain ⟨_, hh, _⟩ := ho; exact ne hh.1 h2
theorem KeysAt.but {w w' : World} {p q b : Nat} {k : List Nat} {cs : Array Value} {t : TypeId} {e : Nat × Nat} (h : KeysAt w p q k) (hc : w.heap[b]? = some (.cells cs t e)) (h1 : t ≠ 128) (h2 : t ≠ 163) (hb : But b w w') : KeysAt w' p q k :=
  ⟨h.1.but hc h1 h2 hb, h.2.but hc h1 h2 hb⟩
end Go.Proofs.YtbdlegjklfkdmaaGreatDoor.Pl

namespace Go.Proofs.YtbdlegjklfkdmaaGreatDoor.Pl
open Go.RowKit

set_option maxRecDepth 100000 in
theorem tag_any (key s : ByteArray) (hk : key.size < 2000000000000000000) (hs : s.size < 2000000000000000000) (w : World) (hT : Tab w) :
    Calls Tryz.prog 198 #[.string key, .string s] w fun e w' => e = .returned (.string (bytesOf (tagOf (nums key) (nums s)))) ∧ Below w.heap.size w w' := by
  have HT := Lib.hid hT
  have HK := Lib.hid hk
  have HL := Lib.hid hs
  clear hT hk hs
  go_enter Tryz.func198, Tryz.ntmps198
  go_wp2_with fail
  refine (hnew_any key (by have := HK.out; omega) w HT.out).mono ?_; rintro e w1 ⟨p, rfl, h1, hp, hb1⟩
  have H1 := Lib.hid h1
  have B1 := Lib.hid hb1
  have T1 := Lib.hid (HT.out.below hb1)
  clear h1 hp hb1
  go_wp2_with fail
  refine (keysum_any p key s HL.out w1 T1.out H1.out).mono ?_; rintro e w2 ⟨rfl, hb2⟩
  have B2 := Lib.hid (B1.out.trans (hb2.mono B1.out.size))
  clear hb2
  go_wp2_with fail
  go_ret
  exact ⟨rfl, B2.out⟩
end Go.Proofs.YtbdlegjklfkdmaaGreatDoor.Pl
