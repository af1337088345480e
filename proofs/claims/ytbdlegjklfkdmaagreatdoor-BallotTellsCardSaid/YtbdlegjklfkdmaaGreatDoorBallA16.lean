/- The document's ReadTxn of layer 12. -/
import Derived.Test.YtbdlegjklfkdmaaGreatDoorBallA15
namespace Go.Proofs.YtbdlegjklfkdmaaGreatDoor.Pl
open Go.RowKit

/-- What the document's reader says of three parts. -/
theorem txnR_three {t p0 p1 p2 : ByteArray} (hk : kindP (bl t) = 3) (hp : partsB t = [p0, p1, p2]) : txnR t = match rdN p0, rdN p1, rdN p2 with | some c, some e, some q => if mayX c e q = true then some (c, e, q) else none | _, _, _ => none := by
  unfold txnR rowR
  rw [if_pos hk, hp]
  cases h0 : rdN p0 with
  | none => simp [txnG, getN_cons, h0, endR]
  | some c =>
    cases h1 : rdN p1 with
    | none => simp [txnG, getN_cons, h0, h1, endR]
    | some e =>
      cases h2 : rdN p2 with
      | none => simp [txnG, getN_cons, h0, h1, h2, endR]
      | some q => simp [txnG, getN_cons, h0, h1, h2, endR]
theorem txnR_not {t : ByteArray} (h : ¬ (kindP (bl t) = 3 ∧ (partsB t).length = 3)) : txnR t = none := by
  cases k : txnR t with
  | none => rfl
  | some r =>
    exfalso
    obtain ⟨c, e, q⟩ := r
    have k' := k
    unfold txnR at k
    split at k
    · rename_i c' e' q' kk
      have hk3 : kindP (bl t) = 3 := by
        apply Classical.byContradiction
        intro hn
        unfold rowR at kk
        rw [if_neg hn] at kk
        cases kk
      obtain ⟨g1, _⟩ := rowR_again kk
      have := congrArg List.length (txnG_again g1)
      rw [List.map_nil, List.append_nil, List.length_map] at this
      exact h ⟨hk3, this⟩
    · cases k

set_option maxHeartbeats 8000000 in
set_option maxRecDepth 100000 in
theorem rreadtxn12_any (t : ByteArray) (ht : t.size ≤ 281474976710656) (w : World) : Calls Tryz.prog 53 #[.string t] w fun x w' => x = .returned (.tuple #[txV (txGet (txnR t)), .bool (txnR t).isSome]) ∧ Below w.heap.size w w' := by
  obtain ⟨W0, hW0⟩ : ∃ V, V = w.alloc (.cells #[.int .i64 0, .int .i64 0, .int .i64 0] 23) := ⟨_, rfl⟩
  have X0 := Lib.hid (show XAt W0 w.heap.size 0 0 0 from hW0 ▸ xat_new w 0 0 0)
  have B0 := Lib.hid (show Below w.heap.size w W0 from hW0 ▸ (Below.refl _ _).alloc (Nat.le_refl _) _)
  have HP := Lib.hid (fun V => rparts12_any t ht V)
  have HK := fun V => rkind_any t ht V
  have HPS := Lib.hid (partsB_size t)
  have HPL := Lib.hid (partsB_len t)
  have HNOT := @txnR_not t
  have H3 := fun p0 p1 p2 => @txnR_three t p0 p1 p2
  have h6 := kindP_le (bl t)
  obtain ⟨z, hz⟩ : ∃ z, z = txnR t := ⟨_, rfl⟩
  rw [← hz]
  rw [← hz] at HNOT H3
  have HW0 := Lib.hid hW0
  clear hW0 hz
  by_cases hk : kindP (bl t) = 3
  · rw [hk] at HK
    by_cases hl : (partsB t).length = 3
    · obtain ⟨p0, p1, p2, hp⟩ : ∃ p0 p1 p2, partsB t = [p0, p1, p2] := by
        match partsB t, hl with
        | [a, b, c], _ => exact ⟨a, b, c, rfl⟩
      have hz := H3 p0 p1 p2 hk hp
      have N0 := fun V => rnumr_any p0 (by have := HPS.out p0 (by rw [hp]; simp); omega) V
      have N1 := fun V => rnumr_any p1 (by have := HPS.out p1 (by rw [hp]; simp); omega) V
      have N2 := fun V => rnumr_any p2 (by have := HPS.out p2 (by rw [hp]; simp); omega) V
      have HM := fun a b c V => rmaytxn_any a b c V
      rw [hp] at HP
      have HK := Lib.hid HK
      clear hk hl hp HPS HPL HNOT H3 h6
      rw [show [p0, p1, p2].length = 3 from rfl] at HP
      cases h0 : rdN p0 with
      | none =>
        rw [h0] at N0 hz
        (try simp only at hz)
        subst hz
        generalize hv1 : (rdN p1).getD 0 = v1 at *
        generalize hs1 : (rdN p1).isSome = k1 at *
        generalize hv2 : (rdN p2).getD 0 = v2 at *
        generalize hs2 : (rdN p2).isSome = k2 at *
        have hz : (none : Option (Int × Int × Int)) = none := rfl
        have HZ := Lib.hid hz
        simp only [Option.getD, Option.isSome] at N0 N1 N2
        have N0 := Lib.hid N0
        have N1 := Lib.hid N1
        have N2 := Lib.hid N2
        clear hz HM
        go_enter Tryz.func53, Tryz.ntmps53
        go_wp2_with (first | (go_at_call 51; rw [← HW0.out]; refine (HP.out _).mono ?_; rintro e1 V1 ⟨ao, cap, rfl, hcap, hrow, b1⟩) | fail)
        have B1 := Lib.hid (below_step B0.out b1)
        have X1 := Lib.hid (X0.out.below b1)
        refine (HK.out _).mono ?_; rintro e2 V2 ⟨rfl, b2⟩
        have hr2 := hrow.below b2
        rcases hr2 with hr2 | ⟨g, off, rfl, hg, hc⟩
        · cases hr2
        have R2 : Hid (∀ V, Below V2.heap.size V2 V → V.cell? ⟨g, off, none⟩ = some (.string p0) ∧ V.cell? ⟨g, off + 1, none⟩ = some (.string p1) ∧ V.cell? ⟨g, off + 2, none⟩ = some (.string p2)) := Lib.hid (fun V hV => ⟨(hV.cell (p := ⟨g, off, none⟩) hg).trans (hc 0 (by simp)), (hV.cell (p := ⟨g, off + 1, none⟩) hg).trans (hc 1 (by simp)), (hV.cell (p := ⟨g, off + 2, none⟩) hg).trans (hc 2 (by simp))⟩)
        have B2 := Lib.hid (below_step B1.out b2)
        have X2 := Lib.hid (X1.out.below b2)
        obtain ⟨c0, c1, c2⟩ := R2.out _ (Below.refl _ _)
        have BQ := Lib.hid (Below.refl V2.heap.size V2)
        clear b1 b2 hrow hc hg hcap
        go_wp2_with fail
        refine (N0.out _).mono ?_; rintro e W0 ⟨rfl, b⟩
        have B2 := Lib.hid (below_step B2.out b)
        have X2 := Lib.hid (X2.out.below b)
        have BQ := Lib.hid (below_step BQ.out b)
        clear b c0 c1 c2
        obtain ⟨c0, c1, c2⟩ := R2.out _ BQ.out
        go_wp2_with fail
        refine (N1.out _).mono ?_; rintro e W1 ⟨rfl, b⟩
        have B2 := Lib.hid (below_step B2.out b)
        have X2 := Lib.hid (X2.out.below b)
        have BQ := Lib.hid (below_step BQ.out b)
        clear b c0 c1 c2
        obtain ⟨c0, c1, c2⟩ := R2.out _ BQ.out
        go_wp2_with fail
        refine (N2.out _).mono ?_; rintro e W2 ⟨rfl, b⟩
        have B2 := Lib.hid (below_step B2.out b)
        have X2 := Lib.hid (X2.out.below b)
        have BQ := Lib.hid (below_step BQ.out b)
        clear b c0 c1 c2
        obtain ⟨WX, hWX, n0, kx, bx, sx⟩ := row_box W2 #[.int .i64 0, .int .i64 0, .int .i64 0] #[.int .i64 0, .int .i64 v1, .int .i64 v2] 23
        have XX := Lib.hid (show XAt WX W2.heap.size 0 v1 v2 from kx)
        have N9 := Lib.hid n0
        have HWX := Lib.hid hWX
        have B2 := Lib.hid (below_step B2.out bx)
        have X2 := Lib.hid (X2.out.below bx)
        obtain ⟨d0, d1, d2, -⟩ := XX.out.cells
        clear hWX n0 kx bx sx
        go_wp2_with (first | (refine wpList_store_row rfl 23 _ _ rfl W2.heap.size #[.int .i64 0, .int .i64 v1, .int .i64 v2] rfl rfl 23 #[.int .i64 0, .int .i64 0, .int .i64 0] N9.out (tx_info _ _ _) rfl (tx_one _ _ _) ?_; rw [← HWX.out]) | (refine wpList_store_row rfl 23 _ _ rfl w.heap.size #[.int .i64 0, .int .i64 0, .int .i64 0] rfl rfl 23 #[.int .i64 0, .int .i64 0, .int .i64 0] X2.out (tx_info _ _ _) rfl (tx_one _ _ _) ?_) | fail)
        refine bodyPost_ret (results_row_tmp (fn := Tryz.f53) (p := 2) (u := 3) (ty := 23) rfl _ _ w.heap.size 23 #[.int .i64 0, .int .i64 0, .int .i64 0] (0, 0) _ rfl (X2.out.row 0 0 0) Tryz.underlying23 rfl (tx_info _ _ _)) rfl ?_
        exact ⟨rfl, B2.out.trans (turn_to (turn_row WX w.heap.size _) (fun b e => by omega) B2.out.size)⟩
      | some c =>
        cases h1 : rdN p1 with
        | none =>
          rw [h0] at N0 hz
          rw [h1] at N1 hz
          (try simp only at hz)
          subst hz
          generalize hv2 : (rdN p2).getD 0 = v2 at *
          generalize hs2 : (rdN p2).isSome = k2 at *
          have hz : (none : Option (Int × Int × Int)) = none := rfl
          have HZ := Lib.hid hz
          simp only [Option.getD, Option.isSome] at N0 N1 N2
          have N0 := Lib.hid N0
          have N1 := Lib.hid N1
          have N2 := Lib.hid N2
          clear hz HM
          go_enter Tryz.func53, Tryz.ntmps53
          go_wp2_with (first | (go_at_call 51; rw [← HW0.out]; refine (HP.out _).mono ?_; rintro e1 V1 ⟨ao, cap, rfl, hcap, hrow, b1⟩) | fail)
          have B1 := Lib.hid (below_step B0.out b1)
          have X1 := Lib.hid (X0.out.below b1)
          refine (HK.out _).mono ?_; rintro e2 V2 ⟨rfl, b2⟩
          have hr2 := hrow.below b2
          rcases hr2 with hr2 | ⟨g, off, rfl, hg, hc⟩
          · cases hr2
          have R2 : Hid (∀ V, Below V2.heap.size V2 V → V.cell? ⟨g, off, none⟩ = some (.string p0) ∧ V.cell? ⟨g, off + 1, none⟩ = some (.string p1) ∧ V.cell? ⟨g, off + 2, none⟩ = some (.string p2)) := Lib.hid (fun V hV => ⟨(hV.cell (p := ⟨g, off, none⟩) hg).trans (hc 0 (by simp)), (hV.cell (p := ⟨g, off + 1, none⟩) hg).trans (hc 1 (by simp)), (hV.cell (p := ⟨g, off + 2, none⟩) hg).trans (hc 2 (by simp))⟩)
          have B2 := Lib.hid (below_step B1.out b2)
          have X2 := Lib.hid (X1.out.below b2)
          obtain ⟨c0, c1, c2⟩ := R2.out _ (Below.refl _ _)
          have BQ := Lib.hid (Below.refl V2.heap.size V2)
          clear b1 b2 hrow hc hg hcap
          go_wp2_with fail
          refine (N0.out _).mono ?_; rintro e W0 ⟨rfl, b⟩
          have B2 := Lib.hid (below_step B2.out b)
          have X2 := Lib.hid (X2.out.below b)
          have BQ := Lib.hid (below_step BQ.out b)
          clear b c0 c1 c2
          obtain ⟨c0, c1, c2⟩ := R2.out _ BQ.out
          go_wp2_with fail
          refine (N1.out _).mono ?_; rintro e W1 ⟨rfl, b⟩
          have B2 := Lib.hid (below_step B2.out b)
          have X2 := Lib.hid (X2.out.below b)
          have BQ := Lib.hid (below_step BQ.out b)
          clear b c0 c1 c2
          obtain ⟨c0, c1, c2⟩ := R2.out _ BQ.out
          go_wp2_with fail
          refine (N2.out _).mono ?_; rintro e W2 ⟨rfl, b⟩
          have B2 := Lib.hid (below_step B2.out b)
          have X2 := Lib.hid (X2.out.below b)
          have BQ := Lib.hid (below_step BQ.out b)
          clear b c0 c1 c2
          obtain ⟨WX, hWX, n0, kx, bx, sx⟩ := row_box W2 #[.int .i64 0, .int .i64 0, .int .i64 0] #[.int .i64 c, .int .i64 0, .int .i64 v2] 23
          have XX := Lib.hid (show XAt WX W2.heap.size c 0 v2 from kx)
          have N9 := Lib.hid n0
          have HWX := Lib.hid hWX
          have B2 := Lib.hid (below_step B2.out bx)
          have X2 := Lib.hid (X2.out.below bx)
          obtain ⟨d0, d1, d2, -⟩ := XX.out.cells
          clear hWX n0 kx bx sx
          go_wp2_with (first | (refine wpList_store_row rfl 23 _ _ rfl W2.heap.size #[.int .i64 c, .int .i64 0, .int .i64 v2] rfl rfl 23 #[.int .i64 0, .int .i64 0, .int .i64 0] N9.out (tx_info _ _ _) rfl (tx_one _ _ _) ?_; rw [← HWX.out]) | (refine wpList_store_row rfl 23 _ _ rfl w.heap.size #[.int .i64 0, .int .i64 0, .int .i64 0] rfl rfl 23 #[.int .i64 0, .int .i64 0, .int .i64 0] X2.out (tx_info _ _ _) rfl (tx_one _ _ _) ?_) | fail)
          refine bodyPost_ret (results_row_tmp (fn := Tryz.f53) (p := 2) (u := 3) (ty := 23) rfl _ _ w.heap.size 23 #[.int .i64 0, .int .i64 0, .int .i64 0] (0, 0) _ rfl (X2.out.row 0 0 0) Tryz.underlying23 rfl (tx_info _ _ _)) rfl ?_
          exact ⟨rfl, B2.out.trans (turn_to (turn_row WX w.heap.size _) (fun b e => by omega) B2.out.size)⟩
        | some e =>
          cases h2 : rdN p2 with
          | none =>
            rw [h0] at N0 hz
            rw [h1] at N1 hz
            rw [h2] at N2 hz
            (try simp only at hz)
            subst hz
            have hz : (none : Option (Int × Int × Int)) = none := rfl
            have HZ := Lib.hid hz
            simp only [Option.getD, Option.isSome] at N0 N1 N2
            have N0 := Lib.hid N0
            have N1 := Lib.hid N1
            have N2 := Lib.hid N2
            clear hz HM
            go_enter Tryz.func53, Tryz.ntmps53
            go_wp2_with (first | (go_at_call 51; rw [← HW0.out]; refine (HP.out _).mono ?_; rintro e1 V1 ⟨ao, cap, rfl, hcap, hrow, b1⟩) | fail)
            have B1 := Lib.hid (below_step B0.out b1)
            have X1 := Lib.hid (X0.out.below b1)
            refine (HK.out _).mono ?_; rintro e2 V2 ⟨rfl, b2⟩
            have hr2 := hrow.below b2
            rcases hr2 with hr2 | ⟨g, off, rfl, hg, hc⟩
            · cases hr2
            have R2 : Hid (∀ V, Below V2.heap.size V2 V → V.cell? ⟨g, off, none⟩ = some (.string p0) ∧ V.cell? ⟨g, off + 1, none⟩ = some (.string p1) ∧ V.cell? ⟨g, off + 2, none⟩ = some (.string p2)) := Lib.hid (fun V hV => ⟨(hV.cell (p := ⟨g, off, none⟩) hg).trans (hc 0 (by simp)), (hV.cell (p := ⟨g, off + 1, none⟩) hg).trans (hc 1 (by simp)), (hV.cell (p := ⟨g, off + 2, none⟩) hg).trans (hc 2 (by simp))⟩)
            have B2 := Lib.hid (below_step B1.out b2)
            have X2 := Lib.hid (X1.out.below b2)
            obtain ⟨c0, c1, c2⟩ := R2.out _ (Below.refl _ _)
            have BQ := Lib.hid (Below.refl V2.heap.size V2)
            clear b1 b2 hrow hc hg hcap
            go_wp2_with fail
            refine (N0.out _).mono ?_; rintro e W0 ⟨rfl, b⟩
            have B2 := Lib.hid (below_step B2.out b)
            have X2 := Lib.hid (X2.out.below b)
            have BQ := Lib.hid (below_step BQ.out b)
            clear b c0 c1 c2
            obtain ⟨c0, c1, c2⟩ := R2.out _ BQ.out
            go_wp2_with fail
            refine (N1.out _).mono ?_; rintro e W1 ⟨rfl, b⟩
            have B2 := Lib.hid (below_step B2.out b)
            have X2 := Lib.hid (X2.out.below b)
            have BQ := Lib.hid (below_step BQ.out b)
            clear b c0 c1 c2
            obtain ⟨c0, c1, c2⟩ := R2.out _ BQ.out
            go_wp2_with fail
            refine (N2.out _).mono ?_; rintro e W2 ⟨rfl, b⟩
            have B2 := Lib.hid (below_step B2.out b)
            have X2 := Lib.hid (X2.out.below b)
            have BQ := Lib.hid (below_step BQ.out b)
            clear b c0 c1 c2
            obtain ⟨WX, hWX, n0, kx, bx, sx⟩ := row_box W2 #[.int .i64 0, .int .i64 0, .int .i64 0] #[.int .i64 c, .int .i64 e, .int .i64 0] 23
            have XX := Lib.hid (show XAt WX W2.heap.size c e 0 from kx)
            have N9 := Lib.hid n0
            have HWX := Lib.hid hWX
            have B2 := Lib.hid (below_step B2.out bx)
            have X2 := Lib.hid (X2.out.below bx)
            obtain ⟨d0, d1, d2, -⟩ := XX.out.cells
            clear hWX n0 kx bx sx
            go_wp2_with (first | (refine wpList_store_row rfl 23 _ _ rfl W2.heap.size #[.int .i64 c, .int .i64 e, .int .i64 0] rfl rfl 23 #[.int .i64 0, .int .i64 0, .int .i64 0] N9.out (tx_info _ _ _) rfl (tx_one _ _ _) ?_; rw [← HWX.out]) | (refine wpList_store_row rfl 23 _ _ rfl w.heap.size #[.int .i64 0, .int .i64 0, .int .i64 0] rfl rfl 23 #[.int .i64 0, .int .i64 0, .int .i64 0] X2.out (tx_info _ _ _) rfl (tx_one _ _ _) ?_) | fail)
            refine bodyPost_ret (results_row_tmp (fn := Tryz.f53) (p := 2) (u := 3) (ty := 23) rfl _ _ w.heap.size 23 #[.int .i64 0, .int .i64 0, .int .i64 0] (0, 0) _ rfl (X2.out.row 0 0 0) Tryz.underlying23 rfl (tx_info _ _ _)) rfl ?_
            exact ⟨rfl, B2.out.trans (turn_to (turn_row WX w.heap.size _) (fun b e => by omega) B2.out.size)⟩
          | some q =>
            have HMM := fun V => HM c e q V
            cases hm : mayX c e q with
            | false =>
              rw [h0] at N0 hz
              rw [h1] at N1 hz
              rw [h2] at N2 hz
              rw [hm] at HMM
              (try simp only at hz)
              rw [hm] at hz
              (try rw [if_pos rfl] at hz)
              (try rw [if_neg (by simp)] at hz)
              subst hz
              have HMM := Lib.hid HMM
              have hz : True := trivial
              have HZ := Lib.hid hz
              simp only [Option.getD, Option.isSome] at N0 N1 N2
              have N0 := Lib.hid N0
              have N1 := Lib.hid N1
              have N2 := Lib.hid N2
              clear hz HM
              go_enter Tryz.func53, Tryz.ntmps53
              go_wp2_with (first | (go_at_call 51; rw [← HW0.out]; refine (HP.out _).mono ?_; rintro e1 V1 ⟨ao, cap, rfl, hcap, hrow, b1⟩) | fail)
              have B1 := Lib.hid (below_step B0.out b1)
              have X1 := Lib.hid (X0.out.below b1)
              refine (HK.out _).mono ?_; rintro e2 V2 ⟨rfl, b2⟩
              have hr2 := hrow.below b2
              rcases hr2 with hr2 | ⟨g, off, rfl, hg, hc⟩
              · cases hr2
              have R2 : Hid (∀ V, Below V2.heap.size V2 V → V.cell? ⟨g, off, none⟩ = some (.string p0) ∧ V.cell? ⟨g, off + 1, none⟩ = some (.string p1) ∧ V.cell? ⟨g, off + 2, none⟩ = some (.string p2)) := Lib.hid (fun V hV => ⟨(hV.cell (p := ⟨g, off, none⟩) hg).trans (hc 0 (by simp)), (hV.cell (p := ⟨g, off + 1, none⟩) hg).trans (hc 1 (by simp)), (hV.cell (p := ⟨g, off + 2, none⟩) hg).trans (hc 2 (by simp))⟩)
              have B2 := Lib.hid (below_step B1.out b2)
              have X2 := Lib.hid (X1.out.below b2)
              obtain ⟨c0, c1, c2⟩ := R2.out _ (Below.refl _ _)
              have BQ := Lib.hid (Below.refl V2.heap.size V2)
              clear b1 b2 hrow hc hg hcap
              go_wp2_with fail
              refine (N0.out _).mono ?_; rintro e W0 ⟨rfl, b⟩
              have B2 := Lib.hid (below_step B2.out b)
              have X2 := Lib.hid (X2.out.below b)
              have BQ := Lib.hid (below_step BQ.out b)
              clear b c0 c1 c2
              obtain ⟨c0, c1, c2⟩ := R2.out _ BQ.out
              go_wp2_with fail
              refine (N1.out _).mono ?_; rintro e W1 ⟨rfl, b⟩
              have B2 := Lib.hid (below_step B2.out b)
              have X2 := Lib.hid (X2.out.below b)
              have BQ := Lib.hid (below_step BQ.out b)
              clear b c0 c1 c2
              obtain ⟨c0, c1, c2⟩ := R2.out _ BQ.out
              go_wp2_with fail
              refine (N2.out _).mono ?_; rintro e W2 ⟨rfl, b⟩
              have B2 := Lib.hid (below_step B2.out b)
              have X2 := Lib.hid (X2.out.below b)
              have BQ := Lib.hid (below_step BQ.out b)
              clear b c0 c1 c2
              obtain ⟨WX, hWX, n0, kx, bx, sx⟩ := row_box W2 #[.int .i64 0, .int .i64 0, .int .i64 0] #[.int .i64 c, .int .i64 e, .int .i64 q] 23
              have XX := Lib.hid (show XAt WX W2.heap.size c e q from kx)
              have N9 := Lib.hid n0
              have HWX := Lib.hid hWX
              have B2 := Lib.hid (below_step B2.out bx)
              have X2 := Lib.hid (X2.out.below bx)
              obtain ⟨d0, d1, d2, -⟩ := XX.out.cells
              clear hWX n0 kx bx sx
              go_wp2_with (first | (refine wpList_store_row rfl 23 _ _ rfl W2.heap.size #[.int .i64 c, .int .i64 e, .int .i64 q] rfl rfl 23 #[.int .i64 0, .int .i64 0, .int .i64 0] N9.out (tx_info _ _ _) rfl (tx_one _ _ _) ?_; rw [← HWX.out]) | fail)
              refine (HMM.out _).mono ?_; rintro e WM ⟨rfl, bm⟩
              have B2 := Lib.hid (below_step B2.out bm)
              have X2 := Lib.hid (X2.out.below bm)
              obtain ⟨f0, f1, f2, -⟩ := (XX.out.below bm).cells
              clear bm d0 d1 d2
              go_wp2_with (first | (refine wpList_store_row rfl 23 _ _ rfl w.heap.size #[.int .i64 0, .int .i64 0, .int .i64 0] rfl rfl 23 #[.int .i64 0, .int .i64 0, .int .i64 0] X2.out (tx_info _ _ _) rfl (tx_one _ _ _) ?_) | fail)
              refine bodyPost_ret (results_row_tmp (fn := Tryz.f53) (p := 2) (u := 3) (ty := 23) rfl _ _ w.heap.size 23 #[.int .i64 0, .int .i64 0, .int .i64 0] (0, 0) _ rfl (X2.out.row 0 0 0) Tryz.underlying23 rfl (tx_info _ _ _)) rfl ?_
              exact ⟨rfl, B2.out.trans (turn_to (turn_row WM w.heap.size _) (fun b e => by omega) B2.out.size)⟩
            | true =>
              rw [h0] at N0 hz
              rw [h1] at N1 hz
              rw [h2] at N2 hz
              rw [hm] at HMM
              (try simp only at hz)
              rw [hm] at hz
              (try rw [if_pos rfl] at hz)
              (try rw [if_neg (by simp)] at hz)
              subst hz
              have HMM := Lib.hid HMM
              have hz : True := trivial
              have HZ := Lib.hid hz
              simp only [Option.getD, Option.isSome] at N0 N1 N2
              have N0 := Lib.hid N0
              have N1 := Lib.hid N1
              have N2 := Lib.hid N2
              clear hz HM
              go_enter Tryz.func53, Tryz.ntmps53
              go_wp2_with (first | (go_at_call 51; rw [← HW0.out]; refine (HP.out _).mono ?_; rintro e1 V1 ⟨ao, cap, rfl, hcap, hrow, b1⟩) | fail)
              have B1 := Lib.hid (below_step B0.out b1)
              have X1 := Lib.hid (X0.out.below b1)
              refine (HK.out _).mono ?_; rintro e2 V2 ⟨rfl, b2⟩
              have hr2 := hrow.below b2
              rcases hr2 with hr2 | ⟨g, off, rfl, hg, hc⟩
              · cases hr2
              have R2 : Hid (∀ V, Below V2.heap.size V2 V → V.cell? ⟨g, off, none⟩ = some (.string p0) ∧ V.cell? ⟨g, off + 1, none⟩ = some (.string p1) ∧ V.cell? ⟨g, off + 2, none⟩ = some (.string p2)) := Lib.hid (fun V hV => ⟨(hV.cell (p := ⟨g, off, none⟩) hg).trans (hc 0 (by simp)), (hV.cell (p := ⟨g, off + 1, none⟩) hg).trans (hc 1 (by simp)), (hV.cell (p := ⟨g, off + 2, none⟩) hg).trans (hc 2 (by simp))⟩)
              have B2 := Lib.hid (below_step B1.out b2)
              have X2 := Lib.hid (X1.out.below b2)
              obtain ⟨c0, c1, c2⟩ := R2.out _ (Below.refl _ _)
              have BQ := Lib.hid (Below.refl V2.heap.size V2)
              clear b1 b2 hrow hc hg hcap
              go_wp2_with fail
              refine (N0.out _).mono ?_; rintro e W0 ⟨rfl, b⟩
              have B2 := Lib.hid (below_step B2.out b)
              have X2 := Lib.hid (X2.out.below b)
              have BQ := Lib.hid (below_step BQ.out b)
              clear b c0 c1 c2
              obtain ⟨c0, c1, c2⟩ := R2.out _ BQ.out
              go_wp2_with fail
              refine (N1.out _).mono ?_; rintro e W1 ⟨rfl, b⟩
              have B2 := Lib.hid (below_step B2.out b)
              have X2 := Lib.hid (X2.out.below b)
              have BQ := Lib.hid (below_step BQ.out b)
              clear b c0 c1 c2
              obtain ⟨c0, c1, c2⟩ := R2.out _ BQ.out
              go_wp2_with fail
              refine (N2.out _).mono ?_; rintro e W2 ⟨rfl, b⟩
              have B2 := Lib.hid (below_step B2.out b)
              have X2 := Lib.hid (X2.out.below b)
              have BQ := Lib.hid (below_step BQ.out b)
              clear b c0 c1 c2
              obtain ⟨WX, hWX, n0, kx, bx, sx⟩ := row_box W2 #[.int .i64 0, .int .i64 0, .int .i64 0] #[.int .i64 c, .int .i64 e, .int .i64 q] 23
              have XX := Lib.hid (show XAt WX W2.heap.size c e q from kx)
              have N9 := Lib.hid n0
              have HWX := Lib.hid hWX
              have B2 := Lib.hid (below_step B2.out bx)
              have X2 := Lib.hid (X2.out.below bx)
              obtain ⟨d0, d1, d2, -⟩ := XX.out.cells
              clear hWX n0 kx bx sx
              go_wp2_with (first | (refine wpList_store_row rfl 23 _ _ rfl W2.heap.size #[.int .i64 c, .int .i64 e, .int .i64 q] rfl rfl 23 #[.int .i64 0, .int .i64 0, .int .i64 0] N9.out (tx_info _ _ _) rfl (tx_one _ _ _) ?_; rw [← HWX.out]) | fail)
              refine (HMM.out _).mono ?_; rintro e WM ⟨rfl, bm⟩
              have B2 := Lib.hid (below_step B2.out bm)
              have X2 := Lib.hid (X2.out.below bm)
              obtain ⟨f0, f1, f2, -⟩ := (XX.out.below bm).cells
              clear bm d0 d1 d2
              go_wp2_with (first | (refine wpList_store_row rfl 23 _ _ rfl w.heap.size #[.int .i64 c, .int .i64 e, .int .i64 q] rfl rfl 23 #[.int .i64 0, .int .i64 0, .int .i64 0] X2.out (tx_info _ _ _) rfl (tx_one _ _ _) ?_) | fail)
              refine bodyPost_ret (results_row_tmp (fn := Tryz.f53) (p := 2) (u := 3) (ty := 23) rfl _ _ w.heap.size 23 #[.int .i64 c, .int .i64 e, .int .i64 q] (0, 0) _ rfl (X2.out.row c e q) Tryz.underlying23 rfl (tx_info _ _ _)) rfl ?_
              exact ⟨rfl, B2.out.trans (turn_to (turn_row WM w.heap.size _) (fun b e => by omega) B2.out.size)⟩
    · have hz : z = none := HNOT (fun h => hl h.2)
      subst hz
      have hl2 : (((partsB t).length : Int) != 3) = true := by rw [bne_iff_ne]; omega
      have HZ : Hid (True) := Lib.hid trivial
      have HK := Lib.hid HK
      have hn32 := HPL.out
      clear HNOT H3 hk h6
      generalize hps : partsB t = ps at *
      generalize ps.length = n at *
      go_enter Tryz.func53, Tryz.ntmps53
      go_wp2_with (first | (go_at_call 51; rw [← HW0.out]; refine (HP.out _).mono ?_; rintro e1 V1 ⟨ao, cap, rfl, hcap, hrow, b1⟩) | (go_at_call 52; refine (HK.out _).mono ?_; rintro e2 V2 ⟨rfl, b2⟩) | (refine wpList_store_row rfl 23 _ _ rfl w.heap.size #[.int .i64 0, .int .i64 0, .int .i64 0] rfl rfl 23 #[.int .i64 0, .int .i64 0, .int .i64 0] ((X0.out.below b1).below b2) (tx_info _ _ _) rfl (tx_one _ _ _) ?_) | fail)
      have BB := below_step (below_step B0.out b1) b2
      refine bodyPost_ret (results_row_tmp (fn := Tryz.f53) (p := 2) (u := 3) (ty := 23) rfl _ _ w.heap.size 23 #[.int .i64 0, .int .i64 0, .int .i64 0] (0, 0) _ rfl (((X0.out.below b1).below b2).row 0 0 0) Tryz.underlying23 rfl (tx_info _ _ _)) rfl ?_
      exact ⟨rfl, BB.trans (turn_to (turn_row V2 w.heap.size _) (fun b e => by omega) BB.size)⟩
  · have hz : z = none := HNOT (fun h => hk h.1)
    subst hz
    have hk2 : ((kindP (bl t) : Nat) : Int) ≠ 3 := by omega
    have hk3 : (((kindP (bl t) : Nat) : Int) != 3) = true := by rw [bne_iff_ne]; exact hk2
    have HK := Lib.hid HK
    clear HNOT H3 h6
    generalize kindP (bl t) = kd at *
    generalize (partsB t).length = n at *
    go_enter Tryz.func53, Tryz.ntmps53
    go_wp2_with (first | (go_at_call 51; rw [← HW0.out]; refine (HP.out _).mono ?_; rintro e1 V1 ⟨ao, cap, rfl, hcap, hrow, b1⟩) | (go_at_call 52; refine (HK.out _).mono ?_; rintro e2 V2 ⟨rfl, b2⟩) | (refine wpList_store_row rfl 23 _ _ rfl w.heap.size #[.int .i64 0, .int .i64 0, .int .i64 0] rfl rfl 23 #[.int .i64 0, .int .i64 0, .int .i64 0] ((X0.out.below b1).below b2) (tx_info _ _ _) rfl (tx_one _ _ _) ?_) | fail)
    have BB := below_step (below_step B0.out b1) b2
    refine bodyPost_ret (results_row_tmp (fn := Tryz.f53) (p := 2) (u := 3) (ty := 23) rfl _ _ w.heap.size 23 #[.int .i64 0, .int .i64 0, .int .i64 0] (0, 0) _ rfl (((X0.out.below b1).below b2).row 0 0 0) Tryz.underlying23 rfl (tx_info _ _ _)) rfl ?_
    exact ⟨rfl, BB.trans (turn_to (turn_row V2 w.heap.size _) (fun b e => by omega) BB.size)⟩
end Go.Proofs.YtbdlegjklfkdmaaGreatDoor.Pl
