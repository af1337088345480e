/- What the document's open of layer 10 does: what can be opened is, once for each. -/
import Derived.Test.YtkebfabmcajbmaaGreatKnowRefC
namespace Go.Proofs.YtkebfabmcajbmaaGreat.Pl
open Go.RowKit

theorem seal_of {h : List UInt8} {l : List Tm} (hv : (Tm.node h l).valid) (hk : Kd h l.length 6) : ∃ k n x, Tm.node h l = sealT k n x := by
  cases hk with
  | seal_ e1 e2 =>
    subst e1
    match l, e2 with
    | [k, n, x], _ => exact ⟨k, n, x, rfl⟩
theorem openT_yes {L : List (List UInt8)} {k n x : Tm} (h : can (LB (takeL L n)) k) : openT L k n x = takeL (takeL L n) x := by unfold openT; rw [if_pos h]
theorem openT_no {L : List (List UInt8)} {k n x : Tm} (h : ¬ can (LB (takeL L n)) k) : openT L k n x = takeL L n := by unfold openT; rw [if_neg h]
theorem fold_take_front {α β : Type} (f : List α → β → List α) (hf : ∀ L s, L <+: f L s) (l : List β) (L : List α) (k : Nat) : (l.take k).foldl f L <+: l.foldl f L := by
  have h : l.foldl f L = (l.drop k).foldl f ((l.take k).foldl f L) := by rw [← List.foldl_append, List.take_append_drop]
  rw [h]
  exact fold_front f hf _ _
set_option maxHeartbeats 4000000 in
set_option maxRecDepth 100000 in
theorem ropen10_any (B q : Nat) (v : Value) (L : List ByteArray) (hval : ∀ s ∈ L, checkP (bl s) = 0) (hlen : (openL (L.map bl)).length ≤ 500000000) (w : World) (hq : OQ w B q v L) :
    Calls Tryz.prog 28 #[.pointer (some ⟨q, 0, none⟩)] w (Told w B q v L.length (openL (L.map bl))) := by
  have HQ := Lib.hid hq
  have HV : Hid (∀ k, (hk : k < L.length) → ∃ h l, (Tm.node h l).valid ∧ bl L[k] = (Tm.node h l).enc) := Lib.hid (fun k hk => by
    obtain ⟨⟨h, l⟩, h1, h2⟩ := check_iff.1 (hval _ (List.getElem_mem hk))
    exact ⟨h, l, h1, h2.symm⟩)
  have HLK : Hid (∀ k (M : List ByteArray), M.map bl = ((L.map bl).take k).foldl openS (L.map bl) → M.length ≤ 500000000) := Lib.hid (fun k M hM => by
    have h1 := (fold_take_front openS openS_front (L.map bl) (L.map bl) k).length_le
    rw [← hM, List.length_map] at h1
    unfold openL at hlen
    omega)
  have HST : Hid (∀ k, (hk : k < L.length) → ((L.map bl).take (k + 1)).foldl openS (L.map bl) = openS (((L.map bl).take k).foldl openS (L.map bl)) (bl L[k])) := Lib.hid (fun k hk => by
    rw [List.take_succ_eq_append_getElem (by rw [List.length_map]; exact hk), List.foldl_append]
    simp)
  obtain ⟨ao, cap, rfl, hrow⟩ := ownT_row hq.2.1
  have hold0 : OldR w (.slice ao L.length cap) L.length ao L := ⟨hrow, fun b off e _ hb => by
    obtain ⟨c2, e2⟩ := own_block hq.2.1 hb
    injection e2 with e2 _ _
    rw [e] at e2
    cases e2
    exact ⟨rfl, Nat.le_refl _⟩⟩
  have O0 := Lib.hid hold0
  have cq : w.cell? ⟨q, 0, none⟩ = some (.slice ao L.length cap) := cell_of_row _ _ _ _ _ _ hq.1
  obtain ⟨n, hn⟩ : ∃ n, n = L.length := ⟨_, rfl⟩
  have HN := Lib.hid hn
  have HNS : Hid (n ≤ 500000000) := Lib.hid (by
    have := (openL_front (L.map bl)).length_le
    rw [List.length_map] at this
    omega)
  have HG : Hid (∀ w', Told w B q (.slice ao L.length cap) L.length (openL (L.map bl)) (.returned (.tuple #[])) w' → Told w B q (.slice ao n cap) n (openL (L.map bl)) (.returned (.tuple #[])) w') := Lib.hid (fun w' h => by rw [hn]; exact h)
  rw [← hn] at cq ⊢
  clear hq hval hlen hrow hold0 hn
  go_enter Tryz.func28, Tryz.ntmps28
  go_wp2_with fail
  clear cq
  go_loopw [3] (fun iv wr => ∃ (k : Nat) (u : Value) (M : List ByteArray), iv = .int .i64 k ∧ k ≤ n ∧ Hid (OQ wr B q u M) ∧ Hid (M.map bl = ((L.map bl).take k).foldl openS (L.map bl)) ∧ Hid (Below B w wr) ∧ Hid (∀ ao0 l0, OldR w (.slice ao L.length cap) L.length ao0 l0 → OldR wr u M.length ao0 l0)) (fun iv _ => n - (intOf iv).toNat)
  case atStart => exact ⟨0, _, L, rfl, Nat.zero_le _, HQ, Lib.hid (by simp), Lib.hid (Below.refl _ _), Lib.hid (fun _ _ ho => ho)⟩
  case round =>
    obtain ⟨k, u, M, rfl, hkn, hoq, hM, hb, hold⟩ := hrel
    have hn100 := HNS.out
    by_cases hk : k < n
    · have hk' : (k : Int) < (n : Int) := by omega
      have hkl : k < L.length := by rw [← HN.out]; exact hk
      have OL := Lib.hid (hold.out ao L O0.out)
      have hML := HLK.out k M hM.out
      rcases OL.out.1 with e | ⟨g, off, rfl, hlt, hc⟩
      · exfalso
        rw [e] at hkl
        exact absurd hkl (Nat.not_lt_zero _)
      have ck := hc k hkl
      have eg : L.getD k ByteArray.empty = L[k] := by simp [List.getD_eq_getElem?_getD, hkl]
      rw [eg] at ck
      obtain ⟨h, l, tv, te⟩ := HV.out k hkl
      have HSK := Lib.hid (HST.out k hkl)
      rw [← hM.out, te] at HSK
      obtain ⟨c, hkd, hkp⟩ := kd_node tv
      have hsz := valid_size tv te
      have HK := Lib.hid (fun V => rkind_any L[k] (by omega) V)
      rw [te, hkp] at HK
      have HP := Lib.hid (fun V => rparts6_any L[k] (by omega) V)
      rw [te, parts_node tv] at HP
      have HCK : Hid (∀ V, OldR V u M.length (some ⟨g, off, none⟩) L → V.cell? ⟨g, off + k, none⟩ = some (.string L[k])) := Lib.hid (fun V hV => by
        rcases hV.1 with e | ⟨g', off', e, _, hc'⟩
        · exfalso
          rw [e] at hkl
          exact absurd hkl (Nat.not_lt_zero _)
        · cases e
          rw [← eg]
          exact hc' k hkl)
      by_cases c6 : c = 6
      · subst c6
        obtain ⟨a, nn, x, hT⟩ := seal_of tv hkd
        injection hT with hh hl
        subst hh hl
        have hp := node_valid_parts tv
        have va := hp a (by simp)
        have vn := hp nn (by simp)
        have vx := hp x (by simp)
        have HS : Hid (((L.map bl).take (k + 1)).foldl openS (L.map bl) = openT (M.map bl) a nn x) := Lib.hid (by rw [HSK.out]; exact openS_seal tv _)
        have HT1 := Lib.hid (fun (V : World) hV => rtake10_at 16 nn vn vn.2.1 (tx nn) rfl B q u M V hV (by have := vn.2.2; omega))
        have HT2 := Lib.hid (fun (V : World) (u' : Value) (M' : List ByteArray) (hM' : M'.map bl = takeL (M.map bl) nn) hV => rtake10_at 16 x vx vx.2.1 (tx x) rfl B q u' M' V hV (by
          have h1 := takeL_len (M.map bl) vn.1
          rw [← hM', List.length_map, List.length_map] at h1
          have h2 := vn.2.2
          have h3 := vx.2.2
          omega))
        have HCN := Lib.hid (fun (V : World) (M' : List ByteArray) hV => rcan10_at 16 a va va.2.1 (tx a) rfl q M' V hV)
        have HL2 : Hid (∀ M' : List ByteArray, M'.map bl = takeL (M.map bl) nn → M'.length ≤ 1000000000) := Lib.hid (fun M' hM' => by
          have h1 := takeL_len (M.map bl) vn.1
          rw [← hM', List.length_map, List.length_map] at h1
          have h2 := vn.2.2
          omega)
        have HEN : Hid (([a, nn, x].map Tm.enc) = [tx a, tx nn, tx x].map bl) := Lib.hid rfl
        clear hc hlt eg tv te hkd hkp hsz hp va vn vx HSK
        generalize L[k] = t at *
        go_wp2_with fail
        refine (HK.out _).mono ?_; rintro e w1 ⟨rfl, b1⟩
        have B1 := Lib.hid b1
        have ck1 := HCK.out w1 (OL.out.below b1)
        clear b1 ck
        go_wp2_with fail
        refine (HP.out _).mono ?_; rintro e w2 ⟨pv, P, rfl, ho, hP, b2⟩
        have B2 := Lib.hid (below_step B1.out b2)
        have Q1 := Lib.hid (hoq.out.below B1.out)
        obtain ⟨po, pcap, rfl, hpo⟩ := old_fresh Q1.out.2.1 ho
        have hPe : P = [tx a, tx nn, tx x] := (List.map_inj_right (fun _ _ e => bl_inj e)).1 (by rw [hP]; exact HEN.out)
        subst hPe
        have OP := Lib.hid hpo
        have Q2 := Lib.hid (hoq.out.below B2.out)
        have OA2 := Lib.hid (fun ao0 l0 (hh : OldR w (.slice (some ⟨g, off, none⟩) L.length cap) L.length ao0 l0) => (hold.out ao0 l0 hh).below B2.out)
        have BB2 := Lib.hid (hb.out.trans (B2.out.mono hoq.out.2.2.2))
        rcases hpo.1 with e | ⟨pg, poff, rfl, hplt, hpc⟩
        · cases e
        have p0 : w2.cell? ⟨pg, poff + 0, none⟩ = some (.string (tx a)) := hpc 0 (by simp)
        have p1 : w2.cell? ⟨pg, poff + 1, none⟩ = some (.string (tx nn)) := hpc 1 (by simp)
        have p2 : w2.cell? ⟨pg, poff + 2, none⟩ = some (.string (tx x)) := hpc 2 (by simp)
        have HPC : Hid (∀ (V : World) (u' : Value) (m' : Nat), OldR V u' m' (some ⟨pg, poff, none⟩) [tx a, tx nn, tx x] → V.cell? ⟨pg, poff, none⟩ = some (.string (tx a)) ∧ V.cell? ⟨pg, poff + 2, none⟩ = some (.string (tx x))) := Lib.hid (fun V u' m' hh => by
          rcases hh.1 with e | ⟨g', off', e, _, hc'⟩
          · cases e
          · cases e
            exact ⟨by have h0 := hc' 0 (by simp); rwa [Nat.add_zero] at h0, hc' 2 (by simp)⟩)
        clear ck1 b2 ho hP hpo hplt hpc
        rw [show ([tx a, tx nn, tx x] : List ByteArray).length = 3 from rfl]
        go_wp2_with fail
        refine (HT1.out w2 Q2.out).mono ?_; rintro e w3 ⟨⟨y, rfl⟩, u3, M3, hoq3, hM3, hb3, hold3⟩
        have Q3 := Lib.hid hoq3
        have MM3 := Lib.hid hM3
        have BB3 := Lib.hid (BB2.out.trans hb3)
        have OA3 := Lib.hid (fun ao0 l0 hh => hold3 ao0 l0 (OA2.out ao0 l0 hh))
        have OP3 := Lib.hid (hold3 _ _ OP.out)
        obtain ⟨p03, p23⟩ := HPC.out _ _ _ OP3.out
        have HC3 := Lib.hid (HCN.out w3 M3 (hoq3.rk (HL2.out M3 hM3)))
        clear hoq3 hM3 hb3 hold3 p0 p1 p2
        cases hcan : canB M3 a with
        | true =>
          rw [hcan] at HC3
          have HOT : Hid (((L.map bl).take (k + 1)).foldl openS (L.map bl) = takeL (M3.map bl) x) := Lib.hid (by
            rw [HS.out, MM3.out]
            exact openT_yes (by rw [← MM3.out]; exact canB_iff.1 hcan))
          clear hcan
          go_wp2_with fail
          refine HC3.out.mono ?_; rintro e w4 ⟨rfl, b4⟩
          have Q4 := Lib.hid (Q3.out.below b4)
          have BB4 := Lib.hid (BB3.out.trans (b4.mono Q3.out.2.2.2))
          have OA4 := Lib.hid (fun ao0 l0 hh => (OA3.out ao0 l0 hh).below b4)
          have OP4 := Lib.hid (OP3.out.below b4)
          have p24 := (HPC.out _ _ _ OP4.out).2
          clear b4 p03 p23
          go_wp2_with fail
          refine (HT2.out w4 u3 M3 MM3.out Q4.out).mono ?_; rintro e w5 ⟨⟨y5, rfl⟩, u5, M5, hoq5, hM5, hb5, hold5⟩
          have Q5 := Lib.hid hoq5
          have MM5 : Hid (M5.map bl = ((L.map bl).take (k + 1)).foldl openS (L.map bl)) := Lib.hid (by rw [hM5]; exact HOT.out.symm)
          have BB5 := Lib.hid (BB4.out.trans hb5)
          have OA5 := Lib.hid (fun ao0 l0 hh => hold5 ao0 l0 (OA4.out ao0 l0 hh))
          clear hoq5 hM5 hb5 hold5 p24
          go_wp2_with fail
          go_roundw
          case rel => exact ⟨k + 1, u5, M5, by go_num, by omega, Q5, MM5, BB5, OA5⟩
          case measure => simp [intOf]; omega
        | false =>
          rw [hcan] at HC3
          have HOT : Hid (M3.map bl = ((L.map bl).take (k + 1)).foldl openS (L.map bl)) := Lib.hid (by
            rw [HS.out, MM3.out]
            refine (openT_no (fun hh => ?_)).symm
            rw [← MM3.out] at hh
            rw [canB_iff.2 hh] at hcan
            cases hcan)
          clear hcan
          go_wp2_with fail
          refine HC3.out.mono ?_; rintro e w4 ⟨rfl, b4⟩
          have Q4 := Lib.hid (Q3.out.below b4)
          have BB4 := Lib.hid (BB3.out.trans (b4.mono Q3.out.2.2.2))
          have OA4 := Lib.hid (fun ao0 l0 hh => (OA3.out ao0 l0 hh).below b4)
          clear b4 p03 p23
          go_wp2_with fail
          go_roundw
          case rel => exact ⟨k + 1, u3, M3, by go_num, by omega, Q4, HOT, BB4, OA4⟩
          case measure => simp [intOf]; omega
      · have q6 : ((c : Int) != 6) = true := by rw [bne_iff_ne]; omega
        have HS : Hid (M.map bl = ((L.map bl).take (k + 1)).foldl openS (L.map bl)) := Lib.hid (by
          rw [HSK.out]
          exact (openS_else tv (fun a b d e => by
            injection e with e1 _
            exact c6 ((kd_first hkd).2.2.2.2 e1)) _).symm)
        clear hc hlt eg tv te hkd hkp hsz HSK
        generalize L[k] = t at *
        go_wp2_with fail
        refine (HK.out _).mono ?_; rintro e w1 ⟨rfl, b1⟩
        have B1 := Lib.hid b1
        clear b1 ck
        go_wp2_with fail
        go_roundw
        case rel => exact ⟨k + 1, u, M, by go_num, by omega, Lib.hid (hoq.out.below B1.out), HS, Lib.hid (hb.out.trans (B1.out.mono hoq.out.2.2.2)), Lib.hid (fun ao0 l0 hh => (hold.out ao0 l0 hh).below B1.out)⟩
        case measure => simp [intOf]; omega
    · obtain rfl : k = n := by omega
      have HE : Hid (M.map bl = openL (L.map bl)) := Lib.hid (by rw [hM.out, List.take_of_length_le (by rw [List.length_map, HN.out]; exact Nat.le_refl _)]; rfl)
      clear hk hkn
      go_wp2_with fail
      go_end0
      exact HG.out _ ⟨⟨_, rfl⟩, u, M, hoq.out, HE.out, hb.out, hold.out⟩
end Go.Proofs.YtkebfabmcajbmaaGreat.Pl
