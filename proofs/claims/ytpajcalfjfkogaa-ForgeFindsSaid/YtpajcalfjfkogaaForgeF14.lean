/- What the program's own know does of a term that is known: observe's second closure. -/
import Derived.Test.YtpajcalfjfkogaaForgeF12
namespace Go.Proofs.Ytpajcalfjfkogaa.Pl
open Go.RowKit

theorem St10.cells {w : World} {B kb fb lb tb p m : Nat} {X : List (List UInt8)} {v : Value} {fr : List ByteArray} (h : St10 w B kb fb lb tb p m X v fr) :
    w.cell? ⟨lb, 0, none⟩ = some (.func (.func 78) #[] #[ptr10 kb, ptr10 fb]) ∧ w.cell? ⟨tb, 0, none⟩ = some (.func (.func 79) #[] #[ptr10 tb, ptr10 lb]) :=
  ⟨cell_of_row _ _ _ _ _ _ h.cl, cell_of_row _ _ _ _ _ _ h.ct⟩
theorem told10_turn {w w1 : World} {B kb fb lb tb p m : Nat} {X0 R : List (List UInt8)} {v : Value} {fr : List ByteArray} {e : Ending} {w' : World} (hb : Below w.heap.size w w1) (h : Told10 w1 B kb fb lb tb p m X0 v fr R e w') : Told10 w B kb fb lb tb p m X0 v fr R e w' := by
  obtain ⟨h1, v', fr', h2, h3, h4, h5⟩ := h
  exact ⟨h1, v', fr', h2, h3, h4, (Leaves10.refl hb).trans h5⟩
theorem old_cell10 {w : World} {v : Value} {n : Nat} {g off : Nat} {l : List Tm} (h : OldS w v n (some ⟨g, off, none⟩) (l.map tx)) (k : Nat) (hk : k < l.length) : w.cell? ⟨g, off + k, none⟩ = some (.string (tx l[k])) := by
  rcases h.1 with e | ⟨g2, off2, e, hlt, hc⟩
  · exfalso
    obtain rfl := List.map_eq_nil_iff.1 e
    cases hk
  · cases e
    have := hc k (by rw [List.length_map]; exact hk)
    rwa [show (l.map tx).getD k ByteArray.empty = tx l[k] from by simp [List.getD_eq_getElem?_getD, hk]] at this
theorem old_addr10 {w : World} {v : Value} {n : Nat} {ao : Option Addr} {l : List Tm} (h : OldS w v n ao (l.map tx)) (hl : 0 < l.length) : ∃ g off, ao = some ⟨g, off, none⟩ := by
  rcases h.1 with e | ⟨g2, off2, e, _, _⟩
  · obtain rfl := List.map_eq_nil_iff.1 e
    cases hl
  · exact ⟨g2, off2, e⟩

set_option maxHeartbeats 4000000 in
set_option maxRecDepth 100000 in
theorem taken10_at : ∀ (d : Nat) (T : Tm), T.valid → T.deep ≤ d → ∀ (s : ByteArray), bl s = T.enc → ∀ (B kb fb lb tb p m : Nat) (X0 : List (List UInt8)) (v : Value) (fr : List ByteArray) (w : World), St10 w B kb fb lb tb p m (X0 ++ fr.map bl) v fr → (X0 ++ fr.map bl).length + T.enc.length ≤ 1000000000 →
    Calls Try.prog 79 #[.string s, ptr10 tb, ptr10 lb] w (Told10 w B kb fb lb tb p m X0 v fr (lstL (X0 ++ fr.map bl) T)) := by
  intro d
  induction d with
  | zero =>
    rintro ⟨h, l⟩ _ hd
    simp [Tm.deep] at hd
  | succ d ih =>
    rintro ⟨h, l⟩ hv hd s hs B kb fb lb tb p m X0 v fr w hq hlen
    have hdp : ∀ t ∈ l, t.deep ≤ d := fun t ht => by
      have := deeps_mem ht
      simp only [Tm.deep] at hd
      omega
    obtain ⟨c, hk, hkd⟩ := kd_node10 hv
    obtain ⟨f1, f2, f3, f4⟩ := kd_first10 hk
    have hsz := valid_size hv hs
    have HK := Lib.hid (fun V => tkind_any s (by omega) V)
    rw [hs, hkd] at HK
    have HP := Lib.hid (fun V => parts6_any s (by omega) V)
    rw [hs, parts_node10 hv] at HP
    have HQ := Lib.hid hq
    by_cases c1 : c = 1
    · subst c1
      have HR := Lib.hid (lst_data (l := l) (f1.1 rfl) (X0 ++ fr.map bl))
      clear ih hv hd hs hq hdp hk hkd f1 f2 f3 f4 hsz hlen
      go_enter Try.func79, Try.ntmps79
      go_wp2_with fail
      refine (HP.out _).mono ?_; rintro e w1 ⟨pv, P, rfl, ho, _, b1⟩
      obtain ⟨po, pcap, rfl, _⟩ := ownT_row ho
      have B1 := Lib.hid b1
      clear b1 ho
      go_wp2_with fail
      refine (HK.out _).mono ?_; rintro e w2 ⟨rfl, b2⟩
      have B2 := Lib.hid (below_step B1.out b2)
      clear b2
      go_wp2_with fail
      go_end0
      exact told10_same HQ.out B2.out HR.out.symm _
    · have q1 : ((c : Int) == 1) = false := by rw [beq_eq_false_iff_ne]; omega
      by_cases c3 : c = 3
      · subst c3
        have HR := Lib.hid (lst_row (l := l) (f3.1 rfl) (X0 ++ fr.map bl))
        have hgl : ∀ t ∈ l, t.good := fun t ht => (node_valid_parts hv t ht).1
        have henc : (encs l).length ≤ (Tm.node h l).enc.length := by rw [Tm.enc_node, List.length_append]; omega
        have HC : Hid (∀ k, (hk : k < l.length) → ∀ (V : World) (u : Value) (M : List ByteArray), St10 V B kb fb lb tb p m (X0 ++ M.map bl) u M → X0 ++ M.map bl = (l.take k).foldl lstL (X0 ++ fr.map bl) → Calls Try.prog 79 #[.string (tx l[k]), ptr10 tb, ptr10 lb] V (Told10 V B kb fb lb tb p m X0 u M (lstL (X0 ++ M.map bl) l[k]))) :=
          Lib.hid (fun k hk V u M hV hM => ih l[k] (node_valid_parts hv _ (List.getElem_mem hk)) (hdp _ (List.getElem_mem hk)) (tx l[k]) rfl B kb fb lb tb p m X0 u M V hV (by
            have h4 := foldLst_len (l.take k) (X0 ++ fr.map bl) (fun u hu => hgl u (List.mem_of_mem_take hu))
            have h2 : (encs (l.take k)).length + l[k].enc.length = (encs (l.take (k + 1))).length := by
              rw [List.take_succ_eq_append_getElem hk, encs_flat, encs_flat, List.map_append, List.flatten_append, List.length_append]
              simp
            have h3 := encs_cut10 l (k + 1)
            rw [← hM] at h4
            omega))
        have HST : Hid (∀ k, (hk : k < l.length) → (l.take (k + 1)).foldl lstL (X0 ++ fr.map bl) = lstL ((l.take k).foldl lstL (X0 ++ fr.map bl)) l[k]) := Lib.hid (fun k hk => lst_step hk _)
        obtain ⟨n, hn⟩ : ∃ n, n = l.length := ⟨_, rfl⟩
        have HN := Lib.hid hn
        have HNS : Hid (n ≤ 100) := Lib.hid (by have := (kd_le10 hk).1; omega)
        clear ih hv hd hs hq hdp hk hkd f1 f2 f3 f4 hsz c1 hlen hgl henc hn
        go_enter Try.func79, Try.ntmps79
        go_wp2_with fail
        refine (HP.out _).mono ?_; rintro e w1 ⟨pv, P, rfl, ho, hP, b1⟩
        have B1 := Lib.hid b1
        obtain ⟨po, pcap, rfl, hold⟩ := old_new10 HQ.out.own ho
        obtain rfl : P = l.map tx := (List.map_inj_right (fun _ _ e => bl_inj e)).1 (by rw [hP, List.map_map]; rfl)
        have hPl : (l.map tx).length = n := by rw [List.length_map]; exact HN.out.symm
        rw [hPl]
        have O1 := Lib.hid hold
        clear b1 ho hP hold
        go_wp2_with fail
        refine (HK.out _).mono ?_; rintro e w2 ⟨rfl, b2⟩
        have B2 := Lib.hid (below_step B1.out b2)
        have O2 := Lib.hid (O1.out.below b2)
        clear b2
        go_wp2_with fail
        go_loopw [25] (fun iv wr => ∃ (k : Nat) (u : Value) (M : List ByteArray), iv = .int .i64 k ∧ k ≤ n ∧ Hid (St10 wr B kb fb lb tb p m (X0 ++ M.map bl) u M) ∧ Hid (X0 ++ M.map bl = (l.take k).foldl lstL (X0 ++ fr.map bl)) ∧ Hid (fr <+: M) ∧ Hid (Leaves10 w B m v fr.length wr u M.length) ∧ Hid (OldS wr u M.length po (l.map tx))) (fun iv _ => n - (intOf iv).toNat)
        case atStart => exact ⟨0, v, fr, rfl, Nat.zero_le _, Lib.hid (HQ.out.below B2.out), Lib.hid (by simp), Lib.hid (List.prefix_refl _), Lib.hid (.refl B2.out), O2⟩
        case round =>
          obtain ⟨k, u, M, rfl, hkn, hst, hM, hpre, hlv, hpo⟩ := hrel
          have hn100 := HNS.out
          by_cases hk : k < n
          · have hk' : (k : Int) < (n : Int) := by omega
            have hkl : k < l.length := by rw [← HN.out]; exact hk
            have HCK := Lib.hid (HC.out k hkl wr u M hst.out hM.out)
            rw [hM.out, ← HST.out k hkl] at HCK
            obtain ⟨g, off, rfl⟩ := old_addr10 hpo.out (by omega)
            have ck := old_cell10 hpo.out k hkl
            have ct := hst.out.cells.2
            generalize tx l[k] = t at *
            go_wp2_with fail
            refine HCK.out.mono ?_; rintro e w4 ⟨⟨y, rfl⟩, u', M', hst', hM', hpre', hlv'⟩
            have S4 := Lib.hid hst'
            have M4 := Lib.hid hM'
            have P4 := Lib.hid (hpre.out.trans hpre')
            have O4 := Lib.hid (hlv'.old _ _ hpo.out)
            have L4 := Lib.hid (hlv.out.trans hlv')
            clear hst' hM' hpre' hlv' ck ct
            go_wp2_with fail
            go_roundw
            case rel => exact ⟨k + 1, u', M', by go_num, by omega, S4, M4, P4, L4, O4⟩
            case measure => simp [intOf]; omega
          · obtain rfl : k = n := by omega
            have HE : Hid (X0 ++ M.map bl = l.foldl lstL (X0 ++ fr.map bl)) := Lib.hid (by rw [hM.out, List.take_of_length_le (by rw [HN.out]; exact Nat.le_refl _)])
            clear hk hkn
            go_wp2_with fail
            go_end0
            exact ⟨⟨_, rfl⟩, u, M, hst.out, by rw [HR.out]; exact HE.out, hpre.out, hlv.out⟩
      · have q3 : ((c : Int) == 3) = false := by rw [beq_eq_false_iff_ne]; omega
        by_cases c6 : c = 6
        · subst c6
          obtain ⟨k0, n0, x0, rfl⟩ := three hv.1 (f4.1 rfl)
          obtain rfl := f4.1 rfl
          have HR := Lib.hid (lst_seal k0 n0 x0 (X0 ++ fr.map bl))
          have HLK : lockP (bl s) = (k0.enc, x0.enc) := by rw [hs, lockP_enc hv, lockT_seal]
          have HL := Lib.hid (fun V (hV : St10 V B kb fb lb tb p m (X0 ++ fr.map bl) v fr) => listed10_any s (by omega) V B kb fb lb tb p m X0 v fr hV (by omega))
          rw [HLK, hs, show tb10 (k0.enc, x0.enc).1 = tx k0 from rfl, show tb10 (k0.enc, x0.enc).2 = tx x0 from rfl] at HL
          have hn2 : n0.valid := node_valid_parts hv n0 (by simp)
          have HN : Hid (∀ (V : World) (u : Value) (M : List ByteArray), St10 V B kb fb lb tb p m (X0 ++ M.map bl) u M → X0 ++ M.map bl = insL (X0 ++ fr.map bl) (sealT k0 n0 x0).enc → Calls Try.prog 79 #[.string (tx n0), ptr10 tb, ptr10 lb] V (Told10 V B kb fb lb tb p m X0 u M (lstL (X0 ++ fr.map bl) (sealT k0 n0 x0)))) :=
            Lib.hid (fun V u M hV hM => by
              have h := ih n0 hn2 (hdp n0 (by simp)) (tx n0) rfl B kb fb lb tb p m X0 u M V hV (by
                have h1 := insL_len (X0 ++ fr.map bl) (Tm.node [115] [k0, n0, x0]).enc
                rw [← hM] at h1
                have h2 : n0.enc.length + 1 ≤ (Tm.node [115] [k0, n0, x0]).enc.length := by
                  rw [Tm.enc_node]
                  simp only [encs, List.length_append, List.length_cons, List.length_nil]
                  omega
                omega)
              rw [hM, ← HR.out] at h
              exact h)
          clear ih hv hd hs hq hdp hk hkd f1 f2 f3 f4 hsz hlen c1 c3 HLK hn2
          go_enter Try.func79, Try.ntmps79
          go_wp2_with fail
          refine (HP.out _).mono ?_; rintro e w1 ⟨pv, P, rfl, ho, hP, b1⟩
          have B1 := Lib.hid b1
          obtain ⟨po, pcap, rfl, hold⟩ := old_new10 HQ.out.own ho
          obtain rfl : P = [k0, n0, x0].map tx := (List.map_inj_right (fun _ _ e => bl_inj e)).1 (by rw [hP]; rfl)
          have O1 := Lib.hid hold
          clear b1 ho hP hold
          go_wp2_with fail
          refine (HK.out _).mono ?_; rintro e w2 ⟨rfl, b2⟩
          have B2 := Lib.hid (below_step (below_step B1.out b2) (drew10 w2))
          have S2 := Lib.hid (HQ.out.below B2.out)
          have O2 := Lib.hid ((O1.out.below b2).below (drew10 w2))
          obtain ⟨g, off, rfl⟩ := old_addr10 O2.out (show 0 < 3 by decide)
          have KS : w2.drew.cell? ⟨lb, 0, none⟩ = some (.func (.func 78) #[] #[ptr10 kb, ptr10 fb]) ∧ w2.drew.cell? ⟨g, off, none⟩ = some (.string (tx k0)) ∧ w2.drew.cell? ⟨g, off + 2, none⟩ = some (.string (tx x0)) := ⟨S2.out.cells.1, old_cell10 O2.out 0 (show 0 < 3 by decide), old_cell10 O2.out 2 (show 2 < 3 by decide)⟩
          clear b2
          generalize hck : tx k0 = sk at *
          generalize hcn : tx n0 = sn at *
          generalize hcx : tx x0 = sx at *
          go_wp2_with fail
          have HL2 := Lib.hid (HL.out _ S2.out)
          go_region_held3 (fun W => W.cell? ⟨lb, 0, none⟩ = some (.func (.func 78) #[] #[ptr10 kb, ptr10 fb]) ∧ W.cell? ⟨g, off, none⟩ = some (.string sk) ∧ W.cell? ⟨g, off + 2, none⟩ = some (.string sx)) (first | assumption) (first | (go_at_call 78; (with_reducible refine HL2.out.mono ?_); rintro e w3 ⟨⟨u, rfl⟩, v3, fr3, s3, e3, p3, l3⟩; have KA : w3.cell? ⟨lb, 0, none⟩ = some (.func (.func 78) #[] #[ptr10 kb, ptr10 fb]) ∧ w3.cell? ⟨g, off, none⟩ = some (.string sk) ∧ w3.cell? ⟨g, off + 2, none⟩ = some (.string sx) := ⟨s3.cells.1, by rw [← hck]; exact old_cell10 (l3.old _ _ O2.out) 0 (show 0 < 3 by decide), by rw [← hcx]; exact old_cell10 (l3.old _ _ O2.out) 2 (show 2 < 3 by decide)⟩; have S3 := Lib.hid s3; have E3 := Lib.hid e3; have P3 := Lib.hid p3; have L3 := Lib.hid l3; clear s3 e3 p3 l3))
          clear KS hck hcx HL2 HL KA
          have O3 := Lib.hid ((L3.out.old _ _ O2.out).below (drew10 w3))
          have S4 := Lib.hid (S3.out.below (drew10 w3))
          have KS : w3.drew.cell? ⟨tb, 0, none⟩ = some (.func (.func 79) #[] #[ptr10 tb, ptr10 lb]) ∧ w3.drew.cell? ⟨g, off + 1, none⟩ = some (.string sn) := ⟨S4.out.cells.2, by rw [← hcn]; exact old_cell10 O3.out 1 (show 1 < 3 by decide)⟩
          have HN2 := Lib.hid (HN.out _ _ _ S4.out E3.out)
          have L4 := Lib.hid ((Leaves10.refl (B := B) (m := m) (v := v) (n := fr.length) B2.out).trans (L3.out.trans (Leaves10.refl (drew10 w3))))
          go_wp2_with fail
          go_region_held3 (fun W => W.cell? ⟨tb, 0, none⟩ = some (.func (.func 79) #[] #[ptr10 tb, ptr10 lb]) ∧ W.cell? ⟨g, off + 1, none⟩ = some (.string sn)) (first | assumption) (first | (go_at_call 79; (with_reducible refine HN2.out.mono ?_); rintro e w5 ⟨⟨u5, rfl⟩, v5, fr5, s5, e5, p5, l5⟩; have KA : w5.cell? ⟨tb, 0, none⟩ = some (.func (.func 79) #[] #[ptr10 tb, ptr10 lb]) ∧ w5.cell? ⟨g, off + 1, none⟩ = some (.string sn) := ⟨s5.cells.2, by rw [← hcn]; exact old_cell10 (l5.old _ _ O3.out) 1 (show 1 < 3 by decide)⟩; have S5 := Lib.hid s5; have E5 := Lib.hid e5; have P5 := Lib.hid p5; have L5 := Lib.hid l5; clear s5 e5 p5 l5))
          go_wp2_with fail
          go_end0
          exact ⟨⟨_, rfl⟩, v5, fr5, S5.out, E5.out, P3.out.trans P5.out, L4.out.trans L5.out⟩
        · have q6 : ((c : Int) == 6) = false := by rw [beq_eq_false_iff_ne]; omega
          have HR := Lib.hid (lst_else (l := l) (fun e => c1 (f1.2 e)) (fun e => c3 (f3.2 e)) (fun e => c6 (f4.2 e)) (X0 ++ fr.map bl))
          have HLK : lockP (bl s) = ([], []) := by rw [hs, lockP_enc hv, lockT_else (fun e => c6 (f4.2 e))]
          have HL := Lib.hid (fun V (hV : St10 V B kb fb lb tb p m (X0 ++ fr.map bl) v fr) => listed10_any s (by omega) V B kb fb lb tb p m X0 v fr hV (by omega))
          rw [HLK, hs, ← HR.out] at HL
          clear ih hv hd hs hq hdp hk hkd f1 f2 f3 f4 hsz hlen c1 c3 c6 HLK
          go_enter Try.func79, Try.ntmps79
          go_wp2_with fail
          refine (HP.out _).mono ?_; rintro e w1 ⟨pv, P, rfl, ho, _, b1⟩
          obtain ⟨po, pcap, rfl, _⟩ := ownT_row ho
          have B1 := Lib.hid b1
          clear b1 ho
          go_wp2_with fail
          refine (HK.out _).mono ?_; rintro e w2 ⟨rfl, b2⟩
          have B2 := Lib.hid (below_step B1.out b2)
          have S2 := Lib.hid (HQ.out.below B2.out)
          have cl := S2.out.cells.1
          clear b2
          go_wp2_with fail
          refine (HL.out _ S2.out).mono ?_; rintro e w3 h3
          obtain ⟨⟨u, rfl⟩, h4⟩ := h3
          have H3 := Lib.hid (told10_turn B2.out ⟨⟨u, rfl⟩, h4⟩)
          clear h4 cl
          go_wp2_with fail
          go_end0
          exact ⟨⟨_, rfl⟩, H3.out.2⟩
end Go.Proofs.Ytpajcalfjfkogaa.Pl
