/- What the document's take of layer 10 does: the walk. -/
import Derived.Test.YtkebfabmcajbmaaGreatKnowRefB
namespace Go.Proofs.YtkebfabmcajbmaaGreat.Pl
open Go.RowKit

/-- What a call that tells something leaves. -/
def Told (w : World) (B q : Nat) (v : Value) (n : Nat) (R : List (List UInt8)) (e : Ending) (w' : World) : Prop :=
  (∃ u, e = .returned u) ∧ ∃ (v' : Value) (L' : List ByteArray), OQ w' B q v' L' ∧ L'.map bl = R ∧ Below B w w' ∧ ∀ ao l0, OldR w v n ao l0 → OldR w' v' L'.length ao l0
theorem told_same {w w' : World} {B q : Nat} {v : Value} {L : List ByteArray} {R : List (List UInt8)} (h : OQ w B q v L) (hb : Below w.heap.size w w') (hR : L.map bl = R) (u : Value) : Told w B q v L.length R (.returned u) w' :=
  ⟨⟨u, rfl⟩, v, L, h.below hb, hR, hb.mono h.2.2.2, fun _ _ ho => ho.below hb⟩
set_option maxHeartbeats 4000000 in
set_option maxRecDepth 100000 in
theorem rtake10_at : ∀ (d : Nat) (T : Tm), T.valid → T.deep ≤ d → ∀ (s : ByteArray), bl s = T.enc → ∀ (B q : Nat) (v : Value) (L : List ByteArray) (w : World), OQ w B q v L → L.length + T.enc.length ≤ 1000000000 →
    Calls Tryz.prog 27 #[.pointer (some ⟨q, 0, none⟩), .string s] w (Told w B q v L.length (takeL (L.map bl) T)) := by
  intro d
  induction d with
  | zero =>
    rintro ⟨h, l⟩ _ hd
    simp [Tm.deep] at hd
  | succ d ih =>
    rintro ⟨h, l⟩ hv hd s hs B q v L w hq hlen
    have hdp : ∀ t ∈ l, t.deep ≤ d := fun t ht => by
      have := deeps_mem ht
      simp only [Tm.deep] at hd
      omega
    obtain ⟨c, hk, hkd⟩ := kd_node hv
    obtain ⟨f1, f2, f3, f4⟩ := kd_first hk
    have hsz := valid_size hv hs
    have HK := Lib.hid (fun V => rkind_any s (by omega) V)
    rw [hs, hkd] at HK
    have HP := Lib.hid (fun V => rparts6_any s (by omega) V)
    rw [hs, parts_node hv] at HP
    have HQ := Lib.hid hq
    by_cases c1 : c = 1
    · subst c1
      have HR := Lib.hid (take_data (l := l) (f1.1 rfl) (L.map bl))
      clear ih hv hd hs hq hdp hk hkd f1 f2 f3 f4 hsz hlen
      go_enter Tryz.func27, Tryz.ntmps27
      go_wp2_with fail
      refine (HP.out _).mono ?_; rintro e w1 ⟨pv, P, rfl, ho, _, b1⟩
      obtain ⟨po, pcap, rfl, _⟩ := ownT_row ho
      have B1 := Lib.hid b1
      clear b1 ho
      go_wp2_with fail
      refine (HK.out _).mono ?_; rintro e w2 ⟨rfl, b2⟩
      have B2 := Lib.hid (below_step B1.out b2)
      clear b2
      go_wp2_with fail
      refine bodyPost_ret (results_none rfl _ _ _) rfl ?_
      exact told_same HQ.out B2.out HR.out.symm _
    · have q1 : ((c : Int) == 1) = false := by rw [beq_eq_false_iff_ne]; omega
      by_cases c3 : c = 3
      · subst c3
        have HR := Lib.hid (take_row (l := l) (f3.1 rfl) (L.map bl))
        have hgl : ∀ t ∈ l, t.good := fun t ht => (node_valid_parts hv t ht).1
        have henc : (encs l).length ≤ (Tm.node h l).enc.length := by rw [Tm.enc_node, List.length_append]; omega
        have HLN : Hid (∀ k, k < l.length → ∀ (M : List ByteArray), M.map bl = (l.take k).foldl takeL (L.map bl) → ∀ t ∈ l, M.length + t.enc.length ≤ 2000000000) := Lib.hid (fun k _ M hM t ht => by
          have h1 := foldTake_len (l.take k) (L.map bl) (fun u hu => hgl u (List.mem_of_mem_take hu))
          have h2 := encs_take10 l k
          rw [← hM, List.length_map, List.length_map] at h1
          have h3 := (node_valid_parts hv t ht).2.2
          omega)
        have HC : Hid (∀ k, (hk : k < l.length) → ∀ (V : World) (u : Value) (M : List ByteArray), OQ V B q u M → M.map bl = (l.take k).foldl takeL (L.map bl) → Calls Tryz.prog 27 #[.pointer (some ⟨q, 0, none⟩), .string (tx l[k])] V (Told V B q u M.length (takeL (M.map bl) l[k]))) :=
          Lib.hid (fun k hk V u M hV hM => ih l[k] (node_valid_parts hv _ (List.getElem_mem hk)) (hdp _ (List.getElem_mem hk)) (tx l[k]) rfl B q u M V hV (by
            have h1 := foldTake_len (l.take (k + 1)) (L.map bl) (fun u hu => hgl u (List.mem_of_mem_take hu))
            have h4 := foldTake_len (l.take k) (L.map bl) (fun u hu => hgl u (List.mem_of_mem_take hu))
            have h2 : (encs (l.take k)).length + l[k].enc.length = (encs (l.take (k + 1))).length := by
              rw [List.take_succ_eq_append_getElem hk, encs_flat, encs_flat, List.map_append, List.flatten_append, List.length_append]
              simp
            have h3 := encs_take10 l (k + 1)
            rw [← hM, List.length_map, List.length_map] at h4
            omega))
        have HST : Hid (∀ k, (hk : k < l.length) → (l.take (k + 1)).foldl takeL (L.map bl) = takeL ((l.take k).foldl takeL (L.map bl)) l[k]) := Lib.hid (fun k hk => take_step hk _)
        obtain ⟨n, hn⟩ : ∃ n, n = l.length := ⟨_, rfl⟩
        have HN := Lib.hid hn
        have HNS : Hid (n ≤ 100) := Lib.hid (by
          rw [hn]
          rcases hk with ⟨_, _, _, h⟩ | ⟨_, _, _, _, h⟩ | ⟨v, _, hv, h⟩ | ⟨_, h⟩ | ⟨_, h⟩ | ⟨_, h⟩ <;> omega)
        clear ih hv hd hs hq hdp hk hkd f1 f2 f3 f4 hsz c1 hlen hgl henc hn
        go_enter Tryz.func27, Tryz.ntmps27
        go_wp2_with fail
        refine (HP.out _).mono ?_; rintro e w1 ⟨pv, P, rfl, ho, hP, b1⟩
        have B1 := Lib.hid b1
        obtain ⟨po, pcap, rfl, hold⟩ := old_fresh HQ.out.2.1 ho
        obtain rfl : P = l.map tx := (List.map_inj_right (fun _ _ e => bl_inj e)).1 (by rw [hP, map_bl_tx])
        have hPl : (l.map tx).length = n := by rw [List.length_map]; exact HN.out.symm
        rw [hPl]
        have O1 := Lib.hid hold
        clear b1 ho hP hold
        go_wp2_with fail
        refine (HK.out _).mono ?_; rintro e w2 ⟨rfl, b2⟩
        have B2 := Lib.hid (below_step B1.out b2)
        have O2 := Lib.hid (O1.out.below b2)
        clear b2
        go_wp2_with fail
        go_loopw [6] (fun iv wr => ∃ (k : Nat) (u : Value) (M : List ByteArray), iv = .int .i64 k ∧ k ≤ n ∧ Hid (OQ wr B q u M) ∧ Hid (M.map bl = (l.take k).foldl takeL (L.map bl)) ∧ Hid (Below B w wr) ∧ Hid (∀ ao l0, OldR w v L.length ao l0 → OldR wr u M.length ao l0) ∧ Hid (OldR wr u M.length po (l.map tx))) (fun iv _ => n - (intOf iv).toNat)
        case atStart => exact ⟨0, v, L, rfl, Nat.zero_le _, Lib.hid (HQ.out.below B2.out), Lib.hid (by simp), Lib.hid (B2.out.mono HQ.out.2.2.2), Lib.hid (fun _ _ ho => ho.below B2.out), O2⟩
        case round =>
          obtain ⟨k, u, M, rfl, hkn, hoq, hM, hb, hold, hpo⟩ := hrel
          have hn100 := HNS.out
          by_cases hk : k < n
          · have hk' : (k : Int) < (n : Int) := by omega
            have hkl : k < l.length := by rw [← HN.out]; exact hk
            have HCK := Lib.hid (HC.out k hkl wr u M hoq.out hM.out)
            rw [hM.out, ← HST.out k hkl] at HCK
            rcases hpo.out.1 with e | ⟨g, off, rfl, hlt, hc⟩
            · exfalso
              rw [e] at hPl
              simp at hPl
              omega
            have ck := hc k (by rw [hPl]; exact hk)
            have eg : (l.map tx).getD k ByteArray.empty = tx l[k] := by simp [List.getD_eq_getElem?_getD, hkl]
            rw [eg] at ck
            generalize tx l[k] = t at *
            clear hc hlt eg
            go_wp2_with fail
            refine HCK.out.mono ?_; rintro e w4 ⟨⟨y, rfl⟩, u', M', hoq', hM', hb', hold'⟩
            have OQ4 := Lib.hid hoq'
            have M4 := Lib.hid hM'
            have B4 := Lib.hid (hb.out.trans hb')
            have H4 := Lib.hid (fun ao l0 ho => hold' ao l0 (hold.out ao l0 ho))
            have P4 := Lib.hid (hold' _ _ hpo.out)
            clear hoq' hM' hb' hold' ck
            go_wp2_with fail
            go_roundw
            case rel => exact ⟨k + 1, u', M', by go_num, by omega, OQ4, M4, B4, H4, P4⟩
            case measure => simp [intOf]; omega
          · obtain rfl : k = n := by omega
            have HE : Hid (M.map bl = l.foldl takeL (L.map bl)) := Lib.hid (by rw [hM.out, List.take_of_length_le (by rw [HN.out]; exact Nat.le_refl _)])
            clear hk hkn
            go_wp2_with fail
            refine bodyPost_ret (results_none rfl _ _ _) rfl ?_
            exact ⟨⟨_, rfl⟩, u, M, hoq.out, by rw [HR.out]; exact HE.out, hb.out, hold.out⟩
      · have q3 : ((c : Int) == 3) = false := by rw [beq_eq_false_iff_ne]; omega
        have HR := Lib.hid (take_else (l := l) (fun e => c1 (f1.2 e)) (fun e => c3 (f3.2 e)) (L.map bl))
        rw [← hs] at HR
        have hl5 : L.length ≤ 1000000000 := by omega
        have hin5 : bl s ∈ L.map bl ↔ s ∈ L := by
          rw [List.mem_map]
          constructor
          · rintro ⟨y, hy, e⟩
            rw [← bl_inj e]; exact hy
          · exact fun h => ⟨s, h, rfl⟩
        by_cases hin : s ∈ L
        · have HRI : Hid (takeL (L.map bl) (.node h l) = L.map bl) := Lib.hid (by rw [HR.out, insL, if_pos (hin5.2 hin)])
          have HI : Hid (∀ (V : World) ao cap, TxtRow V ao L → Calls Tryz.prog 47 #[.slice ao L.length cap, .string s] V fun e w' => e = .returned (.bool true) ∧ Below V.heap.size V w') := Lib.hid (fun V ao cap hr => rin_any L ao cap (by omega) s V hr true (by simp [hin]))
          clear ih hv hd hs hq hdp hk hkd f1 f2 f3 f4 hsz c1 c3 hlen HR hin hin5
          go_enter Tryz.func27, Tryz.ntmps27
          go_wp2_with fail
          refine (HP.out _).mono ?_; rintro e w1 ⟨pv, P, rfl, ho, _, b1⟩
          obtain ⟨po, pcap, rfl, _⟩ := ownT_row ho
          have B1 := Lib.hid b1
          clear b1 ho
          go_wp2_with fail
          refine (HK.out _).mono ?_; rintro e w2 ⟨rfl, b2⟩
          have B2 := Lib.hid (below_step B1.out b2)
          obtain ⟨ao, cap, hh, hr, _⟩ := ((HQ.out.below B2.out).rk hl5)
          have cq : w2.cell? ⟨q, 0, none⟩ = some (.slice ao L.length cap) := cell_of_row _ _ _ _ _ _ hh
          have R2 := Lib.hid hr
          clear b2 hh hr
          go_wp2_with fail
          refine (HI.out _ _ _ R2.out).mono ?_; rintro e w3 ⟨rfl, b3⟩
          have B3 := Lib.hid (below_step B2.out b3)
          clear b3 cq
          go_wp2_with fail
          go_end0
          exact told_same HQ.out B3.out HRI.out.symm _
        · have HRI : Hid (takeL (L.map bl) (.node h l) = (L ++ [s]).map bl) := Lib.hid (by rw [HR.out, insL, if_neg (fun e => hin (hin5.1 e)), List.map_append]; rfl)
          have HI : Hid (∀ (V : World) ao cap, TxtRow V ao L → Calls Tryz.prog 47 #[.slice ao L.length cap, .string s] V fun e w' => e = .returned (.bool false) ∧ Below V.heap.size V w') := Lib.hid (fun V ao cap hr => rin_any L ao cap (by omega) s V hr false (by simp [hin]))
          clear ih hv hd hs hq hdp hk hkd f1 f2 f3 f4 hsz c1 c3 hlen HR hin hin5
          go_enter Tryz.func27, Tryz.ntmps27
          go_wp2_with fail
          refine (HP.out _).mono ?_; rintro e w1 ⟨pv, P, rfl, ho, _, b1⟩
          obtain ⟨po, pcap, rfl, _⟩ := ownT_row ho
          have B1 := Lib.hid b1
          clear b1 ho
          go_wp2_with fail
          refine (HK.out _).mono ?_; rintro e w2 ⟨rfl, b2⟩
          have B2 := Lib.hid (below_step B1.out b2)
          obtain ⟨ao, cap, hh, hr, _⟩ := ((HQ.out.below B2.out).rk hl5)
          have cq : w2.cell? ⟨q, 0, none⟩ = some (.slice ao L.length cap) := cell_of_row _ _ _ _ _ _ hh
          have R2 := Lib.hid hr
          clear b2 hh hr
          go_wp2_with fail
          refine (HI.out _ _ _ R2.out).mono ?_; rintro e w3 ⟨rfl, b3⟩
          have B3 := Lib.hid (below_step B2.out b3)
          have Q3 := Lib.hid (HQ.out.below B3.out)
          obtain ⟨a3, c3, rfl, _⟩ := ownT_row HQ.out.2.1
          have cq3 : w3.cell? ⟨q, 0, none⟩ = some (.slice a3 L.length c3) := cell_of_row _ _ _ _ _ _ Q3.out.1
          clear b3 cq
          go_wp2_with (at_builtin; refine wpList_app10 rfl _ _ rfl rfl s rfl rfl Q3.out.2.1 Q3.out.2.2.2 hl5 ?_; intro v' w4 hown hgrow hloc; obtain ⟨h1, hoq, hb4, hold4⟩ := oq_store Q3.out hown hgrow hloc; obtain ⟨a4, c4, rfl, _⟩ := ownT_row hown; rw [List.length_append, List.length_singleton] at hoq hb4 hold4; have cq4 : w4.cell? ⟨q, 0, none⟩ = some (.slice a3 L.length c3) := cell_of_row _ _ _ _ _ _ h1; have fq4 : w4.frozen? ⟨q, 0, none⟩ = false := (show Boxed w4 q 34 (.slice a3 L.length c3) from h1).frozen; have OQ4 := Lib.hid hoq; have B4 := Lib.hid ((B3.out.mono HQ.out.2.2.2).trans hb4); have H4 := Lib.hid (fun ao l0 (ho : OldR w (.slice a3 L.length c3) L.length ao l0) => hold4 ao l0 (ho.below B3.out)); clear h1 hoq hb4 hold4 hown hgrow hloc cq3)
          go_end0
          exact ⟨⟨_, rfl⟩, _, L ++ [s], OQ4.out, HRI.out.symm, B4.out, by rw [List.length_append, List.length_singleton]; exact H4.out⟩
end Go.Proofs.YtkebfabmcajbmaaGreat.Pl
