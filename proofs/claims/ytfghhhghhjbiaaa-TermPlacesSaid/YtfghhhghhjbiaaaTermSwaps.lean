/- What the document's swap and Swap of layer 6 answer: swap calls itself, and stops where the text is too long. -/
import Derived.Test.YtfghhhghhjbiaaaTermAsks
namespace Go.Proofs.Ytfghhhghhjbiaaa.Pl
open Go.RowKit

theorem tslice_to (x : ByteArray) (m : Nat) (h : m ≤ x.size) (V : World) : (Instr.sliceAt 9 (.string x) none (some (.int .i64 (m : Int))) none).run Try.prog V = .ok (.string (x.extract 0 m)) V := by
  have h0 : (0 : Int) ≤ (m : Int) := by omega
  have h1 : (m : Int) ≤ (x.size : Int) := by omega
  go_simp
/-- The text x is this term's bytes, or both are too long. -/
def AsFar (x : ByteArray) (t : Tm) : Prop := (x.size ≤ 16384 ∧ bl x = t.enc) ∨ (16384 < x.size ∧ 16384 < t.enc.length)
theorem encs_mem_le {l : List Tm} {t : Tm} (h : t ∈ l) (hd : List UInt8) : t.enc.length ≤ (Tm.node hd l).enc.length := by
  have := enc_mem h
  rw [Tm.enc_node, List.length_append]; omega
theorem encs_take_le (l : List Tm) (k : Nat) (hd : List UInt8) : (hd ++ encs (l.take k)).length ≤ (Tm.node hd l).enc.length := by
  have e : encs l = encs (l.take k) ++ encs (l.drop k) := by rw [← encs_append, List.take_append_drop]
  rw [Tm.enc_node, e]
  simp only [List.length_append]; omega

set_option maxHeartbeats 4000000 in
set_option maxRecDepth 100000 in
theorem rswap_any (f u : ByteArray) (U : Tm) (hU : U.valid) (hu : bl u = U.enc) : ∀ T : Tm, T.valid → ∀ (s : ByteArray), bl s = T.enc → ∀ w : World,
    Calls Try.prog 75 #[.string s, .string f, .string u] w fun e w' => ∃ x : ByteArray, e = .returned (.string x) ∧ x.size ≤ 16384 * (T.deep + 1) ∧ AsFar x (T.swap (bl f) U) ∧ Below w.heap.size w w' := by
  refine Tm.ind ?_
  intro h l ih hv s hs w
  by_cases hsf : s = f
  · have H1 : Hid ((Tm.node h l).swap (bl f) U = U) := Lib.hid (by rw [Tm.swap_node, if_pos (by rw [← hs, hsf])])
    have H2 : Hid (u.size ≤ 16384 ∧ bl u = U.enc) := Lib.hid ⟨valid_size hU hu, hu⟩
    subst hsf
    clear hs hv ih hU hu
    go_enter Try.func75, Try.ntmps75
    go_wp2_with fail
    go_ret
    exact ⟨u, rfl, by have := H2.out.1; omega, .inl (by rw [H1.out]; exact H2.out), Below.refl _ _⟩
  · obtain ⟨g1, g2⟩ := str6_ne hsf
    have hg := hv.1
    simp only [Tm.good] at hg
    have hl32 : l.length ≤ 32 := by
      obtain ⟨c, hkd⟩ := head_kind hg.1
      cases hkd <;> omega
    have hd16 := hv.2.1
    have hbl : bl s = h ++ encs l := by rw [hs, Tm.enc_node]
    have hhead : headP (bl s) = (h.length, l.length, 0) := by rw [hbl]; exact hg.1 _
    have hsz := valid_size hv hs
    have hhs : h.length ≤ s.size := by
      have h2 := congrArg List.length hbl
      rw [bl_length, List.length_append] at h2
      omega
    have HH := Lib.hid (fun V => rhead_any s (by omega) V)
    rw [hhead] at HH
    have sl : ∀ V : World, (Instr.sliceAt 9 (.string s) none (some (.int .i64 ((h.length : Nat) : Int))) none).run Try.prog V = .ok (.string (s.extract 0 h.length)) V := tslice_to s h.length hhs
    have hx0 : bl (s.extract 0 h.length) = h := by rw [bl_extract, hbl, List.take_left, List.drop_zero]
    have hx0s : (s.extract 0 h.length).size ≤ 16384 := by rw [size_bl, hx0]; omega
    generalize s.extract 0 h.length = x0 at *
    have HP := Lib.hid (fun V => parts_any h l hv s hs V)
    have IH : Hid (∀ k, (hk : k < l.length) → ∀ V, Calls Try.prog 75 #[.string (tx l[k]), .string f, .string u] V fun e w' => ∃ x : ByteArray, e = .returned (.string x) ∧ x.size ≤ 16384 * (l[k].deep + 1) ∧ AsFar x (l[k].swap (bl f) U) ∧ Below V.heap.size V w') := Lib.hid (fun k hk V => ih l[k] (List.getElem_mem hk) (node_valid_parts hv _ (List.getElem_mem hk)) (tx l[k]) rfl V)
    have HD : Hid (∀ k, (hk : k < l.length) → l[k].deep + 1 ≤ (Tm.node h l).deep) := Lib.hid (fun k hk => by
      have := deeps_mem (List.getElem_mem hk)
      simp only [Tm.deep]; omega)
    obtain ⟨D, hD⟩ : ∃ D, D = (Tm.node h l).deep := ⟨_, rfl⟩
    rw [← hD] at HD hd16 ⊢
    obtain ⟨SW, hSW⟩ : ∃ SW, SW = l.map fun t => t.swap (bl f) U := ⟨_, rfl⟩
    have hT : (Tm.node h l).swap (bl f) U = .node h SW := by rw [Tm.swap_node, if_neg (fun e => hsf (bl_inj (by rw [hs, e]))), hSW]
    rw [hT]
    have HSW : Hid (∀ k, (hk : k < l.length) → encs (SW.take (k + 1)) = encs (SW.take k) ++ (l[k].swap (bl f) U).enc ∧ (l[k].swap (bl f) U).enc.length ≤ (Tm.node h SW).enc.length) := Lib.hid (fun k hk => by
      have hk2 : k < SW.length := by rw [hSW, List.length_map]; exact hk
      have e : SW[k] = l[k].swap (bl f) U := by simp [hSW]
      refine ⟨by rw [List.take_succ_eq_append_getElem hk2, encs_append, encs_one, e], ?_⟩
      rw [← e]
      exact encs_mem_le (List.getElem_mem hk2) h)
    have HLE := Lib.hid (fun k => encs_take_le SW k h)
    obtain ⟨n, hn⟩ : ∃ n, n = l.length := ⟨_, rfl⟩
    have HN := Lib.hid hn
    have HSL : Hid (SW.length = n) := Lib.hid (by rw [hSW, List.length_map, hn])
    rw [← hn] at HH hl32
    obtain ⟨P, hP⟩ : ∃ P, P = l.map tx := ⟨_, rfl⟩
    have hPl : P.length = n := by rw [hP, List.length_map, hn]
    have HPE : Hid (∀ k, (hk : k < l.length) → P.getD k ByteArray.empty = tx l[k]) := Lib.hid (fun k hk => by rw [hP]; simp [List.getD_eq_getElem?_getD, hk])
    rw [← hP] at HP
    have HX0 := Lib.hid hx0
    obtain ⟨hl, hhl⟩ : ∃ q, q = h.length := ⟨_, rfl⟩
    rw [← hhl] at HH sl
    clear ih hv hs hsf hg hbl hhead hhs hx0 hD hSW hT hn hP hhl hU hu
    go_enter Try.func75, Try.ntmps75
    go_wp2_with fail
    refine (HH.out w).mono ?_; rintro e w0 ⟨rfl, b0⟩
    have B0 := Lib.hid b0
    clear b0
    unfold hd3
    go_wp2_with fail
    refine (HP.out w0).mono ?_; rintro e w1 ⟨v, rfl, ho, b1⟩
    have B1 := Lib.hid (below_step B0.out b1)
    obtain ⟨ao, cap, rfl, hrow⟩ := ownT_row ho
    have R1 := Lib.hid hrow
    rw [hPl]
    clear b1 ho hrow
    go_wp2_with fail
    go_loopw [10, 12] (fun sv iv wr => ∃ (k : Nat) (t : ByteArray), sv = .string t ∧ iv = .int .i64 k ∧ k ≤ n ∧ t.size ≤ 16384 * (D + 1) ∧ Hid (bl t = h ++ encs (SW.take k) ∨ (16384 < t.size ∧ 16384 < (Tm.node h SW).enc.length)) ∧ Hid (TxtRow wr ao P) ∧ Hid (Below w.heap.size w wr)) (fun _ iv _ => n - (intOf iv).toNat)
    case atStart => exact ⟨0, x0, rfl, rfl, Nat.zero_le _, by omega, Lib.hid (.inl (by rw [HX0.out]; simp [encs])), R1, B1⟩
    case round =>
      obtain ⟨k, t, rfl, rfl, hkn, hts, ht, hrow, hb⟩ := hrel
      by_cases hk : k < n
      · have hk' : (k : Int) < (n : Int) := by omega
        by_cases hsz2 : t.size ≤ 16384
        · have hsz' : (t.size : Int) ≤ 16384 := by omega
          have hte : bl t = h ++ encs (SW.take k) := ht.out.elim id (fun e => absurd e.1 (by omega))
          have hkl : k < l.length := by rw [← HN.out]; exact hk
          rcases hrow.out with e | ⟨b, off, rfl, hlt, hc⟩
          · exfalso; rw [e] at hPl; simp at hPl; omega
          have ck := hc k (by omega)
          rw [HPE.out k hkl] at ck
          have HC := Lib.hid (IH.out k hkl wr)
          have HDK := Lib.hid (HD.out k hkl)
          have HS := Lib.hid (HSW.out k hkl)
          have HTE := Lib.hid hte
          generalize l[k].swap (bl f) U = q at *
          generalize tx l[k] = y at *
          generalize l[k].deep = d at *
          clear hc hte ht
          go_wp2_with fail
          refine HC.out.mono ?_; rintro e w2 ⟨x, rfl, hxs, hxa, b2⟩
          have hxd : x.size ≤ 16384 * D := Nat.le_trans hxs (Nat.mul_le_mul_left _ HDK.out)
          have hDm : 16384 * D ≤ 278528 := by omega
          have hmul : 16384 * (D + 1) = 16384 * D + 16384 := by omega
          have hcat : t.size + x.size ≤ 9223372036854775807 := by omega
          have B2 := Lib.hid (below_step hb.out b2)
          have R2 := Lib.hid (hrow.out.below b2)
          have HNEW : Hid ((t ++ x).size ≤ 16384 * (D + 1) ∧ (bl (t ++ x) = h ++ encs (SW.take (k + 1)) ∨ (16384 < (t ++ x).size ∧ 16384 < (Tm.node h SW).enc.length))) := Lib.hid (by
            refine ⟨by rw [ByteArray.size_append]; omega, ?_⟩
            rcases hxa with ⟨_, e⟩ | ⟨e1, e2⟩
            · exact .inl (by rw [cat_bytes, HTE.out, e, HS.out.1, List.append_assoc])
            · exact .inr ⟨by rw [ByteArray.size_append]; omega, by have := HS.out.2; omega⟩)
          clear b2 hxs hxa hxd hDm hmul
          go_wp2_with fail
          go_roundw
          case rel => exact ⟨k + 1, t ++ x, rfl, by go_num, by omega, HNEW.out.1, Lib.hid HNEW.out.2, R2, B2⟩
          case measure => simp [intOf]; omega
        · have hsz' : decide ((t.size : Int) ≤ 16384) = false := decide_eq_false (by omega)
          have HQ : Hid (AsFar t (Tm.node h SW)) := Lib.hid (.inr ⟨by omega, ht.out.elim (fun e => by
            have h1 := HLE.out k
            rw [← e, bl_length] at h1
            omega) (·.2)⟩)
          have HTS := Lib.hid hts
          clear hsz2 ht
          go_wp2_with fail
          go_ret
          exact ⟨t, rfl, HTS.out, HQ.out, hb.out⟩
      · obtain rfl : k = n := by omega
        have HQ : Hid (AsFar t (Tm.node h SW)) := Lib.hid (by
          rcases ht.out with e | e
          · rw [List.take_of_length_le (by rw [HSL.out]; exact Nat.le_refl _), ← Tm.enc_node] at e
            by_cases h1 : t.size ≤ 16384
            · exact .inl ⟨h1, e⟩
            · exact .inr ⟨by omega, by rw [← e, bl_length]; omega⟩
          · exact .inr e)
        have HTS := Lib.hid hts
        clear hk hkn ht
        go_wp2_with fail
        go_ret
        exact ⟨t, rfl, HTS.out, HQ.out, hb.out⟩

set_option maxHeartbeats 1000000 in
set_option maxRecDepth 100000 in
theorem rswap6_any (s f u : ByteArray) (hs : s.size ≤ 281474976710656) (hf : f.size ≤ 281474976710656) (hu : u.size ≤ 281474976710656) (w : World) :
    Calls Try.prog 43 #[.string s, .string f, .string u] w fun e w' => e = .returned (st2 (swapP (bl s) (bl f) (bl u))) ∧ Below w.heap.size w w' := by
  have HM := Lib.hid (rmay_any s hs w)
  have HF := Lib.hid (fun V => rmay_any f hf V)
  have HU := Lib.hid (fun V => rmay_any u hu V)
  obtain ⟨z, hz⟩ : ∃ z, z = swapP (bl s) (bl f) (bl u) := ⟨_, rfl⟩
  rw [← hz]
  unfold swapP at hz
  by_cases hc : checkP (bl s) = 0
  · rw [may_yes hc] at HM
    obtain ⟨t, tv, te, tr⟩ := tree_of hc
    by_cases hcf : checkP (bl f) = 0
    · rw [may_yes hcf] at HF
      obtain ⟨F, fv, fe, fr⟩ := tree_of hcf
      by_cases hcu : checkP (bl u) = 0
      · rw [may_yes hcu] at HU
        obtain ⟨U, uv, ue, ur⟩ := tree_of hcu
        have HS := Lib.hid (fun V => rswap_any f u U uv ue t tv s te V)
        rw [tr, fr, ur] at hz
        simp only at hz
        have HZ := Lib.hid hz
        have HD := Lib.hid tv.2.1
        generalize t.swap (bl f) U = q at *
        generalize t.deep = d at *
        clear hc tv te tr hcf fv fe fr hcu uv ue ur hs hf hu hz
        go_enter Try.func43, Try.ntmps43
        go_wp2_with fail
        refine HM.out.mono ?_; rintro e w1 ⟨rfl, b1⟩
        have B1 := Lib.hid b1
        clear b1
        go_wp2_with fail
        refine (HF.out w1).mono ?_; rintro e w2 ⟨rfl, b2⟩
        have B2 := Lib.hid (below_step B1.out b2)
        clear b2
        go_wp2_with fail
        refine (HU.out w2).mono ?_; rintro e w3 ⟨rfl, b3⟩
        have B3 := Lib.hid (below_step B2.out b3)
        clear b3
        go_wp2_with fail
        refine (HS.out w3).mono ?_; rintro e w4 ⟨x, rfl, hxs, hxa, b4⟩
        have B4 := Lib.hid (below_step B3.out b4)
        have HX := Lib.hid (rmay_any x (Nat.le_trans hxs (by have := HD.out; omega)) w4)
        have HA := Lib.hid hxa
        clear b4 hxs hxa
        by_cases hcx : checkP (bl x) = 0
        · rw [may_yes hcx] at HX
          have HQ : Hid (z = (bl x, 0)) := Lib.hid (by
            rcases HA.out with ⟨_, e⟩ | ⟨e, _⟩
            · rw [HZ.out, ← e, if_pos hcx]
            · have := check_len hcx
              rw [bl_length] at this
              omega)
          clear hcx
          go_wp2_with fail
          refine HX.out.mono ?_; rintro e w5 ⟨rfl, b5⟩
          have B5 := Lib.hid (below_step B4.out b5)
          clear b5
          go_wp2_with fail
          go_ret2
          exact ⟨by rw [HQ.out, st2, ← bl_eq]; rfl, B5.out⟩
        · rw [may_no hcx] at HX
          have HQ : Hid (z = ([], 5)) := Lib.hid (by
            rcases HA.out with ⟨_, e⟩ | ⟨_, e⟩
            · rw [HZ.out, ← e, if_neg hcx]
            · rw [HZ.out, if_neg (fun h => by have := check_len h; omega)])
          clear hcx
          go_wp2_with fail
          refine HX.out.mono ?_; rintro e w5 ⟨rfl, b5⟩
          have B5 := Lib.hid (below_step B4.out b5)
          clear b5
          go_wp2_with fail
          go_ret2
          exact ⟨by rw [HQ.out]; rfl, B5.out⟩
      · rw [may_no hcu] at HU
        have H1 : Hid (z = ([], 2)) := Lib.hid (by rw [hz, tr, fr, treeOf_none hcu])
        clear hc tv te tr hcf fv fe fr hcu hs hf hu hz
        go_enter Try.func43, Try.ntmps43
        go_wp2_with fail
        refine HM.out.mono ?_; rintro e w1 ⟨rfl, b1⟩
        have B1 := Lib.hid b1
        clear b1
        go_wp2_with fail
        refine (HF.out w1).mono ?_; rintro e w2 ⟨rfl, b2⟩
        have B2 := Lib.hid (below_step B1.out b2)
        clear b2
        go_wp2_with fail
        refine (HU.out w2).mono ?_; rintro e w3 ⟨rfl, b3⟩
        have B3 := Lib.hid (below_step B2.out b3)
        clear b3
        go_wp2_with fail
        go_ret2
        exact ⟨by rw [H1.out]; rfl, B3.out⟩
    · rw [may_no hcf] at HF
      have H1 : Hid (z = ([], 2)) := Lib.hid (by rw [hz, tr, treeOf_none hcf])
      clear hc tv te tr hcf hs hf hu hz
      go_enter Try.func43, Try.ntmps43
      go_wp2_with fail
      refine HM.out.mono ?_; rintro e w1 ⟨rfl, b1⟩
      have B1 := Lib.hid b1
      clear b1
      go_wp2_with fail
      refine (HF.out w1).mono ?_; rintro e w2 ⟨rfl, b2⟩
      have B2 := Lib.hid (below_step B1.out b2)
      clear b2
      go_wp2_with fail
      go_ret2
      exact ⟨by rw [H1.out]; rfl, B2.out⟩
  · rw [may_no hc] at HM
    have H1 : Hid (z = ([], 2)) := Lib.hid (by rw [hz, treeOf_none hc])
    clear hc hs hf hu hz
    go_enter Try.func43, Try.ntmps43
    go_wp2_with fail
    refine HM.out.mono ?_; rintro e w1 ⟨rfl, b1⟩
    have B1 := Lib.hid b1
    clear b1
    go_wp2_with fail
    go_ret2
    exact ⟨by rw [H1.out]; rfl, B1.out⟩
end Go.Proofs.Ytfghhhghhjbiaaa.Pl
