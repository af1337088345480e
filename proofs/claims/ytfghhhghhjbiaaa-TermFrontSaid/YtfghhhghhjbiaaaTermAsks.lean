/- What the document's Parts, Size, depth, Depth, In and Has of layer 6 answer. -/
import Derived.Test.YtfghhhghhjbiaaaTermPlaces
namespace Go.Proofs.Ytfghhhghhjbiaaa.Pl
open Go.RowKit

theorem tree_of {s : List UInt8} (h : checkP s = 0) : ∃ t : Tm, t.valid ∧ s = t.enc ∧ treeOf s = some t := by
  obtain ⟨t, h1, h2, h3⟩ := treeOf_some h
  exact ⟨t, h1, h2.symm, h3⟩
theorem may_yes {s : ByteArray} (h : checkP (bl s) = 0) : (checkP (bl s) == 0) = true := by rw [h]; rfl
theorem may_no {s : ByteArray} (h : checkP (bl s) ≠ 0) : (checkP (bl s) == 0) = false := by rw [beq_eq_false_iff_ne]; exact h
theorem valid_size {t : Tm} (h : t.valid) {s : ByteArray} (e : bl s = t.enc) : s.size ≤ 16384 := by rw [size_bl, e]; exact h.2.2

/-- Two rows of texts, by their bytes. -/
theorem map_bl_tx (l : List Tm) : (l.map tx).map bl = l.map Tm.enc := by rw [List.map_map]; rfl

set_option maxRecDepth 100000 in
theorem rparts6_any (s : ByteArray) (hs : s.size ≤ 281474976710656) (w : World) :
    Calls Try.prog 14 #[.string s] w fun e w' => ∃ (v : Value) (L : List ByteArray), e = .returned (.tuple #[v, .bool (partsP (bl s)).2]) ∧ OwnT w' w.heap.size v L ∧ L.map bl = (partsP (bl s)).1 ∧ Below w.heap.size w w' := by
  have HM := Lib.hid (rmay_any s hs w)
  by_cases hc : checkP (bl s) = 0
  · rw [may_yes hc] at HM
    obtain ⟨⟨h, l⟩, tv, te, tr⟩ := tree_of hc
    have HP := Lib.hid (fun V => parts_any h l tv s te V)
    have H1 : Hid ((partsP (bl s)).2 = true) := Lib.hid (by unfold partsP; rw [tr])
    have H2 : Hid ((l.map tx).map bl = (partsP (bl s)).1) := Lib.hid (by unfold partsP; rw [tr, map_bl_tx])
    generalize partsP (bl s) = q at *
    obtain ⟨q1, q2⟩ := q
    simp only at H1 H2
    have h1 := H1.out
    subst h1
    generalize l.map tx = L at *
    clear hc tv te tr hs
    go_enter Try.func14, Try.ntmps14
    go_wp2_with fail
    refine HM.out.mono ?_; rintro e w1 ⟨rfl, b1⟩
    have B1 := Lib.hid b1
    clear b1
    go_wp2_with fail
    refine (HP.out w1).mono ?_; rintro e w2 ⟨v, rfl, ho, b2⟩
    have B2 := Lib.hid (below_step B1.out b2)
    have HO : Hid (OwnT w2 w.heap.size v L) := Lib.hid (by
      refine ⟨ho.1, ho.2.elim .inl ?_⟩
      rintro ⟨g, cap, cur, e1, e2, rest⟩
      exact .inr ⟨g, cap, cur, e1, Nat.le_trans B1.out.size e2, rest⟩)
    obtain ⟨ao, cap, rfl, _⟩ := ownT_row HO.out
    clear b2 ho
    go_wp2_with fail
    go_ret2
    exact ⟨_, _, rfl, HO.out, H2.out, B2.out⟩
  · rw [may_no hc] at HM
    have H1 : Hid (partsP (bl s) = ([], false)) := Lib.hid (by unfold partsP; rw [treeOf_none hc])
    clear hc hs
    go_enter Try.func14, Try.ntmps14
    go_wp2_with fail
    refine HM.out.mono ?_; rintro e w1 ⟨rfl, b1⟩
    have B1 := Lib.hid b1
    clear b1
    go_wp2_with fail
    go_ret2
    exact ⟨_, [], by rw [H1.out]; rfl, ownT_nil _ _, by rw [H1.out]; rfl, B1.out⟩

set_option maxRecDepth 100000 in
theorem rsize_any (s : ByteArray) (hs : s.size ≤ 281474976710656) (w : World) :
    Calls Try.prog 23 #[.string s] w fun e w' => e = .returned (.int .i64 (sizeP (bl s))) ∧ Below w.heap.size w w' := by
  have HM := Lib.hid (rmay_any s hs w)
  obtain ⟨z, hz⟩ : ∃ z, z = sizeP (bl s) := ⟨_, rfl⟩
  rw [← hz]
  by_cases hc : checkP (bl s) = 0
  · rw [may_yes hc] at HM
    obtain ⟨t, tv, te, tr⟩ := tree_of hc
    have HP := Lib.hid (fun V => rplaces_any t tv s te V)
    have H1 : Hid (z = (t.places.map tx).length) := Lib.hid (by rw [hz]; unfold sizeP; rw [tr, List.length_map])
    generalize t.places.map tx = L at *
    clear hc tv te tr hs hz
    go_enter Try.func23, Try.ntmps23
    go_wp2_with fail
    refine HM.out.mono ?_; rintro e w1 ⟨rfl, b1⟩
    have B1 := Lib.hid b1
    clear b1
    go_wp2_with fail
    refine (HP.out w1).mono ?_; rintro e w2 ⟨v, rfl, ho, b2⟩
    have B2 := Lib.hid (below_step B1.out b2)
    obtain ⟨ao, cap, rfl, _⟩ := ownT_row ho
    clear b2 ho
    go_wp2_with fail
    go_ret
    exact ⟨by rw [H1.out]; rfl, B2.out⟩
  · rw [may_no hc] at HM
    have H1 : Hid (z = 0) := Lib.hid (by rw [hz]; unfold sizeP; rw [treeOf_none hc])
    clear hc hs hz
    go_enter Try.func23, Try.ntmps23
    go_wp2_with fail
    refine HM.out.mono ?_; rintro e w1 ⟨rfl, b1⟩
    have B1 := Lib.hid b1
    clear b1
    go_wp2_with fail
    go_ret
    exact ⟨by rw [H1.out]; rfl, B1.out⟩

theorem deeps_take (l : List Tm) (k : Nat) (h : k < l.length) : deeps (l.take (k + 1)) = max (deeps (l.take k)) l[k].deep := by
  have ap : ∀ a b : List Tm, deeps (a ++ b) = max (deeps a) (deeps b) := by
    intro a b
    induction a with
    | nil => simp [deeps]
    | cons t a ih => simp only [List.cons_append, deeps, ih]; omega
  rw [List.take_succ_eq_append_getElem h, ap]
  simp [deeps]
set_option maxHeartbeats 4000000 in
set_option maxRecDepth 100000 in
theorem rdepth_any : ∀ T : Tm, T.valid → ∀ (s : ByteArray), bl s = T.enc → ∀ w : World,
    Calls Try.prog 61 #[.string s] w fun e w' => e = .returned (.int .i64 T.deep) ∧ Below w.heap.size w w' := by
  refine Tm.ind ?_
  intro h l ih hv s hs w
  have hl32 : l.length ≤ 32 := by
    have hg := hv.1
    simp only [Tm.good] at hg
    obtain ⟨c, hkd⟩ := head_kind hg.1
    cases hkd <;> omega
  have hd16 : deeps l ≤ 16 := by have := hv.2.1; simp only [Tm.deep] at this; omega
  have HD : Hid (∀ k, k < l.length → (hk : k < l.length) → l[k].deep ≤ 16) := Lib.hid (fun k _ hk => Nat.le_trans (deeps_mem (List.getElem_mem hk)) hd16)
  have HP := Lib.hid (fun V => parts_any h l hv s hs V)
  have IH : Hid (∀ k, (hk : k < l.length) → ∀ V, Calls Try.prog 61 #[.string (tx l[k])] V fun e w' => e = .returned (.int .i64 l[k].deep) ∧ Below V.heap.size V w') := Lib.hid (fun k hk V => ih l[k] (List.getElem_mem hk) (node_valid_parts hv _ (List.getElem_mem hk)) (tx l[k]) rfl V)
  have HZ : Hid ((Tm.node h l).deep = deeps l + 1) := Lib.hid (by simp only [Tm.deep])
  obtain ⟨z, hz⟩ : ∃ z, z = (Tm.node h l).deep := ⟨_, rfl⟩
  rw [← hz] at HZ ⊢
  obtain ⟨n, hn⟩ : ∃ n, n = l.length := ⟨_, rfl⟩
  have HN := Lib.hid hn
  rw [← hn] at hl32
  obtain ⟨P, hP⟩ : ∃ P, P = l.map tx := ⟨_, rfl⟩
  have hPl : P.length = n := by rw [hP, List.length_map, hn]
  have HPE : Hid (∀ k, (hk : k < l.length) → P.getD k ByteArray.empty = tx l[k]) := Lib.hid (fun k hk => by rw [hP]; simp [List.getD_eq_getElem?_getD, hk])
  rw [← hP] at HP
  clear ih hv hs hn hP hz
  go_enter Try.func61, Try.ntmps61
  go_wp2_with fail
  refine (HP.out w).mono ?_; rintro e w1 ⟨v, rfl, ho, b1⟩
  have B1 := Lib.hid b1
  obtain ⟨ao, cap, rfl, hrow⟩ := ownT_row ho
  have R1 := Lib.hid hrow
  rw [hPl]
  clear b1 ho hrow
  go_wp2_with fail
  go_loopw [3, 5] (fun mv iv wr => ∃ k m : Nat, iv = .int .i64 k ∧ mv = .int .i64 m ∧ k ≤ n ∧ m ≤ 16 ∧ Hid (m = deeps (l.take k)) ∧ Hid (TxtRow wr ao P) ∧ Hid (Below w.heap.size w wr)) (fun _ iv _ => n - (intOf iv).toNat)
  case atStart => exact ⟨0, 0, rfl, rfl, Nat.zero_le _, Nat.zero_le _, Lib.hid (by simp [deeps]), R1, B1⟩
  case round =>
    obtain ⟨k, m, rfl, rfl, hkn, hm, hme, hrow, hb⟩ := hrel
    by_cases hk : k < n
    · have hk' : (k : Int) < (n : Int) := by omega
      have hkl : k < l.length := by rw [← HN.out]; exact hk
      rcases hrow.out with e | ⟨b, off, rfl, hlt, hc⟩
      · exfalso; rw [e] at hPl; simp at hPl; omega
      have ck := hc k (by omega)
      rw [HPE.out k hkl] at ck
      have HC := Lib.hid (IH.out k hkl wr)
      have hd := HD.out k hkl hkl
      have HMX : Hid (max m l[k].deep = deeps (l.take (k + 1))) := Lib.hid (by rw [deeps_take l k hkl, hme.out])
      generalize l[k].deep = d at *
      generalize tx l[k] = y at *
      clear hc
      go_wp2_with fail
      refine HC.out.mono ?_; rintro e w2 ⟨rfl, b2⟩
      have B2 := Lib.hid (below_step hb.out b2)
      have R2 := Lib.hid (hrow.out.below b2)
      clear b2
      go_wp2_with fail
      go_roundw
      case rel => exact ⟨k + 1, max m d, by go_num, by first | rfl | (simp; omega) | skip, by omega, by omega, HMX, R2, B2⟩
      case measure => simp [intOf]; omega
    · obtain rfl : k = n := by omega
      have HE : Hid (z = m + 1) := Lib.hid (by rw [HZ.out, hme.out, List.take_of_length_le (by have := HN.out; omega)])
      clear hk hkn
      go_wp2_with fail
      go_ret
      exact ⟨by rw [HE.out]; simp, hb.out⟩

set_option maxRecDepth 100000 in
theorem rdepth6_any (s : ByteArray) (hs : s.size ≤ 281474976710656) (w : World) :
    Calls Try.prog 25 #[.string s] w fun e w' => e = .returned (.int .i64 (depthP (bl s))) ∧ Below w.heap.size w w' := by
  have HM := Lib.hid (rmay_any s hs w)
  obtain ⟨z, hz⟩ : ∃ z, z = depthP (bl s) := ⟨_, rfl⟩
  rw [← hz]
  by_cases hc : checkP (bl s) = 0
  · rw [may_yes hc] at HM
    obtain ⟨t, tv, te, tr⟩ := tree_of hc
    have HP := Lib.hid (fun V => rdepth_any t tv s te V)
    have H1 : Hid (z = t.deep) := Lib.hid (by rw [hz]; unfold depthP; rw [tr])
    generalize t.deep = d at *
    clear hc tv te tr hs hz
    go_enter Try.func25, Try.ntmps25
    go_wp2_with fail
    refine HM.out.mono ?_; rintro e w1 ⟨rfl, b1⟩
    have B1 := Lib.hid b1
    clear b1
    go_wp2_with fail
    refine (HP.out w1).mono ?_; rintro e w2 ⟨rfl, b2⟩
    have B2 := Lib.hid (below_step B1.out b2)
    clear b2
    go_wp2_with fail
    go_ret
    exact ⟨by rw [H1.out]; rfl, B2.out⟩
  · rw [may_no hc] at HM
    have H1 : Hid (z = 0) := Lib.hid (by rw [hz]; unfold depthP; rw [treeOf_none hc])
    clear hc hs hz
    go_enter Try.func25, Try.ntmps25
    go_wp2_with fail
    refine HM.out.mono ?_; rintro e w1 ⟨rfl, b1⟩
    have B1 := Lib.hid b1
    clear b1
    go_wp2_with fail
    go_ret
    exact ⟨by rw [H1.out]; rfl, B1.out⟩

set_option maxHeartbeats 1000000 in
set_option maxRecDepth 100000 in
theorem rin_any (l : List ByteArray) (ao : Option Addr) (cap : Nat) (hl : l.length ≤ 281474976710656) (s : ByteArray) (w : World) (hrow : TxtRow w ao l) (r : Bool) (hr : r = true ↔ s ∈ l) :
    Calls Try.prog 76 #[.slice ao l.length cap, .string s] w fun e w' => e = .returned (.bool r) ∧ Below w.heap.size w w' := by
  have HROW := Lib.hid hrow
  have HIN : Hid (∀ k, k < l.length → l.getD k ByteArray.empty = s → r = true) := Lib.hid (fun k hk e => hr.2 (by rw [← e]; exact getD_mem6 l k hk))
  have HNO : Hid ((∀ k, k < l.length → l.getD k ByteArray.empty ≠ s) → r = false) := Lib.hid (fun h => by
    cases e : r with
    | false => rfl
    | true =>
      obtain ⟨k, hk, e2⟩ := mem_getD6 (hr.1 e)
      exact absurd e2 (h k hk))
  obtain ⟨n, hn⟩ : ∃ n, n = l.length := ⟨_, rfl⟩
  have HN := Lib.hid hn
  rw [← hn] at hl ⊢
  clear hrow hr hn
  go_enter Try.func76, Try.ntmps76
  go_wp2_with fail
  go_loopw [5] (fun iv wr => ∃ k : Nat, iv = .int .i64 k ∧ k ≤ n ∧ Hid (∀ j, j < k → l.getD j ByteArray.empty ≠ s) ∧ Hid (Below w.heap.size w wr)) (fun iv _ => n - (intOf iv).toNat)
  case atStart => exact ⟨0, rfl, Nat.zero_le _, Lib.hid (fun j hj => absurd hj (Nat.not_lt_zero j)), Lib.hid (Below.refl _ _)⟩
  case round =>
    obtain ⟨k, rfl, hkn, hch, hb⟩ := hrel
    by_cases hk : k < n
    · have hk' : (k : Int) < (n : Int) := by omega
      rcases HROW.out.below hb.out with e | ⟨b, off, rfl, hlt, hc⟩
      · exfalso; have := HN.out; rw [e] at this; simp at this; omega
      have ck := hc k (by have := HN.out; omega)
      have HK := Lib.hid (HIN.out k (by have := HN.out; omega))
      have HX : Hid (l.getD k ByteArray.empty ≠ s → ∀ j, j < k + 1 → l.getD j ByteArray.empty ≠ s) := Lib.hid (fun h j hj => by
        by_cases e : j = k
        · rw [e]; exact h
        · exact hch.out j (by omega))
      generalize l.getD k ByteArray.empty = y at *
      clear hc hlt
      by_cases e : y = s
      · have HQ := Lib.hid (HK.out e)
        subst e
        go_wp2_with fail
        go_ret
        exact ⟨ret6_bool HQ.out.symm, hb.out⟩
      · obtain ⟨g1, g2⟩ := str6_ne e
        have HQ := Lib.hid (HX.out e)
        clear e
        go_wp2_with fail
        go_roundw
        case rel => exact ⟨k + 1, by go_num, by omega, HQ, hb⟩
        case measure => simp [intOf]; omega
    · obtain rfl : k = n := by omega
      have HQ := Lib.hid (HNO.out (fun j hj => hch.out j (by have := HN.out; omega)))
      clear hk hkn
      go_wp2_with fail
      go_ret
      exact ⟨ret6_bool HQ.out.symm, hb.out⟩
theorem hasP_places {s f : List UInt8} {t u : Tm} (hs : treeOf s = some t) (hf : treeOf f = some u) : hasP s f = true ↔ f ∈ t.places.map Tm.enc := by
  unfold hasP placesP
  rw [hs, hf]
  simp only [decide_eq_true_iff]
set_option maxRecDepth 100000 in
theorem rhas_any (s f : ByteArray) (hs : s.size ≤ 281474976710656) (hf : f.size ≤ 281474976710656) (w : World) :
    Calls Try.prog 45 #[.string s, .string f] w fun e w' => e = .returned (.bool (hasP (bl s) (bl f))) ∧ Below w.heap.size w w' := by
  have HM := Lib.hid (rmay_any s hs w)
  have HF := Lib.hid (fun V => rmay_any f hf V)
  obtain ⟨z, hz⟩ : ∃ z, z = hasP (bl s) (bl f) := ⟨_, rfl⟩
  rw [← hz]
  by_cases hc : checkP (bl s) = 0
  · rw [may_yes hc] at HM
    obtain ⟨t, tv, te, tr⟩ := tree_of hc
    by_cases hcf : checkP (bl f) = 0
    · rw [may_yes hcf] at HF
      obtain ⟨u, uv, ue, ur⟩ := tree_of hcf
      have HP := Lib.hid (fun V => rplaces_any t tv s te V)
      have hlen : (t.places.map tx).length ≤ 281474976710656 := by
        rw [List.length_map]
        have h1 := places_count t tv.1
        have h2 := tv.2.2
        omega
      have hmem : z = true ↔ f ∈ t.places.map tx := by
        rw [hz, hasP_places tr ur, ← map_bl_tx, List.mem_map]
        constructor
        · rintro ⟨x, hx, e⟩
          rw [← bl_inj e]; exact hx
        · intro h
          exact ⟨f, h, rfl⟩
      have HI := Lib.hid (fun ao cap V hV => rin_any (t.places.map tx) ao cap hlen f V hV z hmem)
      generalize t.places.map tx = L at *
      clear hc tv te tr hcf uv ue ur hs hf hz hlen hmem
      go_enter Try.func45, Try.ntmps45
      go_wp2_with fail
      refine HM.out.mono ?_; rintro e w1 ⟨rfl, b1⟩
      have B1 := Lib.hid b1
      clear b1
      go_wp2_with fail
      refine (HF.out w1).mono ?_; rintro e w2 ⟨rfl, b2⟩
      have B2 := Lib.hid (below_step B1.out b2)
      clear b2
      go_wp2_with fail
      refine (HP.out w2).mono ?_; rintro e w3 ⟨v, rfl, ho, b3⟩
      have B3 := Lib.hid (below_step B2.out b3)
      obtain ⟨ao, cap, rfl, hrow⟩ := ownT_row ho
      have R3 := Lib.hid hrow
      clear b3 ho hrow
      go_wp2_with fail
      refine (HI.out ao cap w3 R3.out).mono ?_; rintro e w4 ⟨rfl, b4⟩
      have B4 := Lib.hid (below_step B3.out b4)
      clear b4
      go_wp2_with fail
      go_ret
      exact ⟨rfl, B4.out⟩
    · rw [may_no hcf] at HF
      have H1 : Hid (z = false) := Lib.hid (by rw [hz]; unfold hasP; rw [treeOf_none hcf, tr])
      clear hc tv te tr hcf hs hf hz
      go_enter Try.func45, Try.ntmps45
      go_wp2_with fail
      refine HM.out.mono ?_; rintro e w1 ⟨rfl, b1⟩
      have B1 := Lib.hid b1
      clear b1
      go_wp2_with fail
      refine (HF.out w1).mono ?_; rintro e w2 ⟨rfl, b2⟩
      have B2 := Lib.hid (below_step B1.out b2)
      clear b2
      go_wp2_with fail
      go_ret
      exact ⟨ret6_bool H1.out.symm, B2.out⟩
  · rw [may_no hc] at HM
    have H1 : Hid (z = false) := Lib.hid (by rw [hz]; unfold hasP; rw [treeOf_none hc])
    clear hc hs hf hz
    go_enter Try.func45, Try.ntmps45
    go_wp2_with fail
    refine HM.out.mono ?_; rintro e w1 ⟨rfl, b1⟩
    have B1 := Lib.hid b1
    clear b1
    go_wp2_with fail
    go_ret
    exact ⟨ret6_bool H1.out.symm, B1.out⟩
end Go.Proofs.Ytfghhhghhjbiaaa.Pl
