/- The statement KnowTells, walked. Leans on the program's own contracts of know. -/
import Derived.Test.YtkebfabmcajbmaaGreatKnowTri
import Derived.Test.YtkebfabmcajbmaaGreatKnowCut
import Derived.Test.YtkebfabmcajbmaaGreatKnowAlive
import Derived.Test.YtkebfabmcajbmaaGreatKnowCopy
namespace Go.Proofs.YtkebfabmcajbmaaGreat.Pl
open Go.RowKit

theorem keep10 {B W W' : World} {r g o : Nat} {u : Value} {x : ByteArray} (h : W.cell? ⟨r, 0, none⟩ = some u ∧ W.cell? ⟨g, o, none⟩ = some (.string x) ∧ Hid (Below B.heap.size B W)) (hb : Below W.heap.size W W') :
    W'.cell? ⟨r, 0, none⟩ = some u ∧ W'.cell? ⟨g, o, none⟩ = some (.string x) ∧ Hid (Below B.heap.size B W') :=
  ⟨(hb.cell (p := ⟨r, 0, none⟩) (World.block_lt_of_cell? _ _ h.1)).trans h.1, (hb.cell (p := ⟨g, o, none⟩) (World.block_lt_of_cell? _ _ h.2.1)).trans h.2.1, Lib.hid (below_step h.2.2.out hb)⟩
theorem isK_nil : IsK [] [] := ⟨List.nodup_nil, fun s => ⟨fun h => (by cases h), fun h => by
  have := known_cover h
  unfold coverP at this
  simp at this⟩⟩
theorem ref_new (w : World) : RefAt (w.alloc (.cells #[.slice none 0 0] 34)) (fun b => b = w.heap.size) w.heap.size [] :=
  ⟨[], none, 0, Go.heap_alloc_new w _, .inl rfl, fun _ => rfl, by simp, by simpa using isK_nil, rfl, fun b off e => by cases e⟩
theorem tri_new {S : Nat} {w : World} {F : Nat → Prop} {p : Nat} (h : KnowAt w F p []) (hF : ∀ b, F b → S ≤ b) (hS : S ≤ w.heap.size) : Tri S (w.alloc (.cells #[.slice none 0 0] 34)) F (fun b => b = w.heap.size) p w.heap.size [] [] := by
  have hb : Below w.heap.size w (w.alloc (.cells #[.slice none 0 0] 34)) := (Below.refl w.heap.size w).alloc (Nat.le_refl _) _
  refine ⟨h.kept hb.size (fun b hlt _ => hb.block b hlt), ref_new w, fun b hf e => ?_, hF, fun b e => by omega, fun b e => ?_⟩
  · have := h.foot b hf
    omega
  · rw [e]
    simp
set_option maxHeartbeats 8000000 in
set_option maxRecDepth 100000 in
theorem knowtells_any (l : List ByteArray) (ao : Option Addr) (cap tn : Nat) (t : ByteArray) (htn : tn < 256) (w : World) (hrow : TxtRow w ao l) (hM : MX w) :
    Calls Tryz.prog 3 #[.slice ao l.length cap, .string t, .int .u8 tn] w fun e w' => e = .returned (.bool true) ∧ Below w.heap.size w w' := by
  have HL1 := Lib.hid (long10_any l ao cap w hrow)
  have HAL : Hid (∀ V, Below w.heap.size w V → Calls Tryz.prog 5 #[] V fun e w' => e = .returned (.bool true) ∧ Below V.heap.size V w') := Lib.hid (fun V hV => alive10_any V (hM.step hV))
  have HMX : Hid (∀ V, Below w.heap.size w V → MX V) := Lib.hid (fun V hV => hM.step hV)
  clear hM
  cases h1 : longB l with
  | true =>
    rw [h1] at HL1
    generalize l.length = z at *
    clear hrow h1
    go_enter Tryz.func3, Tryz.ntmps3
    go_wp2_with fail
    refine HL1.out.mono ?_; rintro e _ ⟨rfl, rfl⟩
    go_wp2_with fail
    refine (HAL.out _ (Below.refl _ _)).mono ?_; rintro e w2 ⟨rfl, b2⟩
    go_wp2_with fail
    go_ret
    exact ⟨rfl, b2⟩
  | false =>
  by_cases h3 : 6000 < t.size
  · have h3' : (6000 : Int) < (t.size : Int) := by omega
    rw [h1] at HL1
    generalize l.length = z at *
    clear hrow h1
    go_enter Tryz.func3, Tryz.ntmps3
    go_wp2_with fail
    refine HL1.out.mono ?_; rintro e _ ⟨rfl, rfl⟩
    go_wp2_with fail
    refine (HAL.out _ (Below.refl _ _)).mono ?_; rintro e w2 ⟨rfl, b2⟩
    go_wp2_with fail
    go_ret
    exact ⟨rfl, b2⟩
  have h3' : ¬ (6000 : Int) < (t.size : Int) := by omega
  obtain ⟨hl40, hlB⟩ := long_no h1
  rw [h1] at HL1
  have HROW : Hid (∀ V, Below w.heap.size w V → TxtRow V ao l) := Lib.hid (fun V hV => hrow.below hV)
  obtain ⟨a, ha⟩ : ∃ a, a = tn % (l.length + 1) := ⟨_, rfl⟩
  have HLB := Lib.hid hlB
  have HLSZ : Hid (∀ k, (hk : k < l.length) → l[k].size ≤ 6000) := Lib.hid (fun k hk => long_each hlB k hk)
  have HCNT : Hid (∀ k, cntP (learns [] ((l.map bl).take k)) ≤ 2000) := Lib.hid (fun k => seen_cnt (Nat.le_trans (sum_front _ k) hlB))
  have HTS : Hid (t.size ≤ 6000) := Lib.hid (by omega)
  obtain ⟨z, hz⟩ : ∃ z, z = l.length := ⟨_, rfl⟩
  have HZ := Lib.hid hz
  rw [← hz] at HL1
  have hmod : Int.tmod (tn : Int) ((z : Int) + 1) = (a : Int) := by rw [Int.tmod_eq_emod_of_nonneg (by omega), ha, hz]; exact (Int.natCast_emod tn (l.length + 1)).symm
  rw [← hz]
  have hz40 : z ≤ 40 := by omega
  clear hrow ha h1 h3 hl40 hlB hz
  go_enter Tryz.func3, Tryz.ntmps3
  go_wp2_with fail
  refine HL1.out.mono ?_; rintro e _ ⟨rfl, rfl⟩
  go_wp2_with fail
  refine (know_nil_learn t _).mono ?_; rintro e wa ⟨rfl, ba⟩
  have Ba := Lib.hid ba
  clear ba
  go_wp2_with fail
  refine (know_nil_can t _).mono ?_; rintro e wb ⟨rfl, bb⟩
  have Bb := Lib.hid (below_step Ba.out bb)
  clear bb Ba
  go_wp2_with fail
  refine (know_nil_list _).mono ?_; rintro e wc ⟨rfl, bc⟩
  have Bc := Lib.hid (below_step Bb.out bc)
  clear bc Bb
  go_wp2_with fail
  refine (know_nil_len _).mono ?_; rintro e wd ⟨rfl, bd⟩
  have Bd := Lib.hid (below_step Bc.out bd)
  clear bd Bc
  go_wp2_with fail
  refine (know_nil_copy _).mono ?_; rintro e we ⟨rfl, be⟩
  have Be := Lib.hid (below_step Bd.out be)
  clear be Bd
  go_wp2_with fail
  refine (know_new _).mono ?_; rintro e w1 ⟨⟨p, F, rfl, hk0, hF⟩, b1⟩
  have B1 := Lib.hid (below_step Be.out b1)
  have T0 := Lib.hid (tri_new hk0 (fun b hb => Nat.le_trans Be.out.size (hF b hb)) B1.out.size)
  have W0 := Lib.hid (B1.out.alloc B1.out.size (.cells #[.slice none 0 0] 34))
  obtain ⟨r, hr⟩ : ∃ r, r = w1.heap.size := ⟨_, rfl⟩
  rw [← hr] at T0
  clear hk0 hF b1 B1 Be
  go_wp2_with fail
  rw [← hr]
  clear hr
  go_loopw [10, 11] (fun cv iv wr => ∃ (k q : Nat) (F G : Nat → Prop), cv = .pointer (some ⟨q, 0, none⟩) ∧ iv = .int .i64 k ∧ k ≤ z ∧ Hid (Tri w.heap.size wr F G p r (learns [] ((l.map bl).take k)) (learns [] ((l.map bl).take k))) ∧ Hid (CopAt w.heap.size wr F G p q a k (l.map bl)) ∧ Hid (Below w.heap.size w wr)) (fun _ iv _ => z - (intOf iv).toNat)
  case atStart => exact ⟨0, p, F, _, rfl, rfl, Nat.zero_le _, T0, Lib.hid (.inl ⟨rfl, Nat.zero_le _⟩), W0⟩
  case round =>
    clear T0 W0
    obtain ⟨k, q, F, G, rfl, rfl, hkn, hT, hC, hb⟩ := hrel
    by_cases hk : k < z
    · have hk' : (k : Int) < (z : Int) := by omega
      have hkl : k < l.length := by rw [← HZ.out]; exact hk
      have HXS := Lib.hid (HLSZ.out k hkl)
      rcases HROW.out _ hb.out with e | ⟨g, off, rfl, hlt, hc⟩
      · exfalso
        rw [e] at hkl
        exact absurd hkl (Nat.not_lt_zero _)
      have eg : l.getD k ByteArray.empty = l[k] := by simp [List.getD_eq_getElem?_getD, hkl]
      have HCK : Hid (∀ V, Below w.heap.size w V → V.cell? ⟨g, off + k, none⟩ = some (.string l[k])) := Lib.hid (fun V hV => by
        rcases HROW.out _ hV with e | ⟨g', off', e, _, hc'⟩
        · exfalso
          rw [e] at hkl
          exact absurd hkl (Nat.not_lt_zero _)
        · cases e
          rw [← eg]
          exact hc' k hkl)
      have hlk : k < (l.map bl).length := by rw [List.length_map]; exact hkl
      have s2 : Hid (learnH (learns [] ((l.map bl).take k)) (bl l[k]) = learns [] ((l.map bl).take (k + 1))) := Lib.hid (by
        have e : (l.map bl)[k] = bl l[k] := by simp
        rw [List.take_succ_eq_append_getElem hlk, learns_snoc, e])
      have HC1 := HCNT.out k
      have HC2 := Lib.hid (HCNT.out (k + 1))
      have HSTART : Hid (Tri w.heap.size wr F G p r (learns [] ((l.map bl).take k)) (learns [] ((l.map bl).take k))) := hT
      generalize l[k] = x at *
      clear hc hlt eg hlk hT HC1
      by_cases hka : k = a
      · subst hka
        clear hC
        go_wp2_with fail
        refine (know_copy F p _ _ HSTART.out.fst).mono ?_; rintro e u1 ⟨⟨q2, Q, rfl, hq, hQ⟩, d1⟩
        have C1 : Hid (CopAt w.heap.size u1 F G p q2 k (k + 1) (l.map bl)) := Lib.hid (.inr ⟨by omega, Q, by
          exact ⟨hq, fun b he hf => by
            have h1 := hQ b he
            have h2 := HSTART.out.fst.foot b hf
            omega, fun b he hg => by
            have h1 := hQ b he
            have h2 := HSTART.out.foot b hg
            omega, fun b he => Nat.le_trans hb.out.size (hQ b he)⟩⟩)
        have HQ := Lib.hid hq
        have T1 := Lib.hid (HSTART.out.below d1)
        have W1 := Lib.hid (below_step hb.out d1)
        have HLK1 : Hid (∀ L : List ByteArray, SortK (learns [] ((l.map bl).take k)) (L.map bl) → L.length ≤ 2000) := Lib.hid (fun L h => by rw [list_len h]; exact HCNT.out k)
        have HEQ1 : Hid (∀ L M : List ByteArray, SortK (learns [] ((l.map bl).take k)) (L.map bl) → SortK (learns [] ((l.map bl).take k)) (M.map bl) → L = M) := Lib.hid (fun L M h k => lists_same (fun s _ => Iff.rfl) h k)
        clear hq hQ d1 HSTART hb
        go_wp2_with fail
        refine (know_list Q q2 _ _ HQ.out).mono ?_; rintro e u2 ⟨⟨x2, L2, rfl, own2, y2⟩, d2⟩
        have T2 := Lib.hid (T1.out.below d2)
        have C2 := Lib.hid (C1.out.below d2)
        have W2 := Lib.hid (below_step W1.out d2)
        have S2 := Lib.hid y2
        obtain ⟨ao2, cap2, rfl, row2⟩ := ownT_row own2
        have R2 := Lib.hid row2
        clear own2 row2 y2 d2 T1 C1 W1 HQ
        go_wp2_with fail
        refine (rlist10_any G r _ _ T2.out.ref).mono ?_; rintro e u3 ⟨⟨x3, L3, rfl, own3, y3⟩, d3⟩
        obtain rfl := HEQ1.out L2 L3 S2.out y3
        have LN := Lib.hid (HLK1.out _ S2.out)
        have T3 := Lib.hid (T2.out.below d3)
        have C3 := Lib.hid (C2.out.below d3)
        have W3 := Lib.hid (below_step W2.out d3)
        have R2' := Lib.hid (R2.out.below d3)
        obtain ⟨ao3, cap3, rfl, row3⟩ := ownT_row own3
        have R3 := Lib.hid row3
        clear own3 row3 y3 d3 T2 C2 W2 R2
        go_wp2_with fail
        refine (rsame_any L2 L2 ao2 ao3 cap2 cap3 (by have := LN.out; omega) (by have := LN.out; omega) _ R2'.out R3.out true (by simp)).mono ?_; rintro e u4 ⟨rfl, d4⟩
        have T0 := Lib.hid (T3.out.below d4)
        have C0 := Lib.hid (C3.out.below d4)
        have W0 := Lib.hid (below_step W3.out d4)
        clear d4 T3 C3 W3 R2' R3 LN S2 HLK1 HEQ1
        have ck := HCK.out _ W0.out
        go_wp2_with fail
        refine (know_learn F p _ x (by have := HXS.out; omega) _ T0.out.fst (HMX.out _ W0.out)).mono ?_; rintro e w2 ⟨rfl, ⟨F2, hk2, hF2⟩, ht⟩
        rw [s2.out] at hk2
        have T2 := Lib.hid (T0.out.learn1 W0.out.size hk2 hF2 ht)
        have C2 := Lib.hid (C0.out.learn1 hF2 ht)
        have W2 := Lib.hid (W0.out.trans (turn_to ht T0.out.lowF W0.out.size))
        have ck2 := HCK.out _ W2.out
        clear T0 C0 W0 hk2 hF2 ht ck
        go_wp2_with fail
        refine (rlearn10_any G r _ x (by have := HXS.out; omega) _ T2.out.ref).mono ?_; rintro e w3 h3
        unfold Learnt at h3
        obtain ⟨rfl, ⟨G3, hr3, hG3⟩, hgr⟩ := h3
        rw [s2.out] at hr3
        have ht3 : Turn G w2 w3 := turn_grown hgr (ref_in T2.out)
        have T3 := Lib.hid (T2.out.learn2 W2.out.size hr3 hG3 ht3)
        have C3 := Lib.hid (C2.out.learn2 hG3 ht3)
        have W3 := Lib.hid (W2.out.trans (turn_to ht3 T2.out.lowG W2.out.size))
        have ck3 := HCK.out _ W3.out
        clear T2 C2 W2 hr3 hgr ht3 ck2 s2 HCK
        obtain ⟨K, hK⟩ : ∃ K, K = learns [] ((l.map bl).take (k + 1)) := ⟨_, rfl⟩
        have HKE := Lib.hid hK
        rw [← hK] at T3 HC2
        generalize learnE (learns [] ((l.map bl).take k)) (bl x) = E at *
        obtain ⟨M, la, lc, m1, m2, m3, m4, m5, m6, m7⟩ := T3.out.ref
        have cr : w3.cell? ⟨r, 0, none⟩ = some (.slice la M.length lc) := cell_of_row _ _ _ _ _ _ m1
        have hml : M.length = cntP K := by rw [← cnt_eq m5, List.length_map]
        rw [hml] at cr
        have HDONE : Hid (∀ W, Below w3.heap.size w3 W → Hid (Tri w.heap.size W F2 (fun b => G3 b ∧ b < w3.heap.size) p r (learns [] ((l.map bl).take (k + 1))) (learns [] ((l.map bl).take (k + 1)))) ∧ Hid (CopAt w.heap.size W F2 (fun b => G3 b ∧ b < w3.heap.size) p q2 k (k + 1) (l.map bl)) ∧ Hid (Below w.heap.size w W)) := Lib.hid (fun W h => ⟨Lib.hid (by
          have := T3.out.below h
          rwa [hK] at this), Lib.hid (C3.out.below h), Lib.hid (below_step W3.out h)⟩)
        clear hK m1 m2 m3 m4 m5 m6 m7 hml hG3
        have HKL : Hid (∀ W, Below w3.heap.size w3 W → Calls Tryz.prog 8 #[.pointer (some ⟨p, 0, none⟩)] W fun e w' => (∃ v L, e = .returned v ∧ OwnT w' W.heap.size v L ∧ SortK K (L.map bl)) ∧ Below W.heap.size W w') := Lib.hid (fun W h => know_list _ p _ W (T3.out.below h).fst)
        have HRL : Hid (∀ W, Below w3.heap.size w3 W → Calls Tryz.prog 13 #[.pointer (some ⟨r, 0, none⟩)] W fun e w' => (∃ v L, e = .returned v ∧ OwnT w' W.heap.size v L ∧ SortK K (L.map bl)) ∧ Below W.heap.size W w') := Lib.hid (fun W h => rlist10_any _ r _ W (T3.out.below h).ref)
        have HKN : Hid (∀ W, Below w3.heap.size w3 W → Calls Tryz.prog 9 #[.pointer (some ⟨p, 0, none⟩)] W fun e w' => e = .returned (.int .i64 (cntP K)) ∧ Below W.heap.size W w') := Lib.hid (fun W h => know_len _ p _ W (T3.out.below h).fst)
        have HKT : Hid (∀ W, Below w3.heap.size w3 W → Calls Tryz.prog 7 #[.pointer (some ⟨p, 0, none⟩), .string t] W fun e w' => e = .returned (.bool (canPB K (bl t))) ∧ Below W.heap.size W w') := Lib.hid (fun W h => know_can _ p _ t (by have := HTS.out; omega) W (T3.out.below h).fst)
        have HRT : Hid (∀ W, Below w3.heap.size w3 W → Calls Tryz.prog 15 #[.pointer (some ⟨r, 0, none⟩), .string t] W fun e w' => e = .returned (.bool (canPB K (bl t))) ∧ Below W.heap.size W w') := Lib.hid (fun W h => rcan10_any _ r _ t (by have := HTS.out; omega) W (T3.out.below h).ref)
        have HKX : Hid (∀ W, Below w3.heap.size w3 W → Calls Tryz.prog 7 #[.pointer (some ⟨p, 0, none⟩), .string x] W fun e w' => e = .returned (.bool (canPB K (bl x))) ∧ Below W.heap.size W w') := Lib.hid (fun W h => know_can _ p _ x (by have := HXS.out; omega) W (T3.out.below h).fst)
        have HRX : Hid (∀ W, Below w3.heap.size w3 W → Calls Tryz.prog 15 #[.pointer (some ⟨r, 0, none⟩), .string x] W fun e w' => e = .returned (.bool (canPB K (bl x))) ∧ Below W.heap.size W w') := Lib.hid (fun W h => rcan10_any _ r _ x (by have := HXS.out; omega) W (T3.out.below h).ref)
        have HLK : Hid (∀ L : List ByteArray, SortK K (L.map bl) → L.length ≤ 2000) := Lib.hid (fun L h => by rw [list_len h]; exact HC2.out)
        have HEQ : Hid (∀ L M : List ByteArray, SortK K (L.map bl) → SortK K (M.map bl) → L = M) := Lib.hid (fun L M h k => lists_same (fun s _ => Iff.rfl) h k)
        generalize canPB K (bl t) = c1 at *
        generalize canPB K (bl x) = c2 at *
        have HZC := HC2.out
        generalize cntP K = zc at *
        go_wp2_with fail
        go_region_held3 (fun W => W.cell? ⟨r, 0, none⟩ = some (.slice la zc lc) ∧ W.cell? ⟨g, off + k, none⟩ = some (.string x) ∧ Hid (Below w3.heap.size w3 W)) (first | assumption | exact list_keep (below_drewN (Below.refl _ _) 1) cr ck3 | with_reducible exact keep10 ‹_› ‹_›) (first
          | (go_at_call 8; with_reducible refine (HKL.out _ (‹_ ∧ _› : _ ∧ _ ∧ Hid _).2.2.out).mono ?_; rintro e w4 ⟨⟨v4, L4, rfl, own4, s4⟩, b4⟩; have O4 := Lib.hid own4; have S4 := Lib.hid s4; obtain ⟨ao4, cap4, rfl, row4⟩ := ownT_row own4; have R4 := Lib.hid row4; clear own4 s4 row4)
          | (go_at_call 13; with_reducible refine (HRL.out _ (‹_ ∧ _› : _ ∧ _ ∧ Hid _).2.2.out).mono ?_; rintro e w5 ⟨⟨v5, L5, rfl, own5, s5⟩, b5⟩; obtain rfl := HEQ.out _ _ S4.out s5; obtain ⟨ao5, cap5, rfl, row5⟩ := ownT_row own5; have R5 := Lib.hid row5; have R4' := Lib.hid (R4.out.below b5); clear own5 s5 row5)
          | (go_at_call 12; refine (rsame_any L4 L4 ao4 ao5 cap4 cap5 (by have := HLK.out _ S4.out; omega) (by have := HLK.out _ S4.out; omega) _ R4'.out R5.out true (by simp)).mono ?_; rintro e w6 ⟨rfl, b6⟩)
          | (go_at_call 9; with_reducible refine (HKN.out _ (‹_ ∧ _› : _ ∧ _ ∧ Hid _).2.2.out).mono ?_; rintro e w7 ⟨rfl, b7⟩)
          | (go_at_call 7; with_reducible refine (HKT.out _ (‹_ ∧ _› : _ ∧ _ ∧ Hid _).2.2.out).mono ?_; rintro e w8 ⟨rfl, b8⟩)
          | (go_at_call 7; with_reducible refine (HKX.out _ (‹_ ∧ _› : _ ∧ _ ∧ Hid _).2.2.out).mono ?_; rintro e w9 ⟨rfl, b9⟩)
          | (go_at_call 15; with_reducible refine (HRT.out _ (‹_ ∧ _› : _ ∧ _ ∧ Hid _).2.2.out).mono ?_; rintro e w8 ⟨rfl, b8⟩)
          | (go_at_call 15; with_reducible refine (HRX.out _ (‹_ ∧ _› : _ ∧ _ ∧ Hid _).2.2.out).mono ?_; rintro e w9 ⟨rfl, b9⟩))
        all_goals
          have hS : _ ∧ _ ∧ Hid (Below w3.heap.size w3 w9) := ‹_ ∧ _›
          obtain ⟨r1, r2, r3⟩ := HDONE.out _ hS.2.2.out
          go_wp2_with fail
          go_roundw
          case rel => exact ⟨k + 1, q2, F2, _, rfl, by go_num, by omega, r1, r2, r3⟩
          case measure => simp [intOf]; omega
      · have hka' : ¬ (k : Int) = (a : Int) := by omega
        have C0 : Hid (CopAt w.heap.size wr F G p q a (k + 1) (l.map bl)) := Lib.hid (hC.out.imp (fun ⟨h1, h2⟩ => ⟨h1, by omega⟩) (fun ⟨h1, h2⟩ => ⟨by omega, h2⟩))
        have T0 := HSTART
        have W0 := hb
        clear hC HSTART hb
        have ck := HCK.out _ W0.out
        go_wp2_with fail
        refine (know_learn F p _ x (by have := HXS.out; omega) _ T0.out.fst (HMX.out _ W0.out)).mono ?_; rintro e w2 ⟨rfl, ⟨F2, hk2, hF2⟩, ht⟩
        rw [s2.out] at hk2
        have T2 := Lib.hid (T0.out.learn1 W0.out.size hk2 hF2 ht)
        have C2 := Lib.hid (C0.out.learn1 hF2 ht)
        have W2 := Lib.hid (W0.out.trans (turn_to ht T0.out.lowF W0.out.size))
        have ck2 := HCK.out _ W2.out
        clear T0 C0 W0 hk2 hF2 ht ck
        go_wp2_with fail
        refine (rlearn10_any G r _ x (by have := HXS.out; omega) _ T2.out.ref).mono ?_; rintro e w3 h3
        unfold Learnt at h3
        obtain ⟨rfl, ⟨G3, hr3, hG3⟩, hgr⟩ := h3
        rw [s2.out] at hr3
        have ht3 : Turn G w2 w3 := turn_grown hgr (ref_in T2.out)
        have T3 := Lib.hid (T2.out.learn2 W2.out.size hr3 hG3 ht3)
        have C3 := Lib.hid (C2.out.learn2 hG3 ht3)
        have W3 := Lib.hid (W2.out.trans (turn_to ht3 T2.out.lowG W2.out.size))
        have ck3 := HCK.out _ W3.out
        clear T2 C2 W2 hr3 hgr ht3 ck2 s2 HCK
        obtain ⟨K, hK⟩ : ∃ K, K = learns [] ((l.map bl).take (k + 1)) := ⟨_, rfl⟩
        have HKE := Lib.hid hK
        rw [← hK] at T3 HC2
        generalize learnE (learns [] ((l.map bl).take k)) (bl x) = E at *
        obtain ⟨M, la, lc, m1, m2, m3, m4, m5, m6, m7⟩ := T3.out.ref
        have cr : w3.cell? ⟨r, 0, none⟩ = some (.slice la M.length lc) := cell_of_row _ _ _ _ _ _ m1
        have hml : M.length = cntP K := by rw [← cnt_eq m5, List.length_map]
        rw [hml] at cr
        have HDONE : Hid (∀ W, Below w3.heap.size w3 W → Hid (Tri w.heap.size W F2 (fun b => G3 b ∧ b < w3.heap.size) p r (learns [] ((l.map bl).take (k + 1))) (learns [] ((l.map bl).take (k + 1)))) ∧ Hid (CopAt w.heap.size W F2 (fun b => G3 b ∧ b < w3.heap.size) p q a (k + 1) (l.map bl)) ∧ Hid (Below w.heap.size w W)) := Lib.hid (fun W h => ⟨Lib.hid (by
          have := T3.out.below h
          rwa [hK] at this), Lib.hid (C3.out.below h), Lib.hid (below_step W3.out h)⟩)
        clear hK m1 m2 m3 m4 m5 m6 m7 hml hG3
        have HKL : Hid (∀ W, Below w3.heap.size w3 W → Calls Tryz.prog 8 #[.pointer (some ⟨p, 0, none⟩)] W fun e w' => (∃ v L, e = .returned v ∧ OwnT w' W.heap.size v L ∧ SortK K (L.map bl)) ∧ Below W.heap.size W w') := Lib.hid (fun W h => know_list _ p _ W (T3.out.below h).fst)
        have HRL : Hid (∀ W, Below w3.heap.size w3 W → Calls Tryz.prog 13 #[.pointer (some ⟨r, 0, none⟩)] W fun e w' => (∃ v L, e = .returned v ∧ OwnT w' W.heap.size v L ∧ SortK K (L.map bl)) ∧ Below W.heap.size W w') := Lib.hid (fun W h => rlist10_any _ r _ W (T3.out.below h).ref)
        have HKN : Hid (∀ W, Below w3.heap.size w3 W → Calls Tryz.prog 9 #[.pointer (some ⟨p, 0, none⟩)] W fun e w' => e = .returned (.int .i64 (cntP K)) ∧ Below W.heap.size W w') := Lib.hid (fun W h => know_len _ p _ W (T3.out.below h).fst)
        have HKT : Hid (∀ W, Below w3.heap.size w3 W → Calls Tryz.prog 7 #[.pointer (some ⟨p, 0, none⟩), .string t] W fun e w' => e = .returned (.bool (canPB K (bl t))) ∧ Below W.heap.size W w') := Lib.hid (fun W h => know_can _ p _ t (by have := HTS.out; omega) W (T3.out.below h).fst)
        have HRT : Hid (∀ W, Below w3.heap.size w3 W → Calls Tryz.prog 15 #[.pointer (some ⟨r, 0, none⟩), .string t] W fun e w' => e = .returned (.bool (canPB K (bl t))) ∧ Below W.heap.size W w') := Lib.hid (fun W h => rcan10_any _ r _ t (by have := HTS.out; omega) W (T3.out.below h).ref)
        have HKX : Hid (∀ W, Below w3.heap.size w3 W → Calls Tryz.prog 7 #[.pointer (some ⟨p, 0, none⟩), .string x] W fun e w' => e = .returned (.bool (canPB K (bl x))) ∧ Below W.heap.size W w') := Lib.hid (fun W h => know_can _ p _ x (by have := HXS.out; omega) W (T3.out.below h).fst)
        have HRX : Hid (∀ W, Below w3.heap.size w3 W → Calls Tryz.prog 15 #[.pointer (some ⟨r, 0, none⟩), .string x] W fun e w' => e = .returned (.bool (canPB K (bl x))) ∧ Below W.heap.size W w') := Lib.hid (fun W h => rcan10_any _ r _ x (by have := HXS.out; omega) W (T3.out.below h).ref)
        have HLK : Hid (∀ L : List ByteArray, SortK K (L.map bl) → L.length ≤ 2000) := Lib.hid (fun L h => by rw [list_len h]; exact HC2.out)
        have HEQ : Hid (∀ L M : List ByteArray, SortK K (L.map bl) → SortK K (M.map bl) → L = M) := Lib.hid (fun L M h k => lists_same (fun s _ => Iff.rfl) h k)
        generalize canPB K (bl t) = c1 at *
        generalize canPB K (bl x) = c2 at *
        have HZC := HC2.out
        generalize cntP K = zc at *
        go_wp2_with fail
        go_region_held3 (fun W => W.cell? ⟨r, 0, none⟩ = some (.slice la zc lc) ∧ W.cell? ⟨g, off + k, none⟩ = some (.string x) ∧ Hid (Below w3.heap.size w3 W)) (first | assumption | exact list_keep (below_drewN (Below.refl _ _) 1) cr ck3 | with_reducible exact keep10 ‹_› ‹_›) (first
          | (go_at_call 8; with_reducible refine (HKL.out _ (‹_ ∧ _› : _ ∧ _ ∧ Hid _).2.2.out).mono ?_; rintro e w4 ⟨⟨v4, L4, rfl, own4, s4⟩, b4⟩; have O4 := Lib.hid own4; have S4 := Lib.hid s4; obtain ⟨ao4, cap4, rfl, row4⟩ := ownT_row own4; have R4 := Lib.hid row4; clear own4 s4 row4)
          | (go_at_call 13; with_reducible refine (HRL.out _ (‹_ ∧ _› : _ ∧ _ ∧ Hid _).2.2.out).mono ?_; rintro e w5 ⟨⟨v5, L5, rfl, own5, s5⟩, b5⟩; obtain rfl := HEQ.out _ _ S4.out s5; obtain ⟨ao5, cap5, rfl, row5⟩ := ownT_row own5; have R5 := Lib.hid row5; have R4' := Lib.hid (R4.out.below b5); clear own5 s5 row5)
          | (go_at_call 12; refine (rsame_any L4 L4 ao4 ao5 cap4 cap5 (by have := HLK.out _ S4.out; omega) (by have := HLK.out _ S4.out; omega) _ R4'.out R5.out true (by simp)).mono ?_; rintro e w6 ⟨rfl, b6⟩)
          | (go_at_call 9; with_reducible refine (HKN.out _ (‹_ ∧ _› : _ ∧ _ ∧ Hid _).2.2.out).mono ?_; rintro e w7 ⟨rfl, b7⟩)
          | (go_at_call 7; with_reducible refine (HKT.out _ (‹_ ∧ _› : _ ∧ _ ∧ Hid _).2.2.out).mono ?_; rintro e w8 ⟨rfl, b8⟩)
          | (go_at_call 7; with_reducible refine (HKX.out _ (‹_ ∧ _› : _ ∧ _ ∧ Hid _).2.2.out).mono ?_; rintro e w9 ⟨rfl, b9⟩)
          | (go_at_call 15; with_reducible refine (HRT.out _ (‹_ ∧ _› : _ ∧ _ ∧ Hid _).2.2.out).mono ?_; rintro e w8 ⟨rfl, b8⟩)
          | (go_at_call 15; with_reducible refine (HRX.out _ (‹_ ∧ _› : _ ∧ _ ∧ Hid _).2.2.out).mono ?_; rintro e w9 ⟨rfl, b9⟩))
        all_goals
          have hS : _ ∧ _ ∧ Hid (Below w3.heap.size w3 w9) := ‹_ ∧ _›
          obtain ⟨r1, r2, r3⟩ := HDONE.out _ hS.2.2.out
          go_wp2_with fail
          go_roundw
          case rel => exact ⟨k + 1, q, F2, _, rfl, by go_num, by omega, r1, r2, r3⟩
          case measure => simp [intOf]; omega
    · obtain rfl : k = z := by omega
      have HTE : Hid (Tri w.heap.size wr F G p r (learns [] (l.map bl)) (learns [] (l.map bl))) := Lib.hid (by
        have := hT.out
        rwa [List.take_of_length_le (by rw [List.length_map, HZ.out]; exact Nat.le_refl _)] at this)
      have HCN : Hid (cntP (learns [] (l.map bl)) ≤ 2000) := Lib.hid (seen_cnt HLB.out)
      clear hT hk hkn
      go_wp2_with fail
      refine (know_list F p _ _ HTE.out.fst).mono ?_; rintro e u1 ⟨⟨x1, Z, rfl, own1, y1⟩, d1⟩
      have SZ := Lib.hid y1
      have LZ : Hid (Z.length ≤ 2000) := Lib.hid (by rw [list_len y1]; exact HCN.out)
      have W1 := Lib.hid (below_step hb.out d1)
      obtain ⟨az, cz, rfl, rowz, hz3⟩ := ownT_row2 own1
      have RZ := Lib.hid rowz
      have E1 := Lib.hid (end_start HTE.out hC.out d1 hz3)
      clear own1 y1 rowz hz3 d1 HTE hb hC
      go_wp2_with fail
      go_loopw [15] (fun iv wr => ∃ j : Nat, iv = .int .i64 j ∧ j ≤ k ∧ Hid (EndAt w.heap.size wr (fun b => b < u1.heap.size ∧ ∃ off, az = some ⟨b, off, none⟩) p q (l.map bl) j) ∧ Hid (Below w.heap.size w wr) ∧ Hid (u1.heap.size ≤ wr.heap.size ∧ ∀ b, (b < u1.heap.size ∧ ∃ off, az = some ⟨b, off, none⟩) → wr.heap[b]? = u1.heap[b]?)) (fun iv _ => k - (intOf iv).toNat)
      case atStart => exact ⟨0, rfl, Nat.zero_le _, E1, W1, Lib.hid ⟨Nat.le_refl _, fun _ _ => rfl⟩⟩
      case round =>
        clear E1 W1
        obtain ⟨j, rfl, hjn, hE, hb, hN⟩ := hrel
        by_cases hj : j < k
        · have hj' : (j : Int) < (k : Int) := by omega
          have hjl : j < l.length := by rw [← HZ.out]; exact hj
          rcases HROW.out _ hb.out with e | ⟨g, off, rfl, hlt, hc⟩
          · exfalso
            rw [e] at hjl
            exact absurd hjl (Nat.not_lt_zero _)
          have cj := hc j hjl
          have eg : l.getD j ByteArray.empty = l[j] := by simp [List.getD_eq_getElem?_getD, hjl]
          rw [eg] at cj
          have HL := Lib.hid (end_learn hE.out hb.out.size hjl (HLSZ.out j hjl) (HMX.out _ hb.out))
          generalize l[j] = x at *
          clear hc hlt eg
          go_wp2_with fail
          refine HL.out.mono ?_; rintro e u2 ⟨⟨n2, rfl⟩, hE2, hb2, hN2⟩
          have E2 := Lib.hid hE2
          have W2 := Lib.hid (hb.out.trans hb2)
          have N2 : Hid (u1.heap.size ≤ u2.heap.size ∧ ∀ b, (b < u1.heap.size ∧ ∃ off, az = some ⟨b, off, none⟩) → u2.heap[b]? = u1.heap[b]?) := Lib.hid ⟨Nat.le_trans hN.out.1 hb2.size, fun b hn => (hN2 b hn).trans (hN.out.2 b hn)⟩
          clear hE2 hb2 hN2 cj
          go_wp2_with fail
          go_roundw
          case rel => exact ⟨j + 1, by go_num, by omega, E2, W2, N2⟩
          case measure => simp [intOf]; omega
        · obtain rfl : j = k := by omega
          have hEE : EndAt w.heap.size wr (fun b => b < u1.heap.size ∧ ∃ off, az = some ⟨b, off, none⟩) p q (l.map bl) (l.map bl).length := by
            rw [List.length_map, ← HZ.out]
            exact hE.out
          have E3 := Lib.hid hEE
          have R3 := Lib.hid (txt_kept RZ.out hN.out.1 hN.out.2)
          have HEQ2 : Hid (∀ L M : List ByteArray, SortK (learns [] (l.map bl)) (L.map bl) → SortK (learns [] (l.map bl)) (M.map bl) → L = M) := Lib.hid (fun L M h k => lists_same (fun s _ => Iff.rfl) h k)
          clear hE hEE hN hj hjn RZ
          go_wp2_with fail
          refine (end_list HLB.out E3.out p (.inl rfl)).mono ?_; rintro e u4 ⟨⟨x4, Z4, rfl, own4, y4⟩, d4⟩
          obtain rfl := HEQ2.out Z Z4 SZ.out y4
          have E4 := Lib.hid (E3.out.below d4)
          have W4 := Lib.hid (below_step hb.out d4)
          have R4 := Lib.hid (R3.out.below d4)
          obtain ⟨a4, c4, rfl, row4⟩ := ownT_row own4
          have Q4 := Lib.hid row4
          clear own4 y4 row4 d4 E3 R3 hb
          go_wp2_with fail
          refine (rsame_any Z Z a4 az c4 cz (by have := LZ.out; omega) (by have := LZ.out; omega) _ Q4.out R4.out true (by simp)).mono ?_; rintro e u5 ⟨rfl, d5⟩
          have E5 := Lib.hid (E4.out.below d5)
          have W5 := Lib.hid (below_step W4.out d5)
          have R5 := Lib.hid (R4.out.below d5)
          clear d5 E4 W4 R4 Q4
          go_wp2_with fail
          refine (end_list HLB.out E5.out q (.inr rfl)).mono ?_; rintro e u6 ⟨⟨x6, Z6, rfl, own6, y6⟩, d6⟩
          obtain rfl := HEQ2.out Z Z6 SZ.out y6
          have W6 := Lib.hid (below_step W5.out d6)
          have R6 := Lib.hid (R5.out.below d6)
          obtain ⟨a6, c6, rfl, row6⟩ := ownT_row own6
          have Q6 := Lib.hid row6
          clear own6 y6 row6 d6 E5 R5 W5
          go_wp2_with fail
          refine (rsame_any Z Z a6 az c6 cz (by have := LZ.out; omega) (by have := LZ.out; omega) _ Q6.out R6.out true (by simp)).mono ?_; rintro e u7 ⟨rfl, d7⟩
          have W7 := Lib.hid (below_step W6.out d7)
          clear d7 W6 R6 Q6
          go_wp2_with fail
          refine (HAL.out _ W7.out).mono ?_; rintro e u8 ⟨rfl, d8⟩
          have W8 := Lib.hid (below_step W7.out d8)
          clear d8
          go_wp2_with fail
          go_ret
          exact ⟨rfl, W8.out⟩
end Go.Proofs.YtkebfabmcajbmaaGreat.Pl
