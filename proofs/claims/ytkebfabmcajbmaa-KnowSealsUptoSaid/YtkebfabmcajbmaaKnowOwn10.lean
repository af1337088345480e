/- What the program's own know answers of who has seen some texts. -/
import Derived.Test.YtkebfabmcajbmaaKnowListOwn
import Derived.Test.YtkebfabmcajbmaaKnowObs
import Derived.Test.YtkebfabmcajbmaaKnowRefG
import Derived.Test.YtkebfabmcajbmaaKnowRefF
import Derived.Test.YtkebfabmcajbmaaKnowD4
import Derived.Carry
namespace Go.Proofs.Ytkebfabmcajbmaa.Pl
open Go.RowKit Go.Maps

theorem check_any10 (t : ByteArray) (ht : t.size ≤ 281474976710656) (w : World) : Calls Try.prog 21 #[.string t] w fun e w' => e = .returned (.int .i64 (checkP (bl t))) ∧ Below w.heap.size w w' := check_any t ht w
set_option maxRecDepth 100000 in
theorem know_nil_learn (t : ByteArray) (w : World) : Calls Try.prog 11 #[.pointer none, .string t] w fun e w' => e = .returned (.int .i64 1) ∧ Below w.heap.size w w' := by
  go_enter Try.func11, Try.ntmps11
  go_wp2_with fail
  go_ret
  exact ⟨rfl, Below.refl _ _⟩
set_option maxRecDepth 100000 in
theorem know_nil_can (t : ByteArray) (w : World) : Calls Try.prog 10 #[.pointer none, .string t] w fun e w' => e = .returned (.bool false) ∧ Below w.heap.size w w' := by
  go_enter Try.func10, Try.ntmps10
  go_wp2_with fail
  go_ret
  exact ⟨rfl, Below.refl _ _⟩
theorem isK_none : IsK [] [] := by
  refine ⟨List.nodup_nil, fun s => ⟨fun h => (by cases h), fun h => ?_⟩⟩
  have := known_cover h
  simp [coverP] at this
set_option maxRecDepth 100000 in
theorem know_new (w : World) : Calls Try.prog 16 #[] w fun e w' => (∃ p F, e = .returned (.pointer (some ⟨p, 0, none⟩)) ∧ KnowAt w' F p [] ∧ ∀ b, F b → w.heap.size ≤ b) ∧ Below w.heap.size w w' := by
  have hmm := @run_makeMap Try.prog
  go_enter Try.func16, Try.ntmps16
  go_wp2_with fail
  go_ret
  have n1 : (w.alloc (.map #[] 0)).heap.size = w.heap.size + 1 := by simp
  have b1 : Below w.heap.size w (w.alloc (.map #[] 0)) := (Below.refl _ _).alloc (Nat.le_refl _) _
  have b2 : Below w.heap.size w ((w.alloc (.map #[] 0)).alloc (.cells #[.map (some w.heap.size)] 46)) := b1.alloc (by omega) _
  refine ⟨⟨_, fun b => b = w.heap.size ∨ b = w.heap.size + 1, rfl, ⟨w.heap.size, [], ⟨?_, (mapK_new w).of_block (Below.heap_alloc _ _ _ (by omega))⟩, isK_none, Nat.zero_le _, .inr rfl, .inl rfl, fun b hb => by simp; omega⟩, fun b hb => by omega⟩, b2⟩
  have h := Go.heap_alloc_new (w.alloc (.map #[] 0)) (.cells #[.map (some w.heap.size)] 46)
  rw [n1] at h
  exact h
set_option maxHeartbeats 1000000 in
set_option maxRecDepth 100000 in
theorem know_can (F : Nat → Prop) (p : Nat) (H : List (List UInt8)) (t : ByteArray) (ht : t.size ≤ 281474976710656) (w : World) (h : KnowAt w F p H) :
    Calls Try.prog 10 #[.pointer (some ⟨p, 0, none⟩), .string t] w fun e w' => e = .returned (.bool (canPB H (bl t))) ∧ Below w.heap.size w w' := by
  obtain ⟨m, X, hq, hI, hX, _, _, _⟩ := h
  have HC := Lib.hid (check_any t ht w)
  by_cases hc : checkP (bl t) = 0
  · rw [hc] at HC
    obtain ⟨T, hT, hTe⟩ := check_iff.1 hc
    have HN := Lib.hid (fun V (hV : KP V p m X) => can10_at T.deep T hT (Nat.le_refl _) t hTe.symm p m X V hV)
    have he : canX X T = canPB H (bl t) := by
      rw [Bool.eq_iff_iff, canX_iff, canPB_iff, ← hTe, can_cl hT]
      exact isK_can hI T
    rw [he] at HN
    have HQ := Lib.hid hq
    clear hq hI hX hT hTe he hc ht
    go_enter Try.func10, Try.ntmps10
    go_wp2_with fail
    refine HC.out.mono ?_; rintro e w1 ⟨rfl, b1⟩
    have B1 := Lib.hid b1
    clear b1
    go_wp2_with fail
    refine (HN.out _ (HQ.out.below B1.out)).mono ?_; rintro e w2 ⟨rfl, b2⟩
    have B2 := Lib.hid (below_step B1.out b2)
    clear b2
    go_wp2_with fail
    go_ret
    exact ⟨rfl, B2.out⟩
  · have he : canPB H (bl t) = false := canPB_no (fun h => hc (can_check h))
    have hz : ((checkP (bl t) : Int) == 0) = false := by rw [beq_eq_false_iff_ne]; omega
    rw [he]
    generalize checkP (bl t) = z at *
    clear hq hI hX he hc ht
    go_enter Try.func10, Try.ntmps10
    go_wp2_with fail
    refine HC.out.mono ?_; rintro e w1 ⟨rfl, b1⟩
    have B1 := Lib.hid b1
    clear b1
    go_wp2_with fail
    go_ret
    exact ⟨rfl, B1.out⟩
theorem drop_at10 {fr : List ByteArray} {k : Nat} (hk : k < fr.length) : (fr.drop k).map bl = bl fr[k] :: (fr.drop (k + 1)).map bl := by
  rw [List.drop_eq_getElem_cons hk]
  rfl
theorem drop_nodup10 {X0 : List (List UInt8)} {fr : List ByteArray} (h : (X0 ++ fr.map bl).Nodup) (k : Nat) : (X0 ++ (fr.drop k).map bl).Nodup :=
  h.sublist ((List.Sublist.refl X0).append ((List.drop_sublist k fr).map bl))
set_option maxHeartbeats 4000000 in
set_option maxRecDepth 100000 in
theorem know_learn (F : Nat → Prop) (p : Nat) (H : List (List UInt8)) (t : ByteArray) (ht : t.size ≤ 281474976710656) (w : World) (h : KnowAt w F p H) (hM : MX w) :
    Calls Try.prog 11 #[.pointer (some ⟨p, 0, none⟩), .string t] w fun e w' => e = .returned (.int .i64 (learnE H (bl t))) ∧ (∃ F' : Nat → Prop, KnowAt w' F' p (learnH H (bl t)) ∧ ∀ b, F' b → F b ∨ w.heap.size ≤ b) ∧ Turn F w w' := by
  have HW := Lib.hid h
  obtain ⟨m, X, hq, hI, hX, hFp, hFm, hF⟩ := h
  have HC := Lib.hid (check_any t ht w)
  by_cases hc : checkP (bl t) = 0
  · rw [hc] at HC
    obtain ⟨T, hT, hTe⟩ := check_iff.1 hc
    have HCL := Lib.hid (fun V => clone_any t V ht)
    have HOB : Hid (∀ V, Below w.heap.size w V → Calls Try.prog 25 #[ptr10 p, .string t] V (ObsPost10 V p m H X T)) := Lib.hid (fun V hV => observe10_any p m H X T hT t hTe.symm V (hq.below hV) hI hX (hM.step hV))
    have HTT : Hid (∀ V V', Below w.heap.size w V → Turn (fun b => b = m ∨ V.heap.size ≤ b) V V' → Turn F w V') := Lib.hid (fun V V' h1 h2 => turn_trans (turn_below h1) h2 (fun b hb => hb.elim (fun e => .inl (e ▸ hFm)) (fun e => .inr (Nat.le_trans h1.size e))))
    have HI := Lib.hid hI
    have HX := Lib.hid hX
    have HFF := Lib.hid (And.intro hFp (And.intro hFm hF))
    have HTE := Lib.hid hTe
    have HCK := Lib.hid hc
    obtain ⟨LE, hLE⟩ : ∃ LE, learnE H (bl t) = LE := ⟨_, rfl⟩
    obtain ⟨LH, hLH⟩ : ∃ LH, learnH H (bl t) = LH := ⟨_, rfl⟩
    rw [hLE, hLH]
    have HLE := Lib.hid hLE
    have HLH := Lib.hid hLH
    clear hLE hLH
    clear hq hI hX hT hTe hc ht hM hFp hFm hF
    go_enter Try.func11, Try.ntmps11
    go_wp2_with fail
    refine HC.out.mono ?_; rintro e w1 ⟨rfl, b1⟩
    have B1 := Lib.hid b1
    clear b1
    go_wp2_with fail
    refine (HCL.out _).mono ?_; rintro e w2 ⟨rfl, b2⟩
    have B2 := Lib.hid (below_step B1.out b2)
    clear b2
    go_wp2_with fail
    refine (HOB.out _ B2.out).mono ?_; rintro e w3 ⟨v, fr, rfl, kp3, own3, tn3, nd3, kn3, full3⟩
    have T3 := Lib.hid (HTT.out _ _ B2.out tn3)
    have TN3 := Lib.hid tn3
    have K3 := Lib.hid kp3
    have cp := kp3.cell
    obtain ⟨z, hz⟩ : ∃ z, (X ++ fr.map bl).length = z := ⟨_, rfl⟩
    have HZ := Lib.hid hz
    rcases full3 with ⟨f1, f2⟩ | ⟨f1, f2, f3⟩
    · have hb : (z : Int) ≤ 2048 := by omega
      have hcn := cnt_eq f2
      have HE0 : learnE H (bl t) = 0 := learn_ok HCK.out (by rw [← HTE.out]; omega)
      have HE : Hid (LE = 0) := Lib.hid (by rw [← HLE.out]; exact HE0)
      have HK : Hid (KnowAt w3 F p LH) := Lib.hid (by
        have e : learnH H (bl t) = T.enc :: H := by unfold learnH; rw [if_pos HE0, HTE.out]
        rw [← HLH.out, e]
        exact ⟨m, _, kp3, f2, f1, HFF.out.1, HFF.out.2.1, fun b hb => Nat.lt_of_lt_of_le (HFF.out.2.2 b hb) T3.out.size⟩)
      clear kp3 own3 tn3 nd3 kn3 f1 f2 hcn hz HE0
      go_wp2_with (first | (at_len; refine wpList_len10 rfl _ rfl m (X ++ fr.map bl) z HZ.out rfl K3.out.2 ?_) | fail)
      go_ret
      exact ⟨by rw [HE.out]; rfl, ⟨F, HK.out, fun b hb => .inl hb⟩, T3.out⟩
    · have hb : (2048 : Int) < (z : Int) := by omega
      have HE0 : learnE H (bl t) = 4 := by unfold learnE; rw [if_neg (fun e => e HCK.out), ← HTE.out, if_pos f3]
      have HE : Hid (LE = 4) := Lib.hid (by rw [← HLE.out]; exact HE0)
      have HLH2 : Hid (LH = H) := Lib.hid (by rw [← HLH.out]; unfold learnH; rw [HE0, if_neg (by decide)])
      have HND := Lib.hid nd3
      have HSZ : Hid (∀ k, (hk : k < fr.length) → fr[k].size ≤ 281474976710656) := Lib.hid (fun k hk => by
        have := check_len (known_check (kn3 (bl fr[k]) (List.mem_append.2 (.inr (List.mem_map_of_mem (List.getElem_mem hk))))))
        rw [size_bl]
        omega)
      have hfl : fr.length ≤ 100000 := by rw [List.length_append, List.length_map] at f2; omega
      obtain ⟨ao, cap, rfl, hrow⟩ := ownT_row own3
      have R3 := Lib.hid hrow
      obtain ⟨n, hn⟩ : ∃ n, n = fr.length := ⟨_, rfl⟩
      have HN := Lib.hid hn
      rw [← hn] at hfl
      rw [← hn]
      have KP3 : Hid (KP w3 p m (X ++ (fr.drop 0).map bl)) := Lib.hid kp3
      clear kp3 own3 tn3 nd3 kn3 f1 f2 f3 hz hrow hn HC HCL HOB HE0
      go_wp2_with (first | (at_len; refine wpList_len10 rfl _ rfl m (X ++ fr.map bl) z HZ.out rfl K3.out.2 ?_) | fail)
      go_loopw [25] (fun iv wr => ∃ k : Nat, iv = .int .i64 k ∧ k ≤ n ∧ Hid (KP wr p m (X ++ (fr.drop k).map bl)) ∧ Hid (TxtRow wr ao fr) ∧ Hid (Turn (fun b => b = m ∨ w2.heap.size ≤ b) w2 wr)) (fun iv _ => n - (intOf iv).toNat)
      case atStart => exact ⟨0, rfl, Nat.zero_le _, KP3, R3, TN3⟩
      case round =>
        obtain ⟨k, rfl, hkn, hkp, hrw, htn⟩ := hrel
        by_cases hk : k < n
        · have hk' : (k : Int) < (n : Int) := by omega
          have hkl : k < fr.length := by rw [← HN.out]; exact hk
          have HS := Lib.hid (HSZ.out k hkl)
          have hnd := drop_nodup10 HND.out k
          have hkk := hkp.out
          rw [drop_at10 hkl] at hnd hkk
          have HKK := Lib.hid hkk
          have HND2 := Lib.hid hnd
          rcases hrw.out with e | ⟨g, off, rfl, hlt, hcc⟩
          · subst e
            simp at hkl
          have ck := hcc k hkl
          have eg : fr.getD k ByteArray.empty = fr[k] := by simp [List.getD_eq_getElem?_getD, hkl]
          rw [eg] at ck
          have cp2 := hkk.cell
          generalize fr[k] = s at *
          clear hcc hlt eg hnd hkk hkl cp
          go_wp2_with (first | (at_delete; refine wpList_drop10 rfl _ _ rfl m X ((fr.drop (k + 1)).map bl) s rfl rfl HKK.out.2 HS.out HND2.out ?_; intro w5 hk5 ht5) | fail)
          have K5 : Hid (KP w5 p m (X ++ (fr.drop (k + 1)).map bl)) := Lib.hid ⟨by
            obtain ⟨es, clock, hm⟩ := HKK.out.2.ex
            exact (ht5.grown.block p (Array.getElem?_eq_some_iff.1 HKK.out.1).1 (fun e => by
              have := Option.some.inj e
              subst this
              have h1 := HKK.out.1
              rw [hm] at h1
              cases h1)).trans HKK.out.1, hk5⟩
          have R5 := Lib.hid (txt_map10 hrw.out HKK.out.2 ht5)
          have T5 := Lib.hid (turn_trans htn.out (turned_turn (F := fun b => b = m ∨ w2.heap.size ≤ b) ht5 (.inl rfl)) (fun b hb => .inl hb))
          clear hk5 ht5
          go_roundw
          case rel => exact ⟨k + 1, by go_num, by omega, K5, R5, T5⟩
          case measure => simp [intOf]; omega
        · obtain rfl : k = n := by omega
          have K9 : Hid (KnowAt wr F p H) := Lib.hid (by
            have h9 := hkp.out
            rw [List.drop_of_length_le (by rw [← HN.out]; exact Nat.le_refl _), List.map_nil, List.append_nil] at h9
            exact ⟨m, X, h9, HI.out, HX.out, HFF.out.1, HFF.out.2.1, fun b hb => Nat.lt_of_lt_of_le (HFF.out.2.2 b hb) (HTT.out _ _ B2.out htn.out).size⟩)
          have T9 := Lib.hid (HTT.out _ _ B2.out htn.out)
          clear hk hkn
          go_wp2_with fail
          go_ret
          exact ⟨by rw [HE.out]; rfl, ⟨F, by rw [HLH2.out]; exact K9.out, fun b hb => .inl hb⟩, T9.out⟩
  · have he : learnE H (bl t) = 2 := by unfold learnE; rw [if_pos hc]
    have hh : learnH H (bl t) = H := by unfold learnH; rw [he, if_neg (by decide)]
    have hz : ((checkP (bl t) : Int) != 0) = true := by rw [bne_iff_ne]; omega
    rw [he, hh]
    generalize checkP (bl t) = z at *
    clear hq hI hX he hh hc ht hM hFp hFm hF
    go_enter Try.func11, Try.ntmps11
    go_wp2_with fail
    refine HC.out.mono ?_; rintro e w1 ⟨rfl, b1⟩
    have B1 := Lib.hid b1
    clear b1
    go_wp2_with fail
    go_ret
    exact ⟨rfl, ⟨F, HW.out.kept B1.out.size (fun b hb _ => B1.out.block b hb), fun b hb => .inl hb⟩, turn_below B1.out⟩
end Go.Proofs.Ytkebfabmcajbmaa.Pl
