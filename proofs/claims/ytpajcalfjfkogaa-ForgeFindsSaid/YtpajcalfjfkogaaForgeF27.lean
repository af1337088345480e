/- The statement ForgeSound, walked. The statement ForgeFinds, walked. -/
import Derived.Test.YtpajcalfjfkogaaForgeF16
import Derived.Test.YtpajcalfjfkogaaForgeF23
import Derived.Test.YtpajcalfjfkogaaForgeF26
import Derived.Test.YtpajcalfjfkogaaForgeF25
namespace Go.Proofs.Ytpajcalfjfkogaa.Pl
open Go.RowKit

theorem terms_can {was : List (List UInt8)} {ss : List Stp} (h : (termsP was ss).2.2 = 0) : ∀ x ∈ (termsP was ss).1, canP was x ∧ checkP x = 0 := by
  have hp := terms_pos h
  intro x hx
  have hc : canP was x := by
    unfold termsP at h hx
    by_cases h0 : ss.length = 0
    · rw [if_pos h0] at h
      cases h
    rw [if_neg h0] at h hx
    by_cases h1 : 32768 < ss.length
    · rw [if_pos h1] at h
      cases h
    rw [if_neg h1] at h hx
    exact steps_can (H := was) (fun _ hx _ => hx) ss [] _ _ (fun y hy => by cases hy) (Prod.ext rfl (Prod.ext rfl h)) x hx
  exact ⟨hc, can_check hc⟩
theorem terms_bad {was : List (List UInt8)} {ss : List Stp} (h : (termsP was ss).2.2 ≠ 0) : (termsP was ss).1 = [] := by
  unfold termsP at h ⊢
  by_cases h0 : ss.length = 0
  · rw [if_pos h0]
  rw [if_neg h0] at h ⊢
  by_cases h1 : 32768 < ss.length
  · rw [if_pos h1]
  rw [if_neg h1] at h ⊢
  exact steps_none _ _ _ h
set_option maxHeartbeats 8000000 in
set_option maxRecDepth 100000 in
theorem forgesound_any (l : List ByteArray) (ss : List Stp) (ao so : Option Addr) (cap sc : Nat)
    (w : World) (hM : MX w) (hrow : TxtRow w ao l) (hst : StpRow w so ss) :
    Calls Try.prog 4 #[.slice ao l.length cap, .slice so ss.length sc] w fun e w' => e = .returned (.bool true) ∧ Below w.heap.size w w' := by
  have HAL := Lib.hid (fun V => alive11_any V)
  have HLONG := Lib.hid (long10_any l ao cap w hrow)
  have HHEAVY := Lib.hid (heavy11_any ss so sc w hst)
  cases hlong : longB l with
  | true =>
    rw [hlong] at HLONG
    generalize l.length = n at *
    generalize ss.length = m at *
    clear hrow hst HHEAVY hM
    go_enter Try.func4, Try.ntmps4
    go_wp2_with fail
    refine HLONG.out.mono ?_; rintro e w0 ⟨rfl, e0⟩; subst e0
    go_wp2_with fail
    refine (HAL.out _).mono ?_; rintro e w3 ⟨rfl, bz⟩
    have BZ := Lib.hid bz
    clear bz
    go_wp2_with fail
    go_ret
    exact ⟨rfl, BZ.out⟩
  | false =>
  cases hheavy : heavyB ss with
  | true =>
    rw [hlong] at HLONG
    rw [hheavy] at HHEAVY
    generalize l.length = n at *
    generalize ss.length = m at *
    clear hrow hst hM
    go_enter Try.func4, Try.ntmps4
    go_wp2_with fail
    refine HLONG.out.mono ?_; rintro e w0 ⟨rfl, e0⟩; subst e0
    go_wp2_with fail
    refine HHEAVY.out.mono ?_; rintro e w0 ⟨rfl, e0⟩; have e1 := e0.symm; clear e0; subst e1
    go_wp2_with fail
    refine (HAL.out _).mono ?_; rintro e w3 ⟨rfl, bz⟩
    have BZ := Lib.hid bz
    clear bz
    go_wp2_with fail
    go_ret
    exact ⟨rfl, BZ.out⟩
  | false =>
  rw [hlong] at HLONG
  rw [hheavy] at HHEAVY
  obtain ⟨hl40, hlB⟩ := long_no hlong
  have hlz := small_each hlB
  obtain ⟨hs100, hsz⟩ := heavy_no hheavy
  have HKN := Lib.hid (knows11_any l ao cap (by omega) hlB w hrow hM)
  have HCA : Hid (∀ (F : Nat → Prop) (p : Nat) (t : ByteArray) (V : World), t.size ≤ 281474976710656 → canP (l.map bl) (bl t) → KnowAt V F p (learns [] (l.map bl)) → Calls Try.prog 16 #[.pointer (some ⟨p, 0, none⟩), .string t] V fun e w' => e = .returned (.bool true) ∧ Below V.heap.size V w') := Lib.hid (fun F p t V ht hc hk => by
    have h := know_can F p _ t ht V hk
    rw [(can_learnt hlB (bl t)).2 hc] at h
    exact h)
  have HT1 := Lib.hid (fun V a c (h1 : StpRow V so ss) (h2 : TxtRow V a l) => termsC ss so sc l a c (by omega) hlz (by omega) hsz V h1 h2)
  have HR1 := Lib.hid (fun V a c (h1 : StpRow V so ss) (h2 : TxtRow V a l) => runC ss so sc l a c (by omega) hlz (by omega) hsz V h1 h2)
  have HCAN := Lib.hid (fun h => terms_can (was := l.map bl) (ss := ss) h)
  have HBAD := Lib.hid (fun h => terms_bad (was := l.map bl) (ss := ss) h)
  have HPOS := Lib.hid (fun h => terms_pos (was := l.map bl) (ss := ss) h)
  have HROW := Lib.hid (fun V (hV : Below w.heap.size w V) => hrow.below hV)
  have HST := Lib.hid (fun V (hV : Below w.heap.size w V) => hst.below hV)
  have HS100 : Hid (ss.length ≤ 200) := Lib.hid (by omega)
  unfold runP at HR1
  generalize termsP (l.map bl) ss = T at *
  obtain ⟨n, hn⟩ : ∃ n, n = l.length := ⟨_, rfl⟩
  obtain ⟨m, hm⟩ : ∃ m, m = ss.length := ⟨_, rfl⟩
  rw [← hn] at HLONG HT1 HR1 HKN
  rw [← hm] at HHEAVY HT1 HR1 HPOS HS100
  rw [← hn, ← hm]
  clear hrow hst hlong hheavy hl40 hlB hlz hs100 hsz hn hm hM
  obtain ⟨T0, T1, T2⟩ := T
  dsimp only at HT1 HR1 HCAN HBAD HPOS
  go_enter Try.func4, Try.ntmps4
  go_wp2_with fail
  refine HLONG.out.mono ?_; rintro e w0 ⟨rfl, e0⟩; subst e0
  go_wp2_with fail
  refine HHEAVY.out.mono ?_; rintro e w0 ⟨rfl, e0⟩; have e1 := e0.symm; clear e0; subst e1
  clear HLONG HHEAVY
  go_wp2_with fail
  refine HKN.out.mono ?_; rintro e w1 ⟨⟨p, F, rfl, hk1, hF⟩, b1⟩
  have K1 := Lib.hid hk1
  have F1 := Lib.hid hF
  have B1 := Lib.hid b1
  clear HKN hk1 hF b1
  go_wp2_with fail
  refine (HT1.out _ ao cap (HST.out _ B1.out) (HROW.out _ B1.out)).mono ?_; rintro e w2 ⟨⟨v, L, rfl, ho, hL⟩, b2⟩
  have K2 := Lib.hid (K1.out.kept b2.size (fun b hlt _ => b2.block b hlt))
  have B2 := Lib.hid (below_step B1.out b2)
  obtain ⟨la, lc, rfl, hrl⟩ := ownT_row ho
  have R2 := Lib.hid hrl
  have L2 := Lib.hid hL
  clear HT1 K1 B1 b2 ho hrl
  by_cases hz : T2 = 0
  · subst hz
    have HC := Lib.hid (HCAN.out rfl)
    obtain ⟨p1, p2, p3⟩ := HPOS.out rfl
    rw [if_pos rfl] at HR1
    dsimp only at HR1
    have hLn : L.length = m := by rw [← p2, ← hL, List.length_map]
    have HLN := Lib.hid hLn
    have hm1 : 1 ≤ m := by omega
    have HXC : Hid (∀ k, (hk : k < L.length) → canP (l.map bl) (bl L[k]) ∧ L[k].size ≤ 16384) := Lib.hid (fun k hk => by
      have hin : bl L[k] ∈ T0 := by rw [← hL]; exact List.mem_map_of_mem (List.getElem_mem hk)
      have h := HC.out _ hin
      exact ⟨h.1, by rw [size_bl]; exact check_len h.2⟩)
    have HLAST : Hid ((⟨(T0.getD (T0.length - 1) []).toArray⟩ : ByteArray) = L.getD (m - 1) ByteArray.empty) := Lib.hid (by
      apply bl_inj
      rw [p2, ← hL, getD_map]
      simp [bl])
    rw [hLn]
    rw [HLAST.out] at HR1
    have HM200 := HS100.out
    clear HCAN HBAD HPOS p1 p2 p3 hL hLn L2 HC
    go_wp2_with fail
    go_loopw [8] (fun iv wr => ∃ k : Nat, iv = .int .i64 k ∧ k ≤ m ∧ Hid (Below w2.heap.size w2 wr)) (fun iv _ => m - (intOf iv).toNat)
    case atStart => exact ⟨0, rfl, Nat.zero_le _, Lib.hid (Below.refl _ _)⟩
    case round =>
      obtain ⟨k, rfl, hkm, hb⟩ := hrel
      by_cases hk : k < m
      · have hk' : (k : Int) < (m : Int) := by omega
        have hkl : k < L.length := by rw [HLN.out]; exact hk
        rcases R2.out.below hb.out with e | ⟨g, off, rfl, hlt, hc⟩
        · exfalso
          rw [e] at hkl
          exact absurd hkl (Nat.not_lt_zero _)
        have ck := hc k hkl
        have eg : L.getD k ByteArray.empty = L[k] := by simp [List.getD_eq_getElem?_getD, hkl]
        rw [eg] at ck
        obtain ⟨x1, x2⟩ := HXC.out k hkl
        have HCC := Lib.hid (HCA.out F p L[k] wr (by omega) x1 (K2.out.kept hb.out.size (fun b hlt _ => hb.out.block b hlt)))
        generalize L[k] = x at *
        clear hc hlt eg x1 x2 hkl
        go_wp2_with fail
        refine HCC.out.mono ?_; rintro e w3 ⟨rfl, b3⟩
        have B3 := Lib.hid (below_step hb.out b3)
        clear b3
        go_wp2_with fail
        go_roundw
        case rel => exact ⟨k + 1, by go_num, by omega, B3⟩
        case measure => simp [intOf]; omega
      · obtain rfl : k = m := by omega
        have BW := Lib.hid (below_step B2.out hb.out)
        obtain ⟨q, rfl⟩ : ∃ q, k = q + 1 := ⟨k - 1, by omega⟩
        rw [Nat.add_sub_cancel] at HR1
        have hql : q < L.length := by rw [HLN.out]; omega
        have HRR := Lib.hid (HR1.out wr ao cap (HST.out _ BW.out) (HROW.out _ BW.out))
        have RW := Lib.hid (R2.out.below hb.out)
        have hw3 : wrap64 (q : Int) = (q : Int) := IntWalk.wrap64_in _ ⟨by omega, by omega⟩
        have hk0 : (0 : Int) ≤ (q : Int) := by omega
        have hk4 : (q : Int) < (q : Int) + 1 := by omega
        generalize hzq : L.getD q ByteArray.empty = z at *
        clear hk hkm HR1 HXC HCA HM200 hm1
        go_wp2_with fail
        refine HRR.out.mono ?_; rintro e w3 ⟨rfl, b3⟩
        have B3 := Lib.hid (below_step BW.out b3)
        rcases RW.out.below b3 with e | ⟨g, off, rfl, hlt, hc⟩
        · exfalso
          rw [e] at hql
          exact absurd hql (Nat.not_lt_zero _)
        have cq := hc q hql
        rw [hzq] at cq
        clear hc hlt b3 hql hzq HRR RW
        go_wp2_with fail
        refine (HAL.out _).mono ?_; rintro e w4 ⟨rfl, b4⟩
        have B4 := Lib.hid (below_step B3.out b4)
        clear b4
        go_wp2_with fail
        go_ret
        exact ⟨rfl, B4.out⟩
  · have h0 : L = [] := List.map_eq_nil_iff.1 (hL.trans (HBAD.out hz))
    subst h0
    have q2 : ((T2 : Int) != 0) = true := by rw [bne_iff_ne]; omega
    clear HCAN HBAD HPOS HR1 L2 hL R2 HCA K2 F1
    rw [show (([] : List ByteArray).length) = 0 from rfl]
    go_wp2_with fail
    refine (HAL.out _).mono ?_; rintro e w4 ⟨rfl, b4⟩
    have B4 := Lib.hid (below_step B2.out b4)
    clear b4
    go_wp2_with fail
    go_ret
    exact ⟨rfl, B4.out⟩
end Go.Proofs.Ytpajcalfjfkogaa.Pl

namespace Go.Proofs.Ytpajcalfjfkogaa.Pl
open Go.RowKit

theorem run_last {was : List (List UInt8)} {ss : List Stp} {T : List (List UInt8)} {t : List UInt8} (h : stepsP was ss [] = (T, 0, 0)) (hl : ss.length ≤ 12000) (ht : T.getLast? = some t) : runP was ss = (t, 0, 0) := by
  have h1 := (steps_len was ss [] T 0 h).1
  obtain ⟨ys, e⟩ := List.getLast?_eq_some_iff.1 ht
  have h2 : ss.length ≠ 0 := by
    rw [e] at h1
    simp at h1
    omega
  have hT : termsP was ss = (T, 0, 0) := by
    unfold termsP
    rw [if_neg h2, if_neg (by omega)]
    exact h
  unfold runP
  rw [hT, if_pos rfl]
  show (T.getD (T.length - 1) [], 0, 0) = (t, 0, 0)
  rw [e]
  simp [List.getD_eq_getElem?_getD]
set_option maxHeartbeats 8000000 in
set_option maxRecDepth 100000 in
theorem forgefinds_any (l : List ByteArray) (s : ByteArray) (ao : Option Addr) (cap : Nat)
    (w : World) (hM : MX w) (hrow : TxtRow w ao l) :
    Calls Try.prog 5 #[.slice ao l.length cap, .string s] w fun e w' => e = .returned (.bool true) ∧ Below w.heap.size w w' := by
  have HAL := Lib.hid (fun V => alive11_any V)
  have HLONG := Lib.hid (long10_any l ao cap w hrow)
  cases hlong : longB l with
  | true =>
    rw [hlong] at HLONG
    generalize l.length = n at *
    clear hrow hM
    go_enter Try.func5, Try.ntmps5
    go_wp2_with fail
    refine HLONG.out.mono ?_; rintro e w0 ⟨rfl, e0⟩; subst e0
    go_wp2_with fail
    refine (HAL.out _).mono ?_; rintro e w3 ⟨rfl, bz⟩
    have BZ := Lib.hid bz
    clear bz
    go_wp2_with fail
    go_ret
    exact ⟨rfl, BZ.out⟩
  | false =>
  rw [hlong] at HLONG
  by_cases hs : s.size ≤ 6000
  · have hs2 : ¬ (6000 : Int) < (s.size : Int) := by omega
    obtain ⟨hl40, hlB⟩ := long_no hlong
    have hlz := small_each hlB
    have HKN := Lib.hid (knows11_any l ao cap (by omega) hlB w hrow hM)
    have HHOW := Lib.hid (fun V (hV : Below w.heap.size w V) (hm : MX V) => how11_any l ao cap (by omega) hlB s hs V (hrow.below hV) hm)
    have HCA : Hid (∀ (F : Nat → Prop) (p : Nat) (V : World) (b : Bool), (b = true ↔ canP (l.map bl) (bl s)) → KnowAt V F p (learns [] (l.map bl)) → Calls Try.prog 16 #[.pointer (some ⟨p, 0, none⟩), .string s] V fun e w' => e = .returned (.bool b) ∧ Below V.heap.size V w') := Lib.hid (fun F p V b hb hk => by
      have h := know_can F p _ s (by omega) V hk
      have e : canPB (learns [] (l.map bl)) (bl s) = b := by
        rw [Bool.eq_iff_iff]
        exact (can_learnt hlB (bl s)).trans hb.symm
      rw [e] at h
      exact h)
    have HRUN : Hid (∀ (ss : List Stp) (T : List (List UInt8)) (so : Option Addr) (sc : Nat) (V : World), Below w.heap.size w V → StpRow V so ss → (∀ s ∈ ss, s.text.size ≤ 1024) → ss.length ≤ 12000 → stepsP (l.map bl) ss [] = (T, 0, 0) → T.getLast? = some (bl s) → Calls Try.prog 10 #[.slice ao l.length cap, .slice so ss.length sc] V fun e w' => e = .returned (.tuple #[.string s, .int .i64 0, .int .i64 0]) ∧ Below V.heap.size V w') := Lib.hid (fun ss T so sc V hV h1 h2 h3 h4 h5 => by
      have h := run11_any ss so sc l ao cap (fun x hx => by have := hlz x hx; omega) (fun x hx => by have := h2 x hx; omega) (by omega) V h1 (hrow.below hV)
      rw [run_last h4 h3 h5] at h
      have e : (⟨(bl s).toArray⟩ : ByteArray) = s := bl_inj rfl
      dsimp only at h
      rw [e] at h
      exact h)
    have HMX := Lib.hid hM
    obtain ⟨n, hn⟩ : ∃ n, n = l.length := ⟨_, rfl⟩
    rw [← hn] at HLONG HKN HHOW HRUN
    rw [← hn]
    clear hrow hlong hl40 hlB hlz hn hM hs
    go_enter Try.func5, Try.ntmps5
    go_wp2_with fail
    refine HLONG.out.mono ?_; rintro e w0 ⟨rfl, e0⟩; subst e0
    clear HLONG
    go_wp2_with fail
    refine HKN.out.mono ?_; rintro e w1 ⟨⟨p, F, rfl, hk1, hF⟩, b1⟩
    have K1 := Lib.hid hk1
    have B1 := Lib.hid b1
    have M1 := Lib.hid (HMX.out.step b1)
    clear HKN hk1 hF b1
    go_wp2_with fail
    refine (HHOW.out _ B1.out M1.out).mono ?_; rintro e w2 ⟨v, b, rfl, h1, h2, h3, b2⟩
    have K2 := Lib.hid (K1.out.kept b2.size (fun b hlt _ => b2.block b hlt))
    have B2 := Lib.hid (below_step B1.out b2)
    have HC2 := Lib.hid (HCA.out F p w2 b h1 K2.out)
    clear b2
    cases b with
    | false =>
      obtain rfl := h2 rfl
      clear h1 h2 h3
      go_wp2_with fail
      refine HC2.out.mono ?_; rintro e w3 ⟨rfl, b3⟩
      have B3 := Lib.hid (below_step B2.out b3)
      clear b3
      go_wp2_with fail
      refine (HAL.out _).mono ?_; rintro e w4 ⟨rfl, bz⟩
      have BZ := Lib.hid (below_step B3.out bz)
      clear bz
      go_wp2_with fail
      go_ret
      exact ⟨rfl, BZ.out⟩
    | true =>
      obtain ⟨so, sc, ss, T, rfl, g1, g2, g3, g4, g5, g6⟩ := h3 rfl
      have HR2 := Lib.hid (fun V (hV : Below w2.heap.size w2 V) => HRUN.out ss T so sc V (below_step B2.out hV) (g1.below hV) g3 g4 g5 g6)
      generalize ss.length = m at *
      clear h1 h2 h3 g1 g2 g3 g4 g5 g6
      go_wp2_with fail
      refine HC2.out.mono ?_; rintro e w3 ⟨rfl, b3⟩
      have B3 := Lib.hid (below_step B2.out b3)
      have HR3 := Lib.hid (HR2.out w3 b3)
      clear b3
      go_wp2_with fail
      refine HR3.out.mono ?_; rintro e w4 ⟨rfl, b4⟩
      have B4 := Lib.hid (below_step B3.out b4)
      clear b4
      go_wp2_with fail
      refine (HAL.out _).mono ?_; rintro e w5 ⟨rfl, bz⟩
      have BZ := Lib.hid (below_step B4.out bz)
      clear bz
      go_wp2_with fail
      go_ret
      exact ⟨rfl, BZ.out⟩
  · have hs2 : (6000 : Int) < (s.size : Int) := by omega
    generalize l.length = n at *
    clear hrow hM hs
    go_enter Try.func5, Try.ntmps5
    go_wp2_with fail
    refine HLONG.out.mono ?_; rintro e w0 ⟨rfl, e0⟩; subst e0
    go_wp2_with fail
    refine (HAL.out _).mono ?_; rintro e w3 ⟨rfl, bz⟩
    have BZ := Lib.hid bz
    clear bz
    go_wp2_with fail
    go_ret
    exact ⟨rfl, BZ.out⟩
end Go.Proofs.Ytpajcalfjfkogaa.Pl
