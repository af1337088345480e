/- What the document's Check answers. -/
import Derived.Test.YtkipnbhejokbeaaDoorNameRunes
import Derived.Test.YtkipnbhejokbeaaDoorNameRune
import Derived.BigQuiet
namespace Go.Proofs.YtkipnbhejokbeaaDoor.Pl
open Go.RowKit

theorem getD_mem (l : List Int) (k : Nat) (h : k < l.length) : l.getD k 0 ∈ l := by
  rw [List.getD_eq_getElem?_getD, List.getElem?_eq_getElem h]; exact List.getElem_mem h
theorem mem_getD {l : List Int} {x : Int} (h : x ∈ l) : ∃ k, k < l.length ∧ l.getD k 0 = x := by
  obtain ⟨k, hk, rfl⟩ := List.getElem_of_mem h
  exact ⟨k, hk, by simp [List.getD_eq_getElem?_getD, hk]⟩
theorem head_getD (l : List Int) (h : 0 < l.length) : l.head? = some (l.getD 0 0) := by cases l with | nil => exact absurd h (by decide) | cons => rfl
theorem last_getD (l : List Int) (m : Nat) (h : l.length = m + 1) : l.getLast? = some (l.getD m 0) := by
  rw [List.getLast?_eq_getElem?, h, Nat.add_sub_cancel, List.getD_eq_getElem?_getD, List.getElem?_eq_getElem (by omega)]; rfl
theorem chk_long {l : List Int} (h : 24 < l.length) : checkL l = 5 := if_pos h
theorem chk_form {l : List Int} (h : ¬ 24 < l.length) (k : l = [] ∨ l.head? = some 45 ∨ l.getLast? = some 45 ∨ (l.any fun r => !chrZ r) = true) : checkL l = 7 := by unfold checkL; rw [if_neg h, if_pos k]
theorem chk_bad {l : List Int} (h : ¬ 24 < l.length) (k : Nat) (hk : k < l.length) (hb : chrZ (l.getD k 0) = false) : checkL l = 7 :=
  chk_form h (.inr (.inr (.inr (List.any_eq_true.2 ⟨_, getD_mem l k hk, by rw [hb]; rfl⟩))))
theorem chk_rest {l : List Int} {m : Nat} (h : ¬ 24 < l.length) (hm : l.length = m + 1) (h0 : l.getD 0 0 ≠ 45) (h1 : l.getD m 0 ≠ 45) (hc : ∀ j, j < l.length → chrZ (l.getD j 0) = true) : checkL l = if (trL l).mi = true then 50 else 0 := by
  unfold checkL
  rw [if_neg h, if_neg]
  rintro (e | e | e | e)
  · rw [e] at hm; simp at hm
  · rw [head_getD l (by omega)] at e; exact h0 (Option.some.inj e)
  · rw [last_getD l m hm] at e; exact h1 (Option.some.inj e)
  · obtain ⟨x, hx, hb⟩ := List.any_eq_true.1 e
    obtain ⟨k, hk, rfl⟩ := mem_getD hx
    rw [hc k hk] at hb; exact absurd hb (by decide)
theorem script_same (r : Int) (w : World) : Calls Tryd.prog 30 #[.int .i32 r] w fun e w' => e = .returned (.int .u8 (scrZ r)) ∧ w' = w :=
  (script_any r w).mono fun _ _ ⟨h, k⟩ => ⟨h, k.symm⟩
/-- Two letters of two scripts. -/
def Pair (x y : Int) : Prop := scrZ x ≠ 0 ∧ scrZ y ≠ 0 ∧ scrZ x ≠ scrZ y
theorem mix_of {l : List Int} {p q : Nat} (hp : p < l.length) (hq : q < l.length) (h : Pair (l.getD p 0) (l.getD q 0)) : (trL l).mi = true :=
  (trL_mi l).2 ⟨_, getD_mem l p hp, _, getD_mem l q hq, h⟩
theorem mix_no {l : List Int} (h : ∀ p, p < l.length → ∀ q, q < p → ¬ Pair (l.getD p 0) (l.getD q 0)) : ¬ (trL l).mi = true := by
  intro hm
  obtain ⟨x, hx, y, hy, a, b, c⟩ := (trL_mi l).1 hm
  obtain ⟨p, hp, rfl⟩ := mem_getD hx
  obtain ⟨q, hq, rfl⟩ := mem_getD hy
  rcases Nat.lt_trichotomy p q with e | e | e
  · exact h q hq p e ⟨b, a, fun e => c e.symm⟩
  · rw [e] at c; exact c rfl
  · exact h p hp q e ⟨a, b, c⟩

set_option maxHeartbeats 4000000 in
set_option maxRecDepth 100000 in
theorem rcheck_any (s : ByteArray) (hs : s.size ≤ 1000000) (w : World) :
    Calls Tryd.prog 12 #[.string s] w fun e w' => e = .returned (.int .i64 (checkL (runes s))) ∧ Below w.heap.size w w' := by
  have HR := Lib.hid (rrunes_any s hs w)
  have hl0 := Nat.le_trans (runes_length s) hs
  generalize runes s = l at *
  obtain ⟨z, hz⟩ : ∃ z, z = checkL l := ⟨_, rfl⟩
  rw [← hz]
  have HZ := Lib.hid hz
  obtain ⟨n, hn⟩ : ∃ n, n = l.length := ⟨_, rfl⟩
  have HN := Lib.hid hn
  rw [← hn] at hl0
  clear hs hz hn
  go_enter Tryd.func12, Tryd.ntmps12
  go_wp2_with fail
  refine HR.out.mono ?_; rintro e w1 ⟨v, rfl, ho, b1⟩
  obtain ⟨ao, cap, rfl, hrow⟩ := own_row ho
  have HO := Lib.hid hrow
  have B1 := Lib.hid b1
  rw [← HN.out]
  clear ho b1 hrow
  by_cases h24 : 24 < n
  · have HQ := Lib.hid (HZ.out.trans (chk_long (by rw [← HN.out]; exact h24)))
    go_wp2_with fail
    go_ret
    exact ⟨ret_i64 HQ.out.symm, B1.out⟩
  · have H24 : Hid (¬ 24 < l.length) := Lib.hid (by rw [← HN.out]; exact h24)
    have h24' : n ≤ 24 := by omega
    clear h24
    by_cases h0 : n = 0
    · have HQ := Lib.hid (HZ.out.trans (chk_form H24.out (.inl (List.length_eq_zero_iff.1 (by rw [← HN.out]; exact h0)))))
      subst h0
      go_wp2_with fail
      go_ret
      exact ⟨ret_i64 HQ.out.symm, B1.out⟩
    · obtain ⟨m, rfl⟩ : ∃ m, n = m + 1 := ⟨n - 1, by omega⟩
      rcases HO.out with e | ⟨g, rfl, hg, hc⟩
      · exfalso; have := HN.out; rw [e] at this; simp at this
      have c0 := hc 0 (by have := HN.out; omega)
      have cm := hc m (by have := HN.out; omega)
      have HCC : Hid (∀ k, k < m + 1 → ∀ W, Below w1.heap.size w1 W → W.cell? ⟨g, k, none⟩ = some (.int .i32 (l.getD k 0))) := Lib.hid (fun k hk W hb => (hb.cell (p := ⟨g, k, none⟩) hg).trans (hc k (by have := HN.out; omega)))
      have H0 : Hid (l.getD 0 0 = 45 → z = 7) := Lib.hid (fun e => HZ.out.trans (chk_form H24.out (.inr (.inl (by rw [head_getD l (by have := HN.out; omega), e])))))
      have HM : Hid (l.getD m 0 = 45 → z = 7) := Lib.hid (fun e => HZ.out.trans (chk_form H24.out (.inr (.inr (.inl (by rw [last_getD l m (HN.out.symm), e]))))))
      have HB : Hid (∀ k, k < m + 1 → chrZ (l.getD k 0) = false → z = 7) := Lib.hid (fun k hk e => HZ.out.trans (chk_bad H24.out k (by have := HN.out; omega) e))
      have HE : Hid (l.getD 0 0 ≠ 45 → l.getD m 0 ≠ 45 → (∀ j, j < m + 1 → chrZ (l.getD j 0) = true) → z = if (trL l).mi = true then 50 else 0) := Lib.hid (fun h0 h1 h2 => HZ.out.trans (chk_rest H24.out HN.out.symm h0 h1 (fun j hj => h2 j (by have := HN.out; omega))))
      have hm1 : (m : Int) + 1 - 1 = m := by omega
      have hq0 : ((m : Int) + 1 == 0) = false := by rw [beq_eq_false_iff_ne]; omega
      have hq24 : decide ((24 : Int) < (m : Int) + 1) = false := by rw [decide_eq_false_iff_not]; omega
      clear hc h0 hg
      by_cases e0 : l.getD 0 0 = 45
      · have HQ := Lib.hid (H0.out e0)
        have q0 : (l.getD 0 0 == 45) = true := by rw [beq_iff_eq]; exact e0
        generalize l.getD 0 0 = x0 at *
        clear e0
        go_wp2_with fail
        go_ret
        exact ⟨ret_i64 HQ.out.symm, B1.out⟩
      · have q0 : (l.getD 0 0 == 45) = false := by rw [beq_eq_false_iff_ne]; exact e0
        by_cases em : l.getD m 0 = 45
        · have HQ := Lib.hid (HM.out em)
          have qm : (l.getD m 0 == 45) = true := by rw [beq_iff_eq]; exact em
          generalize l.getD 0 0 = x0 at *
          generalize l.getD m 0 = xm at *
          clear e0 em
          go_wp2_with fail
          go_ret
          exact ⟨ret_i64 HQ.out.symm, B1.out⟩
        · have qm : (l.getD m 0 == 45) = false := by rw [beq_eq_false_iff_ne]; exact em
          have HF := Lib.hid (HE.out e0 em)
          generalize l.getD 0 0 = x0 at c0 q0
          generalize l.getD m 0 = xm at cm qm
          clear e0 em H0 HM HE
          go_wp2_with fail
          go_loopw [4] (fun i wr => ∃ k : Nat, i = .int .i64 k ∧ k ≤ m + 1 ∧ Hid (∀ j, j < k → chrZ (l.getD j 0) = true) ∧ Hid (Below w1.heap.size w1 wr)) (fun i _ => m + 1 - (intOf i).toNat)
          case atStart => exact ⟨0, rfl, Nat.zero_le _, Lib.hid (fun j hj => absurd hj (Nat.not_lt_zero j)), Lib.hid (Below.refl _ _)⟩
          case round =>
            obtain ⟨k, rfl, hkm, hch, hw⟩ := hrel
            have B2 := Lib.hid (below_step B1.out hw.out)
            by_cases hk : k < m + 1
            · have ck := HCC.out k hk wr hw.out
              have HBK := Lib.hid (HB.out k hk)
              have HNX : Hid (chrZ (l.getD k 0) = true → ∀ j, j < k + 1 → chrZ (l.getD j 0) = true) := Lib.hid (fun h j hj => by
                by_cases e : j = k
                · rw [e]; exact h
                · exact hch.out j (by omega))
              generalize l.getD k 0 = r at *
              obtain ⟨sc, hsc⟩ : ∃ sc, sc = scrZ r := ⟨_, rfl⟩
              have HSC := Lib.hid (fun V => script_any r V)
              rw [← hsc] at HSC
              by_cases h0 : sc = 0
              · have HSG := Lib.hid (fun V => sign_any r V)
                cases hg : sgnZ r with
                | true =>
                  have HX : Hid (chrZ r = true) := Lib.hid (by simp [chrZ, hg])
                  rw [hg] at HSG
                  subst h0
                  clear hsc hg
                  go_wp2_with fail
                  refine (HSC.out _).mono ?_; rintro e w3 ⟨rfl, rfl⟩
                  go_wp2_with fail
                  refine (HSG.out _).mono ?_; rintro e w3 ⟨rfl, rfl⟩
                  go_wp2_with fail
                  go_roundw
                  case rel => exact ⟨k + 1, by go_num, by omega, Lib.hid (HNX.out HX.out), hw⟩
                  case measure => simp [intOf]; omega
                | false =>
                  have HX : Hid (chrZ r = false) := Lib.hid (by simp [chrZ, hg, ← hsc, h0])
                  rw [hg] at HSG
                  subst h0
                  clear hsc hg
                  go_wp2_with fail
                  refine (HSC.out _).mono ?_; rintro e w3 ⟨rfl, rfl⟩
                  go_wp2_with fail
                  refine (HSG.out _).mono ?_; rintro e w3 ⟨rfl, rfl⟩
                  go_wp2_with fail
                  go_ret
                  exact ⟨ret_i64 (HBK.out HX.out).symm, B2.out⟩
              · have HX : Hid (chrZ r = true) := Lib.hid (scr_chr (by rw [← hsc]; exact h0))
                have q : (sc == 0) = false := by rw [beq_eq_false_iff_ne]; exact h0
                clear hsc h0
                go_wp2_with fail
                refine (HSC.out _).mono ?_; rintro e w3 ⟨rfl, rfl⟩
                go_wp2_with fail
                go_roundw
                case rel => exact ⟨k + 1, by go_num, by omega, Lib.hid (HNX.out HX.out), hw⟩
                case measure => simp [intOf]; omega
            · obtain rfl : k = m + 1 := by omega
              have HG := Lib.hid (HF.out hch.out)
              clear hk hkm HB HF
              go_wp2_with fail
              go_loopw [5] (fun i W => ∃ k : Nat, i = .int .i64 k ∧ k ≤ m + 1 ∧ Hid (∀ p, p < k → ∀ q, q < p → ¬ Pair (l.getD p 0) (l.getD q 0)) ∧ Hid (Below w1.heap.size w1 W)) (fun i _ => m + 1 - (intOf i).toNat)
              case atStart => exact ⟨0, rfl, Nat.zero_le _, Lib.hid (fun p hp => absurd hp (Nat.not_lt_zero p)), hw⟩
              case round =>
                obtain ⟨k, rfl, hkm, hpr, hw2⟩ := hrel
                by_cases hk : k < m + 1
                · have hk' : decide ((k : Int) < (m : Int) + 1) = true := by rw [decide_eq_true_eq]; omega
                  have HPX : Hid (∀ q, q < k → Pair (l.getD k 0) (l.getD q 0) → z = 50) := Lib.hid (fun q hq hp => by rw [HG.out, if_pos (mix_of (by have := HN.out; omega) (by have := HN.out; omega) hp)])
                  have HPN : Hid ((∀ q, q < k → ¬ Pair (l.getD k 0) (l.getD q 0)) → ∀ p, p < k + 1 → ∀ q, q < p → ¬ Pair (l.getD p 0) (l.getD q 0)) := Lib.hid (fun h p hp q hq => by
                    by_cases e : p = k
                    · rw [e]; exact h q (by omega)
                    · exact hpr.out p (by omega) q hq)
                  go_wp2_with fail
                  go_loopw [6] (fun j W => ∃ q : Nat, j = .int .i64 q ∧ q ≤ k ∧ Hid (∀ p, p < q → ¬ Pair (l.getD k 0) (l.getD p 0)) ∧ Hid (Below w1.heap.size w1 W)) (fun j _ => k - (intOf j).toNat)
                  case atStart => exact ⟨0, rfl, Nat.zero_le _, Lib.hid (fun p hp => absurd hp (Nat.not_lt_zero p)), hw2⟩
                  case round =>
                    obtain ⟨q, rfl, hqk, hno, hw3⟩ := hrel
                    by_cases hq : q < k
                    · have ck := HCC.out k hk _ hw3.out
                      have cq := HCC.out q (by omega) _ hw3.out
                      have HPK : Hid ((scrZ (l.getD k 0) ≠ 0 ∧ scrZ (l.getD q 0) ≠ 0 ∧ scrZ (l.getD k 0) ≠ scrZ (l.getD q 0)) → z = 50) := Lib.hid (HPX.out q hq)
                      have HNN : Hid (¬ (scrZ (l.getD k 0) ≠ 0 ∧ scrZ (l.getD q 0) ≠ 0 ∧ scrZ (l.getD k 0) ≠ scrZ (l.getD q 0)) → ∀ p, p < q + 1 → ¬ Pair (l.getD k 0) (l.getD p 0)) := Lib.hid (fun h p hp => by
                        by_cases e : p = q
                        · rw [e]; exact h
                        · exact hno.out p (by omega))
                      have HSK := Lib.hid (fun V => script_same (l.getD k 0) V)
                      have HSQ := Lib.hid (fun V => script_same (l.getD q 0) V)
                      obtain ⟨sx, hsx⟩ : ∃ sx, sx = scrZ (l.getD k 0) := ⟨_, rfl⟩
                      obtain ⟨sy, hsy⟩ : ∃ sy, sy = scrZ (l.getD q 0) := ⟨_, rfl⟩
                      rw [← hsx] at HSK HPK HNN
                      rw [← hsy] at HSQ HPK HNN
                      generalize l.getD k 0 = x at *
                      generalize l.getD q 0 = y at *
                      have hi1 : (k : Int) < (m : Int) + 1 := by omega
                      have hi2 : (q : Int) < (m : Int) + 1 := by omega
                      have hi3 : q < m + 1 := by omega
                      clear hsx hsy hk'
                      by_cases ex : sx = 0
                      · have HX : Hid (¬ (sx ≠ 0 ∧ sy ≠ 0 ∧ sx ≠ sy)) := Lib.hid (fun h => h.1 ex)
                        subst ex
                        go_wp2_with fail
                        go_quiet (first | (go_at_call 30; with_reducible refine Calls.quiet_of_same (HSK.out _)) | (go_at_call 30; with_reducible refine Calls.quiet_of_same (HSQ.out _)))
                        go_wp2_with fail
                        go_roundw
                        case rel => exact ⟨q + 1, by go_num, by omega, Lib.hid (HNN.out HX.out), Lib.hid (by first | exact hw3.out | exact below_drewN hw3.out _)⟩
                        case measure => simp [intOf]; omega
                      · have qx : (sx != 0) = true := by rw [bne_iff_ne]; exact ex
                        by_cases ey : sy = 0
                        · have HX : Hid (¬ (sx ≠ 0 ∧ sy ≠ 0 ∧ sx ≠ sy)) := Lib.hid (fun h => h.2.1 ey)
                          subst ey
                          clear ex
                          go_wp2_with fail
                          go_quiet (first | (go_at_call 30; with_reducible refine Calls.quiet_of_same (HSK.out _)) | (go_at_call 30; with_reducible refine Calls.quiet_of_same (HSQ.out _)))
                          go_wp2_with fail
                          go_roundw
                          case rel => exact ⟨q + 1, by go_num, by omega, Lib.hid (HNN.out HX.out), Lib.hid (by first | exact hw3.out | exact below_drewN hw3.out _)⟩
                          case measure => simp [intOf]; omega
                        · have qy : (sy != 0) = true := by rw [bne_iff_ne]; exact ey
                          by_cases exy : sx = sy
                          · have HX : Hid (¬ (sx ≠ 0 ∧ sy ≠ 0 ∧ sx ≠ sy)) := Lib.hid (fun h => h.2.2 exy)
                            subst exy
                            clear ex ey
                            go_wp2_with fail
                            go_quiet (first | (go_at_call 30; with_reducible refine Calls.quiet_of_same (HSK.out _)) | (go_at_call 30; with_reducible refine Calls.quiet_of_same (HSQ.out _)))
                            go_wp2_with fail
                            go_roundw
                            case rel => exact ⟨q + 1, by go_num, by omega, Lib.hid (HNN.out HX.out), Lib.hid (by first | exact hw3.out | exact below_drewN hw3.out _)⟩
                            case measure => simp [intOf]; omega
                          · have HQ := Lib.hid (HPK.out ⟨ex, ey, exy⟩)
                            have B3 := Lib.hid (below_step B1.out hw3.out)
                            have qxy : (sx != sy) = true := by rw [bne_iff_ne]; exact exy
                            clear ex ey exy
                            go_wp2_with fail
                            go_quiet (first | (go_at_call 30; with_reducible refine Calls.quiet_of_same (HSK.out _)) | (go_at_call 30; with_reducible refine Calls.quiet_of_same (HSQ.out _)))
                            go_wp2_with fail
                            go_ret
                            exact ⟨ret_i64 HQ.out.symm, by first | exact B3.out | exact below_drewN B3.out _⟩
                    · obtain rfl : q = k := by omega
                      have HQ := Lib.hid (HPN.out hno.out)
                      clear hq hqk
                      go_wp2_with fail
                      go_roundw
                      case rel => exact ⟨q + 1, by go_num, by omega, HQ, hw3⟩
                      case measure => simp [intOf]; omega
                · obtain rfl : k = m + 1 := by omega
                  have HQ : Hid (z = 0) := Lib.hid (by rw [HG.out, if_neg (mix_no (fun p hp q hq => hpr.out p (by have := HN.out; omega) q hq))])
                  have B3 := Lib.hid (below_step B1.out hw2.out)
                  clear hk hkm
                  go_wp2_with fail
                  go_ret
                  exact ⟨ret_i64 HQ.out.symm, B3.out⟩
end Go.Proofs.YtkipnbhejokbeaaDoor.Pl
