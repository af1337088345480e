/- NameRow answers true, whatever it is given. -/
import Derived.Test.YtkipnbhejokbeaaDoorNameClash
namespace Go.Proofs.YtkipnbhejokbeaaDoor.Pl
open Go.RowKit

theorem ord_ok {a b : ByteArray} (ha : okL (runes a)) (hb : okL (runes b)) : orderB a b = if cmpB (skelB a) (skelB b) ≠ 0 then cmpB (skelB a) (skelB b) else cmpB a b := if_pos ⟨ha, hb⟩
theorem ord_no {a b : ByteArray} (ha : ¬ okL (runes a)) : orderB a b = 0 := if_neg fun h => ha h.1
theorem cmp_range (a b : ByteArray) : cmpB a b = -1 ∨ cmpB a b = 0 ∨ cmpB a b = 1 := cmpB_range _ _
theorem cmp_swap (a b : ByteArray) : cmpB b a = - cmpB a b := cmpB_swap _ _
theorem cmp_trans {a b c : ByteArray} (h : cmpB a b = -1) (k : cmpB b c = -1) : cmpB a c = -1 := cmpB_trans _ _ _ h k
theorem ord_range {a b : ByteArray} (ha : okL (runes a)) (hb : okL (runes b)) : orderB a b = -1 ∨ orderB a b = 0 ∨ orderB a b = 1 := by
  rw [ord_ok ha hb]; split
  · exact cmp_range _ _
  · exact cmp_range _ _
theorem ord_swap {a b : ByteArray} (ha : okL (runes a)) (hb : okL (runes b)) : orderB b a = - orderB a b := by
  rw [ord_ok ha hb, ord_ok hb ha, cmp_swap (skelB a) (skelB b), cmp_swap a b]
  by_cases h : cmpB (skelB a) (skelB b) = 0
  · rw [if_neg (by rw [h]; decide), if_neg (by simpa using h)]
  · rw [if_pos (by omega), if_pos h]
theorem ord_zero {a b : ByteArray} (ha : okL (runes a)) (hb : okL (runes b)) : orderB a b = 0 ↔ a = b := by
  rw [ord_ok ha hb]
  by_cases h : cmpB (skelB a) (skelB b) = 0
  · rw [if_neg (by simpa using h)]; exact cmpB_eq
  · rw [if_pos h]
    exact ⟨fun e => absurd e h, fun e => absurd (by rw [e]; exact cmpB_eq.2 rfl) h⟩
/-- By looks first, then by the texts. -/
theorem ord_lt {a b : ByteArray} (ha : okL (runes a)) (hb : okL (runes b)) : orderB a b = -1 ↔ cmpB (skelB a) (skelB b) = -1 ∨ (skelB a = skelB b ∧ cmpB a b = -1) := by
  rw [ord_ok ha hb]
  by_cases h : cmpB (skelB a) (skelB b) = 0
  · rw [if_neg (by simpa using h)]
    exact ⟨fun e => .inr ⟨cmpB_eq.1 h, e⟩, fun e => e.elim (fun e => by rw [h] at e; exact absurd e (by decide)) (·.2)⟩
  · rw [if_pos h]
    exact ⟨.inl, fun e => e.elim id (fun e => absurd (cmpB_eq.2 e.1) h)⟩
theorem ord_trans {a b c : ByteArray} (ha : okL (runes a)) (hb : okL (runes b)) (hc : okL (runes c)) (h : orderB a b = -1) (k : orderB b c = -1) : orderB a c = -1 := by
  rw [ord_lt ha hb] at h
  rw [ord_lt hb hc] at k
  rw [ord_lt ha hc]
  rcases h with h | ⟨h, h'⟩
  · rcases k with k | ⟨k, k'⟩
    · exact .inl (cmp_trans h k)
    · exact .inl (by rw [← k]; exact h)
  · rcases k with k | ⟨k, k'⟩
    · exact .inl (by rw [h]; exact k)
    · exact .inr ⟨h.trans k, cmp_trans h' k'⟩
/-- Whoever stands between two that clash clashes with both. -/
theorem ord_clash {a b c : ByteArray} (ha : okL (runes a)) (hb : okL (runes b)) (hc : okL (runes c)) (h : orderB a b = -1) (k : orderB b c = -1) (hcl : clashB a c = true) : clashB a b = true ∧ clashB b c = true := by
  have hab : a ≠ b := fun e => by rw [(ord_zero ha hb).2 e] at h; exact absurd h (by decide)
  have hbc : b ≠ c := fun e => by rw [(ord_zero hb hc).2 e] at k; exact absurd k (by decide)
  have hs := (clash_iff.1 hcl).2.2.2
  rw [ord_lt ha hb] at h
  rw [ord_lt hb hc] at k
  have e : skelB a = skelB b := by
    rcases h with h | ⟨h, _⟩
    · rcases k with k | ⟨k, _⟩
      · have := cmp_trans h k
        rw [hs, cmpB_eq.2 rfl] at this
        exact absurd this (by decide)
      · rw [hs, ← k, cmpB_eq.2 rfl] at h
        exact absurd h (by decide)
    · exact h
  exact ⟨clash_iff.2 ⟨ha, hb, hab, e⟩, clash_iff.2 ⟨hb, hc, hbc, e.symm.trans hs⟩⟩

set_option maxHeartbeats 4000000 in
set_option maxRecDepth 100000 in
theorem namerow_any (a b c : ByteArray) (ha : a.size ≤ 9223372036854775807) (hb : b.size ≤ 9223372036854775807) (hc : c.size ≤ 9223372036854775807) (w : World) (hT : Chars w) :
    Calls Tryd.prog 6 #[.string a, .string b, .string c] w fun e w' => e = .returned (.bool true) ∧ Below w.heap.size w w' := by
  have HT := Lib.hid hT
  have HA := Lib.hid (fun V h => alive_any5 V h)
  have HKA := Lib.hid (fun V h => check_any a ha V h)
  have HKB := Lib.hid (fun V h => check_any b hb V h)
  have HKC := Lib.hid (fun V h => check_any c hc V h)
  have HAB := Lib.hid (fun V h => order_any a b ha hb V h)
  have HBC := Lib.hid (fun V h => order_any b c hb hc V h)
  have HAC := Lib.hid (fun V h => order_any a c ha hc V h)
  have HBA := Lib.hid (fun V h => order_any b a hb ha V h)
  have HCAC := Lib.hid (fun V h => clash_any a c ha hc V h)
  have HCAB := Lib.hid (fun V h => clash_any a b ha hb V h)
  have HCBC := Lib.hid (fun V h => clash_any b c hb hc V h)
  clear hT ha hb hc
  obtain ⟨lg, hlg⟩ : ∃ lg, lg = (decide (Lg a ∨ Lg b ∨ Lg c)) := ⟨_, rfl⟩
  have HLG : Hid (lg = true ↔ (Lg a ∨ Lg b ∨ Lg c)) := Lib.hid (by rw [hlg, decide_eq_true_iff])
  clear hlg
  cases lg with
  | true =>
    go_enter Tryd.func6, Tryd.ntmps6
    go_wp2_with fail
    refine (long3_any _ a b c _ (by simp) (by simp) (by simp) true (by simpa using HLG.out)).mono ?_; rintro e w1 ⟨rfl, rfl⟩
    have B1 := Lib.hid ((Below.refl w.heap.size w).alloc (Nat.le_refl _) (.cells #[.string a, .string b, .string c] 9))
    generalize w.alloc (.cells #[.string a, .string b, .string c] 9) = W0 at *
    go_wp2_with fail
    refine (HA.out _ (HT.out.below B1.out)).mono ?_; rintro e w2 ⟨rfl, b2⟩
    have B2 := Lib.hid (below_step B1.out b2)
    clear b2 B1
    go_wp2_with fail
    go_ret
    exact ⟨rfl, B2.out⟩
  | false =>
    by_cases oa : okL (runes a)
    · by_cases ob : okL (runes b)
      · by_cases oc : okL (runes c)
        · rw [show checkL (runes a) = 0 from oa] at HKA
          rw [show checkL (runes b) = 0 from ob] at HKB
          rw [show checkL (runes c) = 0 from oc] at HKC
          rw [ord_swap oa ob] at HBA
          rcases ord_range oa ob with h | h | h
          · -- ab < 0
            have hne : a ≠ b := fun e => by rw [(ord_zero oa ob).2 e] at h; exact absurd h (by decide)
            obtain ⟨g1, g2⟩ := str5_ne hne
            rw [h] at HAB HBA
            rcases ord_range ob oc with k | k | k
            · -- bc < 0
              have hac := ord_trans oa ob oc h k
              rw [k] at HBC
              rw [hac] at HAC
              obtain ⟨j, hj⟩ : ∃ j, j = clashB a c := ⟨_, rfl⟩
              rw [← hj] at HCAC
              cases j with
              | true =>
                obtain ⟨c1, c2⟩ := ord_clash oa ob oc h k hj.symm
                rw [c1] at HCAB
                rw [c2] at HCBC
                clear hne h k hac hj c1 c2 oa ob oc
                go_enter Tryd.func6, Tryd.ntmps6
                go_wp2_with fail
                refine (long3_any _ a b c _ (by simp) (by simp) (by simp) false HLG.out).mono ?_; rintro e w1 ⟨rfl, rfl⟩
                have B1 := Lib.hid ((Below.refl w.heap.size w).alloc (Nat.le_refl _) (.cells #[.string a, .string b, .string c] 9))
                generalize w.alloc (.cells #[.string a, .string b, .string c] 9) = W0 at *
                go_wp2_with fail
                refine (HKA.out _ (HT.out.below B1.out)).mono ?_; rintro e w2 ⟨rfl, b2⟩
                have B2 := Lib.hid (below_step B1.out b2)
                clear b2 B1
                go_wp2_with fail
                refine (HKB.out _ (HT.out.below B2.out)).mono ?_; rintro e w3 ⟨rfl, b3⟩
                have B3 := Lib.hid (below_step B2.out b3)
                clear b3 B2
                go_wp2_with fail
                refine (HKC.out _ (HT.out.below B3.out)).mono ?_; rintro e w4 ⟨rfl, b4⟩
                have B4 := Lib.hid (below_step B3.out b4)
                clear b4 B3
                go_wp2_with fail
                refine (HAB.out _ (HT.out.below B4.out)).mono ?_; rintro e w5 ⟨rfl, b5⟩
                have B5 := Lib.hid (below_step B4.out b5)
                clear b5 B4
                go_wp2_with fail
                refine (HBC.out _ (HT.out.below B5.out)).mono ?_; rintro e w6 ⟨rfl, b6⟩
                have B6 := Lib.hid (below_step B5.out b6)
                clear b6 B5
                go_wp2_with fail
                refine (HAC.out _ (HT.out.below B6.out)).mono ?_; rintro e w7 ⟨rfl, b7⟩
                have B7 := Lib.hid (below_step B6.out b7)
                clear b7 B6
                go_wp2_with fail
                refine (HBA.out _ (HT.out.below B7.out)).mono ?_; rintro e w8 ⟨rfl, b8⟩
                have B8 := Lib.hid (below_step B7.out b8)
                clear b8 B7
                go_wp2_with fail
                refine (HCAC.out _ (HT.out.below B8.out)).mono ?_; rintro e w9 ⟨rfl, b9⟩
                have B9 := Lib.hid (below_step B8.out b9)
                clear b9 B8
                go_wp2_with fail
                refine (HCAB.out _ (HT.out.below B9.out)).mono ?_; rintro e w10 ⟨rfl, b10⟩
                have B10 := Lib.hid (below_step B9.out b10)
                clear b10 B9
                go_wp2_with fail
                refine (HCBC.out _ (HT.out.below B10.out)).mono ?_; rintro e w11 ⟨rfl, b11⟩
                have B11 := Lib.hid (below_step B10.out b11)
                clear b11 B10
                go_wp2_with fail
                refine (HA.out _ (HT.out.below B11.out)).mono ?_; rintro e w12 ⟨rfl, b12⟩
                have B12 := Lib.hid (below_step B11.out b12)
                clear b12 B11
                go_wp2_with fail
                go_ret
                exact ⟨rfl, B12.out⟩
              | false =>
                clear hne h k hac hj oa ob oc
                go_enter Tryd.func6, Tryd.ntmps6
                go_wp2_with fail
                refine (long3_any _ a b c _ (by simp) (by simp) (by simp) false HLG.out).mono ?_; rintro e w1 ⟨rfl, rfl⟩
                have B1 := Lib.hid ((Below.refl w.heap.size w).alloc (Nat.le_refl _) (.cells #[.string a, .string b, .string c] 9))
                generalize w.alloc (.cells #[.string a, .string b, .string c] 9) = W0 at *
                go_wp2_with fail
                refine (HKA.out _ (HT.out.below B1.out)).mono ?_; rintro e w2 ⟨rfl, b2⟩
                have B2 := Lib.hid (below_step B1.out b2)
                clear b2 B1
                go_wp2_with fail
                refine (HKB.out _ (HT.out.below B2.out)).mono ?_; rintro e w3 ⟨rfl, b3⟩
                have B3 := Lib.hid (below_step B2.out b3)
                clear b3 B2
                go_wp2_with fail
                refine (HKC.out _ (HT.out.below B3.out)).mono ?_; rintro e w4 ⟨rfl, b4⟩
                have B4 := Lib.hid (below_step B3.out b4)
                clear b4 B3
                go_wp2_with fail
                refine (HAB.out _ (HT.out.below B4.out)).mono ?_; rintro e w5 ⟨rfl, b5⟩
                have B5 := Lib.hid (below_step B4.out b5)
                clear b5 B4
                go_wp2_with fail
                refine (HBC.out _ (HT.out.below B5.out)).mono ?_; rintro e w6 ⟨rfl, b6⟩
                have B6 := Lib.hid (below_step B5.out b6)
                clear b6 B5
                go_wp2_with fail
                refine (HAC.out _ (HT.out.below B6.out)).mono ?_; rintro e w7 ⟨rfl, b7⟩
                have B7 := Lib.hid (below_step B6.out b7)
                clear b7 B6
                go_wp2_with fail
                refine (HBA.out _ (HT.out.below B7.out)).mono ?_; rintro e w8 ⟨rfl, b8⟩
                have B8 := Lib.hid (below_step B7.out b8)
                clear b8 B7
                go_wp2_with fail
                refine (HCAC.out _ (HT.out.below B8.out)).mono ?_; rintro e w9 ⟨rfl, b9⟩
                have B9 := Lib.hid (below_step B8.out b9)
                clear b9 B8
                go_wp2_with fail
                refine (HA.out _ (HT.out.below B9.out)).mono ?_; rintro e w10 ⟨rfl, b10⟩
                have B10 := Lib.hid (below_step B9.out b10)
                clear b10 B9
                go_wp2_with fail
                go_ret
                exact ⟨rfl, B10.out⟩
            · -- b = c
              have e := (ord_zero ob oc).1 k
              subst e
              rw [k] at HBC
              rw [h] at HAC
              clear hne h k oa ob oc
              go_enter Tryd.func6, Tryd.ntmps6
              go_wp2_with fail
              refine (long3_any _ a b b _ (by simp) (by simp) (by simp) false HLG.out).mono ?_; rintro e w1 ⟨rfl, rfl⟩
              have B1 := Lib.hid ((Below.refl w.heap.size w).alloc (Nat.le_refl _) (.cells #[.string a, .string b, .string b] 9))
              generalize w.alloc (.cells #[.string a, .string b, .string b] 9) = W0 at *
              go_wp2_with fail
              refine (HKA.out _ (HT.out.below B1.out)).mono ?_; rintro e w2 ⟨rfl, b2⟩
              have B2 := Lib.hid (below_step B1.out b2)
              clear b2 B1
              go_wp2_with fail
              refine (HKB.out _ (HT.out.below B2.out)).mono ?_; rintro e w3 ⟨rfl, b3⟩
              have B3 := Lib.hid (below_step B2.out b3)
              clear b3 B2
              go_wp2_with fail
              refine (HKC.out _ (HT.out.below B3.out)).mono ?_; rintro e w4 ⟨rfl, b4⟩
              have B4 := Lib.hid (below_step B3.out b4)
              clear b4 B3
              go_wp2_with fail
              refine (HAB.out _ (HT.out.below B4.out)).mono ?_; rintro e w5 ⟨rfl, b5⟩
              have B5 := Lib.hid (below_step B4.out b5)
              clear b5 B4
              go_wp2_with fail
              refine (HBC.out _ (HT.out.below B5.out)).mono ?_; rintro e w6 ⟨rfl, b6⟩
              have B6 := Lib.hid (below_step B5.out b6)
              clear b6 B5
              go_wp2_with fail
              refine (HAC.out _ (HT.out.below B6.out)).mono ?_; rintro e w7 ⟨rfl, b7⟩
              have B7 := Lib.hid (below_step B6.out b7)
              clear b7 B6
              go_wp2_with fail
              refine (HBA.out _ (HT.out.below B7.out)).mono ?_; rintro e w8 ⟨rfl, b8⟩
              have B8 := Lib.hid (below_step B7.out b8)
              clear b8 B7
              go_wp2_with fail
              refine (HA.out _ (HT.out.below B8.out)).mono ?_; rintro e w9 ⟨rfl, b9⟩
              have B9 := Lib.hid (below_step B8.out b9)
              clear b9 B8
              go_wp2_with fail
              go_ret
              exact ⟨rfl, B9.out⟩
            · -- bc > 0
              rw [k] at HBC
              generalize orderB a c = z at *
              clear hne h k oa ob oc
              go_enter Tryd.func6, Tryd.ntmps6
              go_wp2_with fail
              refine (long3_any _ a b c _ (by simp) (by simp) (by simp) false HLG.out).mono ?_; rintro e w1 ⟨rfl, rfl⟩
              have B1 := Lib.hid ((Below.refl w.heap.size w).alloc (Nat.le_refl _) (.cells #[.string a, .string b, .string c] 9))
              generalize w.alloc (.cells #[.string a, .string b, .string c] 9) = W0 at *
              go_wp2_with fail
              refine (HKA.out _ (HT.out.below B1.out)).mono ?_; rintro e w2 ⟨rfl, b2⟩
              have B2 := Lib.hid (below_step B1.out b2)
              clear b2 B1
              go_wp2_with fail
              refine (HKB.out _ (HT.out.below B2.out)).mono ?_; rintro e w3 ⟨rfl, b3⟩
              have B3 := Lib.hid (below_step B2.out b3)
              clear b3 B2
              go_wp2_with fail
              refine (HKC.out _ (HT.out.below B3.out)).mono ?_; rintro e w4 ⟨rfl, b4⟩
              have B4 := Lib.hid (below_step B3.out b4)
              clear b4 B3
              go_wp2_with fail
              refine (HAB.out _ (HT.out.below B4.out)).mono ?_; rintro e w5 ⟨rfl, b5⟩
              have B5 := Lib.hid (below_step B4.out b5)
              clear b5 B4
              go_wp2_with fail
              refine (HBC.out _ (HT.out.below B5.out)).mono ?_; rintro e w6 ⟨rfl, b6⟩
              have B6 := Lib.hid (below_step B5.out b6)
              clear b6 B5
              go_wp2_with fail
              refine (HAC.out _ (HT.out.below B6.out)).mono ?_; rintro e w7 ⟨rfl, b7⟩
              have B7 := Lib.hid (below_step B6.out b7)
              clear b7 B6
              go_wp2_with fail
              refine (HBA.out _ (HT.out.below B7.out)).mono ?_; rintro e w8 ⟨rfl, b8⟩
              have B8 := Lib.hid (below_step B7.out b8)
              clear b8 B7
              go_wp2_with fail
              refine (HA.out _ (HT.out.below B8.out)).mono ?_; rintro e w9 ⟨rfl, b9⟩
              have B9 := Lib.hid (below_step B8.out b9)
              clear b9 B8
              go_wp2_with fail
              go_ret
              exact ⟨rfl, B9.out⟩
          · -- a = b
            have e := (ord_zero oa ob).1 h
            subst e
            rw [h] at HAB HBA
            rcases ord_range ob oc with k | k | k
            all_goals rw [k] at HBC HAC
            all_goals clear h k oa ob oc
            · skip
              go_enter Tryd.func6, Tryd.ntmps6
              go_wp2_with fail
              refine (long3_any _ a a c _ (by simp) (by simp) (by simp) false HLG.out).mono ?_; rintro e w1 ⟨rfl, rfl⟩
              have B1 := Lib.hid ((Below.refl w.heap.size w).alloc (Nat.le_refl _) (.cells #[.string a, .string a, .string c] 9))
              generalize w.alloc (.cells #[.string a, .string a, .string c] 9) = W0 at *
              go_wp2_with fail
              refine (HKA.out _ (HT.out.below B1.out)).mono ?_; rintro e w2 ⟨rfl, b2⟩
              have B2 := Lib.hid (below_step B1.out b2)
              clear b2 B1
              go_wp2_with fail
              refine (HKB.out _ (HT.out.below B2.out)).mono ?_; rintro e w3 ⟨rfl, b3⟩
              have B3 := Lib.hid (below_step B2.out b3)
              clear b3 B2
              go_wp2_with fail
              refine (HKC.out _ (HT.out.below B3.out)).mono ?_; rintro e w4 ⟨rfl, b4⟩
              have B4 := Lib.hid (below_step B3.out b4)
              clear b4 B3
              go_wp2_with fail
              refine (HAB.out _ (HT.out.below B4.out)).mono ?_; rintro e w5 ⟨rfl, b5⟩
              have B5 := Lib.hid (below_step B4.out b5)
              clear b5 B4
              go_wp2_with fail
              refine (HBC.out _ (HT.out.below B5.out)).mono ?_; rintro e w6 ⟨rfl, b6⟩
              have B6 := Lib.hid (below_step B5.out b6)
              clear b6 B5
              go_wp2_with fail
              refine (HAC.out _ (HT.out.below B6.out)).mono ?_; rintro e w7 ⟨rfl, b7⟩
              have B7 := Lib.hid (below_step B6.out b7)
              clear b7 B6
              go_wp2_with fail
              refine (HBA.out _ (HT.out.below B7.out)).mono ?_; rintro e w8 ⟨rfl, b8⟩
              have B8 := Lib.hid (below_step B7.out b8)
              clear b8 B7
              go_wp2_with fail
              refine (HA.out _ (HT.out.below B8.out)).mono ?_; rintro e w9 ⟨rfl, b9⟩
              have B9 := Lib.hid (below_step B8.out b9)
              clear b9 B8
              go_wp2_with fail
              go_ret
              exact ⟨rfl, B9.out⟩
            · skip
              go_enter Tryd.func6, Tryd.ntmps6
              go_wp2_with fail
              refine (long3_any _ a a c _ (by simp) (by simp) (by simp) false HLG.out).mono ?_; rintro e w1 ⟨rfl, rfl⟩
              have B1 := Lib.hid ((Below.refl w.heap.size w).alloc (Nat.le_refl _) (.cells #[.string a, .string a, .string c] 9))
              generalize w.alloc (.cells #[.string a, .string a, .string c] 9) = W0 at *
              go_wp2_with fail
              refine (HKA.out _ (HT.out.below B1.out)).mono ?_; rintro e w2 ⟨rfl, b2⟩
              have B2 := Lib.hid (below_step B1.out b2)
              clear b2 B1
              go_wp2_with fail
              refine (HKB.out _ (HT.out.below B2.out)).mono ?_; rintro e w3 ⟨rfl, b3⟩
              have B3 := Lib.hid (below_step B2.out b3)
              clear b3 B2
              go_wp2_with fail
              refine (HKC.out _ (HT.out.below B3.out)).mono ?_; rintro e w4 ⟨rfl, b4⟩
              have B4 := Lib.hid (below_step B3.out b4)
              clear b4 B3
              go_wp2_with fail
              refine (HAB.out _ (HT.out.below B4.out)).mono ?_; rintro e w5 ⟨rfl, b5⟩
              have B5 := Lib.hid (below_step B4.out b5)
              clear b5 B4
              go_wp2_with fail
              refine (HBC.out _ (HT.out.below B5.out)).mono ?_; rintro e w6 ⟨rfl, b6⟩
              have B6 := Lib.hid (below_step B5.out b6)
              clear b6 B5
              go_wp2_with fail
              refine (HAC.out _ (HT.out.below B6.out)).mono ?_; rintro e w7 ⟨rfl, b7⟩
              have B7 := Lib.hid (below_step B6.out b7)
              clear b7 B6
              go_wp2_with fail
              refine (HBA.out _ (HT.out.below B7.out)).mono ?_; rintro e w8 ⟨rfl, b8⟩
              have B8 := Lib.hid (below_step B7.out b8)
              clear b8 B7
              go_wp2_with fail
              refine (HA.out _ (HT.out.below B8.out)).mono ?_; rintro e w9 ⟨rfl, b9⟩
              have B9 := Lib.hid (below_step B8.out b9)
              clear b9 B8
              go_wp2_with fail
              go_ret
              exact ⟨rfl, B9.out⟩
            · skip
              go_enter Tryd.func6, Tryd.ntmps6
              go_wp2_with fail
              refine (long3_any _ a a c _ (by simp) (by simp) (by simp) false HLG.out).mono ?_; rintro e w1 ⟨rfl, rfl⟩
              have B1 := Lib.hid ((Below.refl w.heap.size w).alloc (Nat.le_refl _) (.cells #[.string a, .string a, .string c] 9))
              generalize w.alloc (.cells #[.string a, .string a, .string c] 9) = W0 at *
              go_wp2_with fail
              refine (HKA.out _ (HT.out.below B1.out)).mono ?_; rintro e w2 ⟨rfl, b2⟩
              have B2 := Lib.hid (below_step B1.out b2)
              clear b2 B1
              go_wp2_with fail
              refine (HKB.out _ (HT.out.below B2.out)).mono ?_; rintro e w3 ⟨rfl, b3⟩
              have B3 := Lib.hid (below_step B2.out b3)
              clear b3 B2
              go_wp2_with fail
              refine (HKC.out _ (HT.out.below B3.out)).mono ?_; rintro e w4 ⟨rfl, b4⟩
              have B4 := Lib.hid (below_step B3.out b4)
              clear b4 B3
              go_wp2_with fail
              refine (HAB.out _ (HT.out.below B4.out)).mono ?_; rintro e w5 ⟨rfl, b5⟩
              have B5 := Lib.hid (below_step B4.out b5)
              clear b5 B4
              go_wp2_with fail
              refine (HBC.out _ (HT.out.below B5.out)).mono ?_; rintro e w6 ⟨rfl, b6⟩
              have B6 := Lib.hid (below_step B5.out b6)
              clear b6 B5
              go_wp2_with fail
              refine (HAC.out _ (HT.out.below B6.out)).mono ?_; rintro e w7 ⟨rfl, b7⟩
              have B7 := Lib.hid (below_step B6.out b7)
              clear b7 B6
              go_wp2_with fail
              refine (HBA.out _ (HT.out.below B7.out)).mono ?_; rintro e w8 ⟨rfl, b8⟩
              have B8 := Lib.hid (below_step B7.out b8)
              clear b8 B7
              go_wp2_with fail
              refine (HA.out _ (HT.out.below B8.out)).mono ?_; rintro e w9 ⟨rfl, b9⟩
              have B9 := Lib.hid (below_step B8.out b9)
              clear b9 B8
              go_wp2_with fail
              go_ret
              exact ⟨rfl, B9.out⟩
          · -- ab > 0
            have hne : a ≠ b := fun e => by rw [(ord_zero oa ob).2 e] at h; exact absurd h (by decide)
            obtain ⟨g1, g2⟩ := str5_ne hne
            rw [h] at HAB HBA
            generalize orderB a c = z at *
            generalize orderB b c = y at *
            clear hne h oa ob oc
            go_enter Tryd.func6, Tryd.ntmps6
            go_wp2_with fail
            refine (long3_any _ a b c _ (by simp) (by simp) (by simp) false HLG.out).mono ?_; rintro e w1 ⟨rfl, rfl⟩
            have B1 := Lib.hid ((Below.refl w.heap.size w).alloc (Nat.le_refl _) (.cells #[.string a, .string b, .string c] 9))
            generalize w.alloc (.cells #[.string a, .string b, .string c] 9) = W0 at *
            go_wp2_with fail
            refine (HKA.out _ (HT.out.below B1.out)).mono ?_; rintro e w2 ⟨rfl, b2⟩
            have B2 := Lib.hid (below_step B1.out b2)
            clear b2 B1
            go_wp2_with fail
            refine (HKB.out _ (HT.out.below B2.out)).mono ?_; rintro e w3 ⟨rfl, b3⟩
            have B3 := Lib.hid (below_step B2.out b3)
            clear b3 B2
            go_wp2_with fail
            refine (HKC.out _ (HT.out.below B3.out)).mono ?_; rintro e w4 ⟨rfl, b4⟩
            have B4 := Lib.hid (below_step B3.out b4)
            clear b4 B3
            go_wp2_with fail
            refine (HAB.out _ (HT.out.below B4.out)).mono ?_; rintro e w5 ⟨rfl, b5⟩
            have B5 := Lib.hid (below_step B4.out b5)
            clear b5 B4
            go_wp2_with fail
            refine (HBC.out _ (HT.out.below B5.out)).mono ?_; rintro e w6 ⟨rfl, b6⟩
            have B6 := Lib.hid (below_step B5.out b6)
            clear b6 B5
            go_wp2_with fail
            refine (HAC.out _ (HT.out.below B6.out)).mono ?_; rintro e w7 ⟨rfl, b7⟩
            have B7 := Lib.hid (below_step B6.out b7)
            clear b7 B6
            go_wp2_with fail
            refine (HBA.out _ (HT.out.below B7.out)).mono ?_; rintro e w8 ⟨rfl, b8⟩
            have B8 := Lib.hid (below_step B7.out b8)
            clear b8 B7
            go_wp2_with fail
            refine (HA.out _ (HT.out.below B8.out)).mono ?_; rintro e w9 ⟨rfl, b9⟩
            have B9 := Lib.hid (below_step B8.out b9)
            clear b9 B8
            go_wp2_with fail
            go_ret
            exact ⟨rfl, B9.out⟩
        · rw [show checkL (runes a) = 0 from oa] at HKA
          rw [show checkL (runes b) = 0 from ob] at HKB
          have q : (checkL (runes c) != 0) = true := by rw [bne_iff_ne]; exact oc
          generalize checkL (runes c) = d at *
          clear oa ob oc
          go_enter Tryd.func6, Tryd.ntmps6
          go_wp2_with fail
          refine (long3_any _ a b c _ (by simp) (by simp) (by simp) false HLG.out).mono ?_; rintro e w1 ⟨rfl, rfl⟩
          have B1 := Lib.hid ((Below.refl w.heap.size w).alloc (Nat.le_refl _) (.cells #[.string a, .string b, .string c] 9))
          generalize w.alloc (.cells #[.string a, .string b, .string c] 9) = W0 at *
          go_wp2_with fail
          refine (HKA.out _ (HT.out.below B1.out)).mono ?_; rintro e w2 ⟨rfl, b2⟩
          have B2 := Lib.hid (below_step B1.out b2)
          clear b2 B1
          go_wp2_with fail
          refine (HKB.out _ (HT.out.below B2.out)).mono ?_; rintro e w3 ⟨rfl, b3⟩
          have B3 := Lib.hid (below_step B2.out b3)
          clear b3 B2
          go_wp2_with fail
          refine (HKC.out _ (HT.out.below B3.out)).mono ?_; rintro e w4 ⟨rfl, b4⟩
          have B4 := Lib.hid (below_step B3.out b4)
          clear b4 B3
          go_wp2_with fail
          refine (HKA.out _ (HT.out.below B4.out)).mono ?_; rintro e w5 ⟨rfl, b5⟩
          have B5 := Lib.hid (below_step B4.out b5)
          clear b5 B4
          go_wp2_with fail
          refine (HA.out _ (HT.out.below B5.out)).mono ?_; rintro e w6 ⟨rfl, b6⟩
          have B6 := Lib.hid (below_step B5.out b6)
          clear b6 B5
          go_wp2_with fail
          go_ret
          exact ⟨rfl, B6.out⟩
      · rw [show checkL (runes a) = 0 from oa] at HKA
        have q : (checkL (runes b) != 0) = true := by rw [bne_iff_ne]; exact ob
        generalize checkL (runes b) = d at *
        clear oa ob
        go_enter Tryd.func6, Tryd.ntmps6
        go_wp2_with fail
        refine (long3_any _ a b c _ (by simp) (by simp) (by simp) false HLG.out).mono ?_; rintro e w1 ⟨rfl, rfl⟩
        have B1 := Lib.hid ((Below.refl w.heap.size w).alloc (Nat.le_refl _) (.cells #[.string a, .string b, .string c] 9))
        generalize w.alloc (.cells #[.string a, .string b, .string c] 9) = W0 at *
        go_wp2_with fail
        refine (HKA.out _ (HT.out.below B1.out)).mono ?_; rintro e w2 ⟨rfl, b2⟩
        have B2 := Lib.hid (below_step B1.out b2)
        clear b2 B1
        go_wp2_with fail
        refine (HKB.out _ (HT.out.below B2.out)).mono ?_; rintro e w3 ⟨rfl, b3⟩
        have B3 := Lib.hid (below_step B2.out b3)
        clear b3 B2
        go_wp2_with fail
        refine (HKA.out _ (HT.out.below B3.out)).mono ?_; rintro e w4 ⟨rfl, b4⟩
        have B4 := Lib.hid (below_step B3.out b4)
        clear b4 B3
        go_wp2_with fail
        refine (HA.out _ (HT.out.below B4.out)).mono ?_; rintro e w5 ⟨rfl, b5⟩
        have B5 := Lib.hid (below_step B4.out b5)
        clear b5 B4
        go_wp2_with fail
        go_ret
        exact ⟨rfl, B5.out⟩
    · have q : (checkL (runes a) != 0) = true := by rw [bne_iff_ne]; exact oa
      have q' : (checkL (runes a) == 0) = false := by rw [beq_eq_false_iff_ne]; exact oa
      rw [ord_no oa] at HAB
      generalize checkL (runes a) = d at *
      clear oa
      go_enter Tryd.func6, Tryd.ntmps6
      go_wp2_with fail
      refine (long3_any _ a b c _ (by simp) (by simp) (by simp) false HLG.out).mono ?_; rintro e w1 ⟨rfl, rfl⟩
      have B1 := Lib.hid ((Below.refl w.heap.size w).alloc (Nat.le_refl _) (.cells #[.string a, .string b, .string c] 9))
      generalize w.alloc (.cells #[.string a, .string b, .string c] 9) = W0 at *
      go_wp2_with fail
      refine (HKA.out _ (HT.out.below B1.out)).mono ?_; rintro e w2 ⟨rfl, b2⟩
      have B2 := Lib.hid (below_step B1.out b2)
      clear b2 B1
      go_wp2_with fail
      refine (HKA.out _ (HT.out.below B2.out)).mono ?_; rintro e w3 ⟨rfl, b3⟩
      have B3 := Lib.hid (below_step B2.out b3)
      clear b3 B2
      go_wp2_with fail
      refine (HAB.out _ (HT.out.below B3.out)).mono ?_; rintro e w4 ⟨rfl, b4⟩
      have B4 := Lib.hid (below_step B3.out b4)
      clear b4 B3
      go_wp2_with fail
      refine (HA.out _ (HT.out.below B4.out)).mono ?_; rintro e w5 ⟨rfl, b5⟩
      have B5 := Lib.hid (below_step B4.out b5)
      clear b5 B4
      go_wp2_with fail
      go_ret
      exact ⟨rfl, B5.out⟩
end Go.Proofs.YtkipnbhejokbeaaDoor.Pl
