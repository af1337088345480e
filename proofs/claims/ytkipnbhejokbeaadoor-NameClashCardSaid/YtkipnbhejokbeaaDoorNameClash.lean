/- NameClash answers true, whatever it is given. -/
import Derived.Test.YtkipnbhejokbeaaDoorNameAlive
import Derived.Test.YtkipnbhejokbeaaDoorNameLong
namespace Go.Proofs.YtkipnbhejokbeaaDoor.Pl
open Go.RowKit

theorem clash_swap (a b : ByteArray) : clashB b a = clashB a b := by
  cases h : clashB a b with
  | true =>
    obtain ⟨h1, h2, h3, h4⟩ := clash_iff.1 h
    exact clash_iff.2 ⟨h2, h1, fun e => h3 e.symm, h4.symm⟩
  | false =>
    cases k : clashB b a with
    | false => rfl
    | true =>
      obtain ⟨h1, h2, h3, h4⟩ := clash_iff.1 k
      rw [clash_iff.2 ⟨h2, h1, fun e => h3 e.symm, h4.symm⟩] at h
      exact h
theorem clash_on {a b c : ByteArray} (h : clashB a b = true) (k : clashB b c = true) (hne : a ≠ c) : clashB a c = true := by
  obtain ⟨h1, h2, h3, h4⟩ := clash_iff.1 h
  obtain ⟨k1, k2, k3, k4⟩ := clash_iff.1 k
  exact clash_iff.2 ⟨h1, k2, hne, h4.trans k4⟩

set_option maxHeartbeats 4000000 in
set_option maxRecDepth 100000 in
theorem nameclash_any (a b c : ByteArray) (r : Int) (ha : a.size ≤ 9223372036854775807) (hb : b.size ≤ 9223372036854775807) (hc : c.size ≤ 9223372036854775807) (h0 : -2147483648 ≤ r) (h1 : r ≤ 2147483647) (w : World) (hT : Chars w) :
    Calls Tryd.prog 5 #[.string a, .string b, .string c, .int .i32 r] w fun e w' => e = .returned (.bool true) ∧ Below w.heap.size w w' := by
  have HT := Lib.hid hT
  have HA := Lib.hid (fun V h => alive_any5 V h)
  have hz : -2147483648 ≤ lookZ r ∧ lookZ r ≤ 2147483647 := by
    rcases lookZ_or r with ⟨e, _⟩ | ⟨p, hp, _, e⟩
    · rw [e]; exact ⟨h0, h1⟩
    · rw [e]; have := (look_vals p hp).1; omega
  have HL1 : Hid (∀ V, Chars V → Calls Tryd.prog 15 #[.int .i32 r] V fun e w' => e = .returned (.int .i32 (lookZ r)) ∧ Below V.heap.size V w') := Lib.hid (fun V _ => look_any r h0 h1 V)
  have HL2 : Hid (∀ V, Chars V → Calls Tryd.prog 15 #[.int .i32 (lookZ r)] V fun e w' => e = .returned (.int .i32 (lookZ r)) ∧ Below V.heap.size V w') := Lib.hid (fun V _ => by have h := look_any (lookZ r) hz.1 hz.2 V; rwa [lookZ_lookZ] at h)
  have HAB := Lib.hid (fun V h => clash_any a b ha hb V h)
  have HBA := Lib.hid (fun V h => clash_any b a hb ha V h)
  have HAA := Lib.hid (fun V h => clash_any a a ha ha V h)
  have HBC := Lib.hid (fun V h => clash_any b c hb hc V h)
  have HAC := Lib.hid (fun V h => clash_any a c ha hc V h)
  have HSA := Lib.hid (fun V h => skel_any a ha V h)
  have HSB := Lib.hid (fun V h => skel_any b hb V h)
  have HON : Hid (clashB a b = true → clashB b c = true → a ≠ c → clashB a c = true) := Lib.hid clash_on
  rw [clash_swap a b] at HBA
  rw [clash_no3 (rfl : a = a)] at HAA
  generalize lookZ r = z at *
  clear h0 h1 hz hT ha hb hc
  obtain ⟨lg, hlg⟩ : ∃ lg, lg = (decide (Lg a ∨ Lg b ∨ Lg c)) := ⟨_, rfl⟩
  have HLG : Hid (lg = true ↔ (Lg a ∨ Lg b ∨ Lg c)) := Lib.hid (by rw [hlg, decide_eq_true_iff])
  clear hlg
  cases lg with
  | true =>
    go_enter Tryd.func5, Tryd.ntmps5
    go_wp2_with fail
    refine (long3_any _ a b c _ (by simp) (by simp) (by simp) true (by simpa using HLG.out)).mono ?_; rintro e w1 ⟨rfl, rfl⟩
    have B1 := Lib.hid ((Below.refl w.heap.size w).alloc (Nat.le_refl _) (.cells #[.string a, .string b, .string c] 9))
    generalize w.alloc (.cells #[.string a, .string b, .string c] 9) = W0 at *
    go_wp2_with fail
    refine (HA.out _ (HT.out.below B1.out)).mono ?_; rintro e w2 ⟨rfl, b2⟩
    have B2 := Lib.hid (below_step B1.out b2)
    clear b2 B1
    go_wp2_with fail
    go_ret
    exact ⟨rfl, B2.out⟩
  | false =>
    obtain ⟨k, hk⟩ : ∃ k, k = clashB a b := ⟨_, rfl⟩
    rw [← hk] at HAB HBA HON
    cases k with
    | true =>
      obtain ⟨o1, o2, ne, se⟩ := clash_iff.1 hk.symm
      obtain ⟨g1, g2⟩ := str5_ne ne
      rw [skB_ok o1, show checkL (runes a) = 0 from o1] at HSA
      rw [skB_ok o2, show checkL (runes b) = 0 from o2, ← se] at HSB
      generalize skelB a = x at *
      clear hk o1 o2 ne se
      obtain ⟨j, hj⟩ : ∃ j, j = clashB b c := ⟨_, rfl⟩
      rw [← hj] at HBC HON
      cases j with
      | false =>
        clear hj HON
        go_enter Tryd.func5, Tryd.ntmps5
        go_wp2_with fail
        refine (long3_any _ a b c _ (by simp) (by simp) (by simp) false HLG.out).mono ?_; rintro e w1 ⟨rfl, rfl⟩
        have B1 := Lib.hid ((Below.refl w.heap.size w).alloc (Nat.le_refl _) (.cells #[.string a, .string b, .string c] 9))
        generalize w.alloc (.cells #[.string a, .string b, .string c] 9) = W0 at *
        go_wp2_with fail
        refine (HL1.out _ (HT.out.below B1.out)).mono ?_; rintro e w2 ⟨rfl, b2⟩
        have B2 := Lib.hid (below_step B1.out b2)
        clear b2 B1
        go_wp2_with fail
        refine (HL2.out _ (HT.out.below B2.out)).mono ?_; rintro e w3 ⟨rfl, b3⟩
        have B3 := Lib.hid (below_step B2.out b3)
        clear b3 B2
        go_wp2_with fail
        refine (HL1.out _ (HT.out.below B3.out)).mono ?_; rintro e w4 ⟨rfl, b4⟩
        have B4 := Lib.hid (below_step B3.out b4)
        clear b4 B3
        go_wp2_with fail
        refine (HAB.out _ (HT.out.below B4.out)).mono ?_; rintro e w5 ⟨rfl, b5⟩
        have B5 := Lib.hid (below_step B4.out b5)
        clear b5 B4
        go_wp2_with fail
        refine (HBA.out _ (HT.out.below B5.out)).mono ?_; rintro e w6 ⟨rfl, b6⟩
        have B6 := Lib.hid (below_step B5.out b6)
        clear b6 B5
        go_wp2_with fail
        refine (HAA.out _ (HT.out.below B6.out)).mono ?_; rintro e w7 ⟨rfl, b7⟩
        have B7 := Lib.hid (below_step B6.out b7)
        clear b7 B6
        go_wp2_with fail
        refine (HAB.out _ (HT.out.below B7.out)).mono ?_; rintro e w8 ⟨rfl, b8⟩
        have B8 := Lib.hid (below_step B7.out b8)
        clear b8 B7
        go_wp2_with fail
        refine (HBC.out _ (HT.out.below B8.out)).mono ?_; rintro e w9 ⟨rfl, b9⟩
        have B9 := Lib.hid (below_step B8.out b9)
        clear b9 B8
        go_wp2_with fail
        refine (HSA.out _ (HT.out.below B9.out)).mono ?_; rintro e w10 ⟨rfl, b10⟩
        have B10 := Lib.hid (below_step B9.out b10)
        clear b10 B9
        go_wp2_with fail
        refine (HSB.out _ (HT.out.below B10.out)).mono ?_; rintro e w11 ⟨rfl, b11⟩
        have B11 := Lib.hid (below_step B10.out b11)
        clear b11 B10
        go_wp2_with fail
        refine (HAB.out _ (HT.out.below B11.out)).mono ?_; rintro e w12 ⟨rfl, b12⟩
        have B12 := Lib.hid (below_step B11.out b12)
        clear b12 B11
        go_wp2_with fail
        refine (HA.out _ (HT.out.below B12.out)).mono ?_; rintro e w13 ⟨rfl, b13⟩
        have B13 := Lib.hid (below_step B12.out b13)
        clear b13 B12
        go_wp2_with fail
        go_ret
        exact ⟨rfl, B13.out⟩
      | true =>
        clear hj
        by_cases e : a = c
        · subst e
          clear HON
          go_enter Tryd.func5, Tryd.ntmps5
          go_wp2_with fail
          refine (long3_any _ a b a _ (by simp) (by simp) (by simp) false HLG.out).mono ?_; rintro e w1 ⟨rfl, rfl⟩
          have B1 := Lib.hid ((Below.refl w.heap.size w).alloc (Nat.le_refl _) (.cells #[.string a, .string b, .string a] 9))
          generalize w.alloc (.cells #[.string a, .string b, .string a] 9) = W0 at *
          go_wp2_with fail
          refine (HL1.out _ (HT.out.below B1.out)).mono ?_; rintro e w2 ⟨rfl, b2⟩
          have B2 := Lib.hid (below_step B1.out b2)
          clear b2 B1
          go_wp2_with fail
          refine (HL2.out _ (HT.out.below B2.out)).mono ?_; rintro e w3 ⟨rfl, b3⟩
          have B3 := Lib.hid (below_step B2.out b3)
          clear b3 B2
          go_wp2_with fail
          refine (HL1.out _ (HT.out.below B3.out)).mono ?_; rintro e w4 ⟨rfl, b4⟩
          have B4 := Lib.hid (below_step B3.out b4)
          clear b4 B3
          go_wp2_with fail
          refine (HAB.out _ (HT.out.below B4.out)).mono ?_; rintro e w5 ⟨rfl, b5⟩
          have B5 := Lib.hid (below_step B4.out b5)
          clear b5 B4
          go_wp2_with fail
          refine (HBA.out _ (HT.out.below B5.out)).mono ?_; rintro e w6 ⟨rfl, b6⟩
          have B6 := Lib.hid (below_step B5.out b6)
          clear b6 B5
          go_wp2_with fail
          refine (HAA.out _ (HT.out.below B6.out)).mono ?_; rintro e w7 ⟨rfl, b7⟩
          have B7 := Lib.hid (below_step B6.out b7)
          clear b7 B6
          go_wp2_with fail
          refine (HAB.out _ (HT.out.below B7.out)).mono ?_; rintro e w8 ⟨rfl, b8⟩
          have B8 := Lib.hid (below_step B7.out b8)
          clear b8 B7
          go_wp2_with fail
          refine (HBC.out _ (HT.out.below B8.out)).mono ?_; rintro e w9 ⟨rfl, b9⟩
          have B9 := Lib.hid (below_step B8.out b9)
          clear b9 B8
          go_wp2_with fail
          refine (HSA.out _ (HT.out.below B9.out)).mono ?_; rintro e w10 ⟨rfl, b10⟩
          have B10 := Lib.hid (below_step B9.out b10)
          clear b10 B9
          go_wp2_with fail
          refine (HSB.out _ (HT.out.below B10.out)).mono ?_; rintro e w11 ⟨rfl, b11⟩
          have B11 := Lib.hid (below_step B10.out b11)
          clear b11 B10
          go_wp2_with fail
          refine (HAB.out _ (HT.out.below B11.out)).mono ?_; rintro e w12 ⟨rfl, b12⟩
          have B12 := Lib.hid (below_step B11.out b12)
          clear b12 B11
          go_wp2_with fail
          refine (HA.out _ (HT.out.below B12.out)).mono ?_; rintro e w13 ⟨rfl, b13⟩
          have B13 := Lib.hid (below_step B12.out b13)
          clear b13 B12
          go_wp2_with fail
          go_ret
          exact ⟨rfl, B13.out⟩
        · obtain ⟨ge, ge'⟩ := str5_ne e
          rw [HON.out rfl rfl e] at HAC
          clear e HON
          go_enter Tryd.func5, Tryd.ntmps5
          go_wp2_with fail
          refine (long3_any _ a b c _ (by simp) (by simp) (by simp) false HLG.out).mono ?_; rintro e w1 ⟨rfl, rfl⟩
          have B1 := Lib.hid ((Below.refl w.heap.size w).alloc (Nat.le_refl _) (.cells #[.string a, .string b, .string c] 9))
          generalize w.alloc (.cells #[.string a, .string b, .string c] 9) = W0 at *
          go_wp2_with fail
          refine (HL1.out _ (HT.out.below B1.out)).mono ?_; rintro e w2 ⟨rfl, b2⟩
          have B2 := Lib.hid (below_step B1.out b2)
          clear b2 B1
          go_wp2_with fail
          refine (HL2.out _ (HT.out.below B2.out)).mono ?_; rintro e w3 ⟨rfl, b3⟩
          have B3 := Lib.hid (below_step B2.out b3)
          clear b3 B2
          go_wp2_with fail
          refine (HL1.out _ (HT.out.below B3.out)).mono ?_; rintro e w4 ⟨rfl, b4⟩
          have B4 := Lib.hid (below_step B3.out b4)
          clear b4 B3
          go_wp2_with fail
          refine (HAB.out _ (HT.out.below B4.out)).mono ?_; rintro e w5 ⟨rfl, b5⟩
          have B5 := Lib.hid (below_step B4.out b5)
          clear b5 B4
          go_wp2_with fail
          refine (HBA.out _ (HT.out.below B5.out)).mono ?_; rintro e w6 ⟨rfl, b6⟩
          have B6 := Lib.hid (below_step B5.out b6)
          clear b6 B5
          go_wp2_with fail
          refine (HAA.out _ (HT.out.below B6.out)).mono ?_; rintro e w7 ⟨rfl, b7⟩
          have B7 := Lib.hid (below_step B6.out b7)
          clear b7 B6
          go_wp2_with fail
          refine (HAB.out _ (HT.out.below B7.out)).mono ?_; rintro e w8 ⟨rfl, b8⟩
          have B8 := Lib.hid (below_step B7.out b8)
          clear b8 B7
          go_wp2_with fail
          refine (HBC.out _ (HT.out.below B8.out)).mono ?_; rintro e w9 ⟨rfl, b9⟩
          have B9 := Lib.hid (below_step B8.out b9)
          clear b9 B8
          go_wp2_with fail
          refine (HAC.out _ (HT.out.below B9.out)).mono ?_; rintro e w10 ⟨rfl, b10⟩
          have B10 := Lib.hid (below_step B9.out b10)
          clear b10 B9
          go_wp2_with fail
          refine (HSA.out _ (HT.out.below B10.out)).mono ?_; rintro e w11 ⟨rfl, b11⟩
          have B11 := Lib.hid (below_step B10.out b11)
          clear b11 B10
          go_wp2_with fail
          refine (HSB.out _ (HT.out.below B11.out)).mono ?_; rintro e w12 ⟨rfl, b12⟩
          have B12 := Lib.hid (below_step B11.out b12)
          clear b12 B11
          go_wp2_with fail
          refine (HAB.out _ (HT.out.below B12.out)).mono ?_; rintro e w13 ⟨rfl, b13⟩
          have B13 := Lib.hid (below_step B12.out b13)
          clear b13 B12
          go_wp2_with fail
          refine (HA.out _ (HT.out.below B13.out)).mono ?_; rintro e w14 ⟨rfl, b14⟩
          have B14 := Lib.hid (below_step B13.out b14)
          clear b14 B13
          go_wp2_with fail
          go_ret
          exact ⟨rfl, B14.out⟩
    | false =>
      clear HON
      by_cases o1 : okL (runes a)
      · rw [skB_ok o1, show checkL (runes a) = 0 from o1] at HSA
        by_cases o2 : okL (runes b)
        · rw [skB_ok o2, show checkL (runes b) = 0 from o2] at HSB
          by_cases ne : a = b
          · subst ne
            generalize skelB a = x at *
            clear hk o1 o2
            go_enter Tryd.func5, Tryd.ntmps5
            go_wp2_with fail
            refine (long3_any _ a a c _ (by simp) (by simp) (by simp) false HLG.out).mono ?_; rintro e w1 ⟨rfl, rfl⟩
            have B1 := Lib.hid ((Below.refl w.heap.size w).alloc (Nat.le_refl _) (.cells #[.string a, .string a, .string c] 9))
            generalize w.alloc (.cells #[.string a, .string a, .string c] 9) = W0 at *
            go_wp2_with fail
            refine (HL1.out _ (HT.out.below B1.out)).mono ?_; rintro e w2 ⟨rfl, b2⟩
            have B2 := Lib.hid (below_step B1.out b2)
            clear b2 B1
            go_wp2_with fail
            refine (HL2.out _ (HT.out.below B2.out)).mono ?_; rintro e w3 ⟨rfl, b3⟩
            have B3 := Lib.hid (below_step B2.out b3)
            clear b3 B2
            go_wp2_with fail
            refine (HL1.out _ (HT.out.below B3.out)).mono ?_; rintro e w4 ⟨rfl, b4⟩
            have B4 := Lib.hid (below_step B3.out b4)
            clear b4 B3
            go_wp2_with fail
            refine (HAB.out _ (HT.out.below B4.out)).mono ?_; rintro e w5 ⟨rfl, b5⟩
            have B5 := Lib.hid (below_step B4.out b5)
            clear b5 B4
            go_wp2_with fail
            refine (HBA.out _ (HT.out.below B5.out)).mono ?_; rintro e w6 ⟨rfl, b6⟩
            have B6 := Lib.hid (below_step B5.out b6)
            clear b6 B5
            go_wp2_with fail
            refine (HAA.out _ (HT.out.below B6.out)).mono ?_; rintro e w7 ⟨rfl, b7⟩
            have B7 := Lib.hid (below_step B6.out b7)
            clear b7 B6
            go_wp2_with fail
            refine (HAB.out _ (HT.out.below B7.out)).mono ?_; rintro e w8 ⟨rfl, b8⟩
            have B8 := Lib.hid (below_step B7.out b8)
            clear b8 B7
            go_wp2_with fail
            refine (HSA.out _ (HT.out.below B8.out)).mono ?_; rintro e w9 ⟨rfl, b9⟩
            have B9 := Lib.hid (below_step B8.out b9)
            clear b9 B8
            go_wp2_with fail
            refine (HSB.out _ (HT.out.below B9.out)).mono ?_; rintro e w10 ⟨rfl, b10⟩
            have B10 := Lib.hid (below_step B9.out b10)
            clear b10 B9
            go_wp2_with fail
            refine (HAB.out _ (HT.out.below B10.out)).mono ?_; rintro e w11 ⟨rfl, b11⟩
            have B11 := Lib.hid (below_step B10.out b11)
            clear b11 B10
            go_wp2_with fail
            refine (HA.out _ (HT.out.below B11.out)).mono ?_; rintro e w12 ⟨rfl, b12⟩
            have B12 := Lib.hid (below_step B11.out b12)
            clear b12 B11
            go_wp2_with fail
            go_ret
            exact ⟨rfl, B12.out⟩
          · have se : skelB a ≠ skelB b := fun e => by rw [clash_yes o1 o2 ne e] at hk; exact absurd hk (by decide)
            obtain ⟨g1, g2⟩ := str5_ne ne
            obtain ⟨g3, g4⟩ := str5_ne se
            generalize skelB a = x at *
            generalize skelB b = y at *
            clear hk o1 o2 ne se
            go_enter Tryd.func5, Tryd.ntmps5
            go_wp2_with fail
            refine (long3_any _ a b c _ (by simp) (by simp) (by simp) false HLG.out).mono ?_; rintro e w1 ⟨rfl, rfl⟩
            have B1 := Lib.hid ((Below.refl w.heap.size w).alloc (Nat.le_refl _) (.cells #[.string a, .string b, .string c] 9))
            generalize w.alloc (.cells #[.string a, .string b, .string c] 9) = W0 at *
            go_wp2_with fail
            refine (HL1.out _ (HT.out.below B1.out)).mono ?_; rintro e w2 ⟨rfl, b2⟩
            have B2 := Lib.hid (below_step B1.out b2)
            clear b2 B1
            go_wp2_with fail
            refine (HL2.out _ (HT.out.below B2.out)).mono ?_; rintro e w3 ⟨rfl, b3⟩
            have B3 := Lib.hid (below_step B2.out b3)
            clear b3 B2
            go_wp2_with fail
            refine (HL1.out _ (HT.out.below B3.out)).mono ?_; rintro e w4 ⟨rfl, b4⟩
            have B4 := Lib.hid (below_step B3.out b4)
            clear b4 B3
            go_wp2_with fail
            refine (HAB.out _ (HT.out.below B4.out)).mono ?_; rintro e w5 ⟨rfl, b5⟩
            have B5 := Lib.hid (below_step B4.out b5)
            clear b5 B4
            go_wp2_with fail
            refine (HBA.out _ (HT.out.below B5.out)).mono ?_; rintro e w6 ⟨rfl, b6⟩
            have B6 := Lib.hid (below_step B5.out b6)
            clear b6 B5
            go_wp2_with fail
            refine (HAA.out _ (HT.out.below B6.out)).mono ?_; rintro e w7 ⟨rfl, b7⟩
            have B7 := Lib.hid (below_step B6.out b7)
            clear b7 B6
            go_wp2_with fail
            refine (HAB.out _ (HT.out.below B7.out)).mono ?_; rintro e w8 ⟨rfl, b8⟩
            have B8 := Lib.hid (below_step B7.out b8)
            clear b8 B7
            go_wp2_with fail
            refine (HSA.out _ (HT.out.below B8.out)).mono ?_; rintro e w9 ⟨rfl, b9⟩
            have B9 := Lib.hid (below_step B8.out b9)
            clear b9 B8
            go_wp2_with fail
            refine (HSB.out _ (HT.out.below B9.out)).mono ?_; rintro e w10 ⟨rfl, b10⟩
            have B10 := Lib.hid (below_step B9.out b10)
            clear b10 B9
            go_wp2_with fail
            refine (HAB.out _ (HT.out.below B10.out)).mono ?_; rintro e w11 ⟨rfl, b11⟩
            have B11 := Lib.hid (below_step B10.out b11)
            clear b11 B10
            go_wp2_with fail
            refine (HA.out _ (HT.out.below B11.out)).mono ?_; rintro e w12 ⟨rfl, b12⟩
            have B12 := Lib.hid (below_step B11.out b12)
            clear b12 B11
            go_wp2_with fail
            go_ret
            exact ⟨rfl, B12.out⟩
        · have q : (checkL (runes b) == 0) = false := by rw [beq_eq_false_iff_ne]; exact o2
          generalize skelB a = x at *
          generalize skB b = y at *
          generalize checkL (runes b) = d at *
          clear hk o1 o2
          go_enter Tryd.func5, Tryd.ntmps5
          go_wp2_with fail
          refine (long3_any _ a b c _ (by simp) (by simp) (by simp) false HLG.out).mono ?_; rintro e w1 ⟨rfl, rfl⟩
          have B1 := Lib.hid ((Below.refl w.heap.size w).alloc (Nat.le_refl _) (.cells #[.string a, .string b, .string c] 9))
          generalize w.alloc (.cells #[.string a, .string b, .string c] 9) = W0 at *
          go_wp2_with fail
          refine (HL1.out _ (HT.out.below B1.out)).mono ?_; rintro e w2 ⟨rfl, b2⟩
          have B2 := Lib.hid (below_step B1.out b2)
          clear b2 B1
          go_wp2_with fail
          refine (HL2.out _ (HT.out.below B2.out)).mono ?_; rintro e w3 ⟨rfl, b3⟩
          have B3 := Lib.hid (below_step B2.out b3)
          clear b3 B2
          go_wp2_with fail
          refine (HL1.out _ (HT.out.below B3.out)).mono ?_; rintro e w4 ⟨rfl, b4⟩
          have B4 := Lib.hid (below_step B3.out b4)
          clear b4 B3
          go_wp2_with fail
          refine (HAB.out _ (HT.out.below B4.out)).mono ?_; rintro e w5 ⟨rfl, b5⟩
          have B5 := Lib.hid (below_step B4.out b5)
          clear b5 B4
          go_wp2_with fail
          refine (HBA.out _ (HT.out.below B5.out)).mono ?_; rintro e w6 ⟨rfl, b6⟩
          have B6 := Lib.hid (below_step B5.out b6)
          clear b6 B5
          go_wp2_with fail
          refine (HAA.out _ (HT.out.below B6.out)).mono ?_; rintro e w7 ⟨rfl, b7⟩
          have B7 := Lib.hid (below_step B6.out b7)
          clear b7 B6
          go_wp2_with fail
          refine (HAB.out _ (HT.out.below B7.out)).mono ?_; rintro e w8 ⟨rfl, b8⟩
          have B8 := Lib.hid (below_step B7.out b8)
          clear b8 B7
          go_wp2_with fail
          refine (HSA.out _ (HT.out.below B8.out)).mono ?_; rintro e w9 ⟨rfl, b9⟩
          have B9 := Lib.hid (below_step B8.out b9)
          clear b9 B8
          go_wp2_with fail
          refine (HSB.out _ (HT.out.below B9.out)).mono ?_; rintro e w10 ⟨rfl, b10⟩
          have B10 := Lib.hid (below_step B9.out b10)
          clear b10 B9
          go_wp2_with fail
          refine (HAB.out _ (HT.out.below B10.out)).mono ?_; rintro e w11 ⟨rfl, b11⟩
          have B11 := Lib.hid (below_step B10.out b11)
          clear b11 B10
          go_wp2_with fail
          refine (HA.out _ (HT.out.below B11.out)).mono ?_; rintro e w12 ⟨rfl, b12⟩
          have B12 := Lib.hid (below_step B11.out b12)
          clear b12 B11
          go_wp2_with fail
          go_ret
          exact ⟨rfl, B12.out⟩
      · have q : (checkL (runes a) == 0) = false := by rw [beq_eq_false_iff_ne]; exact o1
        generalize skB a = x at *
        generalize checkL (runes a) = d at *
        generalize skB b = y at *
        generalize checkL (runes b) = d' at *
        clear hk o1
        go_enter Tryd.func5, Tryd.ntmps5
        go_wp2_with fail
        refine (long3_any _ a b c _ (by simp) (by simp) (by simp) false HLG.out).mono ?_; rintro e w1 ⟨rfl, rfl⟩
        have B1 := Lib.hid ((Below.refl w.heap.size w).alloc (Nat.le_refl _) (.cells #[.string a, .string b, .string c] 9))
        generalize w.alloc (.cells #[.string a, .string b, .string c] 9) = W0 at *
        go_wp2_with fail
        refine (HL1.out _ (HT.out.below B1.out)).mono ?_; rintro e w2 ⟨rfl, b2⟩
        have B2 := Lib.hid (below_step B1.out b2)
        clear b2 B1
        go_wp2_with fail
        refine (HL2.out _ (HT.out.below B2.out)).mono ?_; rintro e w3 ⟨rfl, b3⟩
        have B3 := Lib.hid (below_step B2.out b3)
        clear b3 B2
        go_wp2_with fail
        refine (HL1.out _ (HT.out.below B3.out)).mono ?_; rintro e w4 ⟨rfl, b4⟩
        have B4 := Lib.hid (below_step B3.out b4)
        clear b4 B3
        go_wp2_with fail
        refine (HAB.out _ (HT.out.below B4.out)).mono ?_; rintro e w5 ⟨rfl, b5⟩
        have B5 := Lib.hid (below_step B4.out b5)
        clear b5 B4
        go_wp2_with fail
        refine (HBA.out _ (HT.out.below B5.out)).mono ?_; rintro e w6 ⟨rfl, b6⟩
        have B6 := Lib.hid (below_step B5.out b6)
        clear b6 B5
        go_wp2_with fail
        refine (HAA.out _ (HT.out.below B6.out)).mono ?_; rintro e w7 ⟨rfl, b7⟩
        have B7 := Lib.hid (below_step B6.out b7)
        clear b7 B6
        go_wp2_with fail
        refine (HAB.out _ (HT.out.below B7.out)).mono ?_; rintro e w8 ⟨rfl, b8⟩
        have B8 := Lib.hid (below_step B7.out b8)
        clear b8 B7
        go_wp2_with fail
        refine (HSA.out _ (HT.out.below B8.out)).mono ?_; rintro e w9 ⟨rfl, b9⟩
        have B9 := Lib.hid (below_step B8.out b9)
        clear b9 B8
        go_wp2_with fail
        refine (HSB.out _ (HT.out.below B9.out)).mono ?_; rintro e w10 ⟨rfl, b10⟩
        have B10 := Lib.hid (below_step B9.out b10)
        clear b10 B9
        go_wp2_with fail
        refine (HAB.out _ (HT.out.below B10.out)).mono ?_; rintro e w11 ⟨rfl, b11⟩
        have B11 := Lib.hid (below_step B10.out b11)
        clear b11 B10
        go_wp2_with fail
        refine (HA.out _ (HT.out.below B11.out)).mono ?_; rintro e w12 ⟨rfl, b12⟩
        have B12 := Lib.hid (below_step B11.out b12)
        clear b12 B11
        go_wp2_with fail
        go_ret
        exact ⟨rfl, B12.out⟩
end Go.Proofs.YtkipnbhejokbeaaDoor.Pl
