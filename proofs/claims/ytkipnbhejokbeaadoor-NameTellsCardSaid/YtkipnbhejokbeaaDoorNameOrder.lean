/- What Clash and Order answer. -/
import Derived.Test.YtkipnbhejokbeaaDoorNameSkel
namespace Go.Proofs.YtkipnbhejokbeaaDoor.Pl
open Go.RowKit

open Classical in
noncomputable def skB (s : ByteArray) : ByteArray := if okL (runes s) then skelB s else ⟨#[]⟩
theorem skB_ok {s : ByteArray} (h : okL (runes s)) : skB s = skelB s := if_pos h
theorem skel_any (s : ByteArray) (hs : s.size ≤ 9223372036854775807) (w : World) (hT : Chars w) :
    Calls Tryd.prog 9 #[.string s] w fun e w' => e = .returned (.tuple #[.string (skB s), .int .i64 (checkL (runes s))]) ∧ Below w.heap.size w w' := by
  by_cases h : okL (runes s)
  · rw [skB_ok h, show checkL (runes s) = 0 from h]; exact skel_ok s hs w hT h
  · rw [skB, if_neg h]; exact skel_no s hs w hT h
theorem ba_list {a b : ByteArray} : a.toList = b.toList ↔ a = b := by
  constructor
  · intro h
    rw [Lib.toList_data, Lib.toList_data] at h
    exact ba_ext h
  · intro h; rw [h]
theorem str5_ne {a b : ByteArray} (h : a ≠ b) : (a.toList == b.toList) = false ∧ (a.toList != b.toList) = true := by
  have hne : a.toList ≠ b.toList := fun e => h (ba_list.1 e)
  exact ⟨by rw [beq_eq_false_iff_ne]; exact hne, by rw [bne_iff_ne]; exact hne⟩
open Classical in
theorem clash_no1 {a b : ByteArray} (h : ¬ okL (runes a)) : clashB a b = false := by unfold clashB; exact decide_eq_false fun h' => h h'.1
open Classical in
theorem clash_no2 {a b : ByteArray} (h : ¬ okL (runes b)) : clashB a b = false := by unfold clashB; exact decide_eq_false fun h' => h h'.2.1
open Classical in
theorem clash_no3 {a b : ByteArray} (h : a = b) : clashB a b = false := by unfold clashB; exact decide_eq_false fun h' => h'.2.2.1 h
open Classical in
theorem clash_no4 {a b : ByteArray} (h : skelB a ≠ skelB b) : clashB a b = false := by unfold clashB; exact decide_eq_false fun h' => h h'.2.2.2
open Classical in
theorem clash_yes {a b : ByteArray} (h1 : okL (runes a)) (h2 : okL (runes b)) (h3 : a ≠ b) (h4 : skelB a = skelB b) : clashB a b = true := by unfold clashB; exact decide_eq_true ⟨h1, h2, h3, h4⟩
open Classical in
theorem clash_iff {a b : ByteArray} : clashB a b = true ↔ (okL (runes a) ∧ okL (runes b) ∧ a ≠ b ∧ skelB a = skelB b) := by unfold clashB; exact decide_eq_true_iff

set_option maxHeartbeats 2000000 in
set_option maxRecDepth 100000 in
theorem clash_any (a b : ByteArray) (ha : a.size ≤ 9223372036854775807) (hb : b.size ≤ 9223372036854775807) (w : World) (hT : Chars w) :
    Calls Tryd.prog 17 #[.string a, .string b] w fun e w' => e = .returned (.bool (clashB a b)) ∧ Below w.heap.size w w' := by
  have HT := Lib.hid hT
  have H1 := Lib.hid (fun V => skel_any a ha V)
  have H2 := Lib.hid (fun V => skel_any b hb V)
  obtain ⟨z, hz⟩ : ∃ z, z = clashB a b := ⟨_, rfl⟩
  rw [← hz]
  by_cases k1 : okL (runes a)
  · by_cases k2 : okL (runes b)
    · rw [show checkL (runes a) = 0 from k1, skB_ok k1] at H1
      rw [show checkL (runes b) = 0 from k2, skB_ok k2] at H2
      by_cases k3 : a = b
      · have HZ : Hid (z = false) := Lib.hid (hz.trans (clash_no3 k3))
        subst k3
        clear hz k1 k2 hT ha hb
        go_enter Tryd.func17, Tryd.ntmps17
        go_wp2_with fail
        refine (H1.out w HT.out).mono ?_; rintro e w1 ⟨rfl, b1⟩
        have B1 := Lib.hid b1
        clear b1
        go_wp2_with fail
        refine (H2.out w1 (HT.out.below B1.out)).mono ?_; rintro e w2 ⟨rfl, b2⟩
        have B2 := Lib.hid (below_step B1.out b2)
        clear b2
        go_wp2_with fail
        go_ret
        exact ⟨ret_bool HZ.out.symm, B2.out⟩
      · obtain ⟨g1, g2⟩ := str5_ne k3
        by_cases k4 : skelB a = skelB b
        · have HZ : Hid (z = true) := Lib.hid (hz.trans (clash_yes k1 k2 k3 k4))
          rw [← k4] at H2
          clear hz k1 k2 k3 k4 hT ha hb
          generalize skelB a = x at *
          go_enter Tryd.func17, Tryd.ntmps17
          go_wp2_with fail
          refine (H1.out w HT.out).mono ?_; rintro e w1 ⟨rfl, b1⟩
          have B1 := Lib.hid b1
          clear b1
          go_wp2_with fail
          refine (H2.out w1 (HT.out.below B1.out)).mono ?_; rintro e w2 ⟨rfl, b2⟩
          have B2 := Lib.hid (below_step B1.out b2)
          clear b2
          go_wp2_with fail
          go_ret
          exact ⟨ret_bool HZ.out.symm, B2.out⟩
        · have HZ : Hid (z = false) := Lib.hid (hz.trans (clash_no4 k4))
          obtain ⟨g3, g4⟩ := str5_ne k4
          clear hz k1 k2 k3 k4 hT ha hb
          generalize skelB a = x at *
          generalize skelB b = y at *
          go_enter Tryd.func17, Tryd.ntmps17
          go_wp2_with fail
          refine (H1.out w HT.out).mono ?_; rintro e w1 ⟨rfl, b1⟩
          have B1 := Lib.hid b1
          clear b1
          go_wp2_with fail
          refine (H2.out w1 (HT.out.below B1.out)).mono ?_; rintro e w2 ⟨rfl, b2⟩
          have B2 := Lib.hid (below_step B1.out b2)
          clear b2
          go_wp2_with fail
          go_ret
          exact ⟨ret_bool HZ.out.symm, B2.out⟩
    · have HZ : Hid (z = false) := Lib.hid (hz.trans (clash_no2 k2))
      rw [show checkL (runes a) = 0 from k1, skB_ok k1] at H1
      have q : (checkL (runes b) == 0) = false := by rw [beq_eq_false_iff_ne]; exact k2
      generalize checkL (runes b) = c at *
      generalize skB b = y at *
      clear hz k1 k2 hT ha hb
      go_enter Tryd.func17, Tryd.ntmps17
      go_wp2_with fail
      refine (H1.out w HT.out).mono ?_; rintro e w1 ⟨rfl, b1⟩
      have B1 := Lib.hid b1
      clear b1
      go_wp2_with fail
      refine (H2.out w1 (HT.out.below B1.out)).mono ?_; rintro e w2 ⟨rfl, b2⟩
      have B2 := Lib.hid (below_step B1.out b2)
      clear b2
      go_wp2_with fail
      go_ret
      exact ⟨ret_bool HZ.out.symm, B2.out⟩
  · have HZ : Hid (z = false) := Lib.hid (hz.trans (clash_no1 k1))
    have q : (checkL (runes a) == 0) = false := by rw [beq_eq_false_iff_ne]; exact k1
    generalize checkL (runes a) = c at *
    generalize skB a = x at *
    generalize checkL (runes b) = d at *
    generalize skB b = y at *
    clear hz k1 hT ha hb
    go_enter Tryd.func17, Tryd.ntmps17
    go_wp2_with fail
    refine (H1.out w HT.out).mono ?_; rintro e w1 ⟨rfl, b1⟩
    have B1 := Lib.hid b1
    clear b1
    go_wp2_with fail
    refine (H2.out w1 (HT.out.below B1.out)).mono ?_; rintro e w2 ⟨rfl, b2⟩
    have B2 := Lib.hid (below_step B1.out b2)
    clear b2
    go_wp2_with fail
    go_ret
    exact ⟨ret_bool HZ.out.symm, B2.out⟩

theorem compare_any (a b : ByteArray) (W : World) : Calls Tryd.prog 33 #[.string a, .string b] W fun e w' => e = .returned (.int .i64 (cmpB a b)) ∧ w' = W := Tryd.strings_Compare a b W

set_option maxHeartbeats 2000000 in
set_option maxRecDepth 100000 in
theorem order_any (a b : ByteArray) (ha : a.size ≤ 9223372036854775807) (hb : b.size ≤ 9223372036854775807) (w : World) (hT : Chars w) :
    Calls Tryd.prog 19 #[.string a, .string b] w fun e w' => e = .returned (.int .i64 (orderB a b)) ∧ Below w.heap.size w w' := by
  have HT := Lib.hid hT
  have H1 := Lib.hid (fun V => skel_any a ha V)
  have H2 := Lib.hid (fun V => skel_any b hb V)
  have HM := Lib.hid (fun V => compare_any a b V)
  obtain ⟨z, hz⟩ : ∃ z, z = orderB a b := ⟨_, rfl⟩
  rw [← hz]
  by_cases k1 : okL (runes a)
  · by_cases k2 : okL (runes b)
    · rw [show checkL (runes a) = 0 from k1, skB_ok k1] at H1
      rw [show checkL (runes b) = 0 from k2, skB_ok k2] at H2
      have HN := Lib.hid (fun V => compare_any (skelB a) (skelB b) V)
      by_cases k3 : cmpB (skelB a) (skelB b) = 0
      · have HZ : Hid (z = cmpB a b) := Lib.hid (by rw [hz, orderB, if_pos ⟨k1, k2⟩, if_neg (by simpa using k3)])
        rw [k3] at HN
        generalize skelB a = x at *
        generalize skelB b = y at *
        generalize cmpB a b = c at *
        clear hz k1 k2 k3 hT ha hb
        go_enter Tryd.func19, Tryd.ntmps19
        go_wp2_with fail
        refine (H1.out w HT.out).mono ?_; rintro e w1 ⟨rfl, b1⟩
        have B1 := Lib.hid b1
        clear b1
        go_wp2_with fail
        refine (H2.out w1 (HT.out.below B1.out)).mono ?_; rintro e w2 ⟨rfl, b2⟩
        have B2 := Lib.hid (below_step B1.out b2)
        clear b2
        go_wp2_with fail
        refine (HN.out w2).mono ?_; rintro e w3 ⟨rfl, rfl⟩
        go_wp2_with fail
        refine (HM.out w3).mono ?_; rintro e w4 ⟨rfl, rfl⟩
        go_wp2_with fail
        go_ret
        exact ⟨ret_i64 HZ.out.symm, B2.out⟩
      · have HZ : Hid (z = cmpB (skelB a) (skelB b)) := Lib.hid (by rw [hz, orderB, if_pos ⟨k1, k2⟩, if_pos k3])
        have q : (cmpB (skelB a) (skelB b) != 0) = true := by rw [bne_iff_ne]; exact k3
        generalize skelB a = x at *
        generalize skelB b = y at *
        generalize cmpB x y = c at *
        clear hz k1 k2 k3 hT ha hb
        go_enter Tryd.func19, Tryd.ntmps19
        go_wp2_with fail
        refine (H1.out w HT.out).mono ?_; rintro e w1 ⟨rfl, b1⟩
        have B1 := Lib.hid b1
        clear b1
        go_wp2_with fail
        refine (H2.out w1 (HT.out.below B1.out)).mono ?_; rintro e w2 ⟨rfl, b2⟩
        have B2 := Lib.hid (below_step B1.out b2)
        clear b2
        go_wp2_with fail
        refine (HN.out w2).mono ?_; rintro e w3 ⟨rfl, rfl⟩
        go_wp2_with fail
        go_ret
        exact ⟨ret_i64 HZ.out.symm, B2.out⟩
    · have HZ : Hid (z = 0) := Lib.hid (by rw [hz, orderB, if_neg (fun h => k2 h.2)])
      rw [show checkL (runes a) = 0 from k1, skB_ok k1] at H1
      have q : (checkL (runes b) != 0) = true := by rw [bne_iff_ne]; exact k2
      generalize checkL (runes b) = c at *
      generalize skB b = y at *
      clear hz k1 k2 hT ha hb
      go_enter Tryd.func19, Tryd.ntmps19
      go_wp2_with fail
      refine (H1.out w HT.out).mono ?_; rintro e w1 ⟨rfl, b1⟩
      have B1 := Lib.hid b1
      clear b1
      go_wp2_with fail
      refine (H2.out w1 (HT.out.below B1.out)).mono ?_; rintro e w2 ⟨rfl, b2⟩
      have B2 := Lib.hid (below_step B1.out b2)
      clear b2
      go_wp2_with fail
      go_ret
      exact ⟨ret_i64 HZ.out.symm, B2.out⟩
  · have HZ : Hid (z = 0) := Lib.hid (by rw [hz, orderB, if_neg (fun h => k1 h.1)])
    have q : (checkL (runes a) != 0) = true := by rw [bne_iff_ne]; exact k1
    generalize checkL (runes a) = c at *
    generalize skB a = x at *
    generalize checkL (runes b) = d at *
    generalize skB b = y at *
    clear hz k1 hT ha hb
    go_enter Tryd.func19, Tryd.ntmps19
    go_wp2_with fail
    refine (H1.out w HT.out).mono ?_; rintro e w1 ⟨rfl, b1⟩
    have B1 := Lib.hid b1
    clear b1
    go_wp2_with fail
    refine (H2.out w1 (HT.out.below B1.out)).mono ?_; rintro e w2 ⟨rfl, b2⟩
    have B2 := Lib.hid (below_step B1.out b2)
    clear b2
    go_wp2_with fail
    go_ret
    exact ⟨ret_i64 HZ.out.symm, B2.out⟩
end Go.Proofs.YtkipnbhejokbeaaDoor.Pl
