/- What the document's Clash and Order answer. -/
import Derived.Test.YtkipnbhejokbeaaDoorNameRefs
namespace Go.Proofs.YtkipnbhejokbeaaDoor.Pl
open Go.RowKit

theorem skel_zero {a b : ByteArray} (ha : okL (runes a)) (hb : okL (runes b)) : cmpZ ((runes a).map lookZ) ((runes b).map lookZ) = 0 ↔ skelB a = skelB b := by
  rw [← skel_cmp ha hb]; exact cmpB_eq

set_option maxHeartbeats 2000000 in
set_option maxRecDepth 100000 in
theorem rclash_any (a b : ByteArray) (ha : a.size ≤ 1000000) (hb : b.size ≤ 1000000) (w : World) :
    Calls Tryd.prog 18 #[.string a, .string b] w fun e w' => e = .returned (.bool (clashB a b)) ∧ Below w.heap.size w w' := by
  have HCA := Lib.hid (fun V => rcheck_any a ha V)
  have HCB := Lib.hid (fun V => rcheck_any b hb V)
  have HLA := Lib.hid (fun V => rlooks_any a ha V)
  have HLB := Lib.hid (fun V => rlooks_any b hb V)
  have la := Nat.le_trans (runes_length a) ha
  have lb := Nat.le_trans (runes_length b) hb
  obtain ⟨z, hz⟩ : ∃ z, z = clashB a b := ⟨_, rfl⟩
  rw [← hz]
  by_cases k1 : okL (runes a)
  · rw [show checkL (runes a) = 0 from k1] at HCA
    by_cases k2 : okL (runes b)
    · rw [show checkL (runes b) = 0 from k2] at HCB
      by_cases k3 : a = b
      · have HZ : Hid (z = false) := Lib.hid (hz.trans (clash_no3 k3))
        subst k3
        clear hz k1 k2 ha hb
        go_enter Tryd.func18, Tryd.ntmps18
        go_wp2_with fail
        refine (HCA.out w).mono ?_; rintro e w1 ⟨rfl, b1⟩
        have B1 := Lib.hid b1
        clear b1
        go_wp2_with fail
        refine (HCB.out w1).mono ?_; rintro e w2 ⟨rfl, b2⟩
        have B2 := Lib.hid (below_step B1.out b2)
        clear b2
        go_wp2_with fail
        go_ret
        exact ⟨ret_bool HZ.out.symm, B2.out⟩
      · obtain ⟨g1, g2⟩ := str5_ne k3
        have HCM := Lib.hid (fun ao bo ca cb V h1 h2 => rcomp_any ((runes a).map lookZ) ((runes b).map lookZ) ao bo ca cb (by rw [List.length_map]; exact la) (by rw [List.length_map]; exact lb) V h1 h2)
        obtain ⟨q, hq, HZ⟩ : ∃ q : Bool, (cmpZ ((runes a).map lookZ) ((runes b).map lookZ) == 0) = q ∧ Hid (z = q) := by
          by_cases k4 : skelB a = skelB b
          · exact ⟨true, by rw [beq_iff_eq]; exact (skel_zero k1 k2).2 k4, Lib.hid (hz.trans (clash_yes k1 k2 k3 k4))⟩
          · exact ⟨false, by rw [beq_eq_false_iff_ne]; exact fun e => k4 ((skel_zero k1 k2).1 e), Lib.hid (hz.trans (clash_no4 k4))⟩
        generalize cmpZ ((runes a).map lookZ) ((runes b).map lookZ) = c at *
        generalize (runes a).map lookZ = x at *
        generalize (runes b).map lookZ = y at *
        clear hz k1 k2 k3 ha hb la lb
        go_enter Tryd.func18, Tryd.ntmps18
        go_wp2_with fail
        refine (HCA.out w).mono ?_; rintro e w1 ⟨rfl, b1⟩
        have B1 := Lib.hid b1
        clear b1
        go_wp2_with fail
        refine (HCB.out w1).mono ?_; rintro e w2 ⟨rfl, b2⟩
        have B2 := Lib.hid (below_step B1.out b2)
        clear b2
        go_wp2_with fail
        refine (HLA.out w2).mono ?_; rintro e w3 ⟨v, rfl, ho, b3⟩
        have B3 := Lib.hid (below_step B2.out b3)
        obtain ⟨ao, ca, rfl, h3⟩ := own_row ho
        have R3 := Lib.hid h3
        clear b3 ho h3
        go_wp2_with fail
        refine (HLB.out w3).mono ?_; rintro e w4 ⟨v, rfl, ho, b4⟩
        have B4 := Lib.hid (below_step B3.out b4)
        obtain ⟨bo, cb, rfl, h4⟩ := own_row ho
        have R4 := Lib.hid h4
        have R34 := Lib.hid (R3.out.below b4)
        clear b4 ho h4
        go_wp2_with fail
        refine (HCM.out ao bo ca cb w4 R34.out R4.out).mono ?_; rintro e w5 ⟨rfl, b5⟩
        have B5 := Lib.hid (below_step B4.out b5)
        clear b5
        go_wp2_with fail
        go_ret
        exact ⟨ret_bool HZ.out.symm, B5.out⟩
    · have HZ : Hid (z = false) := Lib.hid (hz.trans (clash_no2 k2))
      have q : (checkL (runes b) == 0) = false := by rw [beq_eq_false_iff_ne]; exact k2
      generalize checkL (runes b) = c at *
      clear hz k1 k2 ha hb
      go_enter Tryd.func18, Tryd.ntmps18
      go_wp2_with fail
      refine (HCA.out w).mono ?_; rintro e w1 ⟨rfl, b1⟩
      have B1 := Lib.hid b1
      clear b1
      go_wp2_with fail
      refine (HCB.out w1).mono ?_; rintro e w2 ⟨rfl, b2⟩
      have B2 := Lib.hid (below_step B1.out b2)
      clear b2
      go_wp2_with fail
      go_ret
      exact ⟨ret_bool HZ.out.symm, B2.out⟩
  · have HZ : Hid (z = false) := Lib.hid (hz.trans (clash_no1 k1))
    have q : (checkL (runes a) == 0) = false := by rw [beq_eq_false_iff_ne]; exact k1
    generalize checkL (runes a) = c at *
    clear hz k1 ha hb
    go_enter Tryd.func18, Tryd.ntmps18
    go_wp2_with fail
    refine (HCA.out w).mono ?_; rintro e w1 ⟨rfl, b1⟩
    have B1 := Lib.hid b1
    clear b1
    go_wp2_with fail
    go_ret
    exact ⟨ret_bool HZ.out.symm, B1.out⟩

set_option maxHeartbeats 2000000 in
set_option maxRecDepth 100000 in
theorem rorder_any (a b : ByteArray) (ha : a.size ≤ 1000000) (hb : b.size ≤ 1000000) (w : World) :
    Calls Tryd.prog 20 #[.string a, .string b] w fun e w' => e = .returned (.int .i64 (orderB a b)) ∧ Below w.heap.size w w' := by
  have HCA := Lib.hid (fun V => rcheck_any a ha V)
  have HCB := Lib.hid (fun V => rcheck_any b hb V)
  have HLA := Lib.hid (fun V => rlooks_any a ha V)
  have HLB := Lib.hid (fun V => rlooks_any b hb V)
  have HRA := Lib.hid (fun V => rrunes_any a ha V)
  have HRB := Lib.hid (fun V => rrunes_any b hb V)
  have la := Nat.le_trans (runes_length a) ha
  have lb := Nat.le_trans (runes_length b) hb
  obtain ⟨z, hz⟩ : ∃ z, z = orderB a b := ⟨_, rfl⟩
  rw [← hz]
  by_cases k1 : okL (runes a)
  · rw [show checkL (runes a) = 0 from k1] at HCA
    by_cases k2 : okL (runes b)
    · rw [show checkL (runes b) = 0 from k2] at HCB
      have HCM := Lib.hid (fun ao bo ca cb V h1 h2 => rcomp_any ((runes a).map lookZ) ((runes b).map lookZ) ao bo ca cb (by rw [List.length_map]; exact la) (by rw [List.length_map]; exact lb) V h1 h2)
      have HCR := Lib.hid (fun ao bo ca cb V h1 h2 => rcomp_any (runes a) (runes b) ao bo ca cb la lb V h1 h2)
      have hz' : z = if cmpZ ((runes a).map lookZ) ((runes b).map lookZ) ≠ 0 then cmpZ ((runes a).map lookZ) ((runes b).map lookZ) else cmpZ (runes a) (runes b) := by
        rw [hz, orderB, if_pos ⟨k1, k2⟩, skel_cmp k1 k2, text_cmp k1 k2]
      generalize cmpZ ((runes a).map lookZ) ((runes b).map lookZ) = c at *
      generalize cmpZ (runes a) (runes b) = d at *
      generalize (runes a).map lookZ = x at *
      generalize (runes b).map lookZ = y at *
      generalize runes a = p at *
      generalize runes b = r at *
      by_cases k3 : c = 0
      · have HZ : Hid (z = d) := Lib.hid (by rw [hz', if_neg (by simpa using k3)])
        subst k3
        clear hz hz' k1 k2 ha hb la lb
        go_enter Tryd.func20, Tryd.ntmps20
        go_wp2_with fail
        refine (HCA.out w).mono ?_; rintro e w1 ⟨rfl, b1⟩
        have B1 := Lib.hid b1
        clear b1
        go_wp2_with fail
        refine (HCB.out w1).mono ?_; rintro e w2 ⟨rfl, b2⟩
        have B2 := Lib.hid (below_step B1.out b2)
        clear b2
        go_wp2_with fail
        refine (HLA.out w2).mono ?_; rintro e w3 ⟨v, rfl, ho, b3⟩
        have B3 := Lib.hid (below_step B2.out b3)
        obtain ⟨ao, ca, rfl, h3⟩ := own_row ho
        have R3 := Lib.hid h3
        clear b3 ho h3
        go_wp2_with fail
        refine (HLB.out w3).mono ?_; rintro e w4 ⟨v, rfl, ho, b4⟩
        have B4 := Lib.hid (below_step B3.out b4)
        obtain ⟨bo, cb, rfl, h4⟩ := own_row ho
        have R4 := Lib.hid h4
        have R34 := Lib.hid (R3.out.below b4)
        clear b4 ho h4
        go_wp2_with fail
        refine (HCM.out ao bo ca cb w4 R34.out R4.out).mono ?_; rintro e w5 ⟨rfl, b5⟩
        have B5 := Lib.hid (below_step B4.out b5)
        clear b5
        go_wp2_with fail
        refine (HRA.out w5).mono ?_; rintro e w6 ⟨v, rfl, ho, b6⟩
        have B6 := Lib.hid (below_step B5.out b6)
        obtain ⟨ap, cp, rfl, h6⟩ := own_row ho
        have R6 := Lib.hid h6
        clear b6 ho h6
        go_wp2_with fail
        refine (HRB.out w6).mono ?_; rintro e w7 ⟨v, rfl, ho, b7⟩
        have B7 := Lib.hid (below_step B6.out b7)
        obtain ⟨bp, cq, rfl, h7⟩ := own_row ho
        have R7 := Lib.hid h7
        have R67 := Lib.hid (R6.out.below b7)
        clear b7 ho h7
        go_wp2_with fail
        refine (HCR.out ap bp cp cq w7 R67.out R7.out).mono ?_; rintro e w8 ⟨rfl, b8⟩
        have B8 := Lib.hid (below_step B7.out b8)
        clear b8
        go_wp2_with fail
        go_ret
        exact ⟨ret_i64 HZ.out.symm, B8.out⟩
      · have HZ : Hid (z = c) := Lib.hid (by rw [hz', if_pos k3])
        have q : (c != 0) = true := by rw [bne_iff_ne]; exact k3
        clear hz hz' k1 k2 k3 ha hb la lb
        go_enter Tryd.func20, Tryd.ntmps20
        go_wp2_with fail
        refine (HCA.out w).mono ?_; rintro e w1 ⟨rfl, b1⟩
        have B1 := Lib.hid b1
        clear b1
        go_wp2_with fail
        refine (HCB.out w1).mono ?_; rintro e w2 ⟨rfl, b2⟩
        have B2 := Lib.hid (below_step B1.out b2)
        clear b2
        go_wp2_with fail
        refine (HLA.out w2).mono ?_; rintro e w3 ⟨v, rfl, ho, b3⟩
        have B3 := Lib.hid (below_step B2.out b3)
        obtain ⟨ao, ca, rfl, h3⟩ := own_row ho
        have R3 := Lib.hid h3
        clear b3 ho h3
        go_wp2_with fail
        refine (HLB.out w3).mono ?_; rintro e w4 ⟨v, rfl, ho, b4⟩
        have B4 := Lib.hid (below_step B3.out b4)
        obtain ⟨bo, cb, rfl, h4⟩ := own_row ho
        have R4 := Lib.hid h4
        have R34 := Lib.hid (R3.out.below b4)
        clear b4 ho h4
        go_wp2_with fail
        refine (HCM.out ao bo ca cb w4 R34.out R4.out).mono ?_; rintro e w5 ⟨rfl, b5⟩
        have B5 := Lib.hid (below_step B4.out b5)
        clear b5
        go_wp2_with fail
        go_ret
        exact ⟨ret_i64 HZ.out.symm, B5.out⟩
    · have HZ : Hid (z = 0) := Lib.hid (by rw [hz, orderB, if_neg (fun h => k2 h.2)])
      have q : (checkL (runes b) != 0) = true := by rw [bne_iff_ne]; exact k2
      generalize checkL (runes b) = c at *
      clear hz k1 k2 ha hb
      go_enter Tryd.func20, Tryd.ntmps20
      go_wp2_with fail
      refine (HCA.out w).mono ?_; rintro e w1 ⟨rfl, b1⟩
      have B1 := Lib.hid b1
      clear b1
      go_wp2_with fail
      refine (HCB.out w1).mono ?_; rintro e w2 ⟨rfl, b2⟩
      have B2 := Lib.hid (below_step B1.out b2)
      clear b2
      go_wp2_with fail
      go_ret
      exact ⟨ret_i64 HZ.out.symm, B2.out⟩
  · have HZ : Hid (z = 0) := Lib.hid (by rw [hz, orderB, if_neg (fun h => k1 h.1)])
    have q : (checkL (runes a) != 0) = true := by rw [bne_iff_ne]; exact k1
    generalize checkL (runes a) = c at *
    clear hz k1 ha hb
    go_enter Tryd.func20, Tryd.ntmps20
    go_wp2_with fail
    refine (HCA.out w).mono ?_; rintro e w1 ⟨rfl, b1⟩
    have B1 := Lib.hid b1
    clear b1
    go_wp2_with fail
    go_ret
    exact ⟨ret_i64 HZ.out.symm, B1.out⟩
end Go.Proofs.YtkipnbhejokbeaaDoor.Pl
