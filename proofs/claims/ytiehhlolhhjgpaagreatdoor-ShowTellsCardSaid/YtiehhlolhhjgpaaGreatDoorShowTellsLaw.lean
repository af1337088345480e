/- ShowTells answers true, whatever it is given. -/
import Derived.Test.YtiehhlolhhjgpaaGreatDoorShowAlive
import Derived.Test.YtiehhlolhhjgpaaGreatDoorShowZ6
import Derived.Test.YtiehhlolhhjgpaaGreatDoorShowZ5
namespace Go.Proofs.YtiehhlolhhjgpaaGreatDoor.Pl
open Go.RowKit

theorem map_bl_inj7 {a b : List ByteArray} (h : a.map bl = b.map bl) : a = b := (List.map_inj_right (fun _ _ e => bl_inj e)).1 h
theorem atoms_small (s : List UInt8) : (atomsP s).length ≤ 16384 := Nat.le_trans (atomsL_len _) (subs_small s).1
set_option maxHeartbeats 2000000 in
set_option maxRecDepth 100000 in
theorem showtells_any (s : ByteArray) (deep : Int) (hd : deep ≤ 9223372036854775807) (w : World) (hF : Frames w) :
    Calls Tryz.prog 3 #[.string s, .int .i64 deep] w fun e w' => e = .returned (.bool true) ∧ Below w.heap.size w w' := by
  have HL := Lib.hid (fun V => long7_any s V)
  have HA := Lib.hid (fun V hV => alive7_any V hV)
  have HFR := Lib.hid hF
  clear hF
  by_cases hl : 40000 < s.size
  · rw [decide_eq_true hl] at HL
    clear hl
    go_enter Tryz.func3, Tryz.ntmps3
    go_wp2_with fail
    refine (HL.out w).mono ?_; rintro e w1 ⟨rfl, rfl⟩
    go_wp2_with fail
    refine (HA.out _ HFR.out).mono ?_; rintro e w2 ⟨rfl, b2⟩
    go_wp2_with fail
    go_ret
    exact ⟨rfl, b2⟩
  · rw [decide_eq_false hl] at HL
    have hs2 : s.size ≤ 281474976710656 := by omega
    have H1 := fun V hV => line7_any s hs2 V hV
    have H2 := fun V => rline7_any s hs2 V
    have H3 := fun V hV => brief7_any s deep hd hs2 V hV
    have H4 := fun V => rbrief_any s deep hs2 V
    have H5 := Lib.hid (fun V => atoms7_any s hs2 V)
    have H6 := Lib.hid (fun V => ratoms_any s hs2 V)
    have H7 := Lib.hid (fun V => plain7_any s V)
    have H8 := Lib.hid (fun V => rplain_any s V)
    have H9 := Lib.hid (fun V => width7_any s hs2 V)
    have H10 := Lib.hid (fun V => rwidth_any s hs2 V)
    have HAS := Lib.hid (atoms_small (bl s))
    unfold st2 at H1 H2 H3 H4
    generalize briefP 16 (bl s) = z1 at *
    generalize briefP deep (bl s) = z2 at *
    generalize atomsP (bl s) = at7 at *
    generalize plainB (bl s) = pb at *
    generalize (rn (bl s)).length = wd at *
    obtain ⟨t1, e1⟩ := z1
    obtain ⟨t2, e2⟩ := z2
    simp only at H1 H2 H3 H4
    have H1 := Lib.hid H1
    have H2 := Lib.hid H2
    have H3 := Lib.hid H3
    have H4 := Lib.hid H4
    generalize (⟨t1.toArray⟩ : ByteArray) = tb1 at *
    generalize (⟨t2.toArray⟩ : ByteArray) = tb2 at *
    clear hl
    go_enter Tryz.func3, Tryz.ntmps3
    go_wp2_with fail
    refine (HL.out w).mono ?_; rintro e w1 ⟨rfl, rfl⟩
    go_wp2_with fail
    refine (H1.out _ HFR.out).mono ?_; rintro e w2 ⟨rfl, b2⟩
    have B2 := Lib.hid b2
    clear b2
    go_wp2_with fail
    refine (H2.out _).mono ?_; rintro e w3 ⟨rfl, b3⟩
    have B3 := Lib.hid (below_step B2.out b3)
    clear b3 B2
    go_wp2_with fail
    refine (H3.out _ (HFR.out.kept HFR.out.1 B3.out)).mono ?_; rintro e w4 ⟨rfl, b4⟩
    have B4 := Lib.hid (below_step B3.out b4)
    clear b4 B3
    go_wp2_with fail
    refine (H4.out _).mono ?_; rintro e w5 ⟨rfl, b5⟩
    have B5 := Lib.hid (below_step B4.out b5)
    clear b5 B4
    go_wp2_with fail
    refine (H5.out _).mono ?_; rintro e w6 ⟨v6, L6, rfl, o6, l6, b6⟩
    have O6 := Lib.hid o6
    have L6E := Lib.hid l6
    have B6 := Lib.hid (below_step B5.out b6)
    obtain ⟨ao6, cap6, rfl, r6⟩ := ownT_row O6.out
    have R6 := Lib.hid r6
    clear b6 B5 o6 l6 r6
    go_wp2_with fail
    refine (H6.out _).mono ?_; rintro e w7 ⟨v7, L7, rfl, o7, l7, b7⟩
    have R6b := Lib.hid (R6.out.below b7)
    have L7E := Lib.hid l7
    have B7 := Lib.hid (below_step B6.out b7)
    obtain ⟨ao7, cap7, rfl, r7⟩ := ownT_row o7
    have R7 := Lib.hid r7
    clear b7 B6 o7 l7 r7
    have SM := Lib.hid (rsame_any L6 L7 ao6 ao7 cap6 cap7 (by have h1 := congrArg List.length L6E.out; rw [List.length_map] at h1; have := HAS.out; omega) (by have h1 := congrArg List.length L7E.out; rw [List.length_map] at h1; have := HAS.out; omega) w7 R6b.out R7.out true ⟨fun _ => map_bl_inj7 (L6E.out.trans L7E.out.symm), fun _ => rfl⟩)
    go_wp2_with fail
    refine SM.out.mono ?_; rintro e w8 ⟨rfl, b8⟩
    have B8 := Lib.hid (below_step B7.out b8)
    clear b8 B7
    go_wp2_with fail
    refine (H7.out _).mono ?_; rintro e w9 ⟨rfl, b9⟩
    have B9 := Lib.hid (below_step B8.out b9)
    clear b9 B8
    go_wp2_with fail
    refine (H8.out _).mono ?_; rintro e w10 ⟨rfl, b10⟩
    have B10 := Lib.hid (below_step B9.out b10)
    clear b10 B9
    go_wp2_with fail
    refine (H9.out _).mono ?_; rintro e w11 ⟨rfl, b11⟩
    have B11 := Lib.hid (below_step B10.out b11)
    clear b11 B10
    go_wp2_with fail
    refine (H10.out _).mono ?_; rintro e w12 ⟨rfl, b12⟩
    have B12 := Lib.hid (below_step B11.out b12)
    clear b12 B11
    go_wp2_with fail
    refine (HA.out _ (HFR.out.kept HFR.out.1 B12.out)).mono ?_; rintro e w13 ⟨rfl, b13⟩
    have B13 := Lib.hid (below_step B12.out b13)
    clear b13 B12
    go_wp2_with fail
    go_ret
    exact ⟨rfl, B13.out⟩
end Go.Proofs.YtiehhlolhhjgpaaGreatDoor.Pl
