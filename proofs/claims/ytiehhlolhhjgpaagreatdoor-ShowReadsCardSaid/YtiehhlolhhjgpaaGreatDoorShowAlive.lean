/- The chapter's examples hold: alive of layer 7 answers true. -/
import Derived.Test.YtiehhlolhhjgpaaGreatDoorShowNextM
import Derived.Test.YtiehhlolhhjgpaaGreatDoorShowParse7
import Derived.Test.YtiehhlolhhjgpaaGreatDoorShowLineOf
import Derived.Test.YtiehhlolhhjgpaaGreatDoorShowZ6
import Derived.Test.YtiehhlolhhjgpaaGreatDoorShowZ4
namespace Go.Proofs.YtiehhlolhhjgpaaGreatDoor.Pl
open Go.RowKit

theorem parse_any7 (s : ByteArray) (hs : s.size ≤ 1000000000) (w : World) (hF : Frames w) :
    Calls Tryz.prog 18 #[.string s] w fun e w' => e = .returned (st2 (parseF (bl s))) ∧ Below w.heap.size w w' := by
  have h := parse7_any (bl s) (by rw [bl_length]; exact hs) w hF (fun B hB x V h1 h2 h3 => nextm_any B hB 16 (Nat.le_refl _) x V h1 h2 h3)
  rw [← bl_eq s, parseN_eq] at h
  exact h
def aK : Tm := .node (97 :: txt [107, 47, 48, 47, 49]) []
def aA : Tm := .node (100 :: txt [97, 98]) []
def aB : Tm := .node (100 :: txt [0]) []
def aC : Tm := .node (100 :: txt []) []
def aD : Tm := .node (100 :: txt [206, 177]) []
def aR : Tm := .node (114 :: enc 2) [aA, aB]
def aM : Tm := .node [109] [aK, aR]
theorem aK_good : aK.good := by simp only [aK, Tm.good]; exact ⟨atom_head (by decide) (by decide), trivial⟩
theorem aA_good : aA.good := by simp only [aA, Tm.good]; exact ⟨data_head (by decide), trivial⟩
theorem aB_good : aB.good := by simp only [aB, Tm.good]; exact ⟨data_head (by decide), trivial⟩
theorem aC_good : aC.good := by simp only [aC, Tm.good]; exact ⟨data_head (by decide), trivial⟩
theorem aD_good : aD.good := by simp only [aD, Tm.good]; exact ⟨data_head (by decide), trivial⟩
theorem aR_good : aR.good := by simp only [aR, Tm.good]; exact ⟨row_head (by decide), aA_good, aB_good, trivial⟩
theorem aM_good : aM.good := by simp only [aM, Tm.good]; exact ⟨mac_head, aK_good, aR_good, trivial⟩
theorem aK_enc : aK.enc = [97, 5, 107, 47, 48, 47, 49] := by decide
theorem aA_enc : aA.enc = [100, 2, 97, 98] := by decide
theorem aB_enc : aB.enc = [100, 1, 0] := by decide
theorem aC_enc : aC.enc = [100, 0] := by decide
theorem aD_enc : aD.enc = [100, 2, 206, 177] := by decide
theorem aR_enc : aR.enc = [114, 2, 100, 2, 97, 98, 100, 1, 0] := by decide
theorem aM_enc : aM.enc = [109, 97, 5, 107, 47, 48, 47, 49, 114, 2, 100, 2, 97, 98, 100, 1, 0] := by decide
theorem aC_valid : aC.valid := ⟨aC_good, by decide, by decide⟩
theorem aD_valid : aD.valid := ⟨aD_good, by decide, by decide⟩
theorem aR_valid : aR.valid := ⟨aR_good, by decide, by decide⟩
theorem aM_valid : aM.valid := ⟨aM_good, by decide, by decide⟩
theorem aM_line : lineT 16 aM 1 = [109, 40, 36, 107, 47, 48, 47, 49, 44, 32, 91, 34, 97, 98, 34, 44, 32, 120, 48, 48, 93, 41] := by decide +kernel
theorem aM_brief : lineT 2 aM 1 = [109, 40, 36, 107, 47, 48, 47, 49, 44, 32, 91, 46, 46, 44, 32, 46, 46, 93, 41] := by decide +kernel
theorem aC_line : lineT 16 aC 1 = [34, 34] := by decide +kernel
theorem aD_line : lineT 16 aD 1 = [34, 206, 177, 34] := by decide +kernel
theorem a7_row : rowP [[100, 2, 97, 98], [100, 1, 0]] = ([114, 2, 100, 2, 97, 98, 100, 1, 0], 0) := by
  have h := made_again (h := 114 :: enc 2) (l := [aA, aB]) aR_valid
  rw [show (Tm.node (114 :: enc 2) [aA, aB]) = aR from rfl, aR_enc, List.map_cons, List.map_cons, List.map_nil, aA_enc, aB_enc] at h
  exact h
theorem a7_mac : madeP [109] [[97, 5, 107, 47, 48, 47, 49], [114, 2, 100, 2, 97, 98, 100, 1, 0]] = ([109, 97, 5, 107, 47, 48, 47, 49, 114, 2, 100, 2, 97, 98, 100, 1, 0], 0) := by
  have h := made_again (h := [109]) (l := [aK, aR]) aM_valid
  rw [show (Tm.node [109] [aK, aR]) = aM from rfl, aM_enc, List.map_cons, List.map_cons, List.map_nil, aK_enc, aR_enc] at h
  exact h
theorem a7_line : briefP 16 [109, 97, 5, 107, 47, 48, 47, 49, 114, 2, 100, 2, 97, 98, 100, 1, 0] = ([109, 40, 36, 107, 47, 48, 47, 49, 44, 32, 91, 34, 97, 98, 34, 44, 32, 120, 48, 48, 93, 41], 0) := by rw [← aM_enc, briefP_some aM_valid, aM_line]
theorem a7_brief : briefP 2 [109, 97, 5, 107, 47, 48, 47, 49, 114, 2, 100, 2, 97, 98, 100, 1, 0] = ([109, 40, 36, 107, 47, 48, 47, 49, 44, 32, 91, 46, 46, 44, 32, 46, 46, 93, 41], 0) := by rw [← aM_enc, briefP_some aM_valid, aM_brief]
theorem a7_lc : briefP 16 [100, 0] = ([34, 34], 0) := by rw [← aC_enc, briefP_some aC_valid, aC_line]
theorem a7_ld : briefP 16 [100, 2, 206, 177] = ([34, 206, 177, 34], 0) := by rw [← aD_enc, briefP_some aD_valid, aD_line]
theorem a7_parse : parseF [109, 40, 36, 107, 47, 48, 47, 49, 44, 32, 91, 34, 97, 98, 34, 44, 32, 120, 48, 48, 93, 41] = ([109, 97, 5, 107, 47, 48, 47, 49, 114, 2, 100, 2, 97, 98, 100, 1, 0], 0) := by
  have h := line_back (check_enc aM_valid)
  rw [aM_enc, a7_line] at h
  exact h
set_option maxHeartbeats 1000000 in
set_option maxRecDepth 100000 in
theorem alive7_any (w : World) (hF : Frames w) : Calls Tryz.prog 6 #[] w fun e w' => e = .returned (.bool true) ∧ Below w.heap.size w w' := by
  have H1 := fun V => atom6_any ⟨#[107, 47, 48, 47, 49]⟩ (by decide) V
  rw [show bl ⟨#[107, 47, 48, 47, 49]⟩ = [107, 47, 48, 47, 49] from rfl, show atomP [107, 47, 48, 47, 49] = ([97, 5, 107, 47, 48, 47, 49], 0) by decide] at H1
  have H2 := fun V => data6_any ⟨#[97, 98]⟩ (by decide) V
  rw [show bl ⟨#[97, 98]⟩ = [97, 98] from rfl, show dataP [97, 98] = ([100, 2, 97, 98], 0) by decide] at H2
  have H3 := fun V => data6_any ⟨#[0]⟩ (by decide) V
  rw [show bl ⟨#[0]⟩ = [0] from rfl, show dataP [0] = ([100, 1, 0], 0) by decide] at H3
  have H4 := fun V => data6_any ⟨#[]⟩ (by decide) V
  rw [show bl ⟨#[]⟩ = [] from rfl, show dataP [] = ([100, 0], 0) by decide] at H4
  have H5 := fun V => data6_any ⟨#[206, 177]⟩ (by decide) V
  rw [show bl ⟨#[206, 177]⟩ = [206, 177] from rfl, show dataP [206, 177] = ([100, 2, 206, 177], 0) by decide] at H5
  have H6 := fun V => row6_any [⟨#[100, 2, 97, 98]⟩, ⟨#[100, 1, 0]⟩] _ 2 (by decide) (by decide) (by decide) _ (row2 V ⟨#[100, 2, 97, 98]⟩ ⟨#[100, 1, 0]⟩)
  rw [show ([⟨#[100, 2, 97, 98]⟩, ⟨#[100, 1, 0]⟩] : List ByteArray).map bl = [[100, 2, 97, 98], [100, 1, 0]] from rfl, a7_row] at H6
  have H7 := fun V => mac6_any ⟨#[97, 5, 107, 47, 48, 47, 49]⟩ ⟨#[114, 2, 100, 2, 97, 98, 100, 1, 0]⟩ (by decide) (by decide) V
  rw [show bl ⟨#[97, 5, 107, 47, 48, 47, 49]⟩ = [97, 5, 107, 47, 48, 47, 49] from rfl, show bl ⟨#[114, 2, 100, 2, 97, 98, 100, 1, 0]⟩ = [114, 2, 100, 2, 97, 98, 100, 1, 0] from rfl, a7_mac] at H7
  have H8 := fun V hV => line7_any ⟨#[109, 97, 5, 107, 47, 48, 47, 49, 114, 2, 100, 2, 97, 98, 100, 1, 0]⟩ (by decide) V hV
  rw [show bl ⟨#[109, 97, 5, 107, 47, 48, 47, 49, 114, 2, 100, 2, 97, 98, 100, 1, 0]⟩ = [109, 97, 5, 107, 47, 48, 47, 49, 114, 2, 100, 2, 97, 98, 100, 1, 0] from rfl, a7_line] at H8
  have H9 := fun V hV => brief7_any ⟨#[109, 97, 5, 107, 47, 48, 47, 49, 114, 2, 100, 2, 97, 98, 100, 1, 0]⟩ 2 (by decide) (by decide) V hV
  rw [show bl ⟨#[109, 97, 5, 107, 47, 48, 47, 49, 114, 2, 100, 2, 97, 98, 100, 1, 0]⟩ = [109, 97, 5, 107, 47, 48, 47, 49, 114, 2, 100, 2, 97, 98, 100, 1, 0] from rfl, a7_brief] at H9
  have H10 := fun V hV => line7_any ⟨#[100, 0]⟩ (by decide) V hV
  rw [show bl ⟨#[100, 0]⟩ = [100, 0] from rfl, a7_lc] at H10
  have H11 := fun V hV => line7_any ⟨#[100, 2, 206, 177]⟩ (by decide) V hV
  rw [show bl ⟨#[100, 2, 206, 177]⟩ = [100, 2, 206, 177] from rfl, a7_ld] at H11
  have H12 := fun V hV => parse_any7 ⟨#[109, 40, 36, 107, 47, 48, 47, 49, 44, 32, 91, 34, 97, 98, 34, 44, 32, 120, 48, 48, 93, 41]⟩ (by decide) V hV
  rw [show bl ⟨#[109, 40, 36, 107, 47, 48, 47, 49, 44, 32, 91, 34, 97, 98, 34, 44, 32, 120, 48, 48, 93, 41]⟩ = [109, 40, 36, 107, 47, 48, 47, 49, 44, 32, 91, 34, 97, 98, 34, 44, 32, 120, 48, 48, 93, 41] from rfl, a7_parse] at H12
  unfold st2 at H1 H2 H3 H4 H5 H6 H7 H8 H9 H10 H11 H12
  have H1 := Lib.hid H1
  have H2 := Lib.hid H2
  have H3 := Lib.hid H3
  have H4 := Lib.hid H4
  have H5 := Lib.hid H5
  have H6 := Lib.hid H6
  have H7 := Lib.hid H7
  have H8 := Lib.hid H8
  have H9 := Lib.hid H9
  have H10 := Lib.hid H10
  have H11 := Lib.hid H11
  have H12 := Lib.hid H12
  have HFR := Lib.hid hF
  clear hF
  go_enter Tryz.func6, Tryz.ntmps6
  go_wp2_with fail
  refine (H1.out w).mono ?_; rintro e w1 ⟨rfl, b1⟩
  have B1 := Lib.hid b1
  clear b1
  go_wp2_with fail
  refine (H2.out _).mono ?_; rintro e w2 ⟨rfl, b2⟩
  have B2 := Lib.hid (below_step B1.out b2)
  clear b2 B1
  go_wp2_with fail
  refine (H3.out _).mono ?_; rintro e w3 ⟨rfl, b3⟩
  have B3 := Lib.hid (below_step B2.out b3)
  clear b3 B2
  go_wp2_with fail
  refine (H4.out _).mono ?_; rintro e w4 ⟨rfl, b4⟩
  have B4 := Lib.hid (below_step B3.out b4)
  clear b4 B3
  go_wp2_with fail
  refine (H5.out _).mono ?_; rintro e w5 ⟨rfl, b5⟩
  have B5 := Lib.hid (below_step B4.out b5)
  clear b5 B4
  go_wp2_with fail
  refine (H6.out _).mono ?_; rintro e w6 ⟨rfl, b6⟩
  have B6 := Lib.hid (below_step (B5.out.alloc B5.out.size _) b6)
  clear b6 B5
  go_wp2_with fail
  refine (H7.out _).mono ?_; rintro e w7 ⟨rfl, b7⟩
  have B7 := Lib.hid (below_step B6.out b7)
  clear b7 B6
  go_wp2_with fail
  refine (H8.out _ (HFR.out.kept HFR.out.1 B7.out)).mono ?_; rintro e w8 ⟨rfl, b8⟩
  have B8 := Lib.hid (below_step B7.out b8)
  clear b8 B7
  go_wp2_with fail
  refine (H9.out _ (HFR.out.kept HFR.out.1 B8.out)).mono ?_; rintro e w9 ⟨rfl, b9⟩
  have B9 := Lib.hid (below_step B8.out b9)
  clear b9 B8
  go_wp2_with fail
  refine (H10.out _ (HFR.out.kept HFR.out.1 B9.out)).mono ?_; rintro e w10 ⟨rfl, b10⟩
  have B10 := Lib.hid (below_step B9.out b10)
  clear b10 B9
  go_wp2_with fail
  refine (H11.out _ (HFR.out.kept HFR.out.1 B10.out)).mono ?_; rintro e w11 ⟨rfl, b11⟩
  have B11 := Lib.hid (below_step B10.out b11)
  clear b11 B10
  go_wp2_with fail
  refine (H12.out _ (HFR.out.kept HFR.out.1 B11.out)).mono ?_; rintro e w12 ⟨rfl, b12⟩
  have B12 := Lib.hid (below_step B11.out b12)
  clear b12 B11
  go_wp2_with fail
  go_ret
  exact ⟨rfl, B12.out⟩
theorem long7_any (s : ByteArray) (w : World) : Calls Tryz.prog 5 #[.string s] w fun e w' => e = .returned (.bool (decide (40000 < s.size))) ∧ w' = w := by
  by_cases h : 40000 < s.size
  · rw [decide_eq_true h]
    have q : (40000 : Int) < (s.size : Int) := by omega
    clear h
    go_enter Tryz.func5, Tryz.ntmps5
    go_wp2_with fail
    go_ret
    exact ⟨rfl, rfl⟩
  · rw [decide_eq_false h]
    have q : ¬ (40000 : Int) < (s.size : Int) := by omega
    clear h
    go_enter Tryz.func5, Tryz.ntmps5
    go_wp2_with fail
    go_ret
    exact ⟨rfl, rfl⟩
end Go.Proofs.YtiehhlolhhjgpaaGreatDoor.Pl
