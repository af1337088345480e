/- The chapter's examples hold: alive of layer 6 answers true. -/
import Derived.Test.YtfghhhghhjbiaaaTermSwapped
import Derived.Test.YtfghhhghhjbiaaaTermCount
import Derived.Test.YtfghhhghhjbiaaaTermJoin
namespace Go.Proofs.Ytfghhhghhjbiaaa.Pl
open Go.RowKit

def tAb : Tm := .node (100 :: txt [97, 98]) []
def tK : Tm := .node (97 :: txt [107]) []
def tJ : Tm := .node (97 :: txt [106]) []
def tR : Tm := .node (114 :: enc 2) [tAb, tK]
def tM : Tm := .node [109] [tK, tAb]
def tQ : Tm := .node [109] [tJ, tAb]
theorem tAb_good : tAb.good := by simp only [tAb, Tm.good]; exact ⟨data_head (by decide), trivial⟩
theorem tK_good : tK.good := by simp only [tK, Tm.good]; exact ⟨atom_head (by decide) (by decide), trivial⟩
theorem tJ_good : tJ.good := by simp only [tJ, Tm.good]; exact ⟨atom_head (by decide) (by decide), trivial⟩
theorem tAb_enc : tAb.enc = [100, 2, 97, 98] := by decide
theorem tK_enc : tK.enc = [97, 1, 107] := by decide
theorem tJ_enc : tJ.enc = [97, 1, 106] := by decide
theorem tR_enc : tR.enc = [114, 2, 100, 2, 97, 98, 97, 1, 107] := by decide
theorem tM_enc : tM.enc = [109, 97, 1, 107, 100, 2, 97, 98] := by decide
theorem tQ_enc : tQ.enc = [109, 97, 1, 106, 100, 2, 97, 98] := by decide
theorem tAb_valid : tAb.valid := ⟨tAb_good, by decide, by decide⟩
theorem tK_valid : tK.valid := ⟨tK_good, by decide, by decide⟩
theorem tJ_valid : tJ.valid := ⟨tJ_good, by decide, by decide⟩
theorem tR_valid : tR.valid := ⟨by simp only [tR, Tm.good]; exact ⟨row_head (by decide), tAb_good, tK_good, trivial⟩, by decide, by decide⟩
theorem tM_valid : tM.valid := ⟨by simp only [tM, Tm.good]; exact ⟨mac_head, tK_good, tAb_good, trivial⟩, by decide, by decide⟩
theorem tQ_valid : tQ.valid := ⟨by simp only [tQ, Tm.good]; exact ⟨mac_head, tJ_good, tAb_good, trivial⟩, by decide, by decide⟩
theorem al_data : dataP [97, 98] = ([100, 2, 97, 98], 0) := by decide
theorem al_k : atomP [107] = ([97, 1, 107], 0) := by decide
theorem al_j : atomP [106] = ([97, 1, 106], 0) := by decide
theorem al_K : atomP [75] = ([], 7) := by decide
theorem al_no : atomP [] = ([], 7) := by decide
theorem al_row : rowP [[100, 2, 97, 98], [97, 1, 107]] = ([114, 2, 100, 2, 97, 98, 97, 1, 107], 0) := by
  have h := made_again (h := 114 :: enc 2) (l := [tAb, tK]) tR_valid
  rw [show (Tm.node (114 :: enc 2) [tAb, tK]) = tR from rfl, tR_enc, List.map_cons, List.map_cons, List.map_nil, tAb_enc, tK_enc] at h
  exact h
theorem al_mac : madeP [109] [[97, 1, 107], [100, 2, 97, 98]] = ([109, 97, 1, 107, 100, 2, 97, 98], 0) := by
  have h := made_again (h := [109]) (l := [tK, tAb]) tM_valid
  rw [show (Tm.node [109] [tK, tAb]) = tM from rfl, tM_enc, List.map_cons, List.map_cons, List.map_nil, tAb_enc, tK_enc] at h
  exact h
theorem al_mac2 : madeP [109] [[97, 1, 106], [100, 2, 97, 98]] = ([109, 97, 1, 106, 100, 2, 97, 98], 0) := by
  have h := made_again (h := [109]) (l := [tJ, tAb]) tQ_valid
  rw [show (Tm.node [109] [tJ, tAb]) = tQ from rfl, tQ_enc, List.map_cons, List.map_cons, List.map_nil, tAb_enc, tJ_enc] at h
  exact h
theorem al_read : frontP [104, 100, 1] = (0, 6) := by decide
theorem al_size : sizeP [114, 2, 100, 2, 97, 98, 97, 1, 107] = 3 := by
  unfold sizeP
  rw [← tR_enc, treeOf_enc tR_valid]
  rfl
theorem al_depth : depthP [114, 2, 100, 2, 97, 98, 97, 1, 107] = 2 := by
  unfold depthP
  rw [← tR_enc, treeOf_enc tR_valid]
  rfl
theorem al_swap : swapP [109, 97, 1, 107, 100, 2, 97, 98] [97, 1, 107] [97, 1, 106] = ([109, 97, 1, 106, 100, 2, 97, 98], 0) := by
  unfold swapP
  have h1 := treeOf_enc tM_valid
  have h2 := treeOf_enc tK_valid
  have h3 := treeOf_enc tJ_valid
  rw [tM_enc] at h1
  rw [tK_enc] at h2
  rw [tJ_enc] at h3
  rw [h1, h2, h3]
  have hs : (tM.swap [97, 1, 107] tJ).enc = [109, 97, 1, 106, 100, 2, 97, 98] := by decide
  simp only
  rw [hs, ← tQ_enc, if_pos (check_enc tQ_valid)]

set_option maxHeartbeats 1000000 in
set_option maxRecDepth 100000 in
theorem alive6_any (w : World) : Calls Try.prog 26 #[] w fun e w' => e = .returned (.bool true) ∧ Below w.heap.size w w' := by
  have H1 := fun V => data6_any ⟨#[97, 98]⟩ (by decide) V
  rw [show bl ⟨#[97, 98]⟩ = [97, 98] from rfl, al_data] at H1
  have H2 := fun V => atom6_any ⟨#[107]⟩ (by decide) V
  rw [show bl ⟨#[107]⟩ = [107] from rfl, al_k] at H2
  have H3 := fun V => atom6_any ⟨#[106]⟩ (by decide) V
  rw [show bl ⟨#[106]⟩ = [106] from rfl, al_j] at H3
  have H4 := fun V => row6_any [⟨#[100, 2, 97, 98]⟩, ⟨#[97, 1, 107]⟩] _ 2 (by decide) (by decide) (by decide) _ (row2 V ⟨#[100, 2, 97, 98]⟩ ⟨#[97, 1, 107]⟩)
  rw [show ([⟨#[100, 2, 97, 98]⟩, ⟨#[97, 1, 107]⟩] : List ByteArray).map bl = [[100, 2, 97, 98], [97, 1, 107]] from rfl, al_row] at H4
  have H5 := fun V => atom6_any ⟨#[75]⟩ (by decide) V
  rw [show bl ⟨#[75]⟩ = [75] from rfl, al_K] at H5
  have H6 := fun V => atom6_any ⟨#[]⟩ (by decide) V
  rw [show bl ⟨#[]⟩ = [] from rfl, al_no] at H6
  have H7 := fun V => read6_any ⟨#[104, 100, 1]⟩ (by decide) V
  rw [show bl ⟨#[104, 100, 1]⟩ = [104, 100, 1] from rfl, al_read] at H7
  have H8 := fun V => mac6_any ⟨#[97, 1, 107]⟩ ⟨#[100, 2, 97, 98]⟩ (by decide) (by decide) V
  rw [show bl ⟨#[97, 1, 107]⟩ = [97, 1, 107] from rfl, show bl ⟨#[100, 2, 97, 98]⟩ = [100, 2, 97, 98] from rfl, al_mac] at H8
  have H9 := fun V => swap6_any ⟨#[109, 97, 1, 107, 100, 2, 97, 98]⟩ ⟨#[97, 1, 107]⟩ ⟨#[97, 1, 106]⟩ (by decide) (by decide) (by decide) V
  rw [show bl ⟨#[109, 97, 1, 107, 100, 2, 97, 98]⟩ = [109, 97, 1, 107, 100, 2, 97, 98] from rfl, show bl ⟨#[97, 1, 107]⟩ = [97, 1, 107] from rfl, show bl ⟨#[97, 1, 106]⟩ = [97, 1, 106] from rfl, al_swap] at H9
  have H10 := fun V => mac6_any ⟨#[97, 1, 106]⟩ ⟨#[100, 2, 97, 98]⟩ (by decide) (by decide) V
  rw [show bl ⟨#[97, 1, 106]⟩ = [97, 1, 106] from rfl, show bl ⟨#[100, 2, 97, 98]⟩ = [100, 2, 97, 98] from rfl, al_mac2] at H10
  have H11 := fun V => size6_any ⟨#[114, 2, 100, 2, 97, 98, 97, 1, 107]⟩ (by decide) V
  rw [show bl ⟨#[114, 2, 100, 2, 97, 98, 97, 1, 107]⟩ = [114, 2, 100, 2, 97, 98, 97, 1, 107] from rfl, al_size] at H11
  have H12 := fun V => depth6_any ⟨#[114, 2, 100, 2, 97, 98, 97, 1, 107]⟩ (by decide) V
  rw [show bl ⟨#[114, 2, 100, 2, 97, 98, 97, 1, 107]⟩ = [114, 2, 100, 2, 97, 98, 97, 1, 107] from rfl, al_depth] at H12
  unfold st2 at H1 H2 H3 H4 H5 H6 H8 H9 H10
  have H1 := Lib.hid H1
  have H2 := Lib.hid H2
  have H3 := Lib.hid H3
  have H4 := Lib.hid H4
  have H5 := Lib.hid H5
  have H6 := Lib.hid H6
  have H7 := Lib.hid H7
  have H8 := Lib.hid H8
  have H9 := Lib.hid H9
  have H10 := Lib.hid H10
  have H11 := Lib.hid H11
  have H12 := Lib.hid H12
  go_enter Try.func26, Try.ntmps26
  go_wp2_with fail
  refine (H1.out w).mono ?_; rintro e w1 ⟨rfl, b1⟩
  have B1 := Lib.hid b1
  clear b1
  go_wp2_with fail
  refine (H2.out _).mono ?_; rintro e w2 ⟨rfl, b2⟩
  have B2 := Lib.hid (below_step B1.out b2)
  clear b2 B1
  go_wp2_with fail
  refine (H3.out _).mono ?_; rintro e w3 ⟨rfl, b3⟩
  have B3 := Lib.hid (below_step B2.out b3)
  clear b3 B2
  go_wp2_with fail
  refine (H4.out _).mono ?_; rintro e w4 ⟨rfl, b4⟩
  have B4 := Lib.hid (below_step (B3.out.alloc B3.out.size _) b4)
  clear b4 B3
  go_wp2_with fail
  refine (H5.out _).mono ?_; rintro e w5 ⟨rfl, b5⟩
  have B5 := Lib.hid (below_step B4.out b5)
  clear b5 B4
  go_wp2_with fail
  refine (H6.out _).mono ?_; rintro e w6 ⟨rfl, b6⟩
  have B6 := Lib.hid (below_step B5.out b6)
  clear b6 B5
  go_wp2_with fail
  refine (H7.out _).mono ?_; rintro e w7 ⟨rfl, b7⟩
  have B7 := Lib.hid (below_step B6.out b7)
  clear b7 B6
  go_wp2_with fail
  refine (H8.out _).mono ?_; rintro e w8 ⟨rfl, b8⟩
  have B8 := Lib.hid (below_step B7.out b8)
  clear b8 B7
  go_wp2_with fail
  refine (H9.out _).mono ?_; rintro e w9 ⟨rfl, b9⟩
  have B9 := Lib.hid (below_step B8.out b9)
  clear b9 B8
  go_wp2_with fail
  refine (H10.out _).mono ?_; rintro e w10 ⟨rfl, b10⟩
  have B10 := Lib.hid (below_step B9.out b10)
  clear b10 B9
  go_wp2_with fail
  refine (H11.out _).mono ?_; rintro e w11 ⟨rfl, b11⟩
  have B11 := Lib.hid (below_step B10.out b11)
  clear b11 B10
  go_wp2_with fail
  refine (H12.out _).mono ?_; rintro e w12 ⟨rfl, b12⟩
  have B12 := Lib.hid (below_step B11.out b12)
  clear b12 B11
  go_wp2_with fail
  go_ret
  exact ⟨rfl, B12.out⟩
end Go.Proofs.Ytfghhhghhjbiaaa.Pl
