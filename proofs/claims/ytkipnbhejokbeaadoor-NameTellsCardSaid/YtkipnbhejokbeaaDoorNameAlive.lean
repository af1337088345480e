/- alive of layer 5 answers true: the chapter's examples. -/
import Derived.Test.YtkipnbhejokbeaaDoorNameOrder
namespace Go.Proofs.YtkipnbhejokbeaaDoor.Pl
open Go.RowKit

def kotC : ByteArray := ⟨#[208, 186, 208, 190, 209, 130]⟩
def kotL : ByteArray := ⟨#[107, 111, 116]⟩
theorem kotC_ok : okL (runes kotC) := by unfold okL; decide +kernel
theorem kotL_ok : okL (runes kotL) := by unfold okL; decide +kernel
theorem kotC_skel : skelB kotC = kotL := by decide +kernel
theorem kotL_skel : skelB kotL = kotL := by decide +kernel
theorem kot_clash : clashB kotC kotL = true := clash_yes kotC_ok kotL_ok (by decide +kernel) (by rw [kotC_skel, kotL_skel])
theorem kot_same : clashB kotL kotL = false := clash_no3 rfl
theorem acme_script : scriptL (runes ⟨#[97, 99, 109, 101]⟩) = 1 := by decide +kernel
theorem mix_check : checkL (runes ⟨#[206, 177, 99]⟩) = 50 := by decide +kernel
theorem form_check : checkL (runes ⟨#[97, 45]⟩) = 7 := by decide +kernel
theorem sign_check : checkL (runes ⟨#[50, 45, 51]⟩) = 0 := by decide +kernel
theorem sign_script : scriptL (runes ⟨#[50, 45, 51]⟩) = 0 := by decide +kernel

set_option maxHeartbeats 1000000 in
set_option maxRecDepth 100000 in
theorem alive_any5 (w : World) (hT : Chars w) : Calls Tryd.prog 8 #[] w fun e w' => e = .returned (.bool true) ∧ Below w.heap.size w w' := by
  have HT := Lib.hid hT
  have H1 := Lib.hid (fun V h => skel_ok kotC (by decide) V h kotC_ok)
  have H2 := Lib.hid (fun V h => scriptn_any ⟨#[97, 99, 109, 101]⟩ (by decide) V h)
  have H3 := Lib.hid (fun V h => check_any ⟨#[206, 177, 99]⟩ (by decide) V h)
  have H4 := Lib.hid (fun V h => check_any ⟨#[97, 45]⟩ (by decide) V h)
  have H5 := Lib.hid (fun V h => clash_any kotC kotL (by decide) (by decide) V h)
  have H6 := Lib.hid (fun V h => clash_any kotL kotL (by decide) (by decide) V h)
  have H7 := Lib.hid (fun V h => check_any ⟨#[50, 45, 51]⟩ (by decide) V h)
  have H8 := Lib.hid (fun V h => scriptn_any ⟨#[50, 45, 51]⟩ (by decide) V h)
  rw [kotC_skel] at H1
  rw [acme_script] at H2
  rw [mix_check] at H3
  rw [form_check] at H4
  rw [kot_clash] at H5
  rw [kot_same] at H6
  rw [sign_check] at H7
  rw [sign_script] at H8
  clear hT
  go_enter Tryd.func8, Tryd.ntmps8
  go_wp2_with fail
  refine (H1.out w HT.out).mono ?_; rintro e w1 ⟨rfl, b1⟩
  have B1 := Lib.hid b1
  clear b1
  unfold kotL
  go_wp2_with fail
  refine (H2.out _ (HT.out.below B1.out)).mono ?_; rintro e w2 ⟨rfl, b2⟩
  have B2 := Lib.hid (below_step B1.out b2)
  clear b2
  go_wp2_with fail
  refine (H3.out _ (HT.out.below B2.out)).mono ?_; rintro e w3 ⟨rfl, b3⟩
  have B3 := Lib.hid (below_step B2.out b3)
  clear b3
  go_wp2_with fail
  refine (H4.out _ (HT.out.below B3.out)).mono ?_; rintro e w4 ⟨rfl, b4⟩
  have B4 := Lib.hid (below_step B3.out b4)
  clear b4
  go_wp2_with fail
  refine (H5.out _ (HT.out.below B4.out)).mono ?_; rintro e w5 ⟨rfl, b5⟩
  have B5 := Lib.hid (below_step B4.out b5)
  clear b5
  go_wp2_with fail
  refine (H6.out _ (HT.out.below B5.out)).mono ?_; rintro e w6 ⟨rfl, b6⟩
  have B6 := Lib.hid (below_step B5.out b6)
  clear b6
  go_wp2_with fail
  refine (H7.out _ (HT.out.below B6.out)).mono ?_; rintro e w7 ⟨rfl, b7⟩
  have B7 := Lib.hid (below_step B6.out b7)
  clear b7
  go_wp2_with fail
  refine (H8.out _ (HT.out.below B7.out)).mono ?_; rintro e w8 ⟨rfl, b8⟩
  have B8 := Lib.hid (below_step B7.out b8)
  clear b8
  go_wp2_with fail
  go_ret
  exact ⟨rfl, B8.out⟩
end Go.Proofs.YtkipnbhejokbeaaDoor.Pl
