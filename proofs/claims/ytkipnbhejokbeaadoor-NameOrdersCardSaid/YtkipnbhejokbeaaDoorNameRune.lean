/- What the document's script and sign answer of a rune. -/
import Derived.Test.YtkipnbhejokbeaaDoorNameSpec
import Derived.Test.YtkipnbhejokbeaaDoorCommon
import Derived.Test.YtkipnbhejokbeaaDoorProg
import Derived.Lib.Hide
namespace Go.Proofs.YtkipnbhejokbeaaDoor.Pl
open Go.RowKit

theorem ret_i8 {a b : Int} (h : a = b) : Ending.returned (.int .u8 a) = .returned (.int .u8 b) := by rw [h]
theorem ret_bool {a b : Bool} (h : a = b) : Ending.returned (.bool a) = .returned (.bool b) := by rw [h]
theorem ret_i32 {a b : Int} (h : a = b) : Ending.returned (.int .i32 a) = .returned (.int .i32 b) := by rw [h]
theorem ret_i64 {a b : Int} (h : a = b) : Ending.returned (.int .i64 a) = .returned (.int .i64 b) := by rw [h]

set_option maxRecDepth 100000 in
theorem script_any (r : Int) (w : World) :
    Calls Tryd.prog 30 #[.int .i32 r] w fun e w' => e = .returned (.int .u8 (scrZ r)) ∧ w = w' := by
  have hc : r < 97 ∨ (97 ≤ r ∧ r ≤ 122) ∨ (122 < r ∧ r < 945) ∨ (945 ≤ r ∧ r ≤ 969) ∨ (969 < r ∧ r < 1072) ∨ (1072 ≤ r ∧ r ≤ 1103) ∨ 1103 < r := by omega
  obtain ⟨z, hz⟩ : ∃ z, z = scrZ r := ⟨_, rfl⟩
  rw [← hz]
  have HZ := Lib.hid hz
  clear hz
  rcases hc with h | ⟨h, h'⟩ | ⟨h, h'⟩ | ⟨h, h'⟩ | ⟨h, h'⟩ | ⟨h, h'⟩ | h
  all_goals go_enter Tryd.func30, Tryd.ntmps30
  all_goals go_wp2_with fail
  all_goals go_ret
  all_goals refine ⟨ret_i8 ?_, rfl⟩
  all_goals rw [HZ.out]; unfold scrZ
  all_goals first | (rw [if_pos (by omega)]) | (rw [if_neg (by omega), if_pos (by omega)]) | (rw [if_neg (by omega), if_neg (by omega), if_pos (by omega)]) | (rw [if_neg (by omega), if_neg (by omega), if_neg (by omega)])

set_option maxRecDepth 100000 in
theorem sign_any (r : Int) (w : World) :
    Calls Tryd.prog 31 #[.int .i32 r] w fun e w' => e = .returned (.bool (sgnZ r)) ∧ w = w' := by
  have hc : (r < 48 ∧ r ≠ 45) ∨ r = 45 ∨ (48 ≤ r ∧ r ≤ 57) ∨ 57 < r := by omega
  obtain ⟨z, hz⟩ : ∃ z, z = sgnZ r := ⟨_, rfl⟩
  rw [← hz]
  have HZ := Lib.hid hz
  clear hz
  rcases hc with ⟨h, h'⟩ | h | ⟨h, h'⟩ | h
  · have e : (r == 45) = false := by rw [beq_eq_false_iff_ne]; exact h'
    clear h'
    go_enter Tryd.func31, Tryd.ntmps31
    go_wp2_with fail
    go_ret
    refine ⟨ret_bool ?_, rfl⟩
    rw [HZ.out, beq_eq_false_iff_ne] at *
    simp [sgnZ]; omega
  · have e : (r == 45) = true := by rw [beq_iff_eq]; exact h
    have h2 : r < 48 := by omega
    have HR := Lib.hid h
    clear h
    go_enter Tryd.func31, Tryd.ntmps31
    go_wp2_with fail
    go_ret
    refine ⟨ret_bool ?_, rfl⟩
    rw [HZ.out, HR.out]; rfl
  · go_enter Tryd.func31, Tryd.ntmps31
    go_wp2_with fail
    go_ret
    refine ⟨ret_bool ?_, rfl⟩
    rw [HZ.out]
    simp [sgnZ]; omega
  · have e : (r == 45) = false := by rw [beq_eq_false_iff_ne]; omega
    go_enter Tryd.func31, Tryd.ntmps31
    go_wp2_with fail
    go_ret
    refine ⟨ret_bool ?_, rfl⟩
    rw [HZ.out]
    rw [beq_eq_false_iff_ne] at e
    simp [sgnZ]
    rw [decide_eq_false (show ¬ r ≤ 57 by omega), decide_eq_false (show ¬ r = 45 by omega)]
    simp
end Go.Proofs.YtkipnbhejokbeaaDoor.Pl
