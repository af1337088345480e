/- The chapter's two tags by the contracts; alive answers true. -/
import Derived.Test.YtghldnnnhlgmkaaDoorHmacTag
import Derived.Test.YtghldnnnhlgmkaaDoorHmacEq
namespace Go.Proofs.YtghldnnnhlgmkaaDoor.Pl
open Go.RowKit

set_option maxRecDepth 100000
theorem sum_jefe (w : World) (hT : Tab w) : Calls Tryd.prog 9 #[.string ⟨#[74, 101, 102, 101]⟩, .string ⟨#[119, 104, 97, 116, 32, 100, 111, 32, 121, 97, 32, 119, 97, 110, 116, 32, 102, 111, 114, 32, 110, 111, 116, 104, 105, 110, 103, 63]⟩] w fun e w' => e = .returned (.string (bytesOf [91, 220, 193, 70, 191, 96, 117, 78, 106, 4, 36, 38, 8, 149, 117, 199, 90, 0, 63, 8, 157, 39, 57, 131, 157, 236, 88, 185, 100, 236, 56, 67])) ∧ Below w.heap.size w w' := by
  have h := tag_any ⟨#[74, 101, 102, 101]⟩ ⟨#[119, 104, 97, 116, 32, 100, 111, 32, 121, 97, 32, 119, 97, 110, 116, 32, 102, 111, 114, 32, 110, 111, 116, 104, 105, 110, 103, 63]⟩ (by decide) (by decide) w hT
  have e : tagOf (nums ⟨#[74, 101, 102, 101]⟩) (nums ⟨#[119, 104, 97, 116, 32, 100, 111, 32, 121, 97, 32, 119, 97, 110, 116, 32, 102, 111, 114, 32, 110, 111, 116, 104, 105, 110, 103, 63]⟩) = [91, 220, 193, 70, 191, 96, 117, 78, 106, 4, 36, 38, 8, 149, 117, 199, 90, 0, 63, 8, 157, 39, 57, 131, 157, 236, 88, 185, 100, 236, 56, 67] := tag_jefe
  rw [e] at h
  exact h
theorem hex_jefe (w : World) : Calls Tryd.prog 12 #[.string (bytesOf [91, 220, 193, 70, 191, 96, 117, 78, 106, 4, 36, 38, 8, 149, 117, 199, 90, 0, 63, 8, 157, 39, 57, 131, 157, 236, 88, 185, 100, 236, 56, 67])] w fun e w' => e = .returned (.string ⟨#[53, 98, 100, 99, 99, 49, 52, 54, 98, 102, 54, 48, 55, 53, 52, 101, 54, 97, 48, 52, 50, 52, 50, 54, 48, 56, 57, 53, 55, 53, 99, 55, 53, 97, 48, 48, 51, 102, 48, 56, 57, 100, 50, 55, 51, 57, 56, 51, 57, 100, 101, 99, 53, 56, 98, 57, 54, 52, 101, 99, 51, 56, 52, 51]⟩) ∧ Below w.heap.size w w' := by
  have h := hex_any (bytesOf [91, 220, 193, 70, 191, 96, 117, 78, 106, 4, 36, 38, 8, 149, 117, 199, 90, 0, 63, 8, 157, 39, 57, 131, 157, 236, 88, 185, 100, 236, 56, 67]) (by decide) (by decide) w
  rw [nums_bytesOf (by intro x hx; revert x; decide)] at h
  exact h
theorem sum_twenty (w : World) (hT : Tab w) : Calls Tryd.prog 9 #[.string ⟨#[11, 11, 11, 11, 11, 11, 11, 11, 11, 11, 11, 11, 11, 11, 11, 11, 11, 11, 11, 11]⟩, .string ⟨#[72, 105, 32, 84, 104, 101, 114, 101]⟩] w fun e w' => e = .returned (.string (bytesOf [176, 52, 76, 97, 216, 219, 56, 83, 92, 168, 175, 206, 175, 11, 241, 43, 136, 29, 194, 0, 201, 131, 61, 167, 38, 233, 55, 108, 46, 50, 207, 247])) ∧ Below w.heap.size w w' := by
  have h := tag_any ⟨#[11, 11, 11, 11, 11, 11, 11, 11, 11, 11, 11, 11, 11, 11, 11, 11, 11, 11, 11, 11]⟩ ⟨#[72, 105, 32, 84, 104, 101, 114, 101]⟩ (by decide) (by decide) w hT
  have e : tagOf (nums ⟨#[11, 11, 11, 11, 11, 11, 11, 11, 11, 11, 11, 11, 11, 11, 11, 11, 11, 11, 11, 11]⟩) (nums ⟨#[72, 105, 32, 84, 104, 101, 114, 101]⟩) = [176, 52, 76, 97, 216, 219, 56, 83, 92, 168, 175, 206, 175, 11, 241, 43, 136, 29, 194, 0, 201, 131, 61, 167, 38, 233, 55, 108, 46, 50, 207, 247] := tag_twenty
  rw [e] at h
  exact h
theorem hex_twenty (w : World) : Calls Tryd.prog 12 #[.string (bytesOf [176, 52, 76, 97, 216, 219, 56, 83, 92, 168, 175, 206, 175, 11, 241, 43, 136, 29, 194, 0, 201, 131, 61, 167, 38, 233, 55, 108, 46, 50, 207, 247])] w fun e w' => e = .returned (.string ⟨#[98, 48, 51, 52, 52, 99, 54, 49, 100, 56, 100, 98, 51, 56, 53, 51, 53, 99, 97, 56, 97, 102, 99, 101, 97, 102, 48, 98, 102, 49, 50, 98, 56, 56, 49, 100, 99, 50, 48, 48, 99, 57, 56, 51, 51, 100, 97, 55, 50, 54, 101, 57, 51, 55, 54, 99, 50, 101, 51, 50, 99, 102, 102, 55]⟩) ∧ Below w.heap.size w w' := by
  have h := hex_any (bytesOf [176, 52, 76, 97, 216, 219, 56, 83, 92, 168, 175, 206, 175, 11, 241, 43, 136, 29, 194, 0, 201, 131, 61, 167, 38, 233, 55, 108, 46, 50, 207, 247]) (by decide) (by decide) w
  rw [nums_bytesOf (by intro x hx; revert x; decide)] at h
  exact h
theorem same_abab (w : World) : Calls Tryd.prog 15 #[.string ⟨#[97, 98]⟩, .string ⟨#[97, 98]⟩] w fun e w' => e = .returned (.bool true) ∧ Below w.heap.size w w' :=
  same_any ⟨#[97, 98]⟩ ⟨#[97, 98]⟩ (by decide) w true (by decide)
theorem same_abac (w : World) : Calls Tryd.prog 15 #[.string ⟨#[97, 98]⟩, .string ⟨#[97, 99]⟩] w fun e w' => e = .returned (.bool false) ∧ Below w.heap.size w w' :=
  same_any ⟨#[97, 98]⟩ ⟨#[97, 99]⟩ (by decide) w false (by decide)
theorem alive_any (w : World) (hT : Tab w) : Calls Tryd.prog 8 #[] w fun e w' => e = .returned (.bool true) ∧ Below w.heap.size w w' := by
  have HT := Lib.hid hT
  clear hT
  go_enter Tryd.func8, Tryd.ntmps8
  go_wp2_with fail
  refine (sum_jefe _ HT.out).mono ?_; rintro e w1 ⟨rfl, hb1⟩
  go_wp2_with fail
  refine (hex_jefe _).mono ?_; rintro e w2 ⟨rfl, hb2⟩
  have k2 := below_step hb1 hb2
  clear hb1 hb2
  go_wp2_with fail
  refine (same_abab _).mono ?_; rintro e w3 ⟨rfl, hb3⟩
  have k3 := below_step k2 hb3
  clear hb3 k2
  go_wp2_with fail
  refine (same_abac _).mono ?_; rintro e w4 ⟨rfl, hb4⟩
  go_wp2_with fail
  go_ret
  exact ⟨rfl, below_step k3 hb4⟩
end Go.Proofs.YtghldnnnhlgmkaaDoor.Pl
