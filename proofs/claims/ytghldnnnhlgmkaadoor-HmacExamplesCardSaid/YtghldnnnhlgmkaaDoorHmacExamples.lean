/- HmacExamples answers true. -/
import Derived.Test.YtghldnnnhlgmkaaDoorHmacAlive
namespace Go.Proofs.YtghldnnnhlgmkaaDoor.Pl
open Go.RowKit

theorem eleven (k : Nat) : (⟨(List.replicate k 11).toArray⟩ : ByteArray) ++ ⟨#[11]⟩ = ⟨(List.replicate (k + 1) 11).toArray⟩ := by
  apply ByteArray.ext
  apply Array.ext'
  simp [List.replicate_succ']
theorem eleven_size (k : Nat) : (⟨(List.replicate k 11).toArray⟩ : ByteArray).size = k := by simp [ByteArray.size]
set_option maxRecDepth 100000 in
theorem hexamples_all (w : World) (hT : Tab w) : Calls Tryd.prog 4 #[] w fun e w' => e = .returned (.bool true) ∧ Below w.heap.size w w' := by
  have HT := Lib.hid hT
  clear hT
  go_enter Tryd.func4, Tryd.ntmps4
  go_wp2_with fail
  go_loop [2, 3] (fun t i => ∃ (k : Nat) (x : ByteArray), k ≤ 20 ∧ i = .int .i64 k ∧ t = .string x ∧ Hid (x = ⟨(List.replicate k 11).toArray⟩) ∧ x.size ≤ 20) (fun _ i => 20 - (intOf i).toNat)
  case atStart => exact ⟨0, ⟨#[]⟩, by omega, rfl, rfl, Lib.hid rfl, by decide⟩
  case round =>
    obtain ⟨k, x, hk, rfl, rfl, hx, hsz⟩ := hrel
    by_cases hlt : k < 20
    · go_wp2_with fail
      go_round
      case rel => exact ⟨k + 1, x ++ ⟨#[11]⟩, by omega, by go_num, rfl, Lib.hid (by rw [hx.out, eleven]), by rw [hx.out, eleven, eleven_size]; omega⟩
      case measure => simp [intOf]; omega
    · obtain rfl : k = 20 := by omega
      have e : x = ⟨#[11, 11, 11, 11, 11, 11, 11, 11, 11, 11, 11, 11, 11, 11, 11, 11, 11, 11, 11, 11]⟩ := hx.out
      subst e
      clear hx hsz
      go_wp2_with fail
      refine (keysum_nil _ _).mono ?_; rintro e w' ⟨rfl, rfl⟩
      go_wp2_with fail
      refine (sum_twenty _ HT.out).mono ?_; rintro e w1 ⟨rfl, hb1⟩
      go_wp2_with fail
      refine (hex_twenty _).mono ?_; rintro e w2 ⟨rfl, hb2⟩
      have k2 := below_step hb1 hb2
      have T2 := Lib.hid (HT.out.below k2)
      clear hb1 hb2
      go_wp2_with fail
      refine (alive_any _ T2.out).mono ?_; rintro e w3 ⟨rfl, hb3⟩
      go_wp2_with fail
      go_ret
      exact ⟨rfl, below_step k2 hb3⟩
end Go.Proofs.YtghldnnnhlgmkaaDoor.Pl
