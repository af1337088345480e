/- The chapter's examples hold: alive answers true. -/
import Derived.Test.YtdddmaobmdinbaaReadText
namespace Go.Proofs.Ytdddmaobmdinbaa.Pl
open Go.RowKit

theorem num_0 (w : World) : Calls Try.prog 11 #[.int .u64 0] w fun e w' => e = .returned (.string ⟨#[0]⟩) ∧ Below w.heap.size w w' := by
  have h := num_any 0 (by decide) w
  rw [show enc 0 = [0] from by decide] at h
  exact h
theorem num_247 (w : World) : Calls Try.prog 11 #[.int .u64 247] w fun e w' => e = .returned (.string ⟨#[247]⟩) ∧ Below w.heap.size w w' := by
  have h := num_any 247 (by decide) w
  rw [show enc 247 = [247] from by decide] at h
  exact h
theorem num_248 (w : World) : Calls Try.prog 11 #[.int .u64 248] w fun e w' => e = .returned (.string ⟨#[248, 248]⟩) ∧ Below w.heap.size w w' := by
  have h := num_any 248 (by decide) w
  rw [show enc 248 = [248, 248] from by decide] at h
  exact h
theorem num_256 (w : World) : Calls Try.prog 11 #[.int .u64 256] w fun e w' => e = .returned (.string ⟨#[249, 1, 0]⟩) ∧ Below w.heap.size w w' := by
  have h := num_any 256 (by decide) w
  rw [show enc 256 = [249, 1, 0] from by decide] at h
  exact h
theorem readnum_1 (w : World) : Calls Try.prog 9 #[.string ⟨#[249, 1]⟩] w fun e w' => e = .returned (.tuple #[.int .u64 0, .int .i64 0, .int .i64 6]) ∧ w = w' := by
  have h := readnum_any ⟨#[249, 1]⟩ (by decide) w
  rw [show rdn (ByteArray.mk #[249, 1]).data.toList = (0, 0, 6) from by decide] at h
  exact h
theorem readnum_2 (w : World) : Calls Try.prog 9 #[.string ⟨#[249, 0, 9]⟩] w fun e w' => e = .returned (.tuple #[.int .u64 0, .int .i64 0, .int .i64 7]) ∧ w = w' := by
  have h := readnum_any ⟨#[249, 0, 9]⟩ (by decide) w
  rw [show rdn (ByteArray.mk #[249, 0, 9]).data.toList = (0, 0, 7) from by decide] at h
  exact h
theorem readnum_3 (w : World) : Calls Try.prog 9 #[.string ⟨#[248, 7]⟩] w fun e w' => e = .returned (.tuple #[.int .u64 0, .int .i64 0, .int .i64 7]) ∧ w = w' := by
  have h := readnum_any ⟨#[248, 7]⟩ (by decide) w
  rw [show rdn (ByteArray.mk #[248, 7]).data.toList = (0, 0, 7) from by decide] at h
  exact h
theorem readnum_4 (w : World) : Calls Try.prog 9 #[.string ⟨#[9, 8]⟩] w fun e w' => e = .returned (.tuple #[.int .u64 9, .int .i64 1, .int .i64 0]) ∧ w = w' := by
  have h := readnum_any ⟨#[9, 8]⟩ (by decide) w
  rw [show rdn (ByteArray.mk #[9, 8]).data.toList = (9, 1, 0) from by decide] at h
  exact h
theorem readtext_1 (w : World) : Calls Try.prog 16 #[.string ⟨#[2, 97, 98, 99]⟩, .int .i64 2] w fun e w' => e = .returned (.tuple #[.string ⟨#[97, 98]⟩, .int .i64 3, .int .i64 0]) ∧ Below w.heap.size w w' := by
  have h := readtext_any ⟨#[2, 97, 98, 99]⟩ 2 w (by decide) (by decide) (by decide)
  rw [show rdt (ByteArray.mk #[2, 97, 98, 99]).data.toList 2 = ([97, 98], 3, 0) from by decide] at h
  exact h
theorem readtext_2 (w : World) : Calls Try.prog 16 #[.string ⟨#[2, 97, 98, 99]⟩, .int .i64 1] w fun e w' => e = .returned (.tuple #[.string ⟨#[]⟩, .int .i64 0, .int .i64 5]) ∧ Below w.heap.size w w' := by
  have h := readtext_any ⟨#[2, 97, 98, 99]⟩ 1 w (by decide) (by decide) (by decide)
  rw [show rdt (ByteArray.mk #[2, 97, 98, 99]).data.toList 1 = ([], 0, 5) from by decide] at h
  exact h
theorem readtext_3 (w : World) : Calls Try.prog 16 #[.string ⟨#[2, 97]⟩, .int .i64 2] w fun e w' => e = .returned (.tuple #[.string ⟨#[]⟩, .int .i64 0, .int .i64 6]) ∧ Below w.heap.size w w' := by
  have h := readtext_any ⟨#[2, 97]⟩ 2 w (by decide) (by decide) (by decide)
  rw [show rdt (ByteArray.mk #[2, 97]).data.toList 2 = ([], 0, 6) from by decide] at h
  exact h

set_option maxRecDepth 100000 in
theorem alive_any (w : World) : Calls Try.prog 8 #[] w fun e w' => e = .returned (.bool true) ∧ Below w.heap.size w w' := by
  go_enter Try.func8, Try.ntmps8
  go_wp2_with fail; refine (num_0 _).mono ?_; rintro e w0 ⟨rfl, hb0⟩
  go_wp2_with fail; refine (num_247 _).mono ?_; rintro e w1 ⟨rfl, hb1⟩
  go_wp2_with fail; refine (num_248 _).mono ?_; rintro e w2 ⟨rfl, hb2⟩
  go_wp2_with fail; refine (num_256 _).mono ?_; rintro e w3 ⟨rfl, hb3⟩
  go_wp2_with fail; refine (readnum_1 _).mono ?_; rintro e w' ⟨rfl, rfl⟩
  go_wp2_with fail; refine (readnum_2 _).mono ?_; rintro e w' ⟨rfl, rfl⟩
  go_wp2_with fail; refine (readnum_3 _).mono ?_; rintro e w' ⟨rfl, rfl⟩
  go_wp2_with fail; refine (readnum_4 _).mono ?_; rintro e w' ⟨rfl, rfl⟩
  go_wp2_with fail; refine (readtext_1 _).mono ?_; rintro e w8 ⟨rfl, hb8⟩
  go_wp2_with fail; refine (readtext_2 _).mono ?_; rintro e w9 ⟨rfl, hb9⟩
  go_wp2_with fail; refine (readtext_3 _).mono ?_; rintro e w10 ⟨rfl, hb10⟩
  go_wp2_with fail
  go_ret
  exact ⟨rfl, below_step (below_step (below_step (below_step (below_step (below_step hb0 hb1) hb2) hb3) hb8) hb9) hb10⟩
end Go.Proofs.Ytdddmaobmdinbaa.Pl
