/- The chapter's examples hold: alive of layer 11 answers true. -/
import Derived.Test.YtpajcalfjfkogaaForgeF23
namespace Go.Proofs.Ytpajcalfjfkogaa.Pl
open Go.RowKit

theorem row_two (V : World) (a b : ByteArray) : TxtRow (V.alloc (.cells #[.string a, .string b] 9)) (some ⟨V.heap.size, 0, none⟩) [a, b] := by
  have h := Go.heap_alloc_new V (.cells #[.string a, .string b] 9)
  refine .inr ⟨V.heap.size, 0, rfl, by simp, fun j hj => ?_⟩
  match j, hj with
  | 0, _ => exact cell_of_row _ _ _ _ _ _ h
  | 1, _ => exact cell_of_row _ _ _ _ _ _ h
theorem int_nil (V : World) : IntRow V none [] := .inl rfl
theorem fit_small {f : Nat} {a b n : Int} (hf : f ≤ 255) (ha : 0 ≤ a ∧ a ≤ 9) (hb : 0 ≤ b ∧ b ≤ 9) (hn : 0 ≤ n ∧ n ≤ 9) : (⟨f, a, b, 0, n, em11, []⟩ : Stp).Fit :=
  ⟨hf, ⟨by simp only; omega, by simp only; omega⟩, ⟨by simp only; omega, by simp only; omega⟩, ⟨by simp only; omega, by simp only; omega⟩, ⟨by simp only; omega, by simp only; omega⟩, (show em11.size ≤ 9223372036854775807 by decide), Nat.zero_le _, by simp⟩
theorem steps_four (V : World) : StpRow (V.alloc (.cells #[.int .u8 1, .int .i64 0, .int .i64 0, .int .i64 0, .int .i64 0, .string ⟨#[]⟩, .slice none 0 0, .int .u8 1, .int .i64 0, .int .i64 0, .int .i64 0, .int .i64 1, .string ⟨#[]⟩, .slice none 0 0, .int .u8 3, .int .i64 1, .int .i64 0, .int .i64 0, .int .i64 0, .string ⟨#[]⟩, .slice none 0 0, .int .u8 5, .int .i64 0, .int .i64 2, .int .i64 0, .int .i64 0, .string ⟨#[]⟩, .slice none 0 0] 46)) (some ⟨V.heap.size, 0, none⟩) [q1, q2, q3, q4] := by
  have h := Go.heap_alloc_new V (.cells #[.int .u8 1, .int .i64 0, .int .i64 0, .int .i64 0, .int .i64 0, .string ⟨#[]⟩, .slice none 0 0, .int .u8 1, .int .i64 0, .int .i64 0, .int .i64 0, .int .i64 1, .string ⟨#[]⟩, .slice none 0 0, .int .u8 3, .int .i64 1, .int .i64 0, .int .i64 0, .int .i64 0, .string ⟨#[]⟩, .slice none 0 0, .int .u8 5, .int .i64 0, .int .i64 2, .int .i64 0, .int .i64 0, .string ⟨#[]⟩, .slice none 0 0] 46)
  refine .inr ⟨V.heap.size, 0, rfl, by simp, fun j hj => ?_⟩
  match j, hj with
  | 0, _ => exact ⟨⟨none, 0, fun k hk => (by
      match k, hk with
      | 0, _ => exact cell_of_row _ _ _ _ _ _ h
      | 1, _ => exact cell_of_row _ _ _ _ _ _ h
      | 2, _ => exact cell_of_row _ _ _ _ _ _ h
      | 3, _ => exact cell_of_row _ _ _ _ _ _ h
      | 4, _ => exact cell_of_row _ _ _ _ _ _ h
      | 5, _ => exact cell_of_row _ _ _ _ _ _ h
      | 6, _ => exact cell_of_row _ _ _ _ _ _ h), int_nil _, fun _ => rfl⟩, fit_small (by decide) (by decide) (by decide) (by decide)⟩
  | 1, _ => exact ⟨⟨none, 0, fun k hk => (by
      match k, hk with
      | 0, _ => exact cell_of_row _ _ _ _ _ _ h
      | 1, _ => exact cell_of_row _ _ _ _ _ _ h
      | 2, _ => exact cell_of_row _ _ _ _ _ _ h
      | 3, _ => exact cell_of_row _ _ _ _ _ _ h
      | 4, _ => exact cell_of_row _ _ _ _ _ _ h
      | 5, _ => exact cell_of_row _ _ _ _ _ _ h
      | 6, _ => exact cell_of_row _ _ _ _ _ _ h), int_nil _, fun _ => rfl⟩, fit_small (by decide) (by decide) (by decide) (by decide)⟩
  | 2, _ => exact ⟨⟨none, 0, fun k hk => (by
      match k, hk with
      | 0, _ => exact cell_of_row _ _ _ _ _ _ h
      | 1, _ => exact cell_of_row _ _ _ _ _ _ h
      | 2, _ => exact cell_of_row _ _ _ _ _ _ h
      | 3, _ => exact cell_of_row _ _ _ _ _ _ h
      | 4, _ => exact cell_of_row _ _ _ _ _ _ h
      | 5, _ => exact cell_of_row _ _ _ _ _ _ h
      | 6, _ => exact cell_of_row _ _ _ _ _ _ h), int_nil _, fun _ => rfl⟩, fit_small (by decide) (by decide) (by decide) (by decide)⟩
  | 3, _ => exact ⟨⟨none, 0, fun k hk => (by
      match k, hk with
      | 0, _ => exact cell_of_row _ _ _ _ _ _ h
      | 1, _ => exact cell_of_row _ _ _ _ _ _ h
      | 2, _ => exact cell_of_row _ _ _ _ _ _ h
      | 3, _ => exact cell_of_row _ _ _ _ _ _ h
      | 4, _ => exact cell_of_row _ _ _ _ _ _ h
      | 5, _ => exact cell_of_row _ _ _ _ _ _ h
      | 6, _ => exact cell_of_row _ _ _ _ _ _ h), int_nil _, fun _ => rfl⟩, fit_small (by decide) (by decide) (by decide) (by decide)⟩
theorem steps_two (V : World) : StpRow (V.alloc (.cells #[.int .u8 1, .int .i64 0, .int .i64 0, .int .i64 0, .int .i64 0, .string ⟨#[]⟩, .slice none 0 0, .int .u8 5, .int .i64 0, .int .i64 0, .int .i64 0, .int .i64 0, .string ⟨#[]⟩, .slice none 0 0] 46)) (some ⟨V.heap.size, 0, none⟩) [q1, q5] := by
  have h := Go.heap_alloc_new V (.cells #[.int .u8 1, .int .i64 0, .int .i64 0, .int .i64 0, .int .i64 0, .string ⟨#[]⟩, .slice none 0 0, .int .u8 5, .int .i64 0, .int .i64 0, .int .i64 0, .int .i64 0, .string ⟨#[]⟩, .slice none 0 0] 46)
  refine .inr ⟨V.heap.size, 0, rfl, by simp, fun j hj => ?_⟩
  match j, hj with
  | 0, _ => exact ⟨⟨none, 0, fun k hk => (by
      match k, hk with
      | 0, _ => exact cell_of_row _ _ _ _ _ _ h
      | 1, _ => exact cell_of_row _ _ _ _ _ _ h
      | 2, _ => exact cell_of_row _ _ _ _ _ _ h
      | 3, _ => exact cell_of_row _ _ _ _ _ _ h
      | 4, _ => exact cell_of_row _ _ _ _ _ _ h
      | 5, _ => exact cell_of_row _ _ _ _ _ _ h
      | 6, _ => exact cell_of_row _ _ _ _ _ _ h), int_nil _, fun _ => rfl⟩, fit_small (by decide) (by decide) (by decide) (by decide)⟩
  | 1, _ => exact ⟨⟨none, 0, fun k hk => (by
      match k, hk with
      | 0, _ => exact cell_of_row _ _ _ _ _ _ h
      | 1, _ => exact cell_of_row _ _ _ _ _ _ h
      | 2, _ => exact cell_of_row _ _ _ _ _ _ h
      | 3, _ => exact cell_of_row _ _ _ _ _ _ h
      | 4, _ => exact cell_of_row _ _ _ _ _ _ h
      | 5, _ => exact cell_of_row _ _ _ _ _ _ h
      | 6, _ => exact cell_of_row _ _ _ _ _ _ h), int_nil _, fun _ => rfl⟩, fit_small (by decide) (by decide) (by decide) (by decide)⟩
set_option maxHeartbeats 8000000 in
set_option maxRecDepth 100000 in
theorem alive11_any (w : World) : Calls Try.prog 9 #[] w fun e w' => e = .returned (.bool true) ∧ Below w.heap.size w w' := by
  have HK := Lib.hid (fun V => atom_k 107 (by decide) V)
  have HX := Lib.hid (fun V => atom_k 120 (by decide) V)
  have HN := Lib.hid (fun V => data_n V)
  have HS := Lib.hid (fun V => seal_row ⟨#[97, 1, 107]⟩ ⟨#[100, 1, 110]⟩ ⟨#[97, 1, 120]⟩ rfl rfl rfl V)
  have HR := Lib.hid (fun g V h => row_one g V h)
  have HF := Lib.hid (fun g b V h1 h2 => run_four g b V h1 h2)
  have HT := Lib.hid (fun g b V h1 h2 => run_two g b V h1 h2)
  go_enter Try.func9, Try.ntmps9
  go_wp2_with fail
  refine (HK.out _).mono ?_; rintro e w1 ⟨rfl, b1⟩
  have B1 := Lib.hid b1
  clear b1
  go_wp2_with fail
  refine (HN.out _).mono ?_; rintro e w2 ⟨rfl, b2⟩
  have B2 := Lib.hid (below_step B1.out b2)
  clear b2
  go_wp2_with fail
  refine (HX.out _).mono ?_; rintro e w3 ⟨rfl, b3⟩
  have B3 := Lib.hid (below_step B2.out b3)
  clear b3
  go_wp2_with fail
  refine (HS.out _).mono ?_; rintro e w4 ⟨rfl, b4⟩
  have B4 := Lib.hid (below_step B3.out b4)
  clear b4
  go_wp2_with fail
  refine (HR.out _ _ (row1 w4 _)).mono ?_; rintro e w5 ⟨rfl, b5⟩
  have B5 := Lib.hid (below_step B4.out (below_step ((Below.refl w4.heap.size w4).alloc (Nat.le_refl _) (.cells #[.string ⟨#[97, 1, 107]⟩] 9)) b5))
  clear b5
  go_wp2_with fail
  have BA := Lib.hid ((Below.refl w5.heap.size w5).alloc (Nat.le_refl _) (.cells #[.string tbS, .string tbR] 9))
  obtain ⟨V1, hV1⟩ : ∃ V, V = w5.alloc (.cells #[.string tbS, .string tbR] 9) := ⟨_, rfl⟩
  have R5 := Lib.hid (row_two w5 tbS tbR)
  rw [← hV1] at R5 BA ⊢
  have hsz : w5.heap.size + 1 = V1.heap.size := by rw [hV1]; simp
  rw [hsz]
  have BB := Lib.hid ((Below.refl V1.heap.size V1).alloc (Nat.le_refl _) (.cells #[.int .u8 1, .int .i64 0, .int .i64 0, .int .i64 0, .int .i64 0, .string ⟨#[]⟩, .slice none 0 0, .int .u8 1, .int .i64 0, .int .i64 0, .int .i64 0, .int .i64 1, .string ⟨#[]⟩, .slice none 0 0, .int .u8 3, .int .i64 1, .int .i64 0, .int .i64 0, .int .i64 0, .string ⟨#[]⟩, .slice none 0 0, .int .u8 5, .int .i64 0, .int .i64 2, .int .i64 0, .int .i64 0, .string ⟨#[]⟩, .slice none 0 0] 46))
  refine (HF.out _ _ _ (steps_four V1) (R5.out.below BB.out)).mono ?_; rintro e w6 ⟨rfl, b6⟩
  have R6 := Lib.hid ((R5.out.below BB.out).below b6)
  have B6 := Lib.hid (below_step B5.out (below_step BA.out (below_step BB.out b6)))
  clear b6 hV1 hsz
  go_wp2_with fail
  have BC := Lib.hid ((Below.refl w6.heap.size w6).alloc (Nat.le_refl _) (.cells #[.int .u8 1, .int .i64 0, .int .i64 0, .int .i64 0, .int .i64 0, .string ⟨#[]⟩, .slice none 0 0, .int .u8 5, .int .i64 0, .int .i64 0, .int .i64 0, .int .i64 0, .string ⟨#[]⟩, .slice none 0 0] 46))
  refine (HT.out _ _ _ (steps_two w6) (R6.out.below BC.out)).mono ?_; rintro e w7 ⟨rfl, b7⟩
  have B7 := Lib.hid (below_step B6.out (below_step BC.out b7))
  clear b7
  go_wp2_with fail
  go_ret
  exact ⟨rfl, B7.out⟩
end Go.Proofs.Ytpajcalfjfkogaa.Pl
