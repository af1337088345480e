/- What sha.Sum answers, and the methods at no Hash. -/
import Derived.Test.YtogadffbnoinmaaDoorShaSum
import Derived.Test.YtogadffbnoinmaaDoorShaIdx
namespace Go.Proofs.YtogadffbnoinmaaDoor.Pl
open Go.RowKit

theorem holds_new {w : World} {b : Nat} (h : HashAt w b S0 (List.replicate 64 0) 0) : Holds w b [] :=
  ⟨List.replicate 64 0, h, rfl, fun x hx => by rw [List.eq_of_mem_replicate hx]; decide⟩
theorem new_holds (w : World) : Calls Tryd.prog 37 #[] w fun e w' => e = .returned (.pointer (some ⟨w.heap.size, 0, none⟩)) ∧ Holds w' w.heap.size [] ∧ w.heap.size < w'.heap.size ∧ Below w.heap.size w w' :=
  (new_any w).mono fun _ _ ⟨h1, h2, h3, h4⟩ => ⟨h1, holds_new h2, h3, h4⟩
theorem Holds.below {w w' : World} {b : Nat} {m : List Nat} (h : Holds w b m) (hb : Below w.heap.size w w') : Holds w' b m := by
  obtain ⟨wt, h1, h2, h3⟩ := h
  exact ⟨wt, h1.below hb, h2, h3⟩
theorem Holds.but {w w' : World} {b c : Nat} {m : List Nat} (h : Holds w c m) (hb : But b w w') (hne : c ≠ b) : Holds w' c m := by
  obtain ⟨wt, h1, h2, h3⟩ := h
  exact ⟨wt, ⟨by rw [hb.block c h1.lt hne]; exact h1.1, h1.2⟩, h2, h3⟩
theorem Holds.lt {w : World} {b : Nat} {m : List Nat} (h : Holds w b m) : b < w.heap.size := by
  obtain ⟨wt, h1, _, _⟩ := h
  exact h1.lt
theorem nums_nil : Bytes [] := fun x hx => by cases hx

set_option maxRecDepth 100000 in
theorem sum_any (s : ByteArray) (hl : s.size < 2305843009213693952) (w : World) (hT : Tab w) :
    Calls Tryd.prog 36 #[.string s] w fun e w' => e = .returned (.string (bytesOf (digest (nums s)))) ∧ Below w.heap.size w w' := by
  have HT := Lib.hid hT
  have HL := Lib.hid hl
  clear hT hl
  go_enter Tryd.func36, Tryd.ntmps36
  go_wp2_with fail
  refine (new_holds w).mono ?_; rintro e w1 ⟨rfl, h1, hz1, hb1⟩
  have HH := Lib.hid h1
  have HB1 := Lib.hid hb1
  have H0 := Lib.hid HT.out.1
  clear h1 hb1
  go_wp2_with fail
  refine (write_any w1 w.heap.size H0.out [] nums_nil s (by have := HL.out; simp; omega) (HT.out.below HB1.out) HH.out).mono ?_; rintro e w2 ⟨rfl, h2, hb2⟩
  rw [List.nil_append] at h2
  have HH2 := Lib.hid h2
  have HB2 := Lib.hid hb2
  have HT2 := Lib.hid (hb2.tab H0.out (HT.out.below HB1.out))
  clear h2 hb2
  go_wp2_with fail
  refine (hsum_any w2 w.heap.size (nums s) (nums_bytes s) (by rw [nums_length]; exact HL.out) HT2.out HH2.out).mono ?_; rintro e w3 ⟨rfl, hb3⟩
  have k2 := HB2.out.below HB1.out (Nat.le_refl _) (by omega)
  have k3 := Lib.hid (k2.trans (hb3.mono k2.size))
  clear hb3 k2
  go_wp2_with fail
  go_ret
  exact ⟨rfl, k3.out⟩

/-! At no Hash. -/
theorem write_nil (s : ByteArray) (w : World) : Calls Tryd.prog 31 #[.pointer none, .string s] w fun e w' => e = .returned (.tuple #[]) ∧ w = w' := by
  go_enter Tryd.func31, Tryd.ntmps31
  go_wp2_with fail
  refine bodyPost_ret (results_none rfl _ _ _) rfl ?_
  exact ⟨rfl, rfl⟩
theorem hsum_nil (w : World) : Calls Tryd.prog 32 #[.pointer none] w fun e w' => e = .returned (.string ⟨#[]⟩) ∧ w = w' := by
  go_enter Tryd.func32, Tryd.ntmps32
  go_wp2_with fail
  go_ret
  exact ⟨rfl, rfl⟩
theorem copy_nil (w : World) : Calls Tryd.prog 30 #[.pointer none] w fun e w' => e = .returned (.pointer none) ∧ w = w' := by
  go_enter Tryd.func30, Tryd.ntmps30
  go_wp2_with fail
  go_ret
  exact ⟨rfl, rfl⟩
end Go.Proofs.YtogadffbnoinmaaDoor.Pl
