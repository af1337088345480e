/- HmacSame answers true, whatever it is given. -/
import Derived.Test.YtghldnnnhlgmkaaDoorHmacAlive
namespace Go.Proofs.YtghldnnnhlgmkaaDoor.Pl
open Go.RowKit

set_option maxRecDepth 100000 in
theorem hsame_large (a b : ByteArray) (w : World) (hT : Tab w) (h : 8192 < a.size ∨ (¬ 8192 < a.size ∧ 8192 < b.size)) :
    Calls Tryd.prog 7 #[.string a, .string b] w fun e w' => e = .returned (.bool true) ∧ Below w.heap.size w w' := by
  have HT := Lib.hid hT
  clear hT
  rcases h with h | ⟨h0, h⟩
  all_goals
    go_enter Tryd.func7, Tryd.ntmps7
    go_wp2_with fail
    refine (alive_any _ HT.out).mono ?_; rintro e w' ⟨rfl, hb⟩
    go_wp2_with fail
    go_ret
    exact ⟨rfl, hb⟩
theorem eq_dec (a b : ByteArray) : (a.toList == b.toList) = decide (a = b) := by
  by_cases e : a = b
  · subst e; rw [decide_eq_true rfl]; exact beq_self_eq_true _
  · rw [decide_eq_false e, beq_eq_false_iff_ne]
    intro h
    rw [ByteArray.toList_eq, ByteArray.toList_eq] at h
    exact e (ByteArray.ext (Array.ext' h))
set_option maxRecDepth 100000 in
theorem hsame_small (a b : ByteArray) (w : World) (hT : Tab w) (h0 : ¬ 8192 < a.size) (h1 : ¬ 8192 < b.size) :
    Calls Tryd.prog 7 #[.string a, .string b] w fun e w' => e = .returned (.bool true) ∧ Below w.heap.size w w' := by
  have HT := Lib.hid hT
  clear hT
  obtain ⟨r, hr⟩ : ∃ r, r = decide (a = b) := ⟨_, rfl⟩
  have f : (a.toList == b.toList) = r := by rw [hr, eq_dec]
  have HR := Lib.hid hr
  clear hr
  go_enter Tryd.func7, Tryd.ntmps7
  go_wp2_with fail
  refine (same_any a b (by omega) w r HR.out).mono ?_; rintro e w1 ⟨rfl, hb1⟩
  have T1 := Lib.hid (HT.out.below hb1)
  go_wp2_with fail
  refine (same_any a a (by omega) w1 true (by simp)).mono ?_; rintro e w2 ⟨rfl, hb2⟩
  have T2 := Lib.hid (T1.out.below hb2)
  have k2 := below_step hb1 hb2
  clear hb1 hb2
  go_wp2_with fail
  refine (alive_any _ T2.out).mono ?_; rintro e w3 ⟨rfl, hb3⟩
  go_wp2_with fail
  go_ret
  exact ⟨rfl, below_step k2 hb3⟩
theorem hsame_all (a b : ByteArray) (w : World) (hT : Tab w) :
    Calls Tryd.prog 7 #[.string a, .string b] w fun e w' => e = .returned (.bool true) ∧ Below w.heap.size w w' := by
  by_cases h0 : 8192 < a.size
  · exact hsame_large a b w hT (.inl h0)
  · by_cases h1 : 8192 < b.size
    · exact hsame_large a b w hT (.inr ⟨h0, h1⟩)
    · exact hsame_small a b w hT h0 h1
end Go.Proofs.YtghldnnnhlgmkaaDoor.Pl
