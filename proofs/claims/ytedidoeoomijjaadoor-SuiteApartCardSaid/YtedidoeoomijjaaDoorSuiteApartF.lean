/- How texts are compared; what SuiteApart leans on. -/
import Derived.Test.YtedidoeoomijjaaDoorSuiteBackLaw
namespace Go.Proofs.YtedidoeoomijjaaDoor.Pl
open Go.RowKit

/-- Whether two texts are the same, as the program compares them. -/
def eqT (a b : ByteArray) : Bool := a.toList == b.toList
theorem eqT_iff {a b : ByteArray} : eqT a b = true ↔ a = b := by
  by_cases h : a = b
  · subst h; simp [eqT]
  · have := (str_ne8 h).1
    unfold eqT
    rw [this]
    simp [h]
theorem eqT_of {a b c d : ByteArray} (h : a = b ↔ c = d) : eqT a b = eqT c d := by
  rw [Bool.eq_iff_iff, eqT_iff, eqT_iff, h]
theorem eqT_and {a b c d e f : ByteArray} (h : a = b ↔ c = d ∧ e = f) : eqT a b = (eqT c d && eqT e f) := by
  rw [Bool.eq_iff_iff, Bool.and_eq_true, eqT_iff, eqT_iff, eqT_iff, h]
theorem eqT_and3 {a b c d e f x y : ByteArray} (h : a = b ↔ c = d ∧ e = f ∧ x = y) : eqT a b = (eqT c d && eqT e f && eqT x y) := by
  rw [Bool.eq_iff_iff, Bool.and_eq_true, Bool.and_eq_true, eqT_iff, eqT_iff, eqT_iff, eqT_iff, h, and_assoc]
theorem eqT_no {a b : ByteArray} (h : a ≠ b) : eqT a b = false := by
  rw [Bool.eq_false_iff]
  exact fun e => h (eqT_iff.1 e)
theorem mk_iff {r s : List UInt8} {P : Prop} (h : r = s ↔ P) : (⟨r.toArray⟩ : ByteArray) = ⟨s.toArray⟩ ↔ P :=
  ⟨fun e => h.1 (by have := congrArg bl e; rwa [bl_mk, bl_mk] at this), fun e => by rw [h.2 e]⟩
theorem bl_iff {a b : ByteArray} : bl a = bl b ↔ a = b := ⟨bl_inj, fun e => by rw [e]⟩
theorem zero_of {x : Nat} (h : ((x : Int) == 0) = true) : x = 0 := by rw [beq_iff_eq] at h; omega

end Go.Proofs.YtedidoeoomijjaaDoor.Pl
