/- What the document's Parts, Size, depth, Depth, In and Has of layer 6 answer. -/
import Derived.Test.YtbdlegjklfkdmaaGreatDoorBallC17
namespace Go.Proofs.YtbdlegjklfkdmaaGreatDoor.Pl
open Go.RowKit

theorem tree_of {s : List UInt8} (h : checkP s = 0) : ∃ t : Tm, t.valid ∧ s = t.enc ∧ treeOf s = some t := by
  obtain ⟨t, h1, h2, h3⟩ := treeOf_some h
  exact ⟨t, h1, h2.symm, h3⟩
theorem may_yes {s : ByteArray} (h : checkP (bl s) = 0) : (checkP (bl s) == 0) = true := by rw [h]; rfl
theorem may_no {s : ByteArray} (h : checkP (bl s) ≠ 0) : (checkP (bl s) == 0) = false := by rw [beq_eq_false_iff_ne]; exact h
end Go.Proofs.YtbdlegjklfkdmaaGreatDoor.Pl
