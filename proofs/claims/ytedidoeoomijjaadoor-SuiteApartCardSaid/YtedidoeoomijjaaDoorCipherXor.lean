/- What the document's Xor of layer 4 answers. -/
import Derived.Test.YtedidoeoomijjaaDoorSuiteD7
namespace Go.Proofs.YtedidoeoomijjaaDoor.Pl
open Go.RowKit

def PartF (f : Nat → Nat) (l m : List Nat) (k : Nat) : Prop := m.length = l.length ∧ ∀ j, j < l.length → m.getD j 0 = if j < k then l.getD j 0 ^^^ f j else l.getD j 0
theorem PartF.zero (f : Nat → Nat) (l : List Nat) : PartF f l l 0 := ⟨rfl, fun j _ => by rw [if_neg (by omega)]⟩
theorem PartF.next {f : Nat → Nat} {l m : List Nat} {k y : Nat} (h : PartF f l m k) (hk : k < l.length) (hy : y = m.getD k 0 ^^^ f k) : PartF f l (m.set k y) (k + 1) := by
  refine ⟨by rw [List.length_set]; exact h.1, fun j hj => ?_⟩
  rw [set_getD _ _ _ _ (by rw [h.1]; exact hk), hy]
  by_cases e : j = k
  · rw [if_pos e, e, if_pos (by omega), h.2 k hk, if_neg (by omega)]
  · rw [if_neg e, h.2 j hj]
    by_cases h' : j < k
    · rw [if_pos h', if_pos (by omega)]
    · rw [if_neg h', if_neg (by omega)]
theorem PartF.all {f : Nat → Nat} {l m : List Nat} {k : Nat} (h : PartF f l m k) (hk : ∀ j, k ≤ j → j < l.length → f j = 0) : m = xorf l f := by
  apply listD_ext (by rw [h.1, xorf_length])
  intro i hi
  rw [h.1] at hi
  rw [h.2 i hi, xorf_at _ _ _ hi]
  by_cases h' : i < k
  · rw [if_pos h']
  · rw [if_neg h', hk i (by omega) hi, Nat.xor_zero]
/-- Two texts, xor each other. -/
def xorT (a b : ByteArray) : ByteArray := bytesOf (xorf (nums a) fun j => (nums b).getD j 0)
def XorPost (a b : ByteArray) (w : World) (e : Ending) (w' : World) : Prop := e = .returned (.string (xorT a b)) ∧ Below w.heap.size w w'

end Go.Proofs.YtedidoeoomijjaaDoor.Pl
