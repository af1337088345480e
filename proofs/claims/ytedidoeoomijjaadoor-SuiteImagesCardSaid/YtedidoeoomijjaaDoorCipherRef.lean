/- What the document's Seal and Open of layer 4 answer. -/
import Derived.Test.YtedidoeoomijjaaDoorSuiteD7
import Derived.Test.YtedidoeoomijjaaDoorCipherOpen
import Derived.Lib.Strings
namespace Go.Proofs.YtedidoeoomijjaaDoor.Pl
open Go.RowKit

theorem extract_extract (x : ByteArray) (m a b : Nat) (hb : b ≤ m) : (x.extract 0 m).extract a b = x.extract a b := by
  apply ByteArray.ext
  simp [ByteArray.data_extract, Array.extract_extract, Nat.min_eq_left hb]
theorem rb_keep {w W V : World} (h : Hid (Below w.heap.size w W)) (hb : Below W.heap.size W V) : Hid (Below w.heap.size w V) := Lib.hid (below_step h.out hb)
theorem toList_ne {a b : ByteArray} (h : a ≠ b) : (a.toList == b.toList) = false ∧ (a.toList != b.toList) = true := by
  have h' : a.toList ≠ b.toList := fun e => h (by
    rw [Lib.toList_data, Lib.toList_data] at e
    apply ByteArray.ext
    exact Array.ext' e)
  exact ⟨beq_eq_false_iff_ne.2 h', bne_iff_ne.2 h'⟩
end Go.Proofs.YtedidoeoomijjaaDoor.Pl
