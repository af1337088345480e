/- The document's Read of layer 13. -/
import Derived.Test.YtbdlegjklfkdmaaGreatDoorBallC40
import Derived.Test.YtbdlegjklfkdmaaGreatDoorBallC35
import Derived.Test.YtbdlegjklfkdmaaGreatDoorBallC36
namespace Go.Proofs.YtbdlegjklfkdmaaGreatDoor.Pl
open Go.RowKit

theorem bt_info (a b c d e f : Value) : (Tryz.prog.info? 26).map (·.size) = some (#[a, b, c, d, e, f].size) := by kernel_rfl
/-- What Read holds: the parts in block pb, the result's block. -/
structure BdL (w : World) (pb off : Nat) (ps : List ByteArray) (V : World) : Prop where
  row : ∀ j, (hj : j < ps.length) → V.cell? ⟨pb, off + j, none⟩ = some (.string ps[j])
  lt : pb < V.heap.size
  res : V.heap[w.heap.size]? = some (.cells #[.int .i64 0, .int .i64 0, .int .i64 0, .int .i64 0, .slice none 0 0, .int .i64 0] 26 (0, 0))
  below : Below w.heap.size w V
theorem BdL.later {w : World} {pb off : Nat} {ps : List ByteArray} {V V' : World} (h : BdL w pb off ps V) (hb : Below V.heap.size V V') : BdL w pb off ps V' :=
  ⟨fun j hj => (hb.cell (p := ⟨pb, off + j, none⟩) h.lt).trans (h.row j hj), Nat.lt_of_lt_of_le h.lt hb.size, (hb.block _ (Array.getElem?_eq_some_iff.1 h.res).1).trans h.res, below_step h.below hb⟩
end Go.Proofs.YtbdlegjklfkdmaaGreatDoor.Pl
