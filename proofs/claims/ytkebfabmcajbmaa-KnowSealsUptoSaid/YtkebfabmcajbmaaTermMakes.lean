/- What the document's Row, Hash, Mac, Seal, Text and ReadNum of layer 6 answer. -/
import Derived.Test.YtkebfabmcajbmaaKnowD2
namespace Go.Proofs.Ytkebfabmcajbmaa.Pl
open Go.RowKit

theorem row1 (w : World) (a : ByteArray) : TxtRow (w.alloc (.cells #[.string a] 9)) (some ⟨w.heap.size, 0, none⟩) [a] :=
  .inr ⟨w.heap.size, 0, rfl, by simp, fun j hj => by
    obtain rfl : j = 0 := by simp at hj; omega
    simp⟩
theorem row2 (w : World) (a b : ByteArray) : TxtRow (w.alloc (.cells #[.string a, .string b] 9)) (some ⟨w.heap.size, 0, none⟩) [a, b] :=
  .inr ⟨w.heap.size, 0, rfl, by simp, fun j hj => by
    match j, hj with
    | 0, _ => simp
    | 1, _ => simp⟩
theorem row3 (w : World) (a b c : ByteArray) : TxtRow (w.alloc (.cells #[.string a, .string b, .string c] 9)) (some ⟨w.heap.size, 0, none⟩) [a, b, c] :=
  .inr ⟨w.heap.size, 0, rfl, by simp, fun j hj => by
    match j, hj with
    | 0, _ => simp
    | 1, _ => simp
    | 2, _ => simp⟩

end Go.Proofs.Ytkebfabmcajbmaa.Pl
