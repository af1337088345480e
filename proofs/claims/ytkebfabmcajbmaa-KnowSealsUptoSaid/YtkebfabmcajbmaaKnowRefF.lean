/- What the document's List of layer 10 answers. -/
import Derived.Test.YtkebfabmcajbmaaKnowRefE
import Derived.Test.YtkebfabmcajbmaaKnowD1
import Derived.Test.YtkebfabmcajbmaaKnowCut
namespace Go.Proofs.Ytkebfabmcajbmaa.Pl
open Go.RowKit

theorem less_bl (a b : ByteArray) : Op.bytesLess a.toList b.toList = lessB (bl a) (bl b) := by rw [Lib.toList_data, Lib.toList_data]; rfl
theorem getD_bl {L : List ByteArray} {k : Nat} (h : k < L.length) : (L.map bl)[k]'(by rw [List.length_map]; exact h) = bl (L.getD k ByteArray.empty) := by simp [List.getD_eq_getElem?_getD, h]
theorem wp_region_U {P : Program} {ops : Array Oper} {S : World → Prop} {Q : Exit → Act → World → Prop} {id : Nat} {a : Act} {w : World} (hm : P.follows .mixedOrders = true) (hS : S w.drew)
    (h : ∀ U, S U → wpAnyH P .any ops Q S ops.size (Array.replicate ops.size false) a U) : (Code.region id ops true).wp P Q a w := wp_region_held_drew hm hS (fun hh => h _ hh)
theorem list_keep {B W' : World} {r g o : Nat} {u : Value} {x : ByteArray} (hb : Below B.heap.size B W')
    (h0 : B.cell? ⟨r, 0, none⟩ = some u) (h1 : B.cell? ⟨g, o, none⟩ = some (.string x)) : W'.cell? ⟨r, 0, none⟩ = some u ∧ W'.cell? ⟨g, o, none⟩ = some (.string x) ∧ Hid (Below B.heap.size B W') :=
  ⟨(hb.cell (p := ⟨r, 0, none⟩) (World.block_lt_of_cell? _ _ h0)).trans h0, (hb.cell (p := ⟨g, o, none⟩) (World.block_lt_of_cell? _ _ h1)).trans h1, Lib.hid hb⟩
theorem own_low10 {w : World} {A B : Nat} {v : Value} {l : List ByteArray} (h : A ≤ B) (ho : OwnT w B v l) : OwnT w A v l :=
  ⟨ho.1, ho.2.elim .inl fun ⟨g, cap, cur, e1, e2, rest⟩ => .inr ⟨g, cap, cur, e1, Nat.le_trans h e2, rest⟩⟩
theorem one_row (W : World) (x : ByteArray) : TxtRow (W.alloc (.cells #[.string x] 9)) (some ⟨W.heap.size, 0, none⟩) [x] :=
  .inr ⟨W.heap.size, 0, rfl, by simp, fun j hj => by
    have hj' : j < 1 := hj
    obtain rfl : j = 0 := by omega
    simp⟩
end Go.Proofs.Ytkebfabmcajbmaa.Pl
