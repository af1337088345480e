/- The images of a term's parts, one by one, each in its part's place. -/
import Derived.Test.YtbdlegjklfkdmaaGreatDoorBallC37
import Derived.Test.YtbdlegjklfkdmaaGreatDoorBallC15
import Derived.Test.YtbdlegjklfkdmaaGreatDoorBallC20
import Derived.Test.YtbdlegjklfkdmaaGreatDoorBallC33
namespace Go.Proofs.YtbdlegjklfkdmaaGreatDoor.Pl
open Go.RowKit

/-- Block g is a row of these texts, and perhaps more. -/
def Row8 (w : World) (g : Nat) (L : List ByteArray) : Prop := ∃ cur : Array Value, w.heap[g]? = some (.cells cur 9 (0, 0)) ∧ L.length ≤ cur.size ∧ ∀ j, j < L.length → cur[j]? = some (.string (L.getD j ByteArray.empty))
theorem Row8.lt {w : World} {g : Nat} {L : List ByteArray} (h : Row8 w g L) : g < w.heap.size := by obtain ⟨cur, h1, _⟩ := h; exact (Array.getElem?_eq_some_iff.1 h1).1
theorem Row8.cell {w : World} {g : Nat} {L : List ByteArray} (h : Row8 w g L) (j : Nat) (hj : j < L.length) : w.cell? ⟨g, j, none⟩ = some (.string (L.getD j ByteArray.empty)) := by
  obtain ⟨cur, h1, h2, h3⟩ := h
  have h4 := h3 j hj
  simp [World.cell?, h1, h4]
theorem Row8.frozen {w : World} {g : Nat} {L : List ByteArray} (h : Row8 w g L) (j : Nat) : w.frozen? ⟨g, j, none⟩ = false := by
  obtain ⟨cur, h1, _⟩ := h
  exact Lib.frozen_of_heap h1 j
theorem Row8.below {w w' : World} {g : Nat} {L : List ByteArray} (h : Row8 w g L) (b : Below w.heap.size w w') : Row8 w' g L := by
  obtain ⟨cur, h1, h2⟩ := h
  exact ⟨cur, heap_below b h1, h2⟩
theorem Row8.set {w : World} {g : Nat} {L : List ByteArray} (h : Row8 w g L) (k : Nat) (x : ByteArray) : Row8 (w.setCell ⟨g, k, none⟩ (.string x)) g (L.set k x) := by
  obtain ⟨cur, h1, h2, h3⟩ := h
  refine ⟨cur.setIfInBounds k (.string x), by simp [World.setCell, Array.getElem?_modify, h1], by simpa using h2, fun j hj => ?_⟩
  rw [List.length_set] at hj
  have hjc : j < cur.size := by omega
  rw [Array.getElem?_setIfInBounds, List.getD_eq_getElem?_getD, List.getElem?_set]
  by_cases e : k = j
  · subst e; simp [hjc, hj]
  · rw [if_neg e, if_neg e, h3 j hj, List.getD_eq_getElem?_getD]
/-- A row of these texts at ao, in a block from B on; or none, where there are none. -/
def RowO (W : World) (B : Nat) (ao : Option Addr) (L : List ByteArray) : Prop := L = [] ∨ ∃ g, ao = some ⟨g, 0, none⟩ ∧ B ≤ g ∧ Row8 W g L
theorem RowO.below {w w' : World} {B : Nat} {ao : Option Addr} {L : List ByteArray} (h : RowO w B ao L) (b : Below w.heap.size w w') : RowO w' B ao L :=
  h.elim .inl fun ⟨g, h1, h2, h3⟩ => .inr ⟨g, h1, h2, h3.below b⟩
theorem RowO.txt {w : World} {B : Nat} {ao : Option Addr} {L : List ByteArray} (h : RowO w B ao L) : TxtRow w ao L :=
  h.elim .inl fun ⟨g, h1, _, h3⟩ => .inr ⟨g, 0, h1, h3.lt, fun j hj => by rw [Nat.zero_add]; exact h3.cell j hj⟩
end Go.Proofs.YtbdlegjklfkdmaaGreatDoor.Pl
