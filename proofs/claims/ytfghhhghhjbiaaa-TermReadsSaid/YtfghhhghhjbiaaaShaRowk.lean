/- Rows of numbers as the cells of an array. -/
import Derived.WalkKit
import Derived.Deep.WholeRow
namespace Go.Proofs.Ytfghhhghhjbiaaa.Pl
open Go.RowKit

/-- The cells of an array that holds the numbers l. -/
def row (k : IntKind) (l : List Nat) : Array Value := (l.map fun (x : Nat) => Value.int k (x : Int)).toArray
theorem row_size (k : IntKind) (l : List Nat) : (row k l).size = l.length := by simp [row]
theorem row_at (k : IntKind) (l : List Nat) (i : Nat) (h : i < l.length) : (row k l)[i]? = some (.int k ((l.getD i 0 : Nat) : Int)) := by
  simp [row, List.getD_eq_getElem?_getD, h]
theorem row_set (k : IntKind) (l : List Nat) (i : Nat) (v : Nat) : (row k l).setIfInBounds i (.int k (v : Int)) = row k (l.set i v) := by
  simp [row, List.map_set]
theorem row_one (k : IntKind) (l : List Nat) : (row k l).all (·.oneCell') = true := by
  simp [row]; intro x _; rfl
theorem row_get (k : IntKind) (l : List Nat) (i : Nat) (h : i < l.length) : (row k l).getD i undef = .int k ((l.getD i 0 : Nat) : Int) := by
  have := row_at k l i h
  rw [Array.getD_eq_getD_getElem?, this]; rfl

/-- What the block of an array of numbers gives a walk. -/
theorem at_row {w : World} {b : Nat} {k : IntKind} {l : List Nat} {t : TypeId} (h : w.heap[b]? = some (.cells (row k l) t (0, 0))) (j : Nat) (hj : j < l.length) :
    w.cell? ⟨b, j, none⟩ = some (.int k ((l.getD j 0 : Nat) : Int)) ∧ w.frozen? ⟨b, j, none⟩ = false :=
  ⟨by rw [cell_of_row w b j _ t (0, 0) h, row_at k l j hj], frozen_of_row w b j _ t h⟩
theorem heap_step {w : World} {b j : Nat} {k : IntKind} {l : List Nat} {t : TypeId} (h : w.heap[b]? = some (.cells (row k l) t (0, 0))) (v : Nat) :
    (w.setCell ⟨b, j, none⟩ (.int k (v : Int))).heap[b]? = some (.cells (row k (l.set j v)) t (0, 0)) := by
  rw [heap_setCell_same w b j _ t _ h, row_set]
theorem heap_keep {w : World} {b c j : Nat} {v : Value} {o : Option Obj} (h : w.heap[c]? = o) (hc : c ≠ b) : (w.setCell ⟨b, j, none⟩ v).heap[c]? = o := by
  rw [heap_setCell_other _ _ _ _ hc]; exact h

theorem size_alloc' (w : World) (o : Obj) : (w.alloc o).heap.size = w.heap.size + 1 := by
  show (w.heap.push o).size = _
  simp

theorem below_setRow {B : Nat} {a w : World} (h : Below B a w) {g : Nat} (hg : B ≤ g) (cs : Array Value) : Below B a (w.setRow g cs) :=
  ⟨h.os, h.tape, h.output, by rw [setRow_size]; exact h.size, fun i hi => by rw [setRow_other _ _ _ _ (by omega)]; exact h.block i hi⟩

theorem heap3_0 (w : World) (A B C : Obj) : (((w.alloc A).alloc B).alloc C).heap[w.heap.size]? = some A := by
  rw [Go.heap_alloc_old _ _ (by simp; omega), Go.heap_alloc_old _ _ (by simp), Go.heap_alloc_new]
theorem heap3_1 (w : World) (A B C : Obj) : (((w.alloc A).alloc B).alloc C).heap[w.heap.size + 1]? = some B := by
  rw [Go.heap_alloc_old _ _ (by simp)]
  have := Go.heap_alloc_new (w.alloc A) B
  rw [size_alloc'] at this
  exact this
theorem heap3_2 (w : World) (A B C : Obj) : (((w.alloc A).alloc B).alloc C).heap[w.heap.size + 1 + 1]? = some C := by
  have := Go.heap_alloc_new ((w.alloc A).alloc B) C
  rw [size_alloc', size_alloc'] at this
  exact this
theorem below3 (w : World) (A B C : Obj) : Below w.heap.size w (((w.alloc A).alloc B).alloc C) := (((Below.refl _ _).alloc (Nat.le_refl _) _).alloc (by simp) _).alloc (by simp; omega) _
theorem heap_below {w w' : World} {b : Nat} {o : Obj} (hb : Below w.heap.size w w') (h : w.heap[b]? = some o) : w'.heap[b]? = some o := by
  rw [hb.block b (Array.getElem?_eq_some_iff.1 h).1]; exact h
theorem heap_alloc {w : World} {b : Nat} {o : Obj} (h : w.heap[b]? = some o) (p : Obj) : (w.alloc p).heap[b]? = some o := by
  rw [Go.heap_alloc_old _ _ (Array.getElem?_eq_some_iff.1 h).1]; exact h
theorem heap_setRow {w : World} {b : Nat} {o : Obj} (h : w.heap[b]? = some o) {g : Nat} (hg : b ≠ g) (cs : Array Value) : (w.setRow g cs).heap[b]? = some o := by
  rw [setRow_other _ _ _ _ hg]; exact h

theorem getD_set (l : List Nat) (j v i : Nat) (hj : j < l.length) : (l.set j v).getD i 0 = if i = j then v else l.getD i 0 := by
  rw [List.getD_eq_getElem?_getD, List.getElem?_set]
  by_cases e : j = i
  · subst e; simp [hj]
  · rw [if_neg e, if_neg (fun h => e h.symm), List.getD_eq_getElem?_getD]
theorem getD_ext {l m : List Nat} (hl : l.length = m.length) (h : ∀ i, i < l.length → l.getD i 0 = m.getD i 0) : l = m := by
  apply List.ext_getElem hl
  intro i h1 h2
  have := h i h1
  simpa [List.getD_eq_getElem?_getD, h1, h2] using this

/-- l agrees with f up to n. -/
def Agrees (l : List Nat) (f : Nat → Nat) (n : Nat) : Prop := ∀ j, j < n → l.getD j 0 = f j
theorem Agrees.zero (l : List Nat) (f : Nat → Nat) : Agrees l f 0 := fun _ h => absurd h (by omega)
theorem Agrees.next {l : List Nat} {f : Nat → Nat} {n : Nat} (h : Agrees l f n) (hn : n < l.length) : Agrees (l.set n (f n)) f (n + 1) := by
  intro j hj
  rw [List.getD_eq_getElem?_getD, List.getElem?_set]
  by_cases e : n = j
  · subst e; simp [hn]
  · rw [if_neg e, ← List.getD_eq_getElem?_getD]; exact h j (by omega)
theorem Agrees.ext {l m : List Nat} {n : Nat} (h : Agrees l (fun j => m.getD j 0) n) (hl : l.length = n) (hm : m.length = n) : l = m := by
  apply List.ext_getElem (by omega)
  intro i h1 h2
  have := h i (by omega)
  simpa [List.getD_eq_getElem?_getD, h1, h2] using this
end Go.Proofs.Ytfghhhghhjbiaaa.Pl
