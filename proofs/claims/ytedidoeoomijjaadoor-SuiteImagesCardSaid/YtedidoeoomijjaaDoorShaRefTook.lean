/- What the document's consts and took answer. -/
import Derived.Test.YtedidoeoomijjaaDoorShaRefWords
import Derived.Deep.CutRange
namespace Go.Proofs.YtedidoeoomijjaaDoor.Pl
open Go.RowKit

theorem wpList_build_eq {P : Program} {ops : Array Oper} {rest : List Oper} {o : Oper} {a : Act} {w : World} {Q : Exit → Act → World → Prop} (hg : o.guard = none) (t : TypeId) (parts : Array (Nat × Operand)) (ho : o.op = .build t parts)
    (cells : Array Value) (hf : P.built t (parts.map fun (i, x) => (i, a.eval x)).toList = some cells)
    (h : wpList P ops Q rest (a.put o.dst (.agg cells)) w) : wpList P ops Q (o :: rest) a w :=
  wpList_build hg t parts ho (by rw [hf]; rfl) (by rw [hf]; exact h)

theorem rnd_list (k x a b c d e f g h : Nat) : (rnd k x ⟨a, b, c, d, e, f, g, h⟩).list = [add32 (T1 e f g h k x) (T2 a b c), a, b, c, add32 d (T1 e f g h k x), e, f, g] := by rw [rnd, S8.list]
/-- Eight stores, one a cell. -/
def put8 (w : World) (g : Nat) (v0 v1 v2 v3 v4 v5 v6 v7 : Value) : World :=
  (((((((w.setCell ⟨g, 0, none⟩ v0).setCell ⟨g, 1, none⟩ v1).setCell ⟨g, 2, none⟩ v2).setCell ⟨g, 3, none⟩ v3).setCell ⟨g, 4, none⟩ v4).setCell ⟨g, 5, none⟩ v5).setCell ⟨g, 6, none⟩ v6).setCell ⟨g, 7, none⟩ v7
theorem set8 {w : World} {gg a b c d e f g h : Nat} {t : TypeId} (hh : w.heap[gg]? = some (.cells (row .u32 [a, b, c, d, e, f, g, h]) t (0, 0))) (v0 v1 v2 v3 v4 v5 v6 v7 : Nat) :
    (put8 w gg (.int .u32 v0) (.int .u32 v1) (.int .u32 v2) (.int .u32 v3) (.int .u32 v4) (.int .u32 v5) (.int .u32 v6) (.int .u32 v7)).heap[gg]? = some (.cells (row .u32 [v0, v1, v2, v3, v4, v5, v6, v7]) t (0, 0)) :=
  heap_step (heap_step (heap_step (heap_step (heap_step (heap_step (heap_step (heap_step hh v0) v1) v2) v3) v4) v5) v6) v7
theorem keep8 {w : World} {gg b : Nat} {o : Option Obj} {v0 v1 v2 v3 v4 v5 v6 v7 : Value} (h : w.heap[b]? = o) (hb : b ≠ gg) : (put8 w gg v0 v1 v2 v3 v4 v5 v6 v7).heap[b]? = o :=
  heap_keep (heap_keep (heap_keep (heap_keep (heap_keep (heap_keep (heap_keep (heap_keep h hb) hb) hb) hb) hb) hb) hb) hb
theorem below8 {B : Nat} {w0 w : World} {gg : Nat} {v0 v1 v2 v3 v4 v5 v6 v7 : Value} (h : Below B w0 w) (hb : B ≤ gg) : Below B w0 (put8 w gg v0 v1 v2 v3 v4 v5 v6 v7) :=
  (((((((h.setCell hb _).setCell hb _).setCell hb _).setCell hb _).setCell hb _).setCell hb _).setCell hb _).setCell hb _
theorem first_int (a b c e f g h k x : Nat) : ((h : Int) + (Sg1 e : Nat) + (ch e f g : Nat) + k + x + ((Sg0 a : Nat) + (mj a b c : Nat))) % 4294967296 = (add32 (T1 e f g h k x) (T2 a b c) : Nat) := by
  rw [add32, T1, T2]; omega
theorem fifth_int (d e f g h k x : Nat) : ((d : Int) + ((h : Int) + (Sg1 e : Nat) + (ch e f g : Nat) + k + x)) % 4294967296 = (add32 d (T1 e f g h k x) : Nat) := by
  rw [add32, T1]; omega
end Go.Proofs.YtedidoeoomijjaaDoor.Pl
