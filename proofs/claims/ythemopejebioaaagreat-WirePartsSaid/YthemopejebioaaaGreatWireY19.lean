/- The document's Bare of layer 12. -/
import Derived.Test.YthemopejebioaaaGreatWireY17
namespace Go.Proofs.YthemopejebioaaaGreat.Pl
open Go.RowKit

/-- Of a message what its kind names. -/
def bareP (m : Ms) : Ms :=
  if m.kind = 1 then ⟨1, m.c, m.e, m.q, m.aud, m.mem, m.body, false, ⟨#[]⟩⟩
  else if m.kind = 2 then ⟨2, m.c, m.e, m.q, 0, [], ⟨#[]⟩, m.yes, if m.yes then m.tag else ⟨#[]⟩⟩
  else if m.kind = 3 then ⟨3, m.c, m.e, m.q, 0, [], ⟨#[]⟩, m.yes, ⟨#[]⟩⟩
  else if m.kind = 6 then ⟨6, 0, 0, 0, 0, [], ⟨#[]⟩, false, ⟨#[]⟩⟩
  else ⟨m.kind, m.c, m.e, m.q, 0, [], ⟨#[]⟩, false, ⟨#[]⟩⟩
def bareV (m : Ms) (v : Value) : Value := if m.kind = 1 then v else .slice none 0 0
theorem alloc_mid (w : World) (A R O : Obj) : (((w.alloc A).alloc R).alloc O).heap[w.heap.size + 1]? = some R := by
  have h := Go.heap_alloc_new (w.alloc A) R
  rw [World.size_alloc] at h
  exact (((Below.refl _ ((w.alloc A).alloc R)).alloc (Nat.le_refl _) O).block _ (by simp)).trans h
theorem below_three (w : World) (A R O : Obj) : Below w.heap.size w (((w.alloc A).alloc R).alloc O) := (((Below.refl _ _).alloc (Nat.le_refl _) _).alloc (by simp) _).alloc (by simp; omega) _

set_option maxHeartbeats 8000000 in
set_option maxRecDepth 100000 in
theorem rbare12_any (m : Ms) (ao : Option Addr) (n cap : Nat) (w : World) :
    Calls Tryz.prog 41 #[.agg (msC m (.slice ao n cap))] w fun x w' => x = .returned (.agg (msC (bareP m) (bareV m (.slice ao n cap)))) ∧ Below w.heap.size w w' := by
  obtain ⟨k, c, e, q, aud, mem, body, yes, tag⟩ := m
  dsimp only [msC] at *
  by_cases h1 : k = 1
  · subst h1
    go_enter Tryz.func41, Tryz.ntmps41
    go_wp2_with fail
    refine bodyPost_ret (results_cell_row (fn := Tryz.f41) (p := 2) (ty := 26) rfl _ _ (w.heap.size + 1) 26 #[.int .u8 1, .int .i64 c, .int .i64 e, .int .i64 q, .int .i64 aud, .slice ao n cap, .string body, .bool false, .string ⟨#[]⟩] (0, 0) _ rfl (alloc_mid w _ _ _) Tryz.underlying26 rfl (ms_info _ _ _ _ _ _ _ _ _)) rfl ?_
    exact ⟨rfl, below_three w _ _ _⟩
  by_cases h2 : k = 2
  · subst h2
    cases yes with
    | true =>
      go_enter Tryz.func41, Tryz.ntmps41
      go_wp2_with fail
      refine bodyPost_ret (results_cell_row (fn := Tryz.f41) (p := 2) (ty := 26) rfl _ _ (w.heap.size + 1) 26 #[.int .u8 2, .int .i64 c, .int .i64 e, .int .i64 q, .int .i64 0, .slice none 0 0, .string ⟨#[]⟩, .bool true, .string tag] (0, 0) _ rfl (alloc_mid w _ _ _) Tryz.underlying26 rfl (ms_info _ _ _ _ _ _ _ _ _)) rfl ?_
      exact ⟨rfl, below_three w _ _ _⟩
    | false =>
      go_enter Tryz.func41, Tryz.ntmps41
      go_wp2_with fail
      refine bodyPost_ret (results_cell_row (fn := Tryz.f41) (p := 2) (ty := 26) rfl _ _ (w.heap.size + 1) 26 #[.int .u8 2, .int .i64 c, .int .i64 e, .int .i64 q, .int .i64 0, .slice none 0 0, .string ⟨#[]⟩, .bool false, .string ⟨#[]⟩] (0, 0) _ rfl (alloc_mid w _ _ _) Tryz.underlying26 rfl (ms_info _ _ _ _ _ _ _ _ _)) rfl ?_
      exact ⟨rfl, below_three w _ _ _⟩
  by_cases h3 : k = 3
  · subst h3
    go_enter Tryz.func41, Tryz.ntmps41
    go_wp2_with fail
    refine bodyPost_ret (results_cell_row (fn := Tryz.f41) (p := 2) (ty := 26) rfl _ _ (w.heap.size + 1) 26 #[.int .u8 3, .int .i64 c, .int .i64 e, .int .i64 q, .int .i64 0, .slice none 0 0, .string ⟨#[]⟩, .bool yes, .string ⟨#[]⟩] (0, 0) _ rfl (alloc_mid w _ _ _) Tryz.underlying26 rfl (ms_info _ _ _ _ _ _ _ _ _)) rfl ?_
    exact ⟨rfl, below_three w _ _ _⟩
  by_cases h6 : k = 6
  · subst h6
    go_enter Tryz.func41, Tryz.ntmps41
    go_wp2_with fail
    refine bodyPost_ret (results_cell_row (fn := Tryz.f41) (p := 2) (ty := 26) rfl _ _ (w.heap.size + 1) 26 #[.int .u8 6, .int .i64 0, .int .i64 0, .int .i64 0, .int .i64 0, .slice none 0 0, .string ⟨#[]⟩, .bool false, .string ⟨#[]⟩] (0, 0) _ rfl (alloc_mid w _ _ _) Tryz.underlying26 rfl (ms_info _ _ _ _ _ _ _ _ _)) rfl ?_
    exact ⟨rfl, below_three w _ _ _⟩
  have n1 : ((k : Int) == 1) = false := beq_eq_false_iff_ne.2 (by omega)
  have n2 : ((k : Int) == 2) = false := beq_eq_false_iff_ne.2 (by omega)
  have n3 : ((k : Int) == 3) = false := beq_eq_false_iff_ne.2 (by omega)
  have n6 : ((k : Int) == 6) = false := beq_eq_false_iff_ne.2 (by omega)
  have hp : bareP ⟨k, c, e, q, aud, mem, body, yes, tag⟩ = ⟨k, c, e, q, 0, [], ⟨#[]⟩, false, ⟨#[]⟩⟩ := by unfold bareP; dsimp only; rw [if_neg h1, if_neg h2, if_neg h3, if_neg h6]
  have hv : bareV ⟨k, c, e, q, aud, mem, body, yes, tag⟩ (.slice ao n cap) = .slice none 0 0 := by unfold bareV; dsimp only; rw [if_neg h1]
  rw [hp, hv]
  clear hp hv h1 h2 h3 h6
  go_enter Tryz.func41, Tryz.ntmps41
  go_wp2_with fail
  refine bodyPost_ret (results_cell_row (fn := Tryz.f41) (p := 2) (ty := 26) rfl _ _ (w.heap.size + 1) 26 #[.int .u8 k, .int .i64 c, .int .i64 e, .int .i64 q, .int .i64 0, .slice none 0 0, .string ⟨#[]⟩, .bool false, .string ⟨#[]⟩] (0, 0) _ rfl (alloc_mid w _ _ _) Tryz.underlying26 rfl (ms_info _ _ _ _ _ _ _ _ _)) rfl ?_
  exact ⟨rfl, below_three w _ _ _⟩
end Go.Proofs.YthemopejebioaaaGreat.Pl
