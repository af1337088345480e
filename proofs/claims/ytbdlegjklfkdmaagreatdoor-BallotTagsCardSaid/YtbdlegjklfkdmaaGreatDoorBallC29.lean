/- What term's Size and Depth answer. -/
import Derived.Test.YtbdlegjklfkdmaaGreatDoorBallC28
import Derived.Test.YtbdlegjklfkdmaaGreatDoorBallC17
namespace Go.Proofs.YtbdlegjklfkdmaaGreatDoor.Pl
open Go.RowKit Go.Shelf
attribute [local go_sem] Oper.semAt_some

/-- The places of a term. -/
theorem vis_term {s : ByteArray} (h : checkP (bl s) = 0) : ∃ T : Tm, T.valid ∧ bl s = T.enc ∧ treeOf (bl s) = some T ∧ vis s = ((offT 0 1 T).map Prod.fst, T.enc.length, 0) := by
  obtain ⟨T, tv, te, tr⟩ := tree_of h
  refine ⟨T, tv, te, tr, ?_⟩
  have h1 := vis_tree (bl s) T tv.1 16 tv.2.1 (Nat.le_refl _) 0 [] (by rw [List.drop_zero, te, List.append_nil])
  rw [Nat.zero_add] at h1
  exact h1
theorem below_mark {B : Nat} {w V : World} {D : Nat} {o : Obj} (h : Below B w V) (hB : B ≤ D) (hD : V.heap[D]? = some o) (o' : Obj) : Below B w (V.putObj D o') :=
  h.grown (grownBy_putObj' V D o') (by have := (Array.getElem?_eq_some_iff.1 hD).1; omega) (fun k e => by cases e; exact hB)
theorem leave_mark {n : Nat} {fn : Func} {tmps : Array Value} {R : Ending → World → Prop} {D : Nat} {V : World} {v : Value} (hm : V.heap[D]? = some (.deferred (some [])))
    (h : (results fn tmps).run Tryz.prog (V.putObj D (.deferred none)) = .ok v (V.putObj D (.deferred none))) (hR : R (.returned v) (V.putObj D (.deferred none))) :
    LeavesInM Fence.wide n Tryz.prog fn tmps R [markOf D] .returning V :=
  ⟨by simp, .inl ⟨D, _, rfl, run_takeDeferred hm, v, h, hR⟩⟩
theorem vis_count {s : ByteArray} (h : checkP (bl s) = 0) (q : List Pl6) (hq : q <+: (vis s).1) : q.length ≤ 16384 := by
  obtain ⟨T, tv, te, tr, hv⟩ := vis_term h
  have h1 := hq.length_le
  rw [hv, List.length_map] at h1
  have h2 : (offT 0 1 T).length = T.places.length := by rw [← offs_snd T 0 1, List.length_map]
  have h3 := places_count T tv.1
  have h4 := tv.2.2
  omega

end Go.Proofs.YtbdlegjklfkdmaaGreatDoor.Pl
