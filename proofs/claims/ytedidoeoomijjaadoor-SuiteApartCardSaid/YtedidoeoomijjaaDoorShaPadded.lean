/- What the document's Padded answers. -/
import Derived.Test.YtedidoeoomijjaaDoorSuiteD2
import Derived.ArgAppend
import Derived.Lib.ConvBytes
namespace Go.Proofs.YtedidoeoomijjaaDoor.Pl
open Go.RowKit

/-- A slice of bytes in a block from B on, which reads as l; what is spare may be written. -/
def Own8 (w : World) (B : Nat) (v : Value) (l : List Nat) : Prop :=
  ∃ g cap, v = .slice (some ⟨g, 0, none⟩) l.length cap ∧ B ≤ g ∧ l.length ≤ cap ∧ (∀ j, j < l.length → w.cell? ⟨g, j, none⟩ = some (.int .u8 ((l.getD j 0 : Nat) : Int))) ∧
    ∀ j, j < cap → (w.cell? ⟨g, j, none⟩).isSome = true ∧ w.frozen? ⟨g, j, none⟩ = false
theorem Own8.alloc {w : World} {B : Nat} {v : Value} {l : List Nat} (h : Own8 w B v l) (o : Obj) : Own8 (w.alloc o) B v l := by
  obtain ⟨g, cap, hv, hB, hl, h1, h2⟩ := h
  refine ⟨g, cap, hv, hB, hl, fun j hj => ?_, fun j hj => ?_⟩
  · have := h1 j hj
    rw [World.cell?_alloc_lt _ _ _ (World.block_lt_of_cell? w _ this)]; exact this
  · obtain ⟨k1, k2⟩ := h2 j hj
    obtain ⟨u, hu⟩ := Option.isSome_iff_exists.1 k1
    have hb := World.block_lt_of_cell? w _ hu
    exact ⟨by rw [World.cell?_alloc_lt _ _ _ hb]; exact k1, by rw [World.frozen?_alloc_past _ _ _ hb]; exact k2⟩

theorem u8s_at (l : List Nat) (j : Nat) (h : j < l.length) : (u8s l)[j]? = some (.int .u8 ((l.getD j 0 : Nat) : Int)) := by
  simp [u8s, List.getD_eq_getElem?_getD, h]
theorem u8s_snoc (l : List Nat) (x : Nat) : u8s (l ++ [x]) = u8s l ++ [.int .u8 (x : Int)] := by simp [u8s]
theorem getD_snoc (l : List Nat) (x j : Nat) : (l ++ [x]).getD j 0 = if j < l.length then l.getD j 0 else if j = l.length then x else 0 := by
  rw [List.getD_eq_getElem?_getD]
  by_cases h : j < l.length
  · rw [if_pos h, List.getElem?_append_left h, List.getD_eq_getElem?_getD]
  · rw [if_neg h, List.getElem?_append_right (by omega)]
    by_cases e : j = l.length
    · rw [if_pos e, e]; simp
    · rw [if_neg e, List.getElem?_eq_none (by simp; omega)]; rfl

theorem wpList_push8 {ops : Array Oper} {rest : List Oper} {o : Oper} {a : Act} {Q : Exit → Act → World → Prop} {w : World} (hg : o.guard = none) (s y : Operand)
    (hop : o.op = Op.call { callee := Callee.builtin Builtin.append, args := #[s, y], argTypes := #[41, 41] })
    (B : Nat) (v : Value) (l : List Nat) (hs : a.eval s = v) (hown : Own8 w B v l) (hBw : B ≤ w.heap.size) (b c x : Nat) (hx : a.eval y = .slice (some ⟨b, 0, none⟩) 1 c) (hc : w.cell? ⟨b, 0, none⟩ = some (.int .u8 (x : Int))) (hl : l.length < 1000000)
    (K : ∀ v' w', Own8 w' B v' (l ++ [x]) → Below B w w' → wpList Tryd.prog ops Q rest (a.put o.dst v') w') : wpList Tryd.prog ops Q (o :: rest) a w := by
  obtain ⟨i0, hi, hz0, hz1, hz2⟩ := info_parts info_u8
  obtain ⟨g, cap, hv, hB, hcap, h1, h2⟩ := hown
  refine wpList_append_arg w hg s y 41 hop 5 i0 (.int .u8 0) 1 1 Tryd.underlying41 hi hz0 hz1 hz2 rfl (by decide) g 0 l.length cap (u8s l) (by rw [hs, hv]) (by simp [u8s]) ?_
    ⟨b, 0, none⟩ 1 c [.int .u8 (x : Int)] hx rfl ?_ ?_ ?_ (by unfold maxLen; omega) (by omega) ?_ ?_
  · intro j u hu
    have hj : j < l.length := by have := (List.getElem?_eq_some_iff.1 hu).1; simpa [u8s] using this
    rw [u8s_at l j hj] at hu
    rw [Nat.zero_add, h1 j hj, hu]
  · intro j u hu
    obtain rfl : j = 0 := by have := (List.getElem?_eq_some_iff.1 hu).1; simp at this; exact this
    simp at hu
    subst hu
    rw [add_none]; exact hc
  · intro u hu; simp at hu; subst hu; rfl
  · intro hr j hj
    have hj0 : j = 0 := by simp at hj; exact hj
    subst hj0
    rw [show 0 + l.length * 1 + 0 = l.length by omega]
    exact h2 l.length (by omega)
  · intro hr
    refine K _ _ ⟨g, cap, by simp, hB, by simp; omega, fun j hj => ?_, fun j hj => ?_⟩ ?_
    · rw [show 0 + l.length * 1 = l.length by omega, getD_snoc]
      simp at hj
      by_cases h : j < l.length
      · rw [if_pos h, World.cell?_setCells_out g _ _ _ _ (fun _ _ => Or.inl h)]; exact h1 j h
      · obtain rfl : j = l.length := by omega
        rw [if_neg h, if_pos rfl]
        have := World.cell?_setCells_in g [.int .u8 (x : Int)] l.length w (fun i hi' => by
          have hi0 : i = 0 := by simp at hi'; exact hi'
          subst hi0
          exact (h2 (l.length + 0) (by omega)).1) 0 (by simp)
        exact this
    · refine ⟨World.isSome_setCells g _ _ _ _ (h2 j hj).1, ?_⟩
      rw [World.frozen?_setCells]; exact (h2 j hj).2
    · exact ((Below.refl B w).setCell (p := ⟨g, 0 + l.length * 1, none⟩) hB _)
  · intro hr v' w' hown' hgrow
    obtain ⟨g', cap', rfl, hg', hlt⟩ := hown'.form (by omega)
    refine K _ _ ⟨g', cap', by simp, by omega, ?_, fun j hj => ?_, fun j hj => ?_⟩ ?_
    · rcases hown'.2 with ⟨h', _⟩ | ⟨g'', cap'', cur, h', _, _, hn, _⟩
      · simp at h'
      · simp only [Value.slice.injEq] at h'
        obtain ⟨_, _, rfl⟩ := h'
        simpa using hn
    · have hj' : j < (l.length + 1) * 1 := by simp at hj; omega
      rw [hown'.cellAt j hj', ← u8s_snoc, u8s_at _ _ hj]
    · rcases hown'.2 with ⟨h', _⟩ | ⟨g'', cap'', cur, h', _, hg, hn, _, hsz, _⟩
      · simp at h'
      · simp only [Value.slice.injEq, Option.some.injEq, Addr.mk.injEq, and_true, true_and] at h'
        obtain ⟨rfl, rfl⟩ := h'
        have hj' : j < cur.size := by rw [hsz]; omega
        refine ⟨?_, frozen_of_row w' g' j cur _ hg⟩
        rw [cell_of_row w' g' j cur _ (0, 0) hg]
        simp [hj']
    · exact (Below.refl B w).grown hgrow (by omega) (fun k hk => by cases hk)

theorem own_bytes (w : World) (s : ByteArray) : Own8 (Lib.bytesWorld w 5 s) w.heap.size (.slice (some ⟨w.heap.size, 0, none⟩) s.size (grownCap w s.size 0 5)) (nums s) := by
  have hb := Lib.bytesWorld_at_new w 5 s
  have hg : s.size ≤ grownCap w s.size 0 5 := grownCap_ge w s.size 0 5
  have hz : (Lib.bytesCells w 5 s).size = grownCap w s.size 0 5 := by
    have : s.data.size = s.size := rfl
    simp [Lib.bytesCells]; omega
  refine ⟨w.heap.size, _, by rw [nums_length], Nat.le_refl _, by rw [nums_length]; exact hg, fun j hj => ?_, fun j hj => ?_⟩
  · rw [nums_length] at hj
    rw [Lib.bytesWorld_cell w _ s j hj]
    simp only [nums, List.getD_eq_getElem?_getD, List.getElem?_map, Array.getElem?_toList]
    cases s.data[j]? <;> rfl
  · rw [← hz] at hj
    refine ⟨by rw [cell_of_row _ _ _ _ _ _ hb]; simp [hj], ?_⟩
    simp only [World.frozen?, hb]
    simp; omega
theorem below_bytes (w : World) (s : ByteArray) : Below w.heap.size w (Lib.bytesWorld w 5 s) :=
  ⟨rfl, rfl, rfl, by rw [Lib.bytesWorld_size]; omega, fun k hk => Lib.bytesWorld_at_old w _ s k hk⟩

end Go.Proofs.YtedidoeoomijjaaDoor.Pl
