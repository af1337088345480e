/- A Hash in memory, and what sha.New, Len, Copy answer. -/
import Derived.Test.YtogadffbnoinmaaDoorShaJoined
import Derived.Deep.MidRow
import Derived.Laws.CopyRow
import Derived.IntWalk
namespace Go.Proofs.YtogadffbnoinmaaDoor.Pl
open Go.RowKit

/-- The cells of a Hash: its state, the bytes that wait, the size. -/
def hcells (s : S8) (wt : List Nat) (n : Nat) : Array Value := ((s.list.map fun (x : Nat) => Value.int .u32 (x : Int)) ++ (wt.map fun (x : Nat) => Value.int .u8 (x : Int)) ++ [Value.int .u64 (n : Int)]).toArray
/-- Block b is a Hash with these parts. -/
def HashAt (w : World) (b : Nat) (s : S8) (wt : List Nat) (n : Nat) : Prop := w.heap[b]? = some (.cells (hcells s wt n) 67 (0, 0)) ∧ wt.length = 64
theorem hcells_size {s : S8} {wt : List Nat} (n : Nat) (h : wt.length = 64) : (hcells s wt n).size = 73 := by simp [hcells, S8.list, h]
theorem hcells_one (s : S8) (wt : List Nat) (n : Nat) : (hcells s wt n).all (·.oneCell') = true := by
  rw [Array.all_eq_true_iff_forall_mem]
  intro v hv
  simp only [hcells, List.mem_toArray, List.mem_append, List.mem_map, List.mem_singleton] at hv
  rcases hv with (⟨_, _, rfl⟩ | ⟨_, _, rfl⟩) | rfl <;> rfl
theorem HashAt.size {w : World} {b : Nat} {s : S8} {wt : List Nat} {n : Nat} (h : HashAt w b s wt n) : w.cell? ⟨b, 72, none⟩ = some (.int .u64 (n : Int)) ∧ w.frozen? ⟨b, 72, none⟩ = false := by
  refine ⟨?_, frozen_of_row w b 72 _ _ h.1⟩
  rw [cell_of_row w b 72 _ _ (0, 0) h.1]
  simp [hcells, S8.list, h.2]
theorem HashAt.lt {w : World} {b : Nat} {s : S8} {wt : List Nat} {n : Nat} (h : HashAt w b s wt n) : b < w.heap.size := (Array.getElem?_eq_some_iff.1 h.1).1
theorem HashAt.below {w w' : World} {b : Nat} {s : S8} {wt : List Nat} {n : Nat} (h : HashAt w b s wt n) (hb : Below w.heap.size w w') : HashAt w' b s wt n := ⟨heap_below hb h.1, h.2⟩
theorem HashAt.setSize {w : World} {b : Nat} {s : S8} {wt : List Nat} {n : Nat} (h : HashAt w b s wt n) (m : Nat) : HashAt (w.setCell ⟨b, 72, none⟩ (.int .u64 (m : Int))) b s wt m := by
  refine ⟨?_, h.2⟩
  rw [heap_setCell_same w b 72 _ _ _ h.1]
  congr 2
  apply Array.ext'
  simp [hcells, S8.list, h.2]
theorem HashAt.state {w : World} {b : Nat} {s : S8} {wt : List Nat} {n : Nat} (h : HashAt w b s wt n) : w.rangeAt b 0 (s.list.map fun (x : Nat) => Value.int .u32 (x : Int)) := by
  intro j v hv
  have hj : j < 8 := by have := (List.getElem?_eq_some_iff.1 hv).1; simpa [S8.list] using this
  rw [cell_of_row w b (0 + j) _ _ (0, 0) h.1, ← hv, Nat.zero_add]
  simp only [hcells, List.getElem?_toArray]
  rw [List.append_assoc, List.getElem?_append_left (by simpa [S8.list] using hj)]
theorem HashAt.wait {w : World} {b : Nat} {s : S8} {wt : List Nat} {n : Nat} (h : HashAt w b s wt n) : w.rangeAt b 8 (wt.map fun (x : Nat) => Value.int .u8 (x : Int)) := by
  intro j v hv
  have hj : j < 64 := by have := (List.getElem?_eq_some_iff.1 hv).1; simpa [h.2] using this
  rw [cell_of_row w b (8 + j) _ _ (0, 0) h.1, ← hv]
  simp only [hcells, List.getElem?_toArray]
  rw [List.append_assoc, List.getElem?_append_right (by simp [S8.list]), List.getElem?_append_left (by simp [S8.list, h.2]; omega)]
  congr 1
  simp [S8.list]
theorem HashAt.there {w : World} {b : Nat} {s : S8} {wt : List Nat} {n : Nat} (h : HashAt w b s wt n) (o k : Nat) (hk : o + k ≤ 73) : w.there b o k := by
  intro j hj
  refine ⟨?_, frozen_of_row w b _ _ _ h.1⟩
  rw [cell_of_row w b (o + j) _ _ (0, 0) h.1]
  have : o + j < (hcells s wt n).size := by rw [hcells_size n h.2]; omega
  simp [this]
theorem setCells_row (g : Nat) (t : TypeId) : ∀ (vs : List Value) (o : Nat) (cur : Array Value) (w : World), w.heap[g]? = some (.cells cur t (0, 0)) → o + vs.length ≤ cur.size →
    w.setCells g o vs = w.setRow g (cur.toList.take o ++ vs ++ cur.toList.drop (o + vs.length)).toArray
  | [], o, cur, w, hg, _ => by
    simp only [World.setCells, List.append_nil, List.length_nil, Nat.add_zero, List.take_append_drop, Array.toArray_toList]
    rw [setRow_self w g cur t (0, 0) hg]
  | v :: rest, o, cur, w, hg, hl => by
    have ih := setCells_row g t rest (o + 1) (cur.setIfInBounds o v) (w.setRow g (cur.setIfInBounds o v)) (setRow_heap w g cur _ t _ hg) (by simp at hl ⊢; omega)
    rw [World.setCells, setCell_eq_setRow w g o cur t (0, 0) v hg, ih, setRow_setRow]
    congr 2
    have e := list_seg_step cur.toList o v rest (by simp at hl ⊢; omega)
    simpa [Array.toList_setIfInBounds, Nat.add_assoc] using e
theorem HashAt.setState {w : World} {b : Nat} {s : S8} {wt : List Nat} {n : Nat} (h : HashAt w b s wt n) (q : S8) : HashAt (w.setCells b 0 (q.list.map fun (x : Nat) => Value.int .u32 (x : Int))) b q wt n := by
  refine ⟨?_, h.2⟩
  rw [setCells_row b _ _ 0 _ w h.1 (by rw [hcells_size n h.2]; simp [S8.list]), setRow_heap w b _ _ _ _ h.1]
  congr 2
/-- The state to begin with. -/
def S0 : S8 := ⟨1779033703, 3144134277, 1013904242, 2773480762, 1359893119, 2600822924, 528734635, 1541459225⟩
theorem S0_fits : S0.fits := by unfold S8.fits; decide
def Z0 : S8 := ⟨0, 0, 0, 0, 0, 0, 0, 0⟩
theorem zero_hash (w : World) : (zeroValue 67).run Tryd.prog w = .ok (.agg (hcells Z0 (List.replicate 64 0) 0)) w := by kernel_rfl

theorem first_hash : (((((((((hcells Z0 (List.replicate 64 0) 0).setIfInBounds 0 (.int .u32 1779033703)).setIfInBounds 1 (.int .u32 3144134277)).setIfInBounds 2 (.int .u32 1013904242)).setIfInBounds 3 (.int .u32 2773480762)).setIfInBounds 4 (.int .u32 1359893119)).setIfInBounds 5 (.int .u32 2600822924)).setIfInBounds 6 (.int .u32 528734635)).setIfInBounds 7 (.int .u32 1541459225)) = hcells S0 (List.replicate 64 0) 0 := by kernel_rfl
set_option maxRecDepth 100000 in
theorem new_any (w : World) : Calls Tryd.prog 37 #[] w fun e w' => e = .returned (.pointer (some ⟨w.heap.size, 0, none⟩)) ∧ HashAt w' w.heap.size S0 (List.replicate 64 0) 0 ∧ w.heap.size < w'.heap.size ∧ Below w.heap.size w w' := by
  have hzv := zero_hash
  have hfs := first_hash
  have hzs : (hcells Z0 (List.replicate 64 0) 0).size = 73 := hcells_size 0 (by simp)
  go_enter Tryd.func37, Tryd.ntmps37
  go_wp2_with fail
  go_ret
  refine ⟨rfl, ⟨Go.heap_alloc_new _ _, by simp⟩, by simp, (Below.refl _ _).alloc (Nat.le_refl _) _⟩

set_option maxRecDepth 100000 in
theorem copy_any (w : World) (b : Nat) (s : S8) (wt : List Nat) (n : Nat) (h : HashAt w b s wt n) :
    Calls Tryd.prog 30 #[.pointer (some ⟨b, 0, none⟩)] w fun e w' => e = .returned (.pointer (some ⟨w.heap.size, 0, none⟩)) ∧ HashAt w' w.heap.size s wt n ∧ w.heap.size < w'.heap.size ∧ Below w.heap.size w w' := by
  have hs : (Tryd.prog.info? 67).map (·.size) = some (hcells s wt n).size := by rw [hcells_size n h.2]; kernel_rfl
  have HS := Lib.hid hs
  have HC := Lib.hid h.1
  have hne : ¬ b = w.heap.size := by have := h.lt; omega
  have hz : (hcells Z0 (List.replicate 64 0) 0).size = (hcells s wt n).size := by rw [hcells_size _ h.2, hcells_size _ (by simp)]
  have HZ := Lib.hid hz
  have HL := Lib.hid h
  clear hs hz h
  have hzv := zero_hash
  go_enter Tryd.func30, Tryd.ntmps30
  go_wp2_with (first
    | (refine wpList_load_row rfl 67 _ rfl b rfl 67 _ _ _ HC.out Tryd.underlying67 rfl HS.out ?_)
    | (refine wpList_store_row rfl 67 _ _ rfl w.heap.size _ rfl rfl 67 _ (Go.heap_alloc_new _ _) HS.out HZ.out (hcells_one _ _ _) ?_))
  go_ret
  rw [World.setRow_alloc_new]
  exact ⟨rfl, ⟨Go.heap_alloc_new _ _, HL.out.2⟩, by simp, (Below.refl _ _).alloc (Nat.le_refl _) _⟩
end Go.Proofs.YtogadffbnoinmaaDoor.Pl
