/- The program's own Copy: another one, who has seen the same. -/
import Derived.Test.YtkebfabmcajbmaaGreatKnowOwn10
import Derived.Shelf.SlMaps.Clone
namespace Go.Proofs.YtkebfabmcajbmaaGreat.Pl
open Go.RowKit Go.Maps

set_option maxHeartbeats 2000000 in
set_option maxRecDepth 100000 in
theorem mclone_any (b : Nat) (es : Array MapEntry) (clock : Nat) (w : World) (hb : w.heap[b]? = some (.map es clock)) :
    Calls Tryz.prog 25 #[.map (some b)] w fun e w' => e = .returned (.map (some w.heap.size)) ∧ w' = w.alloc (.map es clock) := by
  have hq := fun w => run_eql_map_nil_sl (P := Tryz.prog) w 43 _ _ (some b) Tryz.underlying43
  go_enter Tryz.func25, Tryz.ntmps25
  go_wp2_with fail
  rw [run_callFunc_extern Tryz.func43 (by kernel_rfl) (by kernel_rfl) (by kernel_rfl) (e := Extern.MapsClone.clone) (by kernel_rfl), run_maps_clone_sl w 43 hb]
  simp only [Result.andThen]
  rw [Oper.upon_value]
  go_wp2_with fail
  rw [run_typeAssert_map_sl _ 43 20 _ _ _ Tryz.underlying43]
  simp only [Result.andThen]
  rw [Oper.upon_value]
  go_wp2_with fail
  go_ret
  exact ⟨rfl, rfl⟩
set_option maxHeartbeats 1000000 in
set_option maxRecDepth 100000 in
theorem know_copy (F : Nat → Prop) (p : Nat) (H : List (List UInt8)) (w : World) (h : KnowAt w F p H) :
    Calls Tryz.prog 10 #[.pointer (some ⟨p, 0, none⟩)] w fun e w' => (∃ q F', e = .returned (.pointer (some ⟨q, 0, none⟩)) ∧ KnowAt w' F' q H ∧ ∀ b, F' b → w.heap.size ≤ b) ∧ Below w.heap.size w w' := by
  obtain ⟨m, X, hq, hI, hX, _, _, _⟩ := h
  have cp := hq.cell
  obtain ⟨D, ⟨es, clock, hm, hF⟩, hD⟩ := hq.2
  have HM := Lib.hid (mclone_any m es clock w hm)
  have K1 : Hid (MapK (w.alloc (.map es clock)) w.heap.size X) := Lib.hid ⟨D, ⟨es, clock, Go.heap_alloc_new w _, hF⟩, hD⟩
  have HI := Lib.hid hI
  have HX := Lib.hid hX
  clear hq hI hX hm hF hD
  go_enter Tryz.func10, Tryz.ntmps10
  go_wp2_with fail
  refine HM.out.mono ?_; rintro e w1 ⟨rfl, rfl⟩
  go_wp2_with fail
  go_ret
  have n1 : (w.alloc (.map es clock)).heap.size = w.heap.size + 1 := by simp
  have b1 : Below w.heap.size w (w.alloc (.map es clock)) := (Below.refl _ _).alloc (Nat.le_refl _) _
  have b2 : Below w.heap.size w ((w.alloc (.map es clock)).alloc (.cells #[.map (some w.heap.size)] 45)) := b1.alloc (by omega) _
  refine ⟨⟨_, fun b => b = w.heap.size ∨ b = w.heap.size + 1, rfl, ⟨w.heap.size, X, ⟨?_, K1.out.of_block (Below.heap_alloc _ _ _ (by omega))⟩, HI.out, HX.out, .inr rfl, .inl rfl, fun b hb => by simp; omega⟩, fun b hb => by omega⟩, b2⟩
  have h := Go.heap_alloc_new (w.alloc (.map es clock)) (.cells #[.map (some w.heap.size)] 45)
  rw [n1] at h
  exact h
set_option maxRecDepth 100000 in
theorem know_nil_copy (w : World) : Calls Tryz.prog 10 #[.pointer none] w fun e w' => e = .returned (.pointer none) ∧ Below w.heap.size w w' := by
  go_enter Tryz.func10, Tryz.ntmps10
  go_wp2_with fail
  go_ret
  exact ⟨rfl, Below.refl _ _⟩
end Go.Proofs.YtkebfabmcajbmaaGreat.Pl
