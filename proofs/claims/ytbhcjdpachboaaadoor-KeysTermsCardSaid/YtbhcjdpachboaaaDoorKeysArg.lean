/- How a row of texts that came in reads. -/
import Derived.Test.YtbhcjdpachboaaaDoorKeysBase1
import Derived.ProofKit
import Derived.SliceStrings
namespace Go.Proofs.YtbhcjdpachboaaaDoor.Pl
open Go.RowKit Go.ChangeShapes Go.WideShapes

theorem cells_string6 : Tryd.prog.cellsOf 9 = 1 := by kernel_rfl
set_option maxRecDepth 100000 in
theorem open_texts6 {H : Type} {enc : TypeId × Value → H} {w : World} {r : Reach} {b0 base : Nat} {v : Value} {d : DataW H} {ps : List MemPlace}
    (hval : Value.okWide Tryd.prog w r b0 30 v) (hd : DataW.Trod enc Tryd.prog w base (fun _ => true) true 30 v d ps) :
    ∃ ao l cap, v = .slice ao (List.length l) cap ∧ TxtRow w ao l ∧ List.length l ≤ cap ∧ List.length l ≤ 9223372036854775807 ∧ (ao = none → cap = 0) := by
  obtain ⟨a, len, cap, rfl⟩ := okWide_slice Tryd.underlying30 hval
  obtain ⟨fuel, hf⟩ := hd
  rcases open_strings Tryd.underlying30 Tryd.underlying9 cells_string6 hf with ⟨hcs, _⟩ | ⟨a', len', cap', ss, hcs, _, hl, hm, hz, _, hcell, hws⟩
  · simp [Value.cells] at hcs
    obtain ⟨rfl, rfl, rfl⟩ := hcs
    exact ⟨none, [], 0, rfl, .inl rfl, Nat.le_refl _, Nat.zero_le _, fun _ => rfl⟩
  · simp [Value.cells] at hcs
    obtain ⟨rfl, rfl, rfl⟩ := hcs
    unfold maxLen at hm hws
    simp at hz
    have hlen : (ss.take len).length = len := by simp; omega
    refine ⟨some a', ss.take len, cap, by rw [hlen], ?_, by omega, by omega, fun h => by cases h⟩
    by_cases h0 : len = 0
    · exact .inl (List.length_eq_zero_iff.1 (by omega))
    · right
      have hc0 := hcell 0 (by omega)
      have hspot : a'.spot = none := by
        rw [show a'.add 0 = a' from rfl] at hc0
        unfold World.cell? at hc0
        cases hs : a'.spot with
        | none => rfl
        | some x =>
          rw [hs] at hc0
          split at hc0
          · simp at hc0
          · cases hc0
      obtain ⟨b, off, sp⟩ := a'
      simp at hspot
      subst hspot
      have hlt : b < w.heap.size := by
        rcases Nat.lt_or_ge b w.heap.size with h | h
        · exact h
        · exfalso
          rw [show (⟨b, off, none⟩ : Addr).add 0 = ⟨b, off, none⟩ from rfl] at hc0
          simp [World.cell?, Array.getElem?_eq_none h] at hc0
      refine ⟨b, off, rfl, hlt, fun i hi => ?_⟩
      have h1 := hcell i (by omega)
      rw [show (⟨b, off, none⟩ : Addr).add i = ⟨b, off + i, none⟩ from by unfold Addr.add; split <;> simp_all] at h1
      rw [h1]
      have e : ss.getD i ByteArray.empty = (ss.take len).getD i ByteArray.empty := by
        have hi2 : i < ss.length := by omega
        simp [List.getD, List.getElem?_take_of_lt (show i < len by omega), hi2]
      rw [e]

end Go.Proofs.YtbhcjdpachboaaaDoor.Pl
