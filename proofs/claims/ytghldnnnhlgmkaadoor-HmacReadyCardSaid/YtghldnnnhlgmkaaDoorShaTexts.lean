/- How a row of texts that came in reads. -/
import Derived.Test.YtghldnnnhlgmkaaDoorProg
import Derived.WalkKit
import Derived.ProofKit
import Derived.SliceStrings
namespace Go.Proofs.YtghldnnnhlgmkaaDoor.Pl
open Go.RowKit Go.ChangeShapes Go.WideShapes

/-- A slice of n texts at p reads as ss. -/
def TextsIn (w : World) (p : Option Addr) (n : Nat) (ss : List ByteArray) : Prop := ss.length = n ∧ (n = 0 ∨ ∃ b off, p = some ⟨b, off, none⟩ ∧ ∀ i, i < n → w.cell? ⟨b, off + i, none⟩ = some (.string (ss.getD i ⟨#[]⟩)))
theorem TextsIn.below {w w' : World} {p : Option Addr} {n : Nat} {ss : List ByteArray} (h : TextsIn w p n ss) (hb : Below w.heap.size w w') : TextsIn w' p n ss := by
  refine ⟨h.1, ?_⟩
  rcases h.2 with h0 | ⟨b, off, hp, ht⟩
  · exact .inl h0
  · exact .inr ⟨b, off, hp, fun i hi => (hb.cell (p := ⟨b, off + i, none⟩) (World.block_lt_of_cell? _ _ (ht i hi))).trans (ht i hi)⟩
theorem spot_none {w : World} {a : Addr} {v : Value} (h : w.cell? (a.add 0) = some v) : a.spot = none := by
  rw [show a.add 0 = a from rfl] at h
  unfold World.cell? at h
  cases hs : a.spot with
  | none => rfl
  | some x =>
    rw [hs] at h
    split at h
    · simp at h
    · cases h
theorem cells_string : Tryd.prog.cellsOf 9 = 1 := by kernel_rfl
theorem open_texts {H : Type} {enc : TypeId × Value → H} {w : World} {r : Reach} {b0 base : Nat} {v : Value} {d : DataW H} {ps : List MemPlace}
    (hval : Value.okWide Tryd.prog w r b0 27 v) (hd : DataW.Trod enc Tryd.prog w base (fun _ => true) true 27 v d ps) :
    ∃ p n cap ss, v = .slice p n cap ∧ TextsIn w p n ss ∧ (p = none → cap = 0) ∧ n ≤ 9223372036854775807 ∧ ∀ s ∈ ss, s.size ≤ 9223372036854775807 := by
  obtain ⟨a, len, cap, rfl⟩ := okWide_slice Tryd.underlying27 hval
  obtain ⟨fuel, hf⟩ := hd
  rcases open_strings Tryd.underlying27 Tryd.underlying9 cells_string hf with ⟨hcs, _⟩ | ⟨a', len', cap', ss, hcs, _, hl, hm, hz, _, hcell, hws⟩
  · simp [Value.cells] at hcs
    obtain ⟨rfl, rfl, rfl⟩ := hcs
    exact ⟨none, 0, 0, [], rfl, ⟨rfl, .inl rfl⟩, fun _ => rfl, Nat.zero_le _, fun s hs => by cases hs⟩
  · simp [Value.cells] at hcs
    obtain ⟨rfl, rfl, rfl⟩ := hcs
    unfold maxLen at hm hws
    simp at hz
    have hlen : (ss.take len).length = len := by simp; omega
    refine ⟨some a', len, cap, ss.take len, rfl, ⟨hlen, ?_⟩, (fun h => by cases h), (by omega), (fun s hs => by have := hws s (List.mem_of_mem_take hs); omega)⟩
    by_cases h0 : len = 0
    · exact .inl h0
    · right
      have hspot := spot_none (hcell 0 (by omega))
      obtain ⟨b, off, sp⟩ := a'
      simp at hspot
      subst hspot
      refine ⟨b, off, rfl, fun i hi => ?_⟩
      have h1 := hcell i (by omega)
      rw [show (⟨b, off, none⟩ : Addr).add i = ⟨b, off + i, none⟩ from by unfold Addr.add; split <;> simp_all] at h1
      rw [h1]
      have e : ss.getD i ByteArray.empty = (ss.take len).getD i ⟨#[]⟩ := by
        have hi2 : i < ss.length := by omega
        simp [List.getD, List.getElem?_take_of_lt hi, hi2]
      rw [e]
end Go.Proofs.YtghldnnnhlgmkaaDoor.Pl
