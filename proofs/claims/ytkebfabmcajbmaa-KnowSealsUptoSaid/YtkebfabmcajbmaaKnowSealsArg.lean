/- How KnowSeals's rows that came in read, with their share of the bulk. -/
import Derived.Test.YtkebfabmcajbmaaRows
import Derived.Test.YtkebfabmcajbmaaKnowSealsLaw
import Derived.ChangeSlices
namespace Go.Proofs.Ytkebfabmcajbmaa.Pl
open Go.RowKit Go.ChangeShapes Go.WideShapes

theorem bulk_one {H : Type} (d : DataW H) : 1 ≤ Rows.uptoBulk d := by
  cases d with
  | lit l => cases l <;> simp [Rows.uptoBulk]
  | nil => simp [Rows.uptoBulk]
  | ptr d => simp [Rows.uptoBulk]
  | slice elems spare => simp [Rows.uptoBulk]
  | agg parts => simp [Rows.uptoBulk]
  | iface t d => simp [Rows.uptoBulk]
  | map entries => simp [Rows.uptoBulk]
  | held h => simp [Rows.uptoBulk]
theorem bulk_many {H : Type} (l : List (DataW H)) : l.length ≤ Rows.uptoBulkAll l := by
  induction l with
  | nil => simp [Rows.uptoBulkAll]
  | cons x r ih => have := bulk_one x; simp only [Rows.uptoBulkAll, List.length_cons]; omega
theorem bulk_row {H : Type} (l m : List (DataW H)) : l.length ≤ Rows.uptoBulk (.slice l m) := by
  have := bulk_many l
  simp only [Rows.uptoBulk]
  omega

set_option maxRecDepth 100000 in
theorem texts_bulk {H : Type} {enc : TypeId × Value → H} {w : World} {base : Nat} {ao : Option Addr} {n cap : Nat} {d : DataW H} {ps : List MemPlace}
    (hd : DataW.Trod enc Try.prog w base (fun _ => true) true 22 (.slice ao n cap) d ps) : n ≤ Rows.uptoBulk d := by
  obtain ⟨fuel, hf⟩ := hd
  rcases open_strings Try.underlying22 Try.underlying9 cells_string6 hf with ⟨hcs, _⟩ | ⟨a', len', cap', ss, hcs, _, hl, hm, hz, hx, hcell, hws⟩
  · simp [Value.cells] at hcs
    obtain ⟨rfl, rfl, rfl⟩ := hcs
    exact Nat.zero_le _
  · simp [Value.cells] at hcs
    obtain ⟨rfl, rfl, rfl⟩ := hcs
    simp at hz
    injection hx with hx _
    subst hx
    have h := bulk_row (strs (H := H) (ss.take n)) (strs (ss.drop n))
    have e : (strs (H := H) (ss.take n)).length = n := by simp [strs]; omega
    omega

theorem cells_byte10 : Try.prog.cellsOf 5 = 1 := by kernel_rfl
set_option maxRecDepth 100000 in
theorem open_bytes10 {H : Type} {enc : TypeId × Value → H} {w : World} {r : Reach} {b0 base : Nat} {v : Value} {d : DataW H} {ps : List MemPlace}
    (hval : Value.okWide Try.prog w r b0 33 v) (hd : DataW.Trod enc Try.prog w base (fun _ => true) true 33 v d ps) :
    ∃ ao l cap, v = .slice ao (List.length l) cap ∧ ByteRow w ao l ∧ List.length l ≤ Rows.uptoBulk d := by
  obtain ⟨a, len, cap, rfl⟩ := okWide_slice Try.underlying33 hval
  obtain ⟨fuel, hf⟩ := hd
  rcases open_ints Try.underlying33 Try.underlying5 cells_byte10 hf with ⟨hcs, _⟩ | ⟨a', len', cap', zs, hcs, _, hl, hm, hz, hx, hcell, hws⟩
  · simp [Value.cells] at hcs
    obtain ⟨rfl, rfl, rfl⟩ := hcs
    exact ⟨none, [], 0, rfl, .inl rfl, Nat.zero_le _⟩
  · simp [Value.cells] at hcs
    obtain ⟨rfl, rfl, rfl⟩ := hcs
    simp at hz
    injection hx with hx _
    subst hx
    have h := bulk_row (lits (H := H) .u8 (zs.take len)) (lits .u8 (zs.drop len))
    have e : (lits (H := H) .u8 (zs.take len)).length = len := by simp [lits]; omega
    have hlen : ((zs.take len).map Int.toNat).length = len := by simp; omega
    refine ⟨some a', (zs.take len).map Int.toNat, cap, by rw [hlen], ?_, by omega⟩
    by_cases h0 : len = 0
    · exact .inl (List.length_eq_zero_iff.1 (by omega))
    · right
      have hc0 := hcell 0 (by omega)
      have hspot : a'.spot = none := by
        rw [show a'.add 0 = a' from rfl] at hc0
        unfold World.cell? at hc0
        cases hs : a'.spot with
        | none => rfl
        | some x =>
          rw [hs] at hc0
          split at hc0
          · simp at hc0
          · cases hc0
      obtain ⟨b, off, sp⟩ := a'
      simp at hspot
      subst hspot
      have hlt : b < w.heap.size := by
        rcases Nat.lt_or_ge b w.heap.size with h | h
        · exact h
        · exfalso
          rw [show (⟨b, off, none⟩ : Addr).add 0 = ⟨b, off, none⟩ from rfl] at hc0
          simp [World.cell?, Array.getElem?_eq_none h] at hc0
      refine ⟨b, off, rfl, hlt, fun i hi => ?_⟩
      have hil : i < len := by omega
      have hiz : i < zs.length := by omega
      have h1 := hcell i hiz
      rw [show (⟨b, off, none⟩ : Addr).add i = ⟨b, off + i, none⟩ from by simp [Addr.add]] at h1
      have h2 := hws zs[i] (List.getElem_mem hiz)
      have h3 : 0 ≤ zs[i] ∧ zs[i] ≤ 255 := by simpa [Lit.wf, IntKind.min, IntKind.max, IntKind.signed, IntKind.bits] using h2
      have h4 : ((zs.take len).map Int.toNat)[i] = zs[i].toNat := by simp
      have h5 : zs.getD i 0 = zs[i] := by simp [List.getD_eq_getElem?_getD, hiz]
      rw [h4]
      rw [h5] at h1
      refine ⟨?_, by omega⟩
      rw [h1, show ((zs[i].toNat : Nat) : Int) = zs[i] by omega]
end Go.Proofs.Ytkebfabmcajbmaa.Pl
