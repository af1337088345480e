/- OctetApart answers true, whatever it is given: the walks put together; and how a row of texts that came in reads. -/
import Derived.Test.YtdddmaobmdinbaaApart
import Derived.ProofKit
import Derived.SliceStrings
namespace Go.Proofs.Ytdddmaobmdinbaa.Pl
open Go.RowKit Go.ChangeShapes Go.WideShapes

theorem cells_string : Try.prog.cellsOf 9 = 1 := by kernel_rfl
theorem open_texts {H : Type} {enc : TypeId × Value → H} {w : World} {r : Reach} {b0 base : Nat} {v : Value} {d : DataW H} {ps : List MemPlace}
    (hval : Value.okWide Try.prog w r b0 29 v) (hd : DataW.Trod enc Try.prog w base (fun _ => true) true 29 v d ps) :
    ∃ p n cap ss, v = .slice p n cap ∧ Src w p n ss ∧ (p = none → cap = 0) ∧ n ≤ 9223372036854775807 ∧ ∀ s ∈ ss, s.size ≤ 9223372036854775807 := by
  obtain ⟨a, len, cap, rfl⟩ := okWide_slice Try.underlying29 hval
  obtain ⟨fuel, hf⟩ := hd
  rcases open_strings Try.underlying29 Try.underlying9 cells_string hf with ⟨hcs, _⟩ | ⟨a', len', cap', ss, hcs, _, hl, hm, hz, _, hcell, hws⟩
  · simp [Value.cells] at hcs
    obtain ⟨rfl, rfl, rfl⟩ := hcs
    exact ⟨none, 0, 0, [], rfl, ⟨rfl, .inl rfl⟩, fun _ => rfl, Nat.zero_le _, fun s hs => by cases hs⟩
  · simp [Value.cells] at hcs
    obtain ⟨rfl, rfl, rfl⟩ := hcs
    unfold maxLen at hm hws
    simp at hz
    have hlen : (ss.take len).length = len := by simp; omega
    refine ⟨some a', len, cap, ss.take len, rfl, ⟨hlen, ?_⟩, (fun h => by cases h), (by omega), (fun s hs => by have := hws s (List.mem_of_mem_take hs); omega)⟩
    by_cases h0 : len = 0
    · exact .inl h0
    · right
      have hc0 := hcell 0 (by omega)
      have hspot : a'.spot = none := by
        rw [show a'.add 0 = a' from rfl] at hc0
        unfold World.cell? at hc0
        cases hs : a'.spot with
        | none => rfl
        | some x =>
          rw [hs] at hc0
          split at hc0
          · simp at hc0
          · cases hc0
      obtain ⟨b, off, sp⟩ := a'
      simp at hspot
      subst hspot
      refine ⟨b, off, rfl, hlen, fun i hi => ?_⟩
      have h1 := hcell i (by omega)
      rw [show (⟨b, off, none⟩ : Addr).add i = ⟨b, off + i, none⟩ from by unfold Addr.add; split <;> simp_all] at h1
      rw [h1]
      have e : ss.getD i ByteArray.empty = (ss.take len).getD i ⟨#[]⟩ := by
        have hi2 : i < ss.length := by omega
        simp [List.getD, List.getElem?_take_of_lt hi, hi2]
      rw [e]

theorem apart_any (v u : Nat) (p q : Option Addr) (n m c1 c2 : Nat) (ss ts : List ByteArray) (w : World) (hv : v < 256 ^ 8) (hu : u < 256 ^ 8) (h1 : Src w p n ss) (h2 : Src w q m ts)
    (hp : p = none → c1 = 0) (hq : q = none → c2 = 0) (hn : n ≤ 9223372036854775807) (hm : m ≤ 9223372036854775807) :
    Calls Try.prog 7 #[.int .u64 v, .int .u64 u, .slice p n c1, .slice q m c2] w fun e w' => e = .returned (.bool true) ∧ Below w.heap.size w w' := by
  cases hl : longB ss with
  | true => exact apart_long1 v u p q n m c1 c2 ss w h1 hn hl
  | false =>
    cases hl2 : longB ts with
    | true => exact apart_long2 v u p q n m c1 c2 ss ts w h1 hn hl h2 hm hl2
    | false =>
      rcases h1.2 with h0 | ⟨b, off, rfl, t1⟩
      · subst h0
        by_cases hm0 : m = 0
        · subst hm0
          exact apart_00 v u p q c1 c2 ss ts w hv hu h1 hl h2 hl2 hp hq
        · exact apart_0m v u p q m c1 c2 ss ts w hv hu h1 hl h2 hl2 (by omega)
      · by_cases hn0 : n = 0
        · subst hn0
          by_cases hm0 : m = 0
          · subst hm0
            exact apart_00 v u _ q c1 c2 ss ts w hv hu h1 hl h2 hl2 hp hq
          · exact apart_0m v u _ q m c1 c2 ss ts w hv hu h1 hl h2 hl2 (by omega)
        · rcases h2.2 with h0 | ⟨b', off', rfl, t2⟩
          · subst h0
            exact apart_n0 v u _ q n c1 c2 ss ts w hv hu h1 hl h2 hl2 (by omega)
          · exact apart_nm v u b off b' off' n m c1 c2 ss ts w hv hu h1 hl h2 hl2 t1 t2
end Go.Proofs.Ytdddmaobmdinbaa.Pl
