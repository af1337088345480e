/- How a row of texts that came in reads. -/
import Derived.Test.YtfghhhghhjbiaaaTermMakes
import Derived.Test.YtfghhhghhjbiaaaTermParts
import Derived.ProofKit
import Derived.SliceStrings
import Derived.Laws.AppendOwnNone
namespace Go.Proofs.Ytfghhhghhjbiaaa.Pl
open Go.RowKit Go.ChangeShapes Go.WideShapes

theorem cells_string6 : Try.prog.cellsOf 9 = 1 := by kernel_rfl
theorem open_texts6 {H : Type} {enc : TypeId × Value → H} {w : World} {r : Reach} {b0 base : Nat} {v : Value} {d : DataW H} {ps : List MemPlace}
    (hval : Value.okWide Try.prog w r b0 27 v) (hd : DataW.Trod enc Try.prog w base (fun _ => true) true 27 v d ps) :
    ∃ ao l cap, v = .slice ao (List.length l) cap ∧ TxtRow w ao l ∧ List.length l ≤ cap ∧ List.length l ≤ 9223372036854775807 ∧ (ao = none → cap = 0) := by
  obtain ⟨a, len, cap, rfl⟩ := okWide_slice Try.underlying27 hval
  obtain ⟨fuel, hf⟩ := hd
  rcases open_strings Try.underlying27 Try.underlying9 cells_string6 hf with ⟨hcs, _⟩ | ⟨a', len', cap', ss, hcs, _, hl, hm, hz, _, hcell, hws⟩
  · simp [Value.cells] at hcs
    obtain ⟨rfl, rfl, rfl⟩ := hcs
    exact ⟨none, [], 0, rfl, .inl rfl, Nat.le_refl _, Nat.zero_le _, fun _ => rfl⟩
  · simp [Value.cells] at hcs
    obtain ⟨rfl, rfl, rfl⟩ := hcs
    unfold maxLen at hm hws
    simp at hz
    have hlen : (ss.take len).length = len := by simp; omega
    refine ⟨some a', ss.take len, cap, by rw [hlen], ?_, by omega, by omega, fun h => by cases h⟩
    by_cases h0 : len = 0
    · exact .inl (List.length_eq_zero_iff.1 (by omega))
    · right
      have hc0 := hcell 0 (by omega)
      have hspot : a'.spot = none := by
        rw [show a'.add 0 = a' from rfl] at hc0
        unfold World.cell? at hc0
        cases hs : a'.spot with
        | none => rfl
        | some x =>
          rw [hs] at hc0
          split at hc0
          · simp at hc0
          · cases hc0
      obtain ⟨b, off, sp⟩ := a'
      simp at hspot
      subst hspot
      have hlt : b < w.heap.size := by
        rcases Nat.lt_or_ge b w.heap.size with h | h
        · exact h
        · exfalso
          rw [show (⟨b, off, none⟩ : Addr).add 0 = ⟨b, off, none⟩ from rfl] at hc0
          simp [World.cell?, Array.getElem?_eq_none h] at hc0
      refine ⟨b, off, rfl, hlt, fun i hi => ?_⟩
      have h1 := hcell i (by omega)
      rw [show (⟨b, off, none⟩ : Addr).add i = ⟨b, off + i, none⟩ from by unfold Addr.add; split <;> simp_all] at h1
      rw [h1]
      have e : ss.getD i ByteArray.empty = (ss.take len).getD i ByteArray.empty := by
        have hi2 : i < ss.length := by omega
        simp [List.getD, List.getElem?_take_of_lt (show i < len by omega), hi2]
      rw [e]

theorem infoStr6a : (Try.prog.info? 9).map (fun i => (i.zero, i.size, i.bytes)) = some (some (.string ⟨#[]⟩), 1, 16) := by kernel_rfl
theorem below_of_grown6 {w w' : World} (h : w.grownBy w' (Value.slice none 0 0).ownBlock) : Below w.heap.size w w' :=
  (Below.refl _ w).grown h (Nat.le_refl _) (fun k hk => by simp [Value.ownBlock] at hk)
theorem own_cap {w : World} {B : Nat} {v : Value} {l : List ByteArray} (h : OwnT w B v l) : ∃ q c, v = .slice q l.length c ∧ l.length ≤ c ∧ TxtRow w q l := by
  rcases h.2 with ⟨hv, h0⟩ | ⟨g, cap, cur, hv, hbg, hg, h1, _⟩
  · exact ⟨none, 0, by rw [hv, h0], by omega, .inl (List.length_eq_zero_iff.1 h0)⟩
  · obtain ⟨q, c, e, hr⟩ := ownT_row h
    rw [hv] at e
    injection e with e1 e2 e3
    exact ⟨q, cap, by rw [hv, e1], h1, hr⟩
/-- append([]string(nil), l...). -/
theorem wpList_copy6 {ops : Array Oper} {rest : List Oper} {o : Oper} {a : Act} {Q : Exit → Act → World → Prop} {w : World} (hgd : o.guard = none) (x : Operand)
    (ho : o.op = .call { callee := .builtin .append, args := #[.const (.slice none 0 0), x], argTypes := #[27, 27] })
    (ao : Option Addr) (cap : Nat) (l : List ByteArray) (hx : a.eval x = .slice ao l.length cap) (hs : TxtRow w ao l) (hn : l.length ≤ 1000) (hp : ao = none → cap = 0)
    (h : ∀ q c' w', TxtRow w' q l → l.length ≤ c' → Below w.heap.size w w' → wpList Try.prog ops Q rest (a.put o.dst (.slice q l.length c')) w') : wpList Try.prog ops Q (o :: rest) a w := by
  obtain ⟨i0, hi, hz0, hz1, hz2⟩ := info_parts infoStr6a
  cases ao with
  | none =>
    have h0 : l = [] := by
      rcases hs with h0 | ⟨b, off, hb, _⟩
      · exact h0
      · cases hb
    subst h0
    obtain rfl := hp rfl
    exact wpList_append_own_none hgd _ x 27 ho w.heap.size 9 i0 1 Try.underlying27 hi (.slice none 0 0) 0 [] rfl (World.ownsRow_nil _ _ _ _) hx
      (h none 0 w (.inl rfl) (Nat.le_refl _) (Below.refl _ _))
  | some ad =>
    refine wpList_append_own w hgd _ x 27 ho w.heap.size 9 i0 (.string ⟨#[]⟩) 1 16 Try.underlying27 hi hz0 hz1 hz2 rfl (by decide) (.slice none 0 0) 0 [] rfl ⟨rfl, .inl ⟨rfl, rfl⟩⟩ ad l.length cap (txts l) hx (by rw [txts_length, Nat.mul_one]) ?_ ?_ (by unfold maxLen; omega) (by omega) (Nat.le_refl _) ?_
    · intro j u hu
      have hj := (List.getElem?_eq_some_iff.1 hu).1
      rw [txts_length] at hj
      rcases hs with h0 | ⟨b, off, hb, hlt, hc⟩
      · subst h0; simp at hj
      · cases hb
        rw [txts_at l j hj] at hu
        have e : u = .string (l.getD j ByteArray.empty) := (Option.some.inj hu).symm
        rw [e, show (⟨b, off, none⟩ : Addr).add j = ⟨b, off + j, none⟩ from by unfold Addr.add; split <;> simp_all]
        exact hc j hj
    · intro u hu
      unfold txts at hu
      obtain ⟨z, _, rfl⟩ := List.mem_map.1 hu
      rfl
    · intro v' w' hown hgrow _
      have hown' : OwnT w' w.heap.size v' l := by
        unfold OwnT
        simpa using hown
      obtain ⟨q, c, rfl, hc, hr⟩ := own_cap hown'
      exact h q c w' hr hc (below_of_grown6 hgrow)
end Go.Proofs.Ytfghhhghhjbiaaa.Pl
