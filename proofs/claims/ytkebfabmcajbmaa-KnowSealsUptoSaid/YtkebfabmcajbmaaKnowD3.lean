/- append(l, t) of a text to a row that the call owns: where the longer row lies, and that elder rows stay, also those that share its block. What the document's ReadNum of layer 6 answers: the number in a datum. How a row of texts that came in reads. What Long of layer 6 tells of a row of texts. -/
import Derived.Test.YtkebfabmcajbmaaTermParts
import Derived.Laws.AppendOwn
import Derived.Test.YtkebfabmcajbmaaTermMakes
import Derived.ProofKit
import Derived.SliceStrings
import Derived.Laws.AppendOwnNone
import Derived.Lib.Hide
namespace Go.Proofs.Ytkebfabmcajbmaa.Pl
open Go.RowKit

theorem app10_run {W1 : World} {n₀ : Nat} {v : Value} {l : List ByteArray} (y : ByteArray) (hrow : OwnT W1 n₀ v l) (hn : n₀ ≤ W1.heap.size) (hl : l.length ≤ 1000000000) :
    ∃ v' w', (Builtin.append_ #[22, 22] 22 #[v, .slice (some ⟨W1.heap.size, 0, none⟩) 1 1]).run Try.prog (W1.alloc (.cells #[.string y] 9)) = .ok v' w' ∧ OwnT w' n₀ v' (l ++ [y]) ∧
      (W1.alloc (.cells #[.string y] 9)).grownBy w' v.ownBlock ∧ ((v'.ownBlock = v.ownBlock ∧ v.ownBlock ≠ none) ∨ (v'.ownBlock = some (W1.heap.size + 1) ∧ (W1.alloc (.cells #[.string y] 9)).grownBy w' none)) := by
  obtain ⟨i0, hi, hz0, hz1, hz2⟩ := info_parts infoStr
  have hnews : ∀ (j : Nat) (u : Value), [Value.string y][j]? = some u → (W1.alloc (.cells #[.string y] 9)).cell? ((⟨W1.heap.size, 0, none⟩ : Addr).add j) = some u := by
    intro j u hj
    match j, hj with
    | 0, hj => simp at hj; subst hj; simp [Addr.add]
    | (j + 1), hj => simp at hj
  have hone : ∀ u ∈ [Value.string y], u.oneCell' = true := by intro u hu; simp at hu; subst hu; rfl
  obtain ⟨v', w', hrun, hown', hgrow, _⟩ := run_append_own (P := Try.prog) (W1.alloc (.cells #[.string y] 9)) n₀ 22 22 9 i0 (.string ⟨#[]⟩) 1 16 Try.underlying22 hi hz0 hz1 hz2 rfl (by decide) v l.length (txts l) (World.ownsRow.alloc hrow _) ⟨W1.heap.size, 0, none⟩ 1 1 [.string y] rfl hnews hone (by unfold maxLen; omega) (by omega) (by simp; omega)
  refine ⟨v', w', hrun, ?_, hgrow, ?_⟩
  · unfold OwnT
    rw [List.length_append, List.length_singleton, show txts (l ++ [y]) = txts l ++ [.string y] by simp [txts]]
    exact hown'
  · have hrow2 := World.ownsRow.alloc hrow (.cells #[.string y] 9)
    rcases hrow2.2 with ⟨rfl, _⟩ | ⟨g, cap, cur, rfl, hbg, hg, hnc, hcm, hcs, htake⟩
    · right
      have hr := run_append_nil (P := Try.prog) (W1.alloc (.cells #[.string y] 9)) 22 22 9 i0 (.string ⟨#[]⟩) Try.underlying22 hi hz0 ⟨W1.heap.size, 0, none⟩ 1 1 [.string y] (by rw [hz1]; rfl) hnews (by omega) (by omega) (by rw [hz2]; decide)
      rw [hrun] at hr
      injection hr with h1 h2
      refine ⟨by rw [h1]; simp [Value.ownBlock], hgrow⟩
    · by_cases hroom : l.length + 1 ≤ cap
      · left
        have hfit : l.length * i0.size + [Value.string y].length ≤ cur.size := by rw [hz1, hcs]; simp; omega
        have hr := run_append_room (P := Try.prog) (W1.alloc (.cells #[.string y] 9)) 22 22 9 i0 Try.underlying22 hi g l.length cap cur hg ⟨W1.heap.size, 0, none⟩ 1 1 [.string y] (by rw [hz1]; rfl) hnews hone hroom hfit
        rw [hrun] at hr
        injection hr with h1 h2
        exact ⟨by rw [h1]; rfl, by simp [Value.ownBlock]⟩
      · right
        have holds : ∀ j u, (txts l)[j]? = some u → (W1.alloc (.cells #[.string y] 9)).cell? ((⟨g, 0, none⟩ : Addr).add j) = some u := hrow2.cells (g := g) rfl
        have hr := run_append_grow (P := Try.prog) (W1.alloc (.cells #[.string y] 9)) 22 22 9 i0 (.string ⟨#[]⟩) Try.underlying22 hi hz0 ⟨g, 0, none⟩ l.length cap (txts l) (by rw [hz1, txts_length, Nat.mul_one]) holds ⟨W1.heap.size, 0, none⟩ 1 1 [.string y] (by rw [hz1]; rfl) hnews (by omega) (by omega) (by rw [hz2]; exact growslice_fits (by omega) (by omega))
        rw [hrun] at hr
        injection hr with h1 h2
        refine ⟨by rw [h1]; simp [Value.ownBlock], ?_⟩
        rw [h2]
        exact ⟨rfl, rfl, rfl, by simp, fun k hk _ => Below.heap_alloc _ _ k hk⟩
/-- A row that shares its block with the one that grows, if it does, is its front. -/
def OldV (v : Value) (n : Nat) (ao : Option Addr) (l0 : List ByteArray) : Prop := ∀ b off, ao = some ⟨b, off, none⟩ → l0 ≠ [] → v.ownBlock = some b → off = 0 ∧ l0.length ≤ n
theorem own_at {W : World} {B g cap : Nat} {l : List ByteArray} (h : OwnT W B (.slice (some ⟨g, 0, none⟩) l.length cap) l) (j : Nat) (hj : j < l.length) : W.cell? ⟨g, j, none⟩ = some (.string (l.getD j ByteArray.empty)) := by
  have h' := h
  unfold OwnT at h'
  have := h'.cells (g := g) rfl j _ (txts_at l j hj)
  rwa [show (⟨g, 0, none⟩ : Addr).add j = ⟨g, j, none⟩ from by unfold Addr.add; split <;> simp_all] at this
theorem own_block {W : World} {B b : Nat} {v : Value} {l : List ByteArray} (h : OwnT W B v l) (hb : v.ownBlock = some b) : ∃ cap, v = .slice (some ⟨b, 0, none⟩) l.length cap := by
  rcases h.2 with ⟨rfl, _⟩ | ⟨g, cap, cur, rfl, _⟩
  · cases hb
  · obtain rfl : g = b := Option.some.inj hb
    exact ⟨cap, rfl⟩
/-- The elder row stays. -/
theorem app10_old {W1 w' : World} {n₀ : Nat} {v v' : Value} {l l0 : List ByteArray} {y : ByteArray} {ao : Option Addr} (hrow : OwnT W1 n₀ v l) (hown : OwnT w' n₀ v' (l ++ [y])) (hgrow : (W1.alloc (.cells #[.string y] 9)).grownBy w' v.ownBlock)
    (hloc : (v'.ownBlock = v.ownBlock ∧ v.ownBlock ≠ none) ∨ (v'.ownBlock = some (W1.heap.size + 1) ∧ (W1.alloc (.cells #[.string y] 9)).grownBy w' none)) (h : TxtRow W1 ao l0) (ho : OldV v l.length ao l0) : TxtRow w' ao l0 ∧ OldV v' (l ++ [y]).length ao l0 := by
  have hal := h.below ((Below.refl W1.heap.size W1).alloc (Nat.le_refl _) (.cells #[.string y] 9))
  rcases hloc with ⟨he, hne⟩ | ⟨he, hg⟩
  · constructor
    · by_cases hsame : ∃ b off, ao = some ⟨b, off, none⟩ ∧ l0 ≠ [] ∧ v.ownBlock = some b
      · obtain ⟨b, off, rfl, hl0, hb⟩ := hsame
        obtain ⟨rfl, hlen⟩ := ho b off rfl hl0 hb
        obtain ⟨cap, rfl⟩ := own_block hrow hb
        obtain ⟨cap', rfl⟩ := own_block hown (he.trans hb)
        rcases h with h | ⟨b2, off2, e, hlt, hc⟩
        · exact absurd h hl0
        · cases e
          have hsz := hgrow.size
          rw [World.size_alloc] at hsz
          refine .inr ⟨b, 0, rfl, by omega, fun j hj => ?_⟩
          have h1 := hc j hj
          have h2 := own_at hrow j (by omega)
          have h3 := own_at hown j (by rw [List.length_append]; omega)
          rw [Nat.zero_add] at h1 ⊢
          rw [h3, ← h1, h2]
          simp [List.getD_eq_getElem?_getD, List.getElem?_append_left (show j < l.length by omega)]
      · by_cases hl0 : l0 = []
        · exact .inl hl0
        · exact hal.grown hgrow fun b off e hb => hsame ⟨b, off, e, hl0, hb⟩
    · intro b off e hl0 hb
      have := ho b off e hl0 (he ▸ hb)
      exact ⟨this.1, by rw [List.length_append]; omega⟩
  · refine ⟨hal.grown hg (fun b off _ hb => by cases hb), fun b off e hl0 hb => ?_⟩
    exfalso
    rcases h with h | ⟨b2, off2, e2, hlt, _⟩
    · exact hl0 h
    · rw [e] at e2
      cases e2
      rw [he] at hb
      have := Option.some.inj hb
      omega
/-- The operation, in a plain region. -/
theorem wpList_app10 {ops : Array Oper} {rest : List Oper} {o : Oper} {a : Act} {Q : Exit → Act → World → Prop} (hgd : o.guard = none) (s x : Operand)
    (ho : o.op = .call { callee := .builtin .append, args := #[s, x], argTypes := #[22, 22] }) (hty : o.type = 22) {W1 : World} {n₀ : Nat} {v : Value} {l : List ByteArray} (y : ByteArray) (hs : a.eval s = v) (hx : a.eval x = .slice (some ⟨W1.heap.size, 0, none⟩) 1 1)
    (hrow : OwnT W1 n₀ v l) (hn : n₀ ≤ W1.heap.size) (hl : l.length ≤ 1000000000)
    (K : ∀ v' w', OwnT w' n₀ v' (l ++ [y]) → (W1.alloc (.cells #[.string y] 9)).grownBy w' v.ownBlock → ((v'.ownBlock = v.ownBlock ∧ v.ownBlock ≠ none) ∨ (v'.ownBlock = some (W1.heap.size + 1) ∧ (W1.alloc (.cells #[.string y] 9)).grownBy w' none)) → wpList Try.prog ops Q rest (a.put o.dst v') w') :
    wpList Try.prog ops Q (o :: rest) a (W1.alloc (.cells #[.string y] 9)) := by
  refine wpList_plain hgd fun _ hK => ?_
  obtain ⟨v', w', hr, h2, h3, h4⟩ := app10_run y hrow hn hl
  unfold Oper.wp execOp
  simp only [ho, hty, resolve, invoke, builtin, Sem.run_bind, Sem.run_pure, Result.andThen_ok, List.map_toArray, List.map_cons, List.map_nil, hs, hx, hr]
  exact hK _ _ (K v' w' h2 h3 h4)
end Go.Proofs.Ytkebfabmcajbmaa.Pl

namespace Go.Proofs.Ytkebfabmcajbmaa.Pl
open Go.RowKit

theorem rdt_out (l : List UInt8) (m : Int) : (rdt l m).1.length ≤ l.length := by
  unfold rdt
  by_cases h1 : (rdn l).2.2 ≠ 0
  · rw [if_pos h1]; simp
  · rw [if_neg h1]
    by_cases h2 : max m 0 < ((rdn l).1 : Int)
    · rw [if_pos h2]; simp
    · rw [if_neg h2]
      by_cases h3 : l.length - (rdn l).2.1 < (rdn l).1
      · rw [if_pos h3]; simp
      · rw [if_neg h3]; simp; omega
end Go.Proofs.Ytkebfabmcajbmaa.Pl

namespace Go.Proofs.Ytkebfabmcajbmaa.Pl
open Go.RowKit Go.ChangeShapes Go.WideShapes

theorem cells_string6 : Try.prog.cellsOf 9 = 1 := by kernel_rfl
set_option maxRecDepth 100000 in
theorem open_texts6 {H : Type} {enc : TypeId × Value → H} {w : World} {r : Reach} {b0 base : Nat} {v : Value} {d : DataW H} {ps : List MemPlace}
    (hval : Value.okWide Try.prog w r b0 22 v) (hd : DataW.Trod enc Try.prog w base (fun _ => true) true 22 v d ps) :
    ∃ ao l cap, v = .slice ao (List.length l) cap ∧ TxtRow w ao l ∧ List.length l ≤ cap ∧ List.length l ≤ 9223372036854775807 ∧ (ao = none → cap = 0) := by
  obtain ⟨a, len, cap, rfl⟩ := okWide_slice Try.underlying22 hval
  obtain ⟨fuel, hf⟩ := hd
  rcases open_strings Try.underlying22 Try.underlying9 cells_string6 hf with ⟨hcs, _⟩ | ⟨a', len', cap', ss, hcs, _, hl, hm, hz, _, hcell, hws⟩
  · simp [Value.cells] at hcs
    obtain ⟨rfl, rfl, rfl⟩ := hcs
    exact ⟨none, [], 0, rfl, .inl rfl, Nat.le_refl _, Nat.zero_le _, fun _ => rfl⟩
  · simp [Value.cells] at hcs
    obtain ⟨rfl, rfl, rfl⟩ := hcs
    unfold maxLen at hm hws
    simp at hz
    have hlen : (ss.take len).length = len := by simp; omega
    refine ⟨some a', ss.take len, cap, by rw [hlen], ?_, by omega, by omega, fun h => by cases h⟩
    by_cases h0 : len = 0
    · exact .inl (List.length_eq_zero_iff.1 (by omega))
    · right
      have hc0 := hcell 0 (by omega)
      have hspot : a'.spot = none := by
        rw [show a'.add 0 = a' from rfl] at hc0
        unfold World.cell? at hc0
        cases hs : a'.spot with
        | none => rfl
        | some x =>
          rw [hs] at hc0
          split at hc0
          · simp at hc0
          · cases hc0
      obtain ⟨b, off, sp⟩ := a'
      simp at hspot
      subst hspot
      have hlt : b < w.heap.size := by
        rcases Nat.lt_or_ge b w.heap.size with h | h
        · exact h
        · exfalso
          rw [show (⟨b, off, none⟩ : Addr).add 0 = ⟨b, off, none⟩ from rfl] at hc0
          simp [World.cell?, Array.getElem?_eq_none h] at hc0
      refine ⟨b, off, rfl, hlt, fun i hi => ?_⟩
      have h1 := hcell i (by omega)
      rw [show (⟨b, off, none⟩ : Addr).add i = ⟨b, off + i, none⟩ from by unfold Addr.add; split <;> simp_all] at h1
      rw [h1]
      have e : ss.getD i ByteArray.empty = (ss.take len).getD i ByteArray.empty := by
        have hi2 : i < ss.length := by omega
        simp [List.getD, List.getElem?_take_of_lt (show i < len by omega), hi2]
      rw [e]

end Go.Proofs.Ytkebfabmcajbmaa.Pl

namespace Go.Proofs.Ytkebfabmcajbmaa.Pl
open Go.RowKit

end Go.Proofs.Ytkebfabmcajbmaa.Pl
