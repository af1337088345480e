/- How many are known of some texts, and of their beginnings; plain mathematics alone. -/
import Derived.Test.YtkebfabmcajbmaaKnowD1
namespace Go.Proofs.Ytkebfabmcajbmaa.Pl
open Go.RowKit

theorem learnH_sub (H : List (List UInt8)) (t : List UInt8) : ∀ s ∈ learnH H t, s = t ∨ s ∈ H := by
  intro s hs
  unfold learnH at hs
  split at hs
  · exact List.mem_cons.1 hs
  · exact .inr hs
theorem learns_sub : ∀ (l H : List (List UInt8)), ∀ s ∈ learns H l, s ∈ l ∨ s ∈ H
  | [], _, _, h => .inr h
  | t :: l, H, s, h => by
    rcases learns_sub l (learnH H t) s h with h | h
    · exact .inl (List.mem_cons.2 (.inr h))
    · rcases learnH_sub H t s h with rfl | h
      · exact .inl (List.mem_cons.2 (.inl rfl))
      · exact .inr h
theorem cnt_sub {H K : List (List UInt8)} (h : ∀ s ∈ H, s ∈ K) : 3 * cntP H ≤ (K.map List.length).sum := by
  have h1 := cnt_cover (H := H) (C := coverP K) fun s hs => known_cover (known_mono h hs)
  have h2 := cover_len K
  omega
theorem sum_front (l : List (List UInt8)) (k : Nat) : ((l.take k).map List.length).sum ≤ (l.map List.length).sum := by
  have h : (l.map List.length).sum = ((l.take k).map List.length).sum + ((l.drop k).map List.length).sum := by
    rw [← List.sum_append, ← List.map_append, List.take_append_drop]
  omega
/-- One more is learnt just where it is a term, where there is room. -/
theorem learn_step {l : List (List UInt8)} (hl : (l.map List.length).sum ≤ 6000) {k : Nat} (hk : k < l.length) : learnE (learns [] (l.take k)) l[k] = 0 ↔ checkP l[k] = 0 := by
  refine learn_iff ?_
  have h1 := cnt_sub (H := l[k] :: learns [] (l.take k)) (K := l.take (k + 1)) (fun s hs => by
    rw [List.take_succ_eq_append_getElem hk, List.mem_append, List.mem_singleton]
    rcases List.mem_cons.1 hs with h | h
    · exact .inr h
    · rcases learns_sub _ _ s h with h | h
      · exact .inl h
      · cases h)
  have h2 := sum_front l (k + 1)
  omega
end Go.Proofs.Ytkebfabmcajbmaa.Pl
