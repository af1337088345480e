/- What order and how often have to do with what is known: nothing; plain mathematics alone. -/
import Derived.Test.YtkebfabmcajbmaaKnowSeenP
import Derived.Test.YtkebfabmcajbmaaKnowOwn10
import Derived.Test.YtkebfabmcajbmaaKnowLong
namespace Go.Proofs.Ytkebfabmcajbmaa.Pl

/-- To learn anew what was seen, tells nothing. -/
theorem learnH_same {H : List (List UInt8)} {t : List UInt8} (h : checkP t = 0 → t ∈ H) : ∀ s, s ∈ learnH H t ↔ s ∈ H := by
  intro s
  unfold learnH
  split
  · rename_i h1
    have hc : checkP t = 0 := by
      unfold learnE at h1
      split at h1
      · cases h1
      · rename_i h2
        exact Classical.byContradiction h2
    rw [List.mem_cons]
    exact ⟨fun k => k.elim (fun e => e ▸ h hc) id, .inr⟩
  · exact Iff.rfl
theorem learns_same : ∀ (l H : List (List UInt8)), (∀ t ∈ l, checkP t = 0 → t ∈ H) → ∀ s, s ∈ learns H l ↔ s ∈ H
  | [], _, _, _ => Iff.rfl
  | t :: l, H, h, s => by
    have h1 := learnH_same (h t (List.mem_cons.2 (.inl rfl)))
    show s ∈ learns (learnH H t) l ↔ _
    rw [learns_same l (learnH H t) (fun u hu hc => (h1 u).2 (h u (List.mem_cons.2 (.inr hu)) hc)) s, h1 s]
theorem sum_turned (l : List (List UInt8)) (n : Nat) : ((l.drop n ++ l.take n).map List.length).sum = (l.map List.length).sum := by
  have h : (l.map List.length).sum = ((l.take n).map List.length).sum + ((l.drop n).map List.length).sum := by
    rw [← List.sum_append, ← List.map_append, List.take_append_drop]
  rw [List.map_append, List.sum_append]
  omega
theorem mem_turned (l : List (List UInt8)) (n : Nat) (s : List UInt8) : s ∈ l.drop n ++ l.take n ↔ s ∈ l := by
  rw [List.mem_append, or_comm, ← List.mem_append, List.take_append_drop]
/-- Who has seen some in another order, has seen the same. -/
theorem learns_turned {l : List (List UInt8)} (hl : (l.map List.length).sum ≤ 6000) (n : Nat) (s : List UInt8) (hs : checkP s = 0) : s ∈ learns [] l ↔ s ∈ learns [] (l.drop n ++ l.take n) := by
  rw [learns_all l [] (by rw [List.append_nil]; exact hl) s hs, learns_all _ [] (by rw [List.append_nil, sum_turned]; exact hl) s hs, mem_turned]
/-- And sees nothing new in what it has seen. -/
theorem learns_anew {l : List (List UInt8)} (hl : (l.map List.length).sum ≤ 6000) (n : Nat) (s : List UInt8) (hs : checkP s = 0) : s ∈ learns [] l ↔ s ∈ learns (learns [] (l.drop n ++ l.take n)) l := by
  rw [learns_same l _ (fun t ht hc => (learns_turned hl n t hc).1 ((learns_all l [] (by rw [List.append_nil]; exact hl) t hc).2 (.inl ht))) s]
  exact learns_turned hl n s hs
/-- Whatever can be made of the ones, can be made of the others that have seen them. -/
theorem can_subset {H K : List (List UInt8)} (h : ∀ s, checkP s = 0 → s ∈ H → s ∈ K) {s : List UInt8} (hc : canP H s) : canP K s := by
  have h1 : canP (H ++ K) s := canP_mono (fun s hs => List.mem_append.2 (.inl hs)) hc
  exact (canP_same (fun u hu => ⟨fun k => (List.mem_append.1 k).elim (h u hu) id, fun k => List.mem_append.2 (.inr k)⟩) s).1 h1
/-- Lists of what is known, in the order of their bytes, are the same. -/
theorem lists_same {H K : List (List UInt8)} (h : ∀ s, checkP s = 0 → (s ∈ H ↔ s ∈ K)) {L M : List ByteArray} (hL : SortK H (L.map bl)) (hM : SortK K (M.map bl)) : L = M := by
  have := sortK_uniq hL (sortK_same (fun s hs => (h s hs).symm) hM)
  exact (List.map_inj_right (fun _ _ e => bl_inj e)).1 this
end Go.Proofs.Ytkebfabmcajbmaa.Pl
