/- alive of layer 4 answers true; what long tells. -/
import Derived.Test.YtedidoeoomijjaaDoorCipherOpen
import Derived.Test.YtedidoeoomijjaaDoorSuiteD4
namespace Go.Proofs.YtedidoeoomijjaaDoor.Pl
open Go.RowKit

def Large (k n s : ByteArray) : Prop := 1024 < k.size ∨ 1024 < n.size ∨ 4096 < s.size
theorem not_large {k n s : ByteArray} (h : ¬ Large k n s) : k.size ≤ 1024 ∧ n.size ≤ 1024 ∧ s.size ≤ 4096 := by
  unfold Large at h; omega
theorem zeros_extract (n a b : Nat) (hb : b ≤ n) : (bytesOf (List.replicate n 0)).extract a b = bytesOf (List.replicate (b - a) 0) := by
  apply ByteArray.ext
  apply Array.ext'
  simp [bytesOf, ByteArray.data_extract, Nat.min_eq_left hb]
theorem unfit_zeros : ¬ Fits ⟨#[107]⟩ (bytesOf (List.replicate 44 0)) := by
  unfold Fits tagAt hidOf
  rw [zeros_size, zeros_extract 44 _ _ (by decide), zeros_extract 44 _ _ (by decide)]
  intro h
  have h2 := congrArg nums h
  rw [nums_bytesOf (tagOf_bytes _ _), nums_bytesOf (fun x hx => by rw [List.eq_of_mem_replicate hx]; decide), nums_bytesOf (fun x hx => by rw [List.eq_of_mem_replicate hx]; decide)] at h2
  have e : tkey (nums ⟨#[107]⟩) = _ := tag_k
  rw [e] at h2
  have e2 := h2.trans tag_k0
  revert e2
  decide

end Go.Proofs.YtedidoeoomijjaaDoor.Pl
