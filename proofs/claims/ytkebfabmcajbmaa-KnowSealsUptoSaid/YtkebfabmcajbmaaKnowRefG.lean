/- What the document's Can of layer 10 answers of who has seen some texts. -/
import Derived.Test.YtkebfabmcajbmaaKnowRefE
namespace Go.Proofs.Ytkebfabmcajbmaa.Pl
open Go.RowKit

open Classical in
noncomputable def canPB (H : List (List UInt8)) (s : List UInt8) : Bool := decide (canP H s)
open Classical in
theorem canPB_iff {H : List (List UInt8)} {s : List UInt8} : canPB H s = true ↔ canP H s := by unfold canPB; exact decide_eq_true_iff
theorem canPB_no {H : List (List UInt8)} {s : List UInt8} (h : ¬ canP H s) : canPB H s = false := by
  rw [← Bool.not_eq_true, canPB_iff]
  exact h
theorem canPB_same {H K : List (List UInt8)} (h : ∀ s, checkP s = 0 → (s ∈ H ↔ s ∈ K)) (s : List UInt8) : canPB H s = canPB K s := by
  rw [Bool.eq_iff_iff, canPB_iff, canPB_iff]
  exact canP_same h s
end Go.Proofs.Ytkebfabmcajbmaa.Pl
