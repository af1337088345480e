/- What the document's Xored and Tag of layer 4 answer. -/
import Derived.Test.YtbhcjdpachboaaaDoorKeysBase3
import Derived.Test.YtbhcjdpachboaaaDoorKeysBase5
import Derived.StillTailTactics
namespace Go.Proofs.YtbhcjdpachboaaaDoor.Pl
open Go.RowKit

/-- The first k numbers of l are hidden in m. -/
def Part (sk nonce l m : List Nat) (k : Nat) : Prop := m.length = l.length ∧ ∀ j, j < l.length → m.getD j 0 = if j < k then l.getD j 0 ^^^ ksAt sk nonce j else l.getD j 0
theorem Part.zero (sk nonce l : List Nat) : Part sk nonce l l 0 := ⟨rfl, fun j _ => by rw [if_neg (by omega)]⟩
theorem Part.next {sk nonce l m : List Nat} {k y : Nat} (h : Part sk nonce l m k) (hk : k < l.length) (hy : y = m.getD k 0 ^^^ ksAt sk nonce k) : Part sk nonce l (m.set k y) (k + 1) := by
  refine ⟨by rw [List.length_set]; exact h.1, fun j hj => ?_⟩
  rw [set_getD _ _ _ _ (by rw [h.1]; exact hk), hy]
  by_cases e : j = k
  · rw [if_pos e, e, if_pos (by omega), h.2 k hk, if_neg (by omega)]
  · rw [if_neg e, h.2 j hj]
    by_cases h' : j < k
    · rw [if_pos h', if_pos (by omega)]
    · rw [if_neg h', if_neg (by omega)]
theorem Part.more {sk nonce l m : List Nat} {k k' : Nat} (h : Part sk nonce l m k) (hk : l.length ≤ k) (hk' : l.length ≤ k') : Part sk nonce l m k' :=
  ⟨h.1, fun j hj => by rw [h.2 j hj, if_pos (by omega), if_pos (by omega)]⟩
theorem Part.all {sk nonce l m : List Nat} {k : Nat} (h : Part sk nonce l m k) (hk : l.length ≤ k) : m = hide sk nonce l := by
  apply listD_ext (by rw [h.1, hide_length])
  intro i hi
  rw [h.1] at hi
  rw [h.2 i hi, if_pos (by omega), hide, xorf_at _ _ _ hi]

end Go.Proofs.YtbhcjdpachboaaaDoor.Pl
