/- The padded text, and its blocks. -/
import Derived.Test.YtogadffbnoinmaaDoorShaSpec
namespace Go.Proofs.YtogadffbnoinmaaDoor.Pl

/-- How many bytes 0 stand behind the byte 128. -/
def zs (n : Nat) : Nat := (119 - n % 64) % 64
def padded (m : List Nat) : List Nat := m ++ 128 :: List.replicate (zs m.length) 0 ++ lenB m.length
theorem zs_spec (n : Nat) : (n + 1 + zs n) % 64 = 56 := by unfold zs; omega
theorem zs_before (n z : Nat) (h : z < zs n) : (n + 1 + z) % 64 ≠ 56 := by unfold zs at h; omega
theorem zs_le (n : Nat) : zs n ≤ 63 := by unfold zs; omega
theorem padded_length (m : List Nat) : (padded m).length = m.length + 1 + zs m.length + 8 := by
  simp [padded, lenB_length]; omega
theorem padded_mod (m : List Nat) : (padded m).length % 64 = 0 := by rw [padded_length]; have := zs_spec m.length; omega
theorem Bytes.padded {m : List Nat} (h : Bytes m) : Bytes (padded m) := by
  refine Bytes.append (Bytes.append h ?_) ?_
  · intro x hx
    rcases List.mem_cons.1 hx with rfl | hx
    · decide
    · rw [List.eq_of_mem_replicate hx]; decide
  · intro x hx
    obtain ⟨i, _, rfl⟩ := List.mem_map.1 hx
    exact lenAt_lt _ _
theorem ab_padded (m : List Nat) : ab (padded m) ((padded m).length / 64) = fin m := by
  have hm : m = m.take (64 * (m.length / 64)) ++ tail m := (List.take_append_drop _ _).symm
  have hq : (m.take (64 * (m.length / 64))).length = 64 * (m.length / 64) := by rw [List.length_take]; omega
  have ht := tail_length m
  have hd : (padded m).drop (64 * (m.length / 64)) = tail m ++ 128 :: List.replicate (zs m.length) 0 ++ lenB m.length := by
    rw [padded, List.append_assoc, List.append_assoc, List.drop_append_of_le_length (by omega)]
    rfl
  have h0 : ab (padded m) (m.length / 64) = st m := by
    rw [padded, List.append_assoc, ab_append _ _ _ (by omega), st]
  rw [padded_length]
  by_cases h : 56 ≤ m.length % 64
  · have hz : zs m.length = 119 - m.length % 64 := by unfold zs; omega
    have hb1 : ((padded m).drop (64 * (m.length / 64))).take 64 = base m := by
      rw [hd, base, hz, show 119 - m.length % 64 = (63 - m.length % 64) + 56 by omega, ← List.replicate_append_replicate]
      rw [List.append_assoc, List.cons_append, List.append_assoc, ← List.cons_append, ← List.append_assoc]
      rw [List.take_append_of_le_length (by rw [List.length_append, List.length_cons, List.length_replicate, ht]; omega), List.take_of_length_le (by rw [List.length_append, List.length_cons, List.length_replicate, ht]; omega)]
    have hb2 : ((padded m).drop (64 * (m.length / 64 + 1))).take 64 = List.replicate 56 0 ++ lenB m.length := by
      rw [show 64 * (m.length / 64 + 1) = 64 * (m.length / 64) + 64 by omega, ← List.drop_drop, hd, hz, show 119 - m.length % 64 = (63 - m.length % 64) + 56 by omega, ← List.replicate_append_replicate]
      rw [List.append_assoc, List.cons_append, List.append_assoc, ← List.cons_append, ← List.append_assoc]
      rw [List.drop_left' (by rw [List.length_append, List.length_cons, List.length_replicate, ht]; omega), List.take_of_length_le (by rw [List.length_append, List.length_replicate, lenB_length]; omega)]
    rw [show (m.length + 1 + zs m.length + 8) / 64 = m.length / 64 + 1 + 1 by omega, ab, ab, hb1, hb2, h0, fin, if_pos h]
  · have hz : zs m.length = 55 - m.length % 64 := by unfold zs; omega
    have hb1 : ((padded m).drop (64 * (m.length / 64))).take 64 = (base m).take 56 ++ lenB m.length := by
      have e : (base m).take 56 = tail m ++ 128 :: List.replicate (zs m.length) 0 := by
        rw [base, hz, show 63 - m.length % 64 = (55 - m.length % 64) + 8 by omega, ← List.replicate_append_replicate, ← List.cons_append, ← List.append_assoc]
        rw [List.take_append_of_le_length (by rw [List.length_append, List.length_cons, List.length_replicate, ht]; omega), List.take_of_length_le (by rw [List.length_append, List.length_cons, List.length_replicate, ht]; omega)]
      rw [hd, e, List.take_of_length_le (by rw [List.length_append, List.length_append, List.length_cons, List.length_replicate, lenB_length, ht]; omega)]
    rw [show (m.length + 1 + zs m.length + 8) / 64 = m.length / 64 + 1 by omega, ab, hb1, h0, fin, if_neg h]
end Go.Proofs.YtogadffbnoinmaaDoor.Pl
