/- The tag of a text under a key, over plain numbers. -/
import Derived.Test.YtogadffbnoinmaaDoorShaDig
import Derived.Test.YtogadffbnoinmaaDoorHmacEval
namespace Go.Proofs.YtogadffbnoinmaaDoor.Pl

/-- A key, or its hash if it is long. -/
noncomputable def kshort (k : List Nat) : List Nat := if 64 < k.length then digest k else k
/-- The block of a key. -/
noncomputable def kblock (k : List Nat) : List Nat := kshort k ++ List.replicate (64 - (kshort k).length) 0
def xorb (n : Nat) (l : List Nat) : List Nat := l.map fun x => x ^^^ n
/-- The tag. -/
noncomputable def tagOf (k m : List Nat) : List Nat := digest (xorb 92 (kblock k) ++ digest (xorb 54 (kblock k) ++ m))
theorem kshort_length (k : List Nat) : (kshort k).length ≤ 64 := by
  unfold kshort; split
  · rw [digest_length]; decide
  · omega
theorem kblock_length (k : List Nat) : (kblock k).length = 64 := by
  have := kshort_length k
  rw [kblock, List.length_append, List.length_replicate]; omega
theorem kblock_bytes {k : List Nat} (h : Bytes k) : Bytes (kblock k) := by
  refine Bytes.append ?_ ?_
  · unfold kshort; split
    · exact digest_bytes _
    · exact h
  · intro x hx; rw [List.eq_of_mem_replicate hx]; decide
theorem xorb_length (n : Nat) (l : List Nat) : (xorb n l).length = l.length := by simp [xorb]
theorem xorb_bytes {n : Nat} (hn : n < 256) {l : List Nat} (h : Bytes l) : Bytes (xorb n l) := by
  intro x hx
  obtain ⟨y, hy, rfl⟩ := List.mem_map.1 hx
  exact Nat.xor_lt_two_pow (n := 8) (h y hy) hn
theorem tagOf_length (k m : List Nat) : (tagOf k m).length = 32 := digest_length _
theorem tagOf_bytes (k m : List Nat) : Bytes (tagOf k m) := digest_bytes _
/-- A long key's block is its hash's. -/
theorem kblock_long (k : List Nat) (h : 64 < k.length) : kblock (digest k) = kblock k := by
  have e : kshort k = digest k := if_pos h
  have e' : kshort (digest k) = digest k := if_neg (by rw [digest_length]; decide)
  rw [kblock, kblock, e, e']
theorem tagOf_long (k m : List Nat) (h : 64 < k.length) : tagOf (digest k) m = tagOf k m := by rw [tagOf, tagOf, kblock_long k h]
/-- A short key's block bears bytes 0 behind it. -/
theorem kblock_more (k : List Nat) (n : Nat) (h : k.length + n ≤ 64) : kblock (k ++ List.replicate n 0) = kblock k := by
  have e : kshort k = k := if_neg (by omega)
  have e' : kshort (k ++ List.replicate n 0) = k ++ List.replicate n 0 := if_neg (by rw [List.length_append, List.length_replicate]; omega)
  rw [kblock, kblock, e, e', List.append_assoc, List.length_append, List.length_replicate, List.replicate_append_replicate, show n + (64 - (k.length + n)) = 64 - k.length by omega]
theorem tagOf_more (k m : List Nat) (n : Nat) (h : k.length + n ≤ 64) : tagOf (k ++ List.replicate n 0) m = tagOf k m := by rw [tagOf, tagOf, kblock_more k n h]
set_option maxRecDepth 100000 in
theorem tag_jefe : tagOf [74, 101, 102, 101] [119, 104, 97, 116, 32, 100, 111, 32, 121, 97, 32, 119, 97, 110, 116, 32, 102, 111, 114, 32, 110, 111, 116, 104, 105, 110, 103, 63] = [91, 220, 193, 70, 191, 96, 117, 78, 106, 4, 36, 38, 8, 149, 117, 199, 90, 0, 63, 8, 157, 39, 57, 131, 157, 236, 88, 185, 100, 236, 56, 67] := by
  have e : kblock [74, 101, 102, 101] = [74, 101, 102, 101] ++ List.replicate 60 0 := by rw [kblock, kshort, if_neg (by decide)]; rfl
  have h1 : xorb 54 ([74, 101, 102, 101] ++ List.replicate 60 0) ++ [119, 104, 97, 116, 32, 100, 111, 32, 121, 97, 32, 119, 97, 110, 116, 32, 102, 111, 114, 32, 110, 111, 116, 104, 105, 110, 103, 63] = [124, 83, 80, 83, 54, 54, 54, 54, 54, 54, 54, 54, 54, 54, 54, 54, 54, 54, 54, 54, 54, 54, 54, 54, 54, 54, 54, 54, 54, 54, 54, 54, 54, 54, 54, 54, 54, 54, 54, 54, 54, 54, 54, 54, 54, 54, 54, 54, 54, 54, 54, 54, 54, 54, 54, 54, 54, 54, 54, 54, 54, 54, 54, 54, 119, 104, 97, 116, 32, 100, 111, 32, 121, 97, 32, 119, 97, 110, 116, 32, 102, 111, 114, 32, 110, 111, 116, 104, 105, 110, 103, 63] := by decide
  have h2 : xorb 92 ([74, 101, 102, 101] ++ List.replicate 60 0) ++ [162, 228, 133, 134, 61, 39, 249, 216, 100, 172, 141, 128, 36, 50, 161, 237, 71, 125, 140, 76, 111, 52, 157, 22, 212, 231, 233, 23, 198, 41, 202, 215] = [22, 57, 58, 57, 92, 92, 92, 92, 92, 92, 92, 92, 92, 92, 92, 92, 92, 92, 92, 92, 92, 92, 92, 92, 92, 92, 92, 92, 92, 92, 92, 92, 92, 92, 92, 92, 92, 92, 92, 92, 92, 92, 92, 92, 92, 92, 92, 92, 92, 92, 92, 92, 92, 92, 92, 92, 92, 92, 92, 92, 92, 92, 92, 92, 162, 228, 133, 134, 61, 39, 249, 216, 100, 172, 141, 128, 36, 50, 161, 237, 71, 125, 140, 76, 111, 52, 157, 22, 212, 231, 233, 23, 198, 41, 202, 215] := by decide
  rw [tagOf, e, h1, dig_jefe_in, h2, dig_jefe_out]
set_option maxRecDepth 100000 in
theorem tag_twenty : tagOf (List.replicate 20 11) [72, 105, 32, 84, 104, 101, 114, 101] = [176, 52, 76, 97, 216, 219, 56, 83, 92, 168, 175, 206, 175, 11, 241, 43, 136, 29, 194, 0, 201, 131, 61, 167, 38, 233, 55, 108, 46, 50, 207, 247] := by
  have e : kblock (List.replicate 20 11) = List.replicate 20 11 ++ List.replicate 44 0 := by rw [kblock, kshort, if_neg (by decide)]; rfl
  have h1 : xorb 54 (List.replicate 20 11 ++ List.replicate 44 0) ++ [72, 105, 32, 84, 104, 101, 114, 101] = [61, 61, 61, 61, 61, 61, 61, 61, 61, 61, 61, 61, 61, 61, 61, 61, 61, 61, 61, 61, 54, 54, 54, 54, 54, 54, 54, 54, 54, 54, 54, 54, 54, 54, 54, 54, 54, 54, 54, 54, 54, 54, 54, 54, 54, 54, 54, 54, 54, 54, 54, 54, 54, 54, 54, 54, 54, 54, 54, 54, 54, 54, 54, 54, 72, 105, 32, 84, 104, 101, 114, 101] := by decide
  have h2 : xorb 92 (List.replicate 20 11 ++ List.replicate 44 0) ++ [146, 171, 77, 154, 31, 59, 97, 82, 188, 169, 221, 158, 105, 175, 67, 244, 206, 153, 228, 47, 212, 227, 15, 249, 114, 196, 128, 37, 185, 249, 207, 239] = [87, 87, 87, 87, 87, 87, 87, 87, 87, 87, 87, 87, 87, 87, 87, 87, 87, 87, 87, 87, 92, 92, 92, 92, 92, 92, 92, 92, 92, 92, 92, 92, 92, 92, 92, 92, 92, 92, 92, 92, 92, 92, 92, 92, 92, 92, 92, 92, 92, 92, 92, 92, 92, 92, 92, 92, 92, 92, 92, 92, 92, 92, 92, 92, 146, 171, 77, 154, 31, 59, 97, 82, 188, 169, 221, 158, 105, 175, 67, 244, 206, 153, 228, 47, 212, 227, 15, 249, 114, 196, 128, 37, 185, 249, 207, 239] := by decide
  rw [tagOf, e, h1, dig_twenty_in, h2, dig_twenty_out]
end Go.Proofs.YtogadffbnoinmaaDoor.Pl
