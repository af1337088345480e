/- The hash of a text over plain numbers: block by block, and what waits. -/
import Derived.Test.YtogadffbnoinmaaDoorShaHash
namespace Go.Proofs.YtogadffbnoinmaaDoor.Pl
open Go.RowKit

/-- The state behind the first k blocks of m. -/
noncomputable def ab (m : List Nat) : Nat → S8
  | 0 => S0
  | k + 1 => proc (ab m k) ((m.drop (64 * k)).take 64)
theorem ab_fits (m : List Nat) (k : Nat) : (ab m k).fits := by
  cases k with
  | zero => exact S0_fits
  | succ k => exact proc_fits _ _
theorem ab_append (m c : List Nat) (k : Nat) (h : 64 * k ≤ m.length) : ab (m ++ c) k = ab m k := by
  induction k with
  | zero => rfl
  | succ k ih =>
    rw [ab, ab, ih (by omega), List.drop_append_of_le_length (by omega), List.take_append_of_le_length (by rw [List.length_drop]; omega)]
/-- The bytes that wait for a whole block. -/
def tail (m : List Nat) : List Nat := m.drop (64 * (m.length / 64))
theorem tail_length (m : List Nat) : (tail m).length = m.length % 64 := by rw [tail, List.length_drop]; omega
/-- The state behind the whole blocks of m. -/
noncomputable def st (m : List Nat) : S8 := ab m (m.length / 64)
theorem st_part (m c : List Nat) (h : m.length % 64 + c.length < 64) : st (m ++ c) = st m := by
  rw [st, st, List.length_append, show (m.length + c.length) / 64 = m.length / 64 by omega, ab_append _ _ _ (by omega)]
theorem tail_part (m c : List Nat) (h : m.length % 64 + c.length < 64) : tail (m ++ c) = tail m ++ c := by
  rw [tail, tail, List.length_append, show (m.length + c.length) / 64 = m.length / 64 by omega, List.drop_append_of_le_length (by omega)]
theorem st_full (m c : List Nat) (h : m.length % 64 + c.length = 64) : st (m ++ c) = proc (st m) (tail m ++ c) := by
  rw [st, List.length_append, show (m.length + c.length) / 64 = m.length / 64 + 1 by omega, ab, ab_append _ _ _ (by omega), st, tail]
  rw [List.drop_append_of_le_length (by omega), List.take_of_length_le (by rw [List.length_append, List.length_drop]; omega)]
theorem tail_full (m c : List Nat) (h : m.length % 64 + c.length = 64) : tail (m ++ c) = [] := by
  apply List.eq_nil_of_length_eq_zero
  rw [tail_length, List.length_append]; omega
/-- Numbers that are bytes. -/
def Bytes (m : List Nat) : Prop := ∀ x ∈ m, x < 256
theorem Bytes.at {m : List Nat} (h : Bytes m) (j : Nat) : m.getD j 0 < 256 := by
  by_cases hj : j < m.length
  · rw [List.getD_eq_getElem?_getD, List.getElem?_eq_getElem hj]; exact h _ (List.getElem_mem hj)
  · rw [List.getD_eq_getElem?_getD, List.getElem?_eq_none (by omega)]; decide
theorem Bytes.append {m c : List Nat} (h : Bytes m) (k : Bytes c) : Bytes (m ++ c) := by
  intro x hx; rcases List.mem_append.1 hx with hx | hx
  · exact h x hx
  · exact k x hx
theorem Bytes.take {m : List Nat} (h : Bytes m) (n : Nat) : Bytes (m.take n) := fun x hx => h x (List.mem_of_mem_take hx)
theorem Bytes.drop {m : List Nat} (h : Bytes m) (n : Nat) : Bytes (m.drop n) := fun x hx => h x (List.mem_of_mem_drop hx)
/-- The bytes of a text. -/
def nums (s : ByteArray) : List Nat := s.data.toList.map UInt8.toNat
theorem nums_bytes (s : ByteArray) : Bytes (nums s) := by
  intro x hx
  obtain ⟨c, _, rfl⟩ := List.mem_map.1 hx
  exact c.toNat_lt
theorem nums_length (s : ByteArray) : (nums s).length = s.size := by rw [nums, List.length_map]; rfl

theorem splice_mid {α : Type} (A W Z C : List α) (a r : Nat) (hA : A.length = a) (hr : r + C.length ≤ W.length) :
    (A ++ W ++ Z).take (a + r) ++ C ++ (A ++ W ++ Z).drop (a + r + C.length) = A ++ (W.take r ++ C ++ W.drop (r + C.length)) ++ Z := by
  subst hA
  rw [List.append_assoc A W Z, List.take_length_add_append, List.take_append_of_le_length (by omega)]
  rw [show A.length + r + C.length = A.length + (r + C.length) by omega, List.drop_length_add_append, List.drop_append_of_le_length (by omega)]
  simp
def u8s (c : List Nat) : List Value := c.map fun (x : Nat) => Value.int .u8 (x : Int)
/-- A copy goes into the bytes that wait. -/
theorem HashAt.setWait {w : World} {b : Nat} {s : S8} {wt : List Nat} {n : Nat} (h : HashAt w b s wt n) (r : Nat) (c : List Nat) (hr : r + c.length ≤ 64) :
    HashAt (w.setRow b ((hcells s wt n).toList.take (8 + r) ++ (c.map fun (x : Nat) => Value.int .u8 (x : Int)) ++ (hcells s wt n).toList.drop (8 + r + c.length)).toArray) b s (wt.take r ++ c ++ wt.drop (r + c.length)) n := by
  refine ⟨?_, by simp [h.2]; omega⟩
  rw [setRow_heap w b _ _ _ _ h.1]
  congr 2
  apply Array.ext'
  have h8 : (s.list.map fun (x : Nat) => Value.int .u32 (x : Int)).length = 8 := by simp [S8.list]
  have := splice_mid (s.list.map fun (x : Nat) => Value.int .u32 (x : Int)) (wt.map fun (x : Nat) => Value.int .u8 (x : Int)) [Value.int .u64 (n : Int)] (c.map fun (x : Nat) => Value.int .u8 (x : Int)) 8 r h8 (by simp [h.2]; omega)
  rw [List.length_map] at this
  simpa only [hcells, List.map_append, List.map_take, List.map_drop] using this
/-- The size in bits, as eight bytes. -/
def lenAt (n j : Nat) : Nat := n * 8 / 2 ^ (8 * (7 - j)) % 256
def lenB (n : Nat) : List Nat := (List.range 8).map (lenAt n)
/-- What waits, the byte 128, and bytes 0 up to 64. -/
def base (m : List Nat) : List Nat := tail m ++ 128 :: List.replicate (63 - m.length % 64) 0
theorem base_length (m : List Nat) : (base m).length = 64 := by
  rw [base, List.length_append, tail_length, List.length_cons, List.length_replicate]; omega
/-- The state behind the padded text. -/
noncomputable def fin (m : List Nat) : S8 :=
  if 56 ≤ m.length % 64 then proc (proc (st m) (base m)) (List.replicate 56 0 ++ lenB m.length) else proc (st m) ((base m).take 56 ++ lenB m.length)
/-- The hash. -/
noncomputable def digest (m : List Nat) : List Nat := outs (fin m)
theorem lenB_length (n : Nat) : (lenB n).length = 8 := by simp [lenB]
theorem lenB_at (n j : Nat) (h : j < 8) : (lenB n).getD j 0 = lenAt n j := by simp [lenB, List.getD_eq_getElem?_getD, h]
theorem lenAt_lt (n j : Nat) : lenAt n j < 256 := Nat.mod_lt _ (by decide)
theorem Bytes.base {m : List Nat} (h : Bytes m) : Bytes (base m) := by
  refine Bytes.append (h.drop _) ?_
  intro x hx
  rcases List.mem_cons.1 hx with rfl | hx
  · decide
  · rw [List.eq_of_mem_replicate hx]; decide
end Go.Proofs.YtogadffbnoinmaaDoor.Pl
