/- What the document's parts of layer 7 answer. -/
import Derived.Test.YtiehhlolhhjgpaaDoorShowD4
import Derived.Test.YtiehhlolhhjgpaaDoorShowD2
namespace Go.Proofs.YtiehhlolhhjgpaaDoor.Pl
open Go.RowKit

theorem pp_fin {pp : List UInt8 → List UInt8 × Nat} {fin : UInt8} {k : Nat} {first : Bool} {s : List UInt8} (h : s.head? = some fin) : pParts pp fin (k + 1) first s = some ([], 1) := by
  rw [pParts, if_pos h]
theorem pp_sep {pp : List UInt8 → List UInt8 × Nat} {fin : UInt8} {k : Nat} {s : List UInt8} (h : s.head? ≠ some fin) (h2 : s.take 2 ≠ [44, 32]) : pParts pp fin (k + 1) false s = none := by
  rw [pParts, if_neg h, if_pos ⟨rfl, h2⟩]
theorem pp_first {pp : List UInt8 → List UInt8 × Nat} {fin : UInt8} {k : Nat} {s : List UInt8} (h : s.head? ≠ some fin) : pParts pp fin (k + 1) true s = if (pp s).1 = [] then none else (pParts pp fin k false (s.drop (pp s).2)).map (fun r => ((pp s).1 :: r.1, (pp s).2 + r.2)) := by
  rw [pParts, if_neg h, if_neg (by simp)]
  simp only [if_true, List.drop_zero, Nat.zero_add]
  split
  · rfl
  · cases pParts pp fin k false (s.drop (pp s).2) <;> rfl
theorem pp_more {pp : List UInt8 → List UInt8 × Nat} {fin : UInt8} {k : Nat} {s : List UInt8} (h : s.head? ≠ some fin) (h2 : s.take 2 = [44, 32]) : pParts pp fin (k + 1) false s = if (pp (s.drop 2)).1 = [] then none else (pParts pp fin k false ((s.drop 2).drop (pp (s.drop 2)).2)).map (fun r => ((pp (s.drop 2)).1 :: r.1, 2 + (pp (s.drop 2)).2 + r.2)) := by
  rw [pParts, if_neg h, if_neg (fun k => k.2 h2)]
  simp only [Bool.false_eq_true, if_false, List.drop_drop]
  split
  · rfl
  · rename_i hn
    cases pParts pp fin k false (s.drop (2 + (pp (s.drop 2)).2)) <;> rfl
/-- What is read so far, and the rest. -/
def comb (pre : List (List UInt8)) (n : Nat) (r : Option (List (List UInt8) × Nat)) : Option (List (List UInt8) × Nat) := r.map fun q => (pre ++ q.1, n + q.2)
theorem comb_none (pre : List (List UInt8)) (n : Nat) : comb pre n none = none := rfl
theorem comb_fin (pre : List (List UInt8)) (n : Nat) : comb pre n (some ([], 1)) = some (pre, n + 1) := by simp [comb]
theorem comb_cons (pre : List (List UInt8)) (n a : Nat) (x : List UInt8) (r : Option (List (List UInt8) × Nat)) : comb pre n (r.map fun q => (x :: q.1, a + q.2)) = comb (pre ++ [x]) (n + a) r := by
  cases r with
  | none => rfl
  | some q => simp [comb, Nat.add_assoc]
theorem str_eq (a b : ByteArray) : (a.toList == b.toList) = decide (bl a = bl b) := by
  rw [Lib.toList_data, Lib.toList_data]
  by_cases h : bl a = bl b
  · rw [decide_eq_true h]; exact beq_iff_eq.2 h
  · rw [decide_eq_false h]; exact beq_eq_false_iff_ne.2 h
theorem isEmpty_mk (y : List UInt8) : (⟨y.toArray⟩ : ByteArray).toList.isEmpty = decide (y = []) := by
  rw [Lib.toList_data]
  cases y <;> simp
theorem head_drop (s : ByteArray) (n : Nat) (h : n < s.size) : ((bl s).drop n).head? = some ((bl s).getD n 0) := by
  rw [List.head?_drop, List.getD_eq_getElem?_getD, List.getElem?_eq_getElem (by rw [bl_length]; exact h)]; rfl
theorem head_end (s : ByteArray) (n : Nat) (h : ¬ n < s.size) : ((bl s).drop n).head? = none := by
  rw [List.head?_drop]; exact List.getElem?_eq_none (by rw [bl_length]; omega)
theorem bl_one (s : ByteArray) (n : Nat) (h : n < s.size) : bl (s.extract n (n + 1)) = [(bl s).getD n 0] := by
  rw [bl_extract, List.take_succ_eq_append_getElem (by rw [bl_length]; exact h), List.drop_append_of_le_length (by simp [bl_length]; omega), List.getD_eq_getElem?_getD, List.getElem?_eq_getElem (by rw [bl_length]; exact h)]
  simp
theorem bl_two (s : ByteArray) (n : Nat) : bl (s.extract n (n + 2)) = ((bl s).drop n).take 2 := by
  rw [bl_extract, List.drop_take]; simp
/-- A text is read so: what comes behind. -/
theorem sound_fits {pp : List UInt8 → List UInt8 × Nat} (hpp : SoundP pp) {s : List UInt8} (h : (pp s).1 ≠ []) : (pp s).1.length ≤ 16384 ∧ (pp s).2 ≤ s.length := by
  obtain ⟨T, tv, te, tn, _⟩ := hpp s h
  exact ⟨by rw [← te]; exact tv.2.2, tn⟩

end Go.Proofs.YtiehhlolhhjgpaaDoor.Pl
