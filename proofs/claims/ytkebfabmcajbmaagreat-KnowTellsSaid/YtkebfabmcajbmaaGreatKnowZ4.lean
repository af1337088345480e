/- What the document's Data, Atom, Num, Kind, Text, and what makes a term of parts, answer. What the document's made answers, of whatever parts; Row, Hash, Mac, Seal. -/
import Derived.Test.YtkebfabmcajbmaaGreatTermRead
namespace Go.Proofs.YtkebfabmcajbmaaGreat.Pl
open Go.RowKit

def st2 (h : List UInt8 × Nat) : Value := .tuple #[.string ⟨h.1.toArray⟩, .int .i64 h.2]
theorem cat_front (b : UInt8) (l : List UInt8) : (⟨#[b]⟩ ++ ⟨l.toArray⟩ : ByteArray) = ⟨(b :: l).toArray⟩ := by
  apply bl_inj
  unfold bl
  rw [ByteArray.data_append]
  simp
theorem txt_le (t : List UInt8) : (txt t).length ≤ 9 + t.length := by rw [txt_len]; have := enc_len t.length; omega

set_option maxHeartbeats 1000000 in
set_option maxRecDepth 100000 in
theorem rkind_any (s : ByteArray) (hs : s.size ≤ 281474976710656) (w : World) :
    Calls Tryz.prog 46 #[.string s] w fun e w' => e = .returned (.int .u8 (kindP (bl s))) ∧ Below w.heap.size w w' := by
  have HM := Lib.hid (rmay_any s hs w)
  obtain ⟨z, hz⟩ : ∃ z, z = kindP (bl s) := ⟨_, rfl⟩
  rw [← hz]
  unfold kindP at hz
  by_cases hc : checkP (bl s) = 0
  · rw [if_pos hc] at hz
    rw [show (checkP (bl s) == 0) = true by rw [hc]; rfl] at HM
    have hpos : 0 < s.size := by
      rcases Nat.eq_zero_or_pos s.size with h | h
      · rw [bl_nil h] at hc; exact absurd hc (by decide)
      · exact h
    obtain ⟨b, hb⟩ : ∃ b : UInt8, b = (bl s).getD 0 0 := ⟨_, rfl⟩
    have i1 : ∀ V : World, (Instr.index 9 (.string s) (.int .i64 0)).run Tryz.prog V = .ok (.int .u8 (b.toNat : Int)) V := tstr_index s 0 b hpos hb
    have hq := bl_cons hpos
    rw [← hb] at hq
    rw [hq] at hz
    simp only at hz
    obtain ⟨n, hn⟩ : ∃ n, n = b.toNat := ⟨_, rfl⟩
    have b_of : ∀ c : UInt8, b = c ↔ n = c.toNat := fun c => by rw [hn]; exact ⟨fun e => by rw [e], fun e => UInt8.toNat_inj.1 e⟩
    rw [← hn] at i1
    have ef : ∀ m : Nat, n ≠ m → ((n : Int) == (m : Int)) = false := fun m h => by rw [beq_eq_false_iff_ne]; omega
    clear hq hb hn hc hs
    have hcs : n = 100 ∨ n = 97 ∨ n = 114 ∨ n = 104 ∨ n = 109 ∨ (n ≠ 100 ∧ n ≠ 97 ∧ n ≠ 114 ∧ n ≠ 104 ∧ n ≠ 109) := by omega
    have q1 : n ≠ 100 → ((n : Int) == 100) = false := ef 100
    have q2 : n ≠ 97 → ((n : Int) == 97) = false := ef 97
    have q3 : n ≠ 114 → ((n : Int) == 114) = false := ef 114
    have q4 : n ≠ 104 → ((n : Int) == 104) = false := ef 104
    have q5 : n ≠ 109 → ((n : Int) == 109) = false := ef 109
    simp only [b_of] at hz
    clear ef b_of
    rcases hcs with h | h | h | h | h | ⟨g1, g2, g3, g4, g5⟩
    · subst h
      have HZ : Hid (z = 1) := Lib.hid hz
      clear hz q1 q2 q3 q4 q5
      go_enter Tryz.func46, Tryz.ntmps46
      go_wp2_with fail
      refine HM.out.mono ?_; rintro e w1 ⟨rfl, b1⟩
      have B1 := Lib.hid b1
      clear b1
      go_wp2_with fail
      go_ret
      exact ⟨by rw [HZ.out]; rfl, B1.out⟩
    · subst h
      have HZ : Hid (z = 2) := Lib.hid hz
      clear hz q1 q2 q3 q4 q5
      go_enter Tryz.func46, Tryz.ntmps46
      go_wp2_with fail
      refine HM.out.mono ?_; rintro e w1 ⟨rfl, b1⟩
      have B1 := Lib.hid b1
      clear b1
      go_wp2_with fail
      go_ret
      exact ⟨by rw [HZ.out]; rfl, B1.out⟩
    · subst h
      have HZ : Hid (z = 3) := Lib.hid hz
      clear hz q1 q2 q3 q4 q5
      go_enter Tryz.func46, Tryz.ntmps46
      go_wp2_with fail
      refine HM.out.mono ?_; rintro e w1 ⟨rfl, b1⟩
      have B1 := Lib.hid b1
      clear b1
      go_wp2_with fail
      go_ret
      exact ⟨by rw [HZ.out]; rfl, B1.out⟩
    · subst h
      have HZ : Hid (z = 4) := Lib.hid hz
      clear hz q1 q2 q3 q4 q5
      go_enter Tryz.func46, Tryz.ntmps46
      go_wp2_with fail
      refine HM.out.mono ?_; rintro e w1 ⟨rfl, b1⟩
      have B1 := Lib.hid b1
      clear b1
      go_wp2_with fail
      go_ret
      exact ⟨by rw [HZ.out]; rfl, B1.out⟩
    · subst h
      have HZ : Hid (z = 5) := Lib.hid hz
      clear hz q1 q2 q3 q4 q5
      go_enter Tryz.func46, Tryz.ntmps46
      go_wp2_with fail
      refine HM.out.mono ?_; rintro e w1 ⟨rfl, b1⟩
      have B1 := Lib.hid b1
      clear b1
      go_wp2_with fail
      go_ret
      exact ⟨by rw [HZ.out]; rfl, B1.out⟩
    · have HZ : Hid (z = 6) := Lib.hid (by rw [hz, if_neg (show ¬ n = UInt8.toNat 100 from g1), if_neg (show ¬ n = UInt8.toNat 97 from g2), if_neg (show ¬ n = UInt8.toNat 114 from g3), if_neg (show ¬ n = UInt8.toNat 104 from g4), if_neg (show ¬ n = UInt8.toNat 109 from g5)])
      have p1 := q1 g1
      have p2 := q2 g2
      have p3 := q3 g3
      have p4 := q4 g4
      have p5 := q5 g5
      clear hz q1 q2 q3 q4 q5 g1 g2 g3 g4 g5
      go_enter Tryz.func46, Tryz.ntmps46
      go_wp2_with fail
      refine HM.out.mono ?_; rintro e w1 ⟨rfl, b1⟩
      have B1 := Lib.hid b1
      clear b1
      go_wp2_with fail
      go_ret
      exact ⟨by rw [HZ.out]; rfl, B1.out⟩
  · rw [if_neg hc] at hz
    rw [show (checkP (bl s) == 0) = false by rw [beq_eq_false_iff_ne]; exact hc] at HM
    have HZ := Lib.hid hz
    clear hz hc hs
    go_enter Tryz.func46, Tryz.ntmps46
    go_wp2_with fail
    refine HM.out.mono ?_; rintro e w1 ⟨rfl, b1⟩
    have B1 := Lib.hid b1
    clear b1
    go_wp2_with fail
    go_ret
    exact ⟨by rw [HZ.out]; rfl, B1.out⟩
end Go.Proofs.YtkebfabmcajbmaaGreat.Pl

namespace Go.Proofs.YtkebfabmcajbmaaGreat.Pl
open Go.RowKit

/-- A row of texts in memory, to read. -/
def TxtRow (w : World) (ao : Option Addr) (l : List ByteArray) : Prop := l = [] ∨ ∃ b off, ao = some ⟨b, off, none⟩ ∧ b < w.heap.size ∧ ∀ j, j < l.length → w.cell? ⟨b, off + j, none⟩ = some (.string (l.getD j ByteArray.empty))
theorem TxtRow.below {w w' : World} {ao : Option Addr} {l : List ByteArray} (h : TxtRow w ao l) (hb : Below w.heap.size w w') : TxtRow w' ao l := by
  rcases h with h | ⟨b, off, hg, hlt, hc⟩
  · exact .inl h
  · exact .inr ⟨b, off, hg, Nat.lt_of_lt_of_le hlt hb.size, fun j hj => (hb.cell (p := ⟨b, off + j, none⟩) hlt).trans (hc j hj)⟩
/-- The parts' bytes, one behind the other. -/
def catL (l : List ByteArray) (k : Nat) : List UInt8 := ((l.take k).map bl).flatten
theorem catL_zero (l : List ByteArray) : catL l 0 = [] := by simp [catL]
theorem catL_succ (l : List ByteArray) (k : Nat) (h : k < l.length) : catL l (k + 1) = catL l k ++ bl (l.getD k ByteArray.empty) := by
  unfold catL
  rw [List.take_succ_eq_append_getElem h, List.map_append, List.flatten_append]
  simp [List.getD_eq_getElem?_getD, h]
theorem catL_all (l : List ByteArray) (k : Nat) (h : l.length ≤ k) : catL l k = (l.map bl).flatten := by
  unfold catL; rw [List.take_of_length_le h]
theorem catL_le (l : List ByteArray) (k : Nat) : (catL l k).length ≤ ((l.map bl).flatten).length := by
  have e : (l.map bl).flatten = catL l k ++ ((l.drop k).map bl).flatten := by
    unfold catL
    rw [← List.flatten_append, ← List.map_append, List.take_append_drop]
  rw [e, List.length_append]; omega
theorem cat_bytes (a b : ByteArray) : bl (a ++ b) = bl a ++ bl b := by
  unfold bl
  rw [ByteArray.data_append, Array.toList_append]
theorem mem_getD6 {l : List ByteArray} {x : ByteArray} (h : x ∈ l) : ∃ k, k < l.length ∧ l.getD k ByteArray.empty = x := by
  obtain ⟨k, hk, rfl⟩ := List.getElem_of_mem h
  exact ⟨k, hk, by simp [List.getD_eq_getElem?_getD, hk]⟩
theorem getD_mem6 (l : List ByteArray) (k : Nat) (h : k < l.length) : l.getD k ByteArray.empty ∈ l := by
  rw [List.getD_eq_getElem?_getD, List.getElem?_eq_getElem h]; exact List.getElem_mem h

end Go.Proofs.YtkebfabmcajbmaaGreat.Pl
