/- What the document's Data, Atom, Num, Kind, Text, and what makes a term of parts, answer. What the document's made answers, of whatever parts; Row, Hash, Mac, Seal. What the document's Block, xored and Sum of layer 3 answer. What the document's xored answers; its Sum: the tag. What the document's Sum of layer 3 answers: the tag. What the document's Xored and Tag of layer 4 answer. What cipher's streamed hands to a loop: the key stream's bytes, with their indices. What the document's Xor of layer 4 answers. -/
import Derived.Test.YtbdlegjklfkdmaaGreatDoorBallC9
import Derived.Test.YtbdlegjklfkdmaaGreatDoorBallC7
import Derived.Test.YtbdlegjklfkdmaaGreatDoorBallC8
import Derived.Test.YtbdlegjklfkdmaaGreatDoorBallC10
import Derived.StillTailTactics
import Derived.RangeFuncBox
import Derived.RangeFuncNested
import Derived.RangeFuncLeaves
import Derived.Shelf.Abstract
import Derived.OwnWalkIn
import Derived.TacticsInMore
import Derived.LoopNIn
import Derived.LoopIn
import Derived.Laws.Cover3
import Derived.Lib.ConvBytes
namespace Go.Proofs.YtbdlegjklfkdmaaGreatDoor.Pl
open Go.RowKit

def st2 (h : List UInt8 × Nat) : Value := .tuple #[.string ⟨h.1.toArray⟩, .int .i64 h.2]
theorem cat_front (b : UInt8) (l : List UInt8) : (⟨#[b]⟩ ++ ⟨l.toArray⟩ : ByteArray) = ⟨(b :: l).toArray⟩ := by
  apply bl_inj
  unfold bl
  rw [ByteArray.data_append]
  simp
theorem txt_le (t : List UInt8) : (txt t).length ≤ 9 + t.length := by rw [txt_len]; have := enc_len t.length; omega

set_option maxRecDepth 100000 in
theorem rdata_any (s : ByteArray) (hs : s.size ≤ 281474976710656) (w : World) :
    Calls Tryz.prog 29 #[.string s] w fun e w' => e = .returned (st2 (dataP (bl s))) ∧ Below w.heap.size w w' := by
  have HT := Lib.hid (fun V => reftext_any s V (by omega))
  by_cases h : 1024 < s.size
  · have HZ : Hid (dataP (bl s) = ([], 5)) := Lib.hid (by unfold dataP; rw [bl_length]; exact if_pos h)
    have h' : (1024 : Int) < (s.size : Int) := by omega
    clear h hs
    go_enter Tryz.func29, Tryz.ntmps29
    go_wp2_with fail
    go_ret2
    exact ⟨by rw [HZ.out]; rfl, Below.refl _ _⟩
  · have HZ : Hid (dataP (bl s) = (100 :: txt (bl s), 0)) := Lib.hid (by unfold dataP; rw [bl_length]; exact if_neg h)
    have h' : ¬ (1024 : Int) < (s.size : Int) := by omega
    have hcat : (⟨#[100]⟩ : ByteArray).size + (⟨(txt s.data.toList).toArray⟩ : ByteArray).size ≤ 9223372036854775807 := by
      have h4 : (⟨(txt s.data.toList).toArray⟩ : ByteArray).size = (txt s.data.toList).length := size_lit _
      have := txt_le s.data.toList
      have h2 : s.data.toList.length = s.size := bl_length s
      have h3 : (⟨#[100]⟩ : ByteArray).size = 1 := rfl
      omega
    have HC : Hid ((⟨#[100]⟩ ++ ⟨(txt s.data.toList).toArray⟩ : ByteArray) = ⟨(100 :: txt (bl s)).toArray⟩) := Lib.hid (cat_front _ _)
    generalize (⟨(txt s.data.toList).toArray⟩ : ByteArray) = t at *
    clear h hs
    go_enter Tryz.func29, Tryz.ntmps29
    go_wp2_with fail
    refine (HT.out w).mono ?_; rintro e w1 ⟨rfl, b1⟩
    have B1 := Lib.hid b1
    clear b1
    go_wp2_with fail
    go_ret2
    exact ⟨by rw [HZ.out, st2, ← HC.out]; rfl, B1.out⟩

set_option maxRecDepth 100000 in
theorem ratom_any (s : ByteArray) (hs : s.size ≤ 281474976710656) (w : World) :
    Calls Tryz.prog 135 #[.string s] w fun e w' => e = .returned (st2 (atomP (bl s))) ∧ Below w.heap.size w w' := by
  have HT := Lib.hid (fun V => reftext_any s V (by omega))
  have HN := Lib.hid (fun V => rname_any s hs V)
  by_cases h : 32 < s.size
  · have HZ : Hid (atomP (bl s) = ([], 5)) := Lib.hid (by unfold atomP; rw [bl_length]; exact if_pos h)
    have h' : (32 : Int) < (s.size : Int) := by omega
    clear h hs
    go_enter Tryz.func135, Tryz.ntmps135
    go_wp2_with fail
    go_ret2
    exact ⟨by rw [HZ.out]; rfl, Below.refl _ _⟩
  · have h' : ¬ (32 : Int) < (s.size : Int) := by omega
    cases hno : nameOK (bl s) with
    | false =>
      have HZ : Hid (atomP (bl s) = ([], 7)) := Lib.hid (by unfold atomP; rw [bl_length, if_neg h, if_pos hno])
      rw [hno] at HN
      clear h hs hno
      go_enter Tryz.func135, Tryz.ntmps135
      go_wp2_with fail
      refine (HN.out w).mono ?_; rintro e w1 ⟨rfl, b1⟩
      have B1 := Lib.hid b1
      clear b1
      go_wp2_with fail
      go_ret2
      exact ⟨by rw [HZ.out]; rfl, B1.out⟩
    | true =>
      have HZ : Hid (atomP (bl s) = (97 :: txt (bl s), 0)) := Lib.hid (by unfold atomP; rw [bl_length, if_neg h, if_neg (by rw [hno]; decide)])
      rw [hno] at HN
      have hcat : (⟨#[97]⟩ : ByteArray).size + (⟨(txt s.data.toList).toArray⟩ : ByteArray).size ≤ 9223372036854775807 := by
        have h4 : (⟨(txt s.data.toList).toArray⟩ : ByteArray).size = (txt s.data.toList).length := size_lit _
        have := txt_le s.data.toList
        have h2 : s.data.toList.length = s.size := bl_length s
        have h3 : (⟨#[97]⟩ : ByteArray).size = 1 := rfl
        omega
      have HC : Hid ((⟨#[97]⟩ ++ ⟨(txt s.data.toList).toArray⟩ : ByteArray) = ⟨(97 :: txt (bl s)).toArray⟩) := Lib.hid (cat_front _ _)
      generalize (⟨(txt s.data.toList).toArray⟩ : ByteArray) = t at *
      clear h hs hno
      go_enter Tryz.func135, Tryz.ntmps135
      go_wp2_with fail
      refine (HN.out w).mono ?_; rintro e w1 ⟨rfl, b1⟩
      have B1 := Lib.hid b1
      clear b1
      go_wp2_with fail
      refine (HT.out w1).mono ?_; rintro e w2 ⟨rfl, b2⟩
      have B2 := Lib.hid (below_step B1.out b2)
      clear b2
      go_wp2_with fail
      go_ret2
      exact ⟨by rw [HZ.out, st2, ← HC.out]; rfl, B2.out⟩

/-- The term of a number. -/
def numP (v : Int) : List UInt8 × Nat := if 0 ≤ v ∧ v ≤ 2147483647 then (100 :: txt (enc v.toNat), 0) else ([], 2)
theorem dataP_enc (v : Nat) : dataP (enc v) = (100 :: txt (enc v), 0) := by
  unfold dataP
  exact if_neg (by have := enc_len v; omega)
set_option maxRecDepth 100000 in
theorem rnum6_any (v : Int) (h0 : -9223372036854775808 ≤ v) (h1 : v ≤ 9223372036854775807) (w : World) :
    Calls Tryz.prog 79 #[.int .i64 v] w fun e w' => e = .returned (st2 (numP v)) ∧ Below w.heap.size w w' := by
  by_cases hn : v < 0
  · have HZ : Hid (numP v = ([], 2)) := Lib.hid (if_neg (by omega))
    go_enter Tryz.func79, Tryz.ntmps79
    go_wp2_with fail
    go_ret2
    exact ⟨by rw [HZ.out]; rfl, Below.refl _ _⟩
  · by_cases hm : 2147483647 < v
    · have HZ : Hid (numP v = ([], 2)) := Lib.hid (if_neg (by omega))
      go_enter Tryz.func79, Tryz.ntmps79
      go_wp2_with fail
      go_ret2
      exact ⟨by rw [HZ.out]; rfl, Below.refl _ _⟩
    · obtain ⟨n, rfl⟩ := Int.eq_ofNat_of_zero_le (show 0 ≤ v by omega)
      have HZ : Hid (numP (n : Int) = dataP (enc n)) := Lib.hid (by rw [dataP_enc]; exact if_pos ⟨by omega, by omega⟩)
      have hcv : ∀ V : World, (convert 3 108 (.int .i64 (n : Int))).run Tryz.prog V = .ok (.int .u64 (n : Int)) V := fun V => by
        have hw : IntKind.u64.wrap (n : Int) = (n : Int) := IntWalk.u64_in _ (by omega)
        go_simp
      have HN := Lib.hid (fun V => refnum_any n (by rw [two64]; omega) V)
      have HD := Lib.hid (fun V => rdata_any ⟨(enc n).toArray⟩ (by rw [size_lit]; have := enc_len n; omega) V)
      rw [bl_mk] at HD
      generalize (⟨(enc n).toArray⟩ : ByteArray) = t at *
      clear h0 h1
      go_enter Tryz.func79, Tryz.ntmps79
      go_wp2_with fail
      refine (HN.out w).mono ?_; rintro e w1 ⟨rfl, b1⟩
      have B1 := Lib.hid b1
      clear b1
      go_wp2_with fail
      refine (HD.out w1).mono ?_; rintro e w2 ⟨rfl, b2⟩
      have B2 := Lib.hid (below_step B1.out b2)
      clear b2
      unfold st2
      go_wp2_with fail
      go_ret2
      exact ⟨by rw [HZ.out]; rfl, B2.out⟩

set_option maxHeartbeats 1000000 in
set_option maxRecDepth 100000 in
theorem rkind_any (s : ByteArray) (hs : s.size ≤ 281474976710656) (w : World) :
    Calls Tryz.prog 52 #[.string s] w fun e w' => e = .returned (.int .u8 (kindP (bl s))) ∧ Below w.heap.size w w' := by
  have HM := Lib.hid (rmay_any s hs w)
  obtain ⟨z, hz⟩ : ∃ z, z = kindP (bl s) := ⟨_, rfl⟩
  rw [← hz]
  unfold kindP at hz
  by_cases hc : checkP (bl s) = 0
  · rw [if_pos hc] at hz
    rw [show (checkP (bl s) == 0) = true by rw [hc]; rfl] at HM
    have hpos : 0 < s.size := by
      rcases Nat.eq_zero_or_pos s.size with h | h
      · rw [bl_nil h] at hc; exact absurd hc (by decide)
      · exact h
    obtain ⟨b, hb⟩ : ∃ b : UInt8, b = (bl s).getD 0 0 := ⟨_, rfl⟩
    have i1 : ∀ V : World, (Instr.index 9 (.string s) (.int .i64 0)).run Tryz.prog V = .ok (.int .u8 (b.toNat : Int)) V := tstr_index s 0 b hpos hb
    have hq := bl_cons hpos
    rw [← hb] at hq
    rw [hq] at hz
    simp only at hz
    obtain ⟨n, hn⟩ : ∃ n, n = b.toNat := ⟨_, rfl⟩
    have b_of : ∀ c : UInt8, b = c ↔ n = c.toNat := fun c => by rw [hn]; exact ⟨fun e => by rw [e], fun e => UInt8.toNat_inj.1 e⟩
    rw [← hn] at i1
    have ef : ∀ m : Nat, n ≠ m → ((n : Int) == (m : Int)) = false := fun m h => by rw [beq_eq_false_iff_ne]; omega
    clear hq hb hn hc hs
    have hcs : n = 100 ∨ n = 97 ∨ n = 114 ∨ n = 104 ∨ n = 109 ∨ (n ≠ 100 ∧ n ≠ 97 ∧ n ≠ 114 ∧ n ≠ 104 ∧ n ≠ 109) := by omega
    have q1 : n ≠ 100 → ((n : Int) == 100) = false := ef 100
    have q2 : n ≠ 97 → ((n : Int) == 97) = false := ef 97
    have q3 : n ≠ 114 → ((n : Int) == 114) = false := ef 114
    have q4 : n ≠ 104 → ((n : Int) == 104) = false := ef 104
    have q5 : n ≠ 109 → ((n : Int) == 109) = false := ef 109
    simp only [b_of] at hz
    clear ef b_of
    rcases hcs with h | h | h | h | h | ⟨g1, g2, g3, g4, g5⟩
    · subst h
      have HZ : Hid (z = 1) := Lib.hid hz
      clear hz q1 q2 q3 q4 q5
      go_enter Tryz.func52, Tryz.ntmps52
      go_wp2_with fail
      refine HM.out.mono ?_; rintro e w1 ⟨rfl, b1⟩
      have B1 := Lib.hid b1
      clear b1
      go_wp2_with fail
      go_ret
      exact ⟨by rw [HZ.out]; rfl, B1.out⟩
    · subst h
      have HZ : Hid (z = 2) := Lib.hid hz
      clear hz q1 q2 q3 q4 q5
      go_enter Tryz.func52, Tryz.ntmps52
      go_wp2_with fail
      refine HM.out.mono ?_; rintro e w1 ⟨rfl, b1⟩
      have B1 := Lib.hid b1
      clear b1
      go_wp2_with fail
      go_ret
      exact ⟨by rw [HZ.out]; rfl, B1.out⟩
    · subst h
      have HZ : Hid (z = 3) := Lib.hid hz
      clear hz q1 q2 q3 q4 q5
      go_enter Tryz.func52, Tryz.ntmps52
      go_wp2_with fail
      refine HM.out.mono ?_; rintro e w1 ⟨rfl, b1⟩
      have B1 := Lib.hid b1
      clear b1
      go_wp2_with fail
      go_ret
      exact ⟨by rw [HZ.out]; rfl, B1.out⟩
    · subst h
      have HZ : Hid (z = 4) := Lib.hid hz
      clear hz q1 q2 q3 q4 q5
      go_enter Tryz.func52, Tryz.ntmps52
      go_wp2_with fail
      refine HM.out.mono ?_; rintro e w1 ⟨rfl, b1⟩
      have B1 := Lib.hid b1
      clear b1
      go_wp2_with fail
      go_ret
      exact ⟨by rw [HZ.out]; rfl, B1.out⟩
    · subst h
      have HZ : Hid (z = 5) := Lib.hid hz
      clear hz q1 q2 q3 q4 q5
      go_enter Tryz.func52, Tryz.ntmps52
      go_wp2_with fail
      refine HM.out.mono ?_; rintro e w1 ⟨rfl, b1⟩
      have B1 := Lib.hid b1
      clear b1
      go_wp2_with fail
      go_ret
      exact ⟨by rw [HZ.out]; rfl, B1.out⟩
    · have HZ : Hid (z = 6) := Lib.hid (by rw [hz, if_neg (show ¬ n = UInt8.toNat 100 from g1), if_neg (show ¬ n = UInt8.toNat 97 from g2), if_neg (show ¬ n = UInt8.toNat 114 from g3), if_neg (show ¬ n = UInt8.toNat 104 from g4), if_neg (show ¬ n = UInt8.toNat 109 from g5)])
      have p1 := q1 g1
      have p2 := q2 g2
      have p3 := q3 g3
      have p4 := q4 g4
      have p5 := q5 g5
      clear hz q1 q2 q3 q4 q5 g1 g2 g3 g4 g5
      go_enter Tryz.func52, Tryz.ntmps52
      go_wp2_with fail
      refine HM.out.mono ?_; rintro e w1 ⟨rfl, b1⟩
      have B1 := Lib.hid b1
      clear b1
      go_wp2_with fail
      go_ret
      exact ⟨by rw [HZ.out]; rfl, B1.out⟩
  · rw [if_neg hc] at hz
    rw [show (checkP (bl s) == 0) = false by rw [beq_eq_false_iff_ne]; exact hc] at HM
    have HZ := Lib.hid hz
    clear hz hc hs
    go_enter Tryz.func52, Tryz.ntmps52
    go_wp2_with fail
    refine HM.out.mono ?_; rintro e w1 ⟨rfl, b1⟩
    have B1 := Lib.hid b1
    clear b1
    go_wp2_with fail
    go_ret
    exact ⟨by rw [HZ.out]; rfl, B1.out⟩
end Go.Proofs.YtbdlegjklfkdmaaGreatDoor.Pl

namespace Go.Proofs.YtbdlegjklfkdmaaGreatDoor.Pl
open Go.RowKit

/-- A row of texts in memory, to read. -/
def TxtRow (w : World) (ao : Option Addr) (l : List ByteArray) : Prop := l = [] ∨ ∃ b off, ao = some ⟨b, off, none⟩ ∧ b < w.heap.size ∧ ∀ j, j < l.length → w.cell? ⟨b, off + j, none⟩ = some (.string (l.getD j ByteArray.empty))
theorem TxtRow.below {w w' : World} {ao : Option Addr} {l : List ByteArray} (h : TxtRow w ao l) (hb : Below w.heap.size w w') : TxtRow w' ao l := by
  rcases h with h | ⟨b, off, hg, hlt, hc⟩
  · exact .inl h
  · exact .inr ⟨b, off, hg, Nat.lt_of_lt_of_le hlt hb.size, fun j hj => (hb.cell (p := ⟨b, off + j, none⟩) hlt).trans (hc j hj)⟩
/-- The parts' bytes, one behind the other. -/
def catL (l : List ByteArray) (k : Nat) : List UInt8 := ((l.take k).map bl).flatten
theorem catL_zero (l : List ByteArray) : catL l 0 = [] := by simp [catL]
theorem catL_succ (l : List ByteArray) (k : Nat) (h : k < l.length) : catL l (k + 1) = catL l k ++ bl (l.getD k ByteArray.empty) := by
  unfold catL
  rw [List.take_succ_eq_append_getElem h, List.map_append, List.flatten_append]
  simp [List.getD_eq_getElem?_getD, h]
theorem catL_all (l : List ByteArray) (k : Nat) (h : l.length ≤ k) : catL l k = (l.map bl).flatten := by
  unfold catL; rw [List.take_of_length_le h]
theorem catL_le (l : List ByteArray) (k : Nat) : (catL l k).length ≤ ((l.map bl).flatten).length := by
  have e : (l.map bl).flatten = catL l k ++ ((l.drop k).map bl).flatten := by
    unfold catL
    rw [← List.flatten_append, ← List.map_append, List.take_append_drop]
  rw [e, List.length_append]; omega
theorem cat_bytes (a b : ByteArray) : bl (a ++ b) = bl a ++ bl b := by
  unfold bl
  rw [ByteArray.data_append, Array.toList_append]
theorem mem_getD6 {l : List ByteArray} {x : ByteArray} (h : x ∈ l) : ∃ k, k < l.length ∧ l.getD k ByteArray.empty = x := by
  obtain ⟨k, hk, rfl⟩ := List.getElem_of_mem h
  exact ⟨k, hk, by simp [List.getD_eq_getElem?_getD, hk]⟩
theorem getD_mem6 (l : List ByteArray) (k : Nat) (h : k < l.length) : l.getD k ByteArray.empty ∈ l := by
  rw [List.getD_eq_getElem?_getD, List.getElem?_eq_getElem h]; exact List.getElem_mem h

set_option maxHeartbeats 4000000 in
set_option maxRecDepth 100000 in
theorem made_any (front : ByteArray) (l : List ByteArray) (ao : Option Addr) (cap : Nat) (hf : front.size ≤ 100) (hl : l.length ≤ 1000) (hx : ∀ x ∈ l, x.size ≤ 100000) (w : World) (hrow : TxtRow w ao l) :
    Calls Tryz.prog 77 #[.string front, .slice ao l.length cap] w fun e w' => e = .returned (st2 (madeP (bl front) (l.map bl))) ∧ Below w.heap.size w w' := by
  have HROW := Lib.hid hrow
  obtain ⟨z, hz⟩ : ∃ z, z = madeP (bl front) (l.map bl) := ⟨_, rfl⟩
  rw [← hz]
  unfold madeP at hz
  have HBAD : Hid (∀ k, k < l.length → checkP (bl (l.getD k ByteArray.empty)) ≠ 0 → z = ([], 2)) := Lib.hid (fun k hk hc => by
    rw [hz, if_neg]
    intro h
    exact hc (h _ (List.mem_map.2 ⟨_, getD_mem6 l k hk, rfl⟩)))
  have HOK : Hid ((∀ k, k < l.length → checkP (bl (l.getD k ByteArray.empty)) = 0) → z = if checkP (bl front ++ (l.map bl).flatten) = 0 then (bl front ++ (l.map bl).flatten, 0) else ([], 5)) := Lib.hid (fun h => by
    rw [hz, if_pos]
    intro x hx
    obtain ⟨y, hy, rfl⟩ := List.mem_map.1 hx
    obtain ⟨k, hk, rfl⟩ := mem_getD6 hy
    exact h k hk)
  have HX : Hid (∀ k, k < l.length → (l.getD k ByteArray.empty).size ≤ 100000) := Lib.hid (fun k hk => hx _ (getD_mem6 l k hk))
  obtain ⟨n, hn⟩ : ∃ n, n = l.length := ⟨_, rfl⟩
  have HN := Lib.hid hn
  have HFR := Lib.hid hf
  rw [← hn] at hl ⊢
  clear hz hx hrow hn hf
  go_enter Tryz.func77, Tryz.ntmps77
  go_wp2_with fail
  go_loopw [7] (fun i wr => ∃ k : Nat, i = .int .i64 k ∧ k ≤ n ∧ Hid (∀ j, j < k → checkP (bl (l.getD j ByteArray.empty)) = 0) ∧ Hid (Below w.heap.size w wr)) (fun i _ => n - (intOf i).toNat)
  case atStart => exact ⟨0, rfl, Nat.zero_le _, Lib.hid (fun j hj => absurd hj (Nat.not_lt_zero j)), Lib.hid (Below.refl _ _)⟩
  case round =>
    obtain ⟨k, rfl, hkn, hch, hb⟩ := hrel
    by_cases hk : k < n
    · have hk' : (k : Int) < (n : Int) := by omega
      rcases HROW.out.below hb.out with e | ⟨b, off, rfl, hlt, hc⟩
      · exfalso; have := HN.out; rw [e] at this; simp at this; omega
      have ck := hc k (by have := HN.out; omega)
      have HM := Lib.hid (rmay_any (l.getD k ByteArray.empty) (Nat.le_trans (HX.out k (by have := HN.out; omega)) (by decide)) wr)
      have HBK := Lib.hid (HBAD.out k (by have := HN.out; omega))
      have HNX : Hid (checkP (bl (l.getD k ByteArray.empty)) = 0 → ∀ j, j < k + 1 → checkP (bl (l.getD j ByteArray.empty)) = 0) := Lib.hid (fun h j hj => by
        by_cases e : j = k
        · rw [e]; exact h
        · exact hch.out j (by omega))
      generalize l.getD k ByteArray.empty = t at *
      clear hc hlt
      cases hq : (checkP (bl t) == 0) with
      | true =>
        rw [hq] at HM
        have HNN := Lib.hid (HNX.out (by simpa using hq))
        clear hq
        go_wp2_with fail
        refine HM.out.mono ?_; rintro e w2 ⟨rfl, b2⟩
        have B2 := Lib.hid (below_step hb.out b2)
        clear b2
        go_wp2_with fail
        go_roundw
        case rel => exact ⟨k + 1, by go_num, by omega, HNN, B2⟩
        case measure => simp [intOf]; omega
      | false =>
        rw [hq] at HM
        have HQ := Lib.hid (HBK.out (by simpa using hq))
        clear hq
        go_wp2_with fail
        refine HM.out.mono ?_; rintro e w2 ⟨rfl, b2⟩
        have B2 := Lib.hid (below_step hb.out b2)
        clear b2
        go_wp2_with fail
        go_ret2
        exact ⟨by rw [HQ.out]; rfl, B2.out⟩
    · obtain rfl : k = n := by omega
      have HZ := Lib.hid (HOK.out (fun j hj => hch.out j (by have := HN.out; omega)))
      clear hk hkn
      go_wp2_with fail
      go_loopw [6, 8] (fun sv i wr => ∃ (j : Nat) (t : ByteArray), sv = .string t ∧ i = .int .i64 j ∧ j ≤ k ∧ t.size ≤ 200000 ∧ Hid (bl t = bl front ++ catL l j) ∧ Hid (Below w.heap.size w wr)) (fun _ i _ => k - (intOf i).toNat)
      case atStart => exact ⟨0, front, rfl, rfl, Nat.zero_le _, by have := HFR.out; omega, Lib.hid (by rw [catL_zero, List.append_nil]), hb⟩
      case round =>
        obtain ⟨j, t, rfl, rfl, hjk, hts, ht, hb2⟩ := hrel
        by_cases hj : j < k
        · have hj' : (j : Int) < (k : Int) := by omega
          by_cases hsz : t.size ≤ 16384
          · have hsz' : (t.size : Int) ≤ 16384 := by omega
            rcases HROW.out.below hb2.out with e | ⟨b, off, rfl, hlt, hc⟩
            · exfalso; have := HN.out; rw [e] at this; simp at this; omega
            have ck := hc j (by have := HN.out; omega)
            have hxs := HX.out j (by have := HN.out; omega)
            have HS : Hid (bl front ++ catL l (j + 1) = bl front ++ catL l j ++ bl (l.getD j ByteArray.empty)) := Lib.hid (by rw [catL_succ l j (by have := HN.out; omega), List.append_assoc])
            generalize l.getD j ByteArray.empty = y at *
            have hcat : t.size + y.size ≤ 9223372036854775807 := by omega
            have HC : Hid (bl (t ++ y) = bl front ++ catL l (j + 1) ∧ (t ++ y).size ≤ 200000) := Lib.hid ⟨by rw [cat_bytes, ht.out, HS.out], by rw [ByteArray.size_append]; omega⟩
            clear hc hlt
            go_wp2_with fail
            go_roundw
            case rel => exact ⟨j + 1, t ++ y, rfl, by go_num, by omega, HC.out.2, Lib.hid HC.out.1, hb2⟩
            case measure => simp [intOf]; omega
          · have hsz' : decide ((t.size : Int) ≤ 16384) = false := decide_eq_false (by omega)
            have HM := Lib.hid (rmay_any t (by omega) wr)
            rw [show (checkP (bl t) == 0) = false by
              rw [beq_eq_false_iff_ne]
              intro h
              have := check_len h
              rw [bl_length] at this
              omega] at HM
            have HQ : Hid (z = ([], 5)) := Lib.hid (by
              rw [HZ.out, if_neg]
              intro h
              have h1 := check_len h
              have h2 := catL_le l j
              have h3 := congrArg List.length ht.out
              rw [bl_length, List.length_append] at h3
              rw [List.length_append] at h1
              omega)
            clear hsz
            go_wp2_with fail
            refine HM.out.mono ?_; rintro e w2 ⟨rfl, b2⟩
            have B2 := Lib.hid (below_step hb2.out b2)
            clear b2
            go_wp2_with fail
            go_ret2
            exact ⟨by rw [HQ.out]; rfl, B2.out⟩
        · obtain rfl : j = k := by omega
          have HE : Hid (bl t = bl front ++ (l.map bl).flatten) := Lib.hid (by rw [ht.out, catL_all l j (by have := HN.out; omega)])
          have HM := Lib.hid (rmay_any t (by omega) wr)
          rw [← HE.out] at HZ
          clear hj hjk
          cases hq : (checkP (bl t) == 0) with
          | true =>
            rw [hq] at HM
            have HQ : Hid (z = (bl t, 0)) := Lib.hid (HZ.out.trans (if_pos (by simpa using hq)))
            clear hq
            go_wp2_with fail
            refine HM.out.mono ?_; rintro e w2 ⟨rfl, b2⟩
            have B2 := Lib.hid (below_step hb2.out b2)
            clear b2
            go_wp2_with fail
            go_ret2
            exact ⟨by rw [HQ.out, st2, ← bl_eq]; rfl, B2.out⟩
          | false =>
            rw [hq] at HM
            have HQ : Hid (z = ([], 5)) := Lib.hid (HZ.out.trans (if_neg (by simpa using hq)))
            clear hq
            go_wp2_with fail
            refine HM.out.mono ?_; rintro e w2 ⟨rfl, b2⟩
            have B2 := Lib.hid (below_step hb2.out b2)
            clear b2
            go_wp2_with fail
            go_ret2
            exact ⟨by rw [HQ.out]; rfl, B2.out⟩
end Go.Proofs.YtbdlegjklfkdmaaGreatDoor.Pl

namespace Go.Proofs.YtbdlegjklfkdmaaGreatDoor.Pl
open Go.RowKit

set_option maxHeartbeats 1000000 in
set_option maxRecDepth 100000 in
theorem refblock_any (key : ByteArray) (hk : key.size ≤ 900000) (w : World) :
    Calls Tryz.prog 131 #[.string key] w fun e w' => e = .returned (.string (bytesOf (kblock (nums key)))) ∧ Below w.heap.size w w' := by
  by_cases h : key.size ≤ 64
  · obtain ⟨n, hn⟩ : ∃ n, n = 64 - key.size := ⟨_, rfl⟩
    have E : Hid (key ++ bytesOf (List.replicate n 0) = bytesOf (kblock (nums key))) := Lib.hid (by
      rw [kblock_short _ (by rw [nums_length]; exact h), bytesOf_append, bytesOf_nums, nums_length, ← hn])
    have q1 : (64 : Int) - (key.size : Int) = (n : Int) := by omega
    have hmk := zeros_made n (by omega) w
    have hcv := zeros_string n w
    have HB := Lib.hid ((Below.refl w.heap.size w).alloc (Nat.le_refl _) (.cells (row .u8 (List.replicate n 0)) 5))
    have hX : (bytesOf (List.replicate n 0)).size ≤ 64 := by rw [zeros_size]; omega
    generalize w.alloc (.cells (row .u8 (List.replicate n 0)) 5) = W at *
    generalize bytesOf (List.replicate n 0) = X at *
    clear hn
    go_enter Tryz.func131, Tryz.ntmps131
    go_wp2_with fail
    go_ret
    exact ⟨by rw [← E.out]; rfl, HB.out⟩
  · have hgt : 64 < (nums key).length := by rw [nums_length]; exact Nat.lt_of_not_le h
    have E : Hid (bytesOf (digest (nums key)) ++ bytesOf (List.replicate 32 0) = bytesOf (kblock (nums key))) := Lib.hid (by
      rw [kblock_of_long _ hgt, bytesOf_append, digest_length])
    have hY : (bytesOf (digest (nums key))).size = 32 := by rw [bytesOf_size, digest_length]
    have HR := Lib.hid (refsum_any key hk w)
    have hX : (bytesOf (List.replicate 32 0)).size ≤ 64 := by rw [zeros_size]; decide
    have q1 : (64 : Int) - ((bytesOf (digest (nums key))).size : Int) = ((32 : Nat) : Int) := by rw [hY]; rfl
    have q2 : (bytesOf (digest (nums key))).size ≤ 64 := by rw [hY]; decide
    have HMK := Lib.hid (zeros_made 32 (by decide))
    have HCV := Lib.hid (zeros_string 32)
    clear hY hgt
    generalize bytesOf (List.replicate 32 0) = X at *
    generalize List.replicate 32 0 = Z at *
    generalize bytesOf (digest (nums key)) = Y at *
    generalize 32 = n at HMK HCV q1
    go_enter Tryz.func131, Tryz.ntmps131
    go_wp2_with fail
    refine HR.out.mono ?_; rintro e w1 ⟨rfl, hb1⟩
    have hmk := HMK.out w1
    have hcv := HCV.out w1
    have HB := Lib.hid (hb1.alloc hb1.size (.cells (row .u8 Z) 5))
    clear hb1
    generalize w1.alloc (.cells (row .u8 Z) 5) = W at *
    go_wp2_with fail
    go_ret
    exact ⟨by rw [← E.out]; rfl, HB.out⟩
end Go.Proofs.YtbdlegjklfkdmaaGreatDoor.Pl

namespace Go.Proofs.YtbdlegjklfkdmaaGreatDoor.Pl
open Go.RowKit

/-- From its begin on the block g has the bytes l, which may be written. -/
def At8 (w : World) (g : Nat) (l : List Nat) : Prop := ∀ j, j < l.length → w.cell? ⟨g, j, none⟩ = some (.int .u8 ((l.getD j 0 : Nat) : Int)) ∧ w.frozen? ⟨g, j, none⟩ = false
theorem At8.set {w : World} {g : Nat} {l : List Nat} (h : At8 w g l) (k x : Nat) (hk : k < l.length) : At8 (w.setCell ⟨g, k, none⟩ (.int .u8 (x : Int))) g (l.set k x) := by
  intro j hj
  rw [List.length_set] at hj
  rw [World.frozen?_setCell, getD_set _ _ _ _ hk]
  by_cases e : j = k
  · subst e
    rw [if_pos rfl, World.cell?_setCell_same w _ _ (h j hj).1]
    exact ⟨rfl, (h j hj).2⟩
  · rw [if_neg e, World.cell?_setCell_other w _ _ _ (fun h' => e (by cases h'; rfl))]
    exact h j hj
theorem at8_bytes (w : World) (s : ByteArray) : At8 (Lib.bytesWorld w 5 s) w.heap.size (nums s) := by
  obtain ⟨g, cap, hv, _, hl, h1, h2⟩ := own_bytes w s
  injection hv with e1 e2 e3
  injection e1 with e1
  injection e1 with e1
  subst e1
  exact fun j hj => ⟨h1 j hj, (h2 j (by omega)).2⟩

set_option maxHeartbeats 1000000 in
set_option maxRecDepth 100000 in
theorem xored_any (n : Nat) (hn : n < 256) (s : ByteArray) (hs : s.size ≤ 1000) (w : World) :
    Calls Tryz.prog 133 #[.string s, .int .u8 n] w fun e w' => e = .returned (.string (bytesOf (xorb n (nums s)))) ∧ Below w.heap.size w w' := by
  have hcv := Lib.run_convert_string_bytes (P := Tryz.prog) w 9 121 5 s Tryz.underlying9 Tryz.underlying121 Tryz.underlying5
  have HO := Lib.hid (at8_bytes w s)
  have HB := Lib.hid (below_bytes w s)
  have HL := Lib.hid (nums_length s)
  have HM := Lib.hid (nums_bytes s)
  generalize grownCap w s.size 0 5 = cap at hcv
  generalize Lib.bytesWorld w 5 s = W at *
  generalize nums s = l at *
  obtain ⟨z, hz⟩ : ∃ z, z = s.size := ⟨_, rfl⟩
  rw [← hz] at hcv HL hs
  clear hz
  go_enter Tryz.func133, Tryz.ntmps133
  go_wp2_with fail
  go_loopw [6] (fun i wr => ∃ (k : Nat) (m : List Nat), k ≤ z ∧ i = .int .i64 k ∧ Hid (m.length = z) ∧ Hid (∀ j, m.getD j 0 = if j < k then l.getD j 0 ^^^ n else l.getD j 0) ∧ Hid (At8 wr w.heap.size m) ∧ Hid (Below w.heap.size w wr)) (fun i _ => z - (intOf i).toNat)
  case atStart => exact ⟨0, l, by omega, rfl, HL, Lib.hid (fun j => by rw [if_neg (by omega)]), HO, HB⟩
  case round =>
    clear HO HB
    obtain ⟨k, m, hk, rfl, hml, hag, h1, hbw⟩ := hrel
    by_cases hlt2 : k < z
    · obtain ⟨c1, f1⟩ := h1.out k (by rw [hml.out]; exact hlt2)
      have e := hag.out k
      rw [if_neg (by omega)] at e
      obtain ⟨x, ex⟩ : ∃ x, x = l.getD k 0 := ⟨_, rfl⟩
      have hx : x < 256 := by rw [ex]; exact HM.out.at k
      rw [e, ← ex] at c1
      have EX := Lib.hid ex
      have b1 : bits .xor .u8 (x : Int) (n : Int) = ((x ^^^ n : Nat) : Int) := u8_xor_nat x n hx hn
      obtain ⟨y, ey⟩ : ∃ y, y = x ^^^ n := ⟨_, rfl⟩
      rw [← ey] at b1
      have EY := Lib.hid ey
      clear e ex ey hx
      go_wp2_with fail
      go_roundw
      case rel =>
        refine ⟨k + 1, m.set k y, by omega, by go_num, Lib.hid (by rw [List.length_set]; exact hml.out), Lib.hid (fun j => ?_), Lib.hid (h1.out.set k y (by rw [hml.out]; exact hlt2)), Lib.hid (hbw.out.setCell (Nat.le_refl _) _)⟩
        rw [getD_set _ _ _ _ (by rw [hml.out]; exact hlt2), hag.out j]
        by_cases hj : j = k
        · rw [if_pos hj, if_pos (by omega), hj, EY.out, EX.out]
        · rw [if_neg hj]
          by_cases hj2 : j < k
          · rw [if_pos hj2, if_pos (by omega)]
          · rw [if_neg hj2, if_neg (by omega)]
      case measure => simp [intOf]; omega
    · obtain rfl : k = z := by omega
      have e : m = xorb n l := getD_ext (by rw [hml.out, xorb_length, HL.out]) (fun i hi => by
        rw [hag.out i, if_pos (by rw [hml.out] at hi; exact hi), xorb_at n l i (by rw [HL.out]; rw [hml.out] at hi; exact hi)])
      have hcv2 := back_string wr w.heap.size 0 cap (xorb n l) (fun j => (xorb_bytes hn HM.out).at j) (fun j hj => by
        rw [Nat.zero_add, ← e]; rw [← e] at hj; exact (h1.out j hj).1)
      rw [xorb_length, HL.out] at hcv2
      clear e hag hml h1
      obtain ⟨X, eX⟩ : ∃ X, X = bytesOf (xorb n l) := ⟨_, rfl⟩
      rw [← eX] at hcv2
      have EX := Lib.hid eX
      clear eX hcv
      go_wp2_with fail
      go_ret
      exact ⟨by rw [← EX.out]; rfl, hbw.out⟩
end Go.Proofs.YtbdlegjklfkdmaaGreatDoor.Pl

namespace Go.Proofs.YtbdlegjklfkdmaaGreatDoor.Pl
open Go.RowKit

set_option maxHeartbeats 1000000 in
set_option maxRecDepth 100000 in
theorem reftag_any (key s : ByteArray) (hk : key.size ≤ 800000) (hs : s.size ≤ 800000) (w : World) :
    Calls Tryz.prog 99 #[.string key, .string s] w fun e w' => e = .returned (.string (bytesOf (tagOf (nums key) (nums s)))) ∧ Below w.heap.size w w' := by
  have HK := Lib.hid (refblock_any key (by omega) w)
  have hsz : (bytesOf (kblock (nums key))).size = 64 := by rw [bytesOf_size, kblock_length]
  have hn : nums (bytesOf (kblock (nums key))) = kblock (nums key) := nums_bytesOf (kblock_bytes (nums_bytes key))
  have X1 := Lib.hid (xored_any 92 (by decide) (bytesOf (kblock (nums key))) (by rw [hsz]; decide))
  have X2 := Lib.hid (xored_any 54 (by decide) (bytesOf (kblock (nums key))) (by rw [hsz]; decide))
  have E1 := pad_nums 92 (by decide) key
  have E2 := pad_nums 54 (by decide) key
  have s1 : (bytesOf (xorb 92 (kblock (nums key)))).size ≤ 64 := by rw [pad_size]; decide
  have s2 : (bytesOf (xorb 54 (kblock (nums key)))).size ≤ 64 := by rw [pad_size]; decide
  have s3 : (bytesOf (digest (xorb 54 (kblock (nums key)) ++ nums s))).size ≤ 32 := by rw [bytesOf_size, digest_length]; decide
  rw [hn] at X1 X2
  have R1 : Hid (∀ W, Calls Tryz.prog 132 #[.string (bytesOf (xorb 54 (kblock (nums key))) ++ s)] W fun e w' => e = .returned (.string (bytesOf (digest (xorb 54 (kblock (nums key)) ++ nums s)))) ∧ Below W.heap.size W w') := Lib.hid (fun W => by
    have h := refsum_any (bytesOf (xorb 54 (kblock (nums key))) ++ s) (by rw [ByteArray.size_append]; exact Nat.le_trans (Nat.add_le_add s2 hs) (by decide)) W
    rwa [nums_append, E2] at h)
  have R2 : Hid (∀ W, Calls Tryz.prog 132 #[.string (bytesOf (xorb 92 (kblock (nums key))) ++ bytesOf (digest (xorb 54 (kblock (nums key)) ++ nums s)))] W fun e w' => e = .returned (.string (bytesOf (tagOf (nums key) (nums s)))) ∧ Below W.heap.size W w') := Lib.hid (fun W => by
    have h := refsum_any (bytesOf (xorb 92 (kblock (nums key))) ++ bytesOf (digest (xorb 54 (kblock (nums key)) ++ nums s))) (by rw [ByteArray.size_append]; exact Nat.le_trans (Nat.add_le_add s1 s3) (by decide)) W
    rwa [nums_append, E1, nums_bytesOf (digest_bytes _)] at h)
  clear hsz hn E1 E2
  generalize bytesOf (digest (xorb 54 (kblock (nums key)) ++ nums s)) = D at *
  generalize bytesOf (xorb 54 (kblock (nums key))) = I at *
  generalize bytesOf (xorb 92 (kblock (nums key))) = O at *
  generalize bytesOf (kblock (nums key)) = K at *
  generalize bytesOf (tagOf (nums key) (nums s)) = T at *
  go_enter Tryz.func99, Tryz.ntmps99
  go_wp2_with fail
  refine HK.out.mono ?_; rintro e w1 ⟨rfl, hb1⟩
  have B1 := Lib.hid hb1
  clear hb1
  go_wp2_with fail
  refine (X1.out w1).mono ?_; rintro e w2 ⟨rfl, hb2⟩
  have B2 := Lib.hid (below_step B1.out hb2)
  clear hb2
  go_wp2_with fail
  refine (X2.out w2).mono ?_; rintro e w3 ⟨rfl, hb3⟩
  have B3 := Lib.hid (below_step B2.out hb3)
  clear hb3
  go_wp2_with fail
  refine (R1.out w3).mono ?_; rintro e w4 ⟨rfl, hb4⟩
  have B4 := Lib.hid (below_step B3.out hb4)
  clear hb4
  go_wp2_with fail
  refine (R2.out w4).mono ?_; rintro e w5 ⟨rfl, hb5⟩
  have B5 := Lib.hid (below_step B4.out hb5)
  clear hb5
  go_wp2_with fail
  go_ret
  exact ⟨rfl, B5.out⟩
end Go.Proofs.YtbdlegjklfkdmaaGreatDoor.Pl

namespace Go.Proofs.YtbdlegjklfkdmaaGreatDoor.Pl
open Go.RowKit

/-- The first k numbers of l are hidden in m. -/
def Part (sk nonce l m : List Nat) (k : Nat) : Prop := m.length = l.length ∧ ∀ j, j < l.length → m.getD j 0 = if j < k then l.getD j 0 ^^^ ksAt sk nonce j else l.getD j 0
theorem Part.zero (sk nonce l : List Nat) : Part sk nonce l l 0 := ⟨rfl, fun j _ => by rw [if_neg (by omega)]⟩
theorem Part.next {sk nonce l m : List Nat} {k y : Nat} (h : Part sk nonce l m k) (hk : k < l.length) (hy : y = m.getD k 0 ^^^ ksAt sk nonce k) : Part sk nonce l (m.set k y) (k + 1) := by
  refine ⟨by rw [List.length_set]; exact h.1, fun j hj => ?_⟩
  rw [set_getD _ _ _ _ (by rw [h.1]; exact hk), hy]
  by_cases e : j = k
  · rw [if_pos e, e, if_pos (by omega), h.2 k hk, if_neg (by omega)]
  · rw [if_neg e, h.2 j hj]
    by_cases h' : j < k
    · rw [if_pos h', if_pos (by omega)]
    · rw [if_neg h', if_neg (by omega)]
theorem Part.more {sk nonce l m : List Nat} {k k' : Nat} (h : Part sk nonce l m k) (hk : l.length ≤ k) (hk' : l.length ≤ k') : Part sk nonce l m k' :=
  ⟨h.1, fun j hj => by rw [h.2 j hj, if_pos (by omega), if_pos (by omega)]⟩
theorem Part.all {sk nonce l m : List Nat} {k : Nat} (h : Part sk nonce l m k) (hk : l.length ≤ k) : m = hide sk nonce l := by
  apply listD_ext (by rw [h.1, hide_length])
  intro i hi
  rw [h.1] at hi
  rw [h.2 i hi, if_pos (by omega), hide, xorf_at _ _ _ hi]

end Go.Proofs.YtbdlegjklfkdmaaGreatDoor.Pl

namespace Go.Proofs.YtbdlegjklfkdmaaGreatDoor.Pl
open Go.RowKit Go.Shelf
attribute [local go_sem] Oper.semAt_some

/-- What a round keeps: all that lay below M, but block g; and no block is gone. -/
structure KeepG (g M : Nat) (U V : World) : Prop where
  os : V.os = U.os
  tape : V.tape = U.tape
  output : V.output = U.output
  size : U.heap.size ≤ V.heap.size
  block : ∀ b, b < M → b ≠ g → V.heap[b]? = U.heap[b]?
theorem KeepG.refl (g M : Nat) (W : World) : KeepG g M W W := ⟨rfl, rfl, rfl, Nat.le_refl _, fun _ _ _ => rfl⟩
theorem KeepG.trans {g M : Nat} {U V W : World} (h : KeepG g M U V) (k : KeepG g M V W) : KeepG g M U W :=
  ⟨k.os.trans h.os, k.tape.trans h.tape, k.output.trans h.output, Nat.le_trans h.size k.size, fun b hb hg => (k.block b hb hg).trans (h.block b hb hg)⟩
theorem KeepG.of_below {g M n : Nat} {U V : World} (h : Below n U V) (hM : M ≤ n) : KeepG g M U V := ⟨h.os, h.tape, h.output, h.size, fun b hb _ => h.block b (Nat.lt_of_lt_of_le hb hM)⟩
theorem KeepG.below {g M B : Nat} {w U V : World} (h : KeepG g M U V) (k : Below B w U) (hM : B ≤ M) (hg : B ≤ g) : Below B w V :=
  ⟨h.os.trans k.os, h.tape.trans k.tape, h.output.trans k.output, Nat.le_trans k.size h.size, fun b hb => (h.block b (by omega) (by omega)).trans (k.block b hb)⟩
theorem KeepG.heap {g M b : Nat} {U V : World} {o : Obj} (h : KeepG g M U V) (hb : b < M) (hg : b ≠ g) (k : U.heap[b]? = some o) : V.heap[b]? = some o := (h.block b hb hg).trans k

end Go.Proofs.YtbdlegjklfkdmaaGreatDoor.Pl

namespace Go.Proofs.YtbdlegjklfkdmaaGreatDoor.Pl
open Go.RowKit

def PartF (f : Nat → Nat) (l m : List Nat) (k : Nat) : Prop := m.length = l.length ∧ ∀ j, j < l.length → m.getD j 0 = if j < k then l.getD j 0 ^^^ f j else l.getD j 0
theorem PartF.zero (f : Nat → Nat) (l : List Nat) : PartF f l l 0 := ⟨rfl, fun j _ => by rw [if_neg (by omega)]⟩
theorem PartF.next {f : Nat → Nat} {l m : List Nat} {k y : Nat} (h : PartF f l m k) (hk : k < l.length) (hy : y = m.getD k 0 ^^^ f k) : PartF f l (m.set k y) (k + 1) := by
  refine ⟨by rw [List.length_set]; exact h.1, fun j hj => ?_⟩
  rw [set_getD _ _ _ _ (by rw [h.1]; exact hk), hy]
  by_cases e : j = k
  · rw [if_pos e, e, if_pos (by omega), h.2 k hk, if_neg (by omega)]
  · rw [if_neg e, h.2 j hj]
    by_cases h' : j < k
    · rw [if_pos h', if_pos (by omega)]
    · rw [if_neg h', if_neg (by omega)]
theorem PartF.all {f : Nat → Nat} {l m : List Nat} {k : Nat} (h : PartF f l m k) (hk : ∀ j, k ≤ j → j < l.length → f j = 0) : m = xorf l f := by
  apply listD_ext (by rw [h.1, xorf_length])
  intro i hi
  rw [h.1] at hi
  rw [h.2 i hi, xorf_at _ _ _ hi]
  by_cases h' : i < k
  · rw [if_pos h']
  · rw [if_neg h', hk i (by omega) hi, Nat.xor_zero]
end Go.Proofs.YtbdlegjklfkdmaaGreatDoor.Pl
