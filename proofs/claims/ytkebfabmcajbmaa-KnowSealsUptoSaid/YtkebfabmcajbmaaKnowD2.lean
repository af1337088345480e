/- What the document's Text and ReadText answer. What the document's head, read, Read, Check and May of layer 6 answer. What the document's read, Read, Check and May of layer 6 answer: read calls itself. What the document's Data, Atom, Num, Kind, Text, and what makes a term of parts, answer. What the document's made answers, of whatever parts; Row, Hash, Mac, Seal. What term's need, textSize and rowHead answer, and what they throw. -/
import Derived.Test.YtkebfabmcajbmaaReadText
import Derived.Test.YtkebfabmcajbmaaKnowD1
import Derived.WalkLawsBesides
namespace Go.Proofs.Ytkebfabmcajbmaa.Pl
open Go.RowKit

end Go.Proofs.Ytkebfabmcajbmaa.Pl

namespace Go.Proofs.Ytkebfabmcajbmaa.Pl
open Go.RowKit

end Go.Proofs.Ytkebfabmcajbmaa.Pl

namespace Go.Proofs.Ytkebfabmcajbmaa.Pl
open Go.RowKit

end Go.Proofs.Ytkebfabmcajbmaa.Pl

namespace Go.Proofs.Ytkebfabmcajbmaa.Pl
open Go.RowKit

def st2 (h : List UInt8 × Nat) : Value := .tuple #[.string ⟨h.1.toArray⟩, .int .i64 h.2]
theorem cat_front (b : UInt8) (l : List UInt8) : (⟨#[b]⟩ ++ ⟨l.toArray⟩ : ByteArray) = ⟨(b :: l).toArray⟩ := by
  apply bl_inj
  unfold bl
  rw [ByteArray.data_append]
  simp
theorem txt_le (t : List UInt8) : (txt t).length ≤ 9 + t.length := by rw [txt_len]; have := enc_len t.length; omega

end Go.Proofs.Ytkebfabmcajbmaa.Pl

namespace Go.Proofs.Ytkebfabmcajbmaa.Pl
open Go.RowKit

/-- A row of texts in memory, to read. -/
def TxtRow (w : World) (ao : Option Addr) (l : List ByteArray) : Prop := l = [] ∨ ∃ b off, ao = some ⟨b, off, none⟩ ∧ b < w.heap.size ∧ ∀ j, j < l.length → w.cell? ⟨b, off + j, none⟩ = some (.string (l.getD j ByteArray.empty))
theorem TxtRow.below {w w' : World} {ao : Option Addr} {l : List ByteArray} (h : TxtRow w ao l) (hb : Below w.heap.size w w') : TxtRow w' ao l := by
  rcases h with h | ⟨b, off, hg, hlt, hc⟩
  · exact .inl h
  · exact .inr ⟨b, off, hg, Nat.lt_of_lt_of_le hlt hb.size, fun j hj => (hb.cell (p := ⟨b, off + j, none⟩) hlt).trans (hc j hj)⟩
/-- The parts' bytes, one behind the other. -/
def catL (l : List ByteArray) (k : Nat) : List UInt8 := ((l.take k).map bl).flatten
theorem catL_zero (l : List ByteArray) : catL l 0 = [] := by simp [catL]
theorem catL_succ (l : List ByteArray) (k : Nat) (h : k < l.length) : catL l (k + 1) = catL l k ++ bl (l.getD k ByteArray.empty) := by
  unfold catL
  rw [List.take_succ_eq_append_getElem h, List.map_append, List.flatten_append]
  simp [List.getD_eq_getElem?_getD, h]
theorem catL_all (l : List ByteArray) (k : Nat) (h : l.length ≤ k) : catL l k = (l.map bl).flatten := by
  unfold catL; rw [List.take_of_length_le h]
theorem catL_le (l : List ByteArray) (k : Nat) : (catL l k).length ≤ ((l.map bl).flatten).length := by
  have e : (l.map bl).flatten = catL l k ++ ((l.drop k).map bl).flatten := by
    unfold catL
    rw [← List.flatten_append, ← List.map_append, List.take_append_drop]
  rw [e, List.length_append]; omega
theorem cat_bytes (a b : ByteArray) : bl (a ++ b) = bl a ++ bl b := by
  unfold bl
  rw [ByteArray.data_append, Array.toList_append]
theorem mem_getD6 {l : List ByteArray} {x : ByteArray} (h : x ∈ l) : ∃ k, k < l.length ∧ l.getD k ByteArray.empty = x := by
  obtain ⟨k, hk, rfl⟩ := List.getElem_of_mem h
  exact ⟨k, hk, by simp [List.getD_eq_getElem?_getD, hk]⟩
theorem getD_mem6 (l : List ByteArray) (k : Nat) (h : k < l.length) : l.getD k ByteArray.empty ∈ l := by
  rw [List.getD_eq_getElem?_getD, List.getElem?_eq_getElem h]; exact List.getElem_mem h

end Go.Proofs.Ytkebfabmcajbmaa.Pl

namespace Go.Proofs.Ytkebfabmcajbmaa.Pl
open Go.RowKit

/-- What is thrown. -/
abbrev boom (e : Nat) : Ending := .panicked [{ v := .iface 30 (.int .i64 e), recovered := false }]

theorem need_ok (w : World) : Calls Try.prog 94 #[.int .i64 0] w fun x w' => x = .returned (.tuple #[]) ∧ w' = w := by
  go_enter Try.func94, Try.ntmps94
  go_wp2
  go_end0
  exact ⟨rfl, rfl⟩
theorem need_bad (e : Nat) (he : e ≠ 0) (w : World) : Calls Try.prog 94 #[.int .i64 e] w fun x w' => x = boom e ∧ w' = w := by
  have hz : ((e : Int) != 0) = true := by rw [bne_iff_ne]; omega
  go_enter Try.func94, Try.ntmps94
  go_wp2
  exact ⟨rfl, rfl, rfl⟩

/-- A text's size, or what is wrong. -/
def Size6 (r : Nat × Nat) (w : World) (x : Ending) (w' : World) : Prop := (if r.2 = 0 then x = .returned (.int .i64 r.1) else x = boom r.2) ∧ Below w.heap.size w w'
theorem Size6.ok {k : Nat} {w w' : World} (h : Below w.heap.size w w') : Size6 (k, 0) w (.returned (.int .i64 k)) w' := ⟨by rw [if_pos rfl], h⟩
theorem Size6.bad {k f : Nat} {w w' : World} (hf : f ≠ 0) (h : Below w.heap.size w w') : Size6 (k, f) w (boom f) w' := ⟨by rw [if_neg hf], h⟩

set_option maxHeartbeats 1000000 in
set_option maxRecDepth 100000 in
theorem textsize_any (s : ByteArray) (hs : s.size ≤ 281474976710656) (w : World) :
    Calls Try.prog 84 #[.string s] w (Size6 ((rdt (bl s) 1024).2.1, (rdt (bl s) 1024).2.2) w) := by
  have hT := fun V => readtext_any s 1024 V hs (by decide) (by decide)
  obtain ⟨r, hr⟩ : ∃ r, r = rdt (bl s) 1024 := ⟨_, rfl⟩
  have hbl : s.data.toList = bl s := rfl
  rw [hbl, ← hr] at hT
  rw [← hr]
  obtain ⟨t, k, f⟩ := r
  clear hr hs hbl
  have HT := Lib.hid hT
  clear hT
  by_cases hf : f = 0
  · subst hf
    go_enter Try.func84, Try.ntmps84
    go_wp2_with (first | (go_at_call 93; refine (HT.out _).mono ?_; rintro e w1 ⟨rfl, b1⟩) | (go_at_call 94; refine (need_ok _).mono ?_; rintro e w2 ⟨rfl, rfl⟩))
    go_ret
    exact Size6.ok b1
  · have HF := Lib.hid hf
    go_enter Try.func84, Try.ntmps84
    go_wp2_with (first | (go_at_call 93; refine (HT.out _).mono ?_; rintro e w1 ⟨rfl, b1⟩) | (go_at_call 94; refine (need_bad f HF.out _).mono ?_; rintro e w2 ⟨rfl, rfl⟩))
    exact ⟨by first | rfl | trivial, Size6.bad HF.out b1⟩

/-- A row's parts and its head's length, or what is wrong. -/
def Size62 (r : Nat × Nat × Nat) (w : World) (x : Ending) (w' : World) : Prop := (if r.2.2 = 0 then x = .returned (.tuple #[.int .i64 r.1, .int .i64 r.2.1]) else x = boom r.2.2) ∧ Below w.heap.size w w'
theorem Size62.ok {v k : Nat} {w w' : World} (h : Below w.heap.size w w') : Size62 (v, k, 0) w (.returned (.tuple #[.int .i64 v, .int .i64 k])) w' := ⟨by rw [if_pos rfl], h⟩
theorem Size62.bad {v k f : Nat} {w w' : World} (hf : f ≠ 0) (h : Below w.heap.size w w') : Size62 (v, k, f) w (boom f) w' := ⟨by rw [if_neg hf], h⟩
def rowP6 (s : List UInt8) : Nat × Nat × Nat := if (rdn s).2.2 = 0 ∧ 32 < (rdn s).1 then (0, 0, 5) else rdn s

set_option maxHeartbeats 1000000 in
set_option maxRecDepth 100000 in
theorem rowhead_any (s : ByteArray) (hs : s.size ≤ 281474976710656) (w : World) :
    Calls Try.prog 86 #[.string s] w (Size62 (rowP6 (bl s)) w) := by
  have hT := fun V => readnum_any s (by omega) V
  obtain ⟨r, hr⟩ : ∃ r, r = rdn (bl s) := ⟨_, rfl⟩
  have hbl : s.data.toList = bl s := rfl
  rw [hbl, ← hr] at hT
  obtain ⟨z, hz⟩ : ∃ z, z = rowP6 (bl s) := ⟨_, rfl⟩
  rw [← hz]
  unfold rowP6 at hz
  rw [← hr] at hz
  obtain ⟨v, k, f⟩ := r
  have HZ := Lib.hid hz
  clear hr hs hbl hz
  have HT := Lib.hid hT
  clear hT
  by_cases hf : f = 0
  · subst hf
    by_cases hv : 32 < v
    · have q1 : (32 : Int) < (v : Int) := by omega
      have HV := Lib.hid hv
      clear hv
      go_enter Try.func86, Try.ntmps86
      go_wp2_with (first | (go_at_call 95; refine (HT.out _).mono ?_; rintro e w1 ⟨rfl, rfl⟩) | (go_at_call 94; refine (need_ok _).mono ?_; rintro e w2 ⟨rfl, rfl⟩))
      have hz := HZ.out
      rw [if_pos (by first | exact ⟨rfl, HV.out⟩ | exact ⟨trivial, HV.out⟩)] at hz
      exact ⟨rfl, hz ▸ Size62.bad (f := 5) (by decide) (Below.refl _ _)⟩
    · have q1 : ¬ (32 : Int) < (v : Int) := by omega
      have q2 : (v : Int) ≤ 32 := by omega
      have HV := Lib.hid hv
      clear hv
      go_enter Try.func86, Try.ntmps86
      go_wp2_with (first | (go_at_call 95; refine (HT.out _).mono ?_; rintro e w1 ⟨rfl, rfl⟩) | (go_at_call 94; refine (need_ok _).mono ?_; rintro e w2 ⟨rfl, rfl⟩))
      go_ret2
      have hz := HZ.out
      rw [if_neg (by rintro ⟨_, h⟩; exact HV.out h)] at hz
      exact hz ▸ Size62.ok (Below.refl _ _)
  · have HF := Lib.hid hf
    go_enter Try.func86, Try.ntmps86
    go_wp2_with (first | (go_at_call 95; refine (HT.out _).mono ?_; rintro e w1 ⟨rfl, rfl⟩) | (go_at_call 94; refine (need_bad f HF.out _).mono ?_; rintro e w2 ⟨rfl, rfl⟩))
    have hz := HZ.out
    rw [if_neg (by rintro ⟨h, _⟩; exact HF.out h)] at hz
    exact ⟨rfl, hz ▸ Size62.bad HF.out (Below.refl _ _)⟩
end Go.Proofs.Ytkebfabmcajbmaa.Pl
