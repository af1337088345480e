/- What the document's Row, Hash, Mac, Seal, Text and ReadNum of layer 6 answer. What the document's ReadNum of layer 6 answers: the number in a datum. What term.nameSize and term.placeAt answer, and what they throw. What term.visit hands to a loop's round, and how it ends: all came, stopped, or thrown. A loop over term.places: what the caller owes, whatever the text; the loop may end, be left, or be thrown out of. What term.Read answers: it goes over the places, and catches what is thrown. What the document's parts of a term answers: a row of texts that the call owns. What the document's Places, Parts, Size, depth, Depth, In and Has of layer 6 answer: Places and depth call themselves. What the document's Parts, Size, depth, Depth, In and Has of layer 6 answer. What term's Check, are, valid, kind, Kind and Text answer. What show's need and made answer or throw, and how its reader goes through a text. What term's Size and Depth answer. -/
import Derived.Test.YtiehhlolhhjgpaaGreatDoorShowZ2
import Derived.Laws.Tables
import Derived.Laws.Rows
import Derived.Deep.WholeRow
import Derived.RangeFuncBox
import Derived.RangeFuncNested
import Derived.RangeFuncLeaves
import Derived.Shelf.Abstract
import Derived.OwnWalkIn
import Derived.TacticsInMore
import Derived.LoopNIn
import Derived.LoopIn
import Derived.Test.YtiehhlolhhjgpaaGreatDoorShowZ1
import Derived.RangeFuncIn
import Derived.RangeFuncRecord
import Derived.DefersIn
import Derived.RecoverIn
import Derived.Recover
import Derived.Laws.OwnMore
import Derived.OwnWalk
import Derived.Maps.AppendAt
import Derived.WalkLawsBesides
namespace Go.Proofs.YtiehhlolhhjgpaaGreatDoor.Pl
open Go.RowKit

theorem row1 (w : World) (a : ByteArray) : TxtRow (w.alloc (.cells #[.string a] 9)) (some ⟨w.heap.size, 0, none⟩) [a] :=
  .inr ⟨w.heap.size, 0, rfl, by simp, fun j hj => by
    obtain rfl : j = 0 := by simp at hj; omega
    simp⟩
theorem row2 (w : World) (a b : ByteArray) : TxtRow (w.alloc (.cells #[.string a, .string b] 9)) (some ⟨w.heap.size, 0, none⟩) [a, b] :=
  .inr ⟨w.heap.size, 0, rfl, by simp, fun j hj => by
    match j, hj with
    | 0, _ => simp
    | 1, _ => simp⟩
theorem row3 (w : World) (a b c : ByteArray) : TxtRow (w.alloc (.cells #[.string a, .string b, .string c] 9)) (some ⟨w.heap.size, 0, none⟩) [a, b, c] :=
  .inr ⟨w.heap.size, 0, rfl, by simp, fun j hj => by
    match j, hj with
    | 0, _ => simp
    | 1, _ => simp
    | 2, _ => simp⟩

set_option maxRecDepth 100000 in
theorem rhash_any (a : ByteArray) (ha : a.size ≤ 100000) (w : World) :
    Calls Tryz.prog 75 #[.string a] w fun e w' => e = .returned (st2 (madeP [104] [bl a])) ∧ Below w.heap.size w w' := by
  have HM := Lib.hid (made_any ⟨#[104]⟩ [a] (some ⟨w.heap.size, 0, none⟩) 1 (by decide) (by simp) (fun x hx => by simp at hx; rw [hx]; exact ha) _ (row1 w a))
  have B0 := Lib.hid ((Below.refl w.heap.size w).alloc (Nat.le_refl _) (.cells #[.string a] 9))
  clear ha
  go_enter Tryz.func75, Tryz.ntmps75
  go_wp2_with fail
  refine HM.out.mono ?_; rintro e w1 ⟨rfl, b1⟩
  have B1 := Lib.hid (below_step B0.out b1)
  clear b1
  unfold st2
  go_wp2_with fail
  go_ret2
  exact ⟨rfl, B1.out⟩
set_option maxRecDepth 100000 in
theorem rmac_any (a b : ByteArray) (ha : a.size ≤ 100000) (hb : b.size ≤ 100000) (w : World) :
    Calls Tryz.prog 76 #[.string a, .string b] w fun e w' => e = .returned (st2 (madeP [109] [bl a, bl b])) ∧ Below w.heap.size w w' := by
  have HM := Lib.hid (made_any ⟨#[109]⟩ [a, b] (some ⟨w.heap.size, 0, none⟩) 2 (by decide) (by simp) (fun x hx => by simp at hx; rcases hx with rfl | rfl <;> assumption) _ (row2 w a b))
  have B0 := Lib.hid ((Below.refl w.heap.size w).alloc (Nat.le_refl _) (.cells #[.string a, .string b] 9))
  clear ha hb
  go_enter Tryz.func76, Tryz.ntmps76
  go_wp2_with fail
  refine HM.out.mono ?_; rintro e w1 ⟨rfl, b1⟩
  have B1 := Lib.hid (below_step B0.out b1)
  clear b1
  unfold st2
  go_wp2_with fail
  go_ret2
  exact ⟨rfl, B1.out⟩
set_option maxRecDepth 100000 in
theorem rseal6_any (a b c : ByteArray) (ha : a.size ≤ 100000) (hb : b.size ≤ 100000) (hc : c.size ≤ 100000) (w : World) :
    Calls Tryz.prog 77 #[.string a, .string b, .string c] w fun e w' => e = .returned (st2 (madeP [115] [bl a, bl b, bl c])) ∧ Below w.heap.size w w' := by
  have HM := Lib.hid (made_any ⟨#[115]⟩ [a, b, c] (some ⟨w.heap.size, 0, none⟩) 3 (by decide) (by simp) (fun x hx => by simp at hx; rcases hx with rfl | rfl | rfl <;> assumption) _ (row3 w a b c))
  have B0 := Lib.hid ((Below.refl w.heap.size w).alloc (Nat.le_refl _) (.cells #[.string a, .string b, .string c] 9))
  clear ha hb hc
  go_enter Tryz.func77, Tryz.ntmps77
  go_wp2_with fail
  refine HM.out.mono ?_; rintro e w1 ⟨rfl, b1⟩
  have B1 := Lib.hid (below_step B0.out b1)
  clear b1
  unfold st2
  go_wp2_with fail
  go_ret2
  exact ⟨rfl, B1.out⟩

set_option maxRecDepth 100000 in
theorem rrow6_any (l : List ByteArray) (ao : Option Addr) (cap : Nat) (hl : l.length ≤ 1000) (hx : ∀ x ∈ l, x.size ≤ 100000) (w : World) (hrow : TxtRow w ao l) :
    Calls Tryz.prog 74 #[.slice ao l.length cap] w fun e w' => e = .returned (st2 (rowP (l.map bl))) ∧ Below w.heap.size w w' := by
  have HN := Lib.hid (fun V => refnum_any l.length (by rw [two64]; omega) V)
  have hs : (⟨(enc l.length).toArray⟩ : ByteArray).size ≤ 9 := by rw [size_lit]; exact (enc_len _).2
  have hcat : (⟨#[114]⟩ : ByteArray).size + (⟨(enc l.length).toArray⟩ : ByteArray).size ≤ 9223372036854775807 := by
    have h3 : (⟨#[114]⟩ : ByteArray).size = 1 := rfl
    omega
  have hf : (⟨#[114]⟩ ++ ⟨(enc l.length).toArray⟩ : ByteArray).size ≤ 100 := by
    rw [ByteArray.size_append]
    have h3 : (⟨#[114]⟩ : ByteArray).size = 1 := rfl
    omega
  have HE : Hid (bl (⟨#[114]⟩ ++ ⟨(enc l.length).toArray⟩ : ByteArray) = 114 :: enc (l.map bl).length) := Lib.hid (by rw [cat_front, bl_mk, List.length_map])
  have HM := Lib.hid (fun V hV => made_any (⟨#[114]⟩ ++ ⟨(enc l.length).toArray⟩) l ao cap hf hl hx V hV)
  rw [HE.out] at HM
  have HROW := Lib.hid hrow
  have hcv : ∀ V : World, (convert 3 55 (.int .i64 ((l.length : Nat) : Int))).run Tryz.prog V = .ok (.int .u64 ((l.length : Nat) : Int)) V := fun V => by
    have hw : IntKind.u64.wrap ((l.length : Nat) : Int) = ((l.length : Nat) : Int) := IntWalk.u64_in _ (by omega)
    go_simp
  generalize (⟨(enc l.length).toArray⟩ : ByteArray) = t at *
  have HP : Hid (rowP (l.map bl) = madeP (114 :: enc (l.map bl).length) (l.map bl)) := Lib.hid rfl
  obtain ⟨n, hn⟩ : ∃ n, n = l.length := ⟨_, rfl⟩
  rw [← hn] at HN hcv HM ⊢
  clear hs hf hx hrow hn hl
  go_enter Tryz.func74, Tryz.ntmps74
  go_wp2_with fail
  refine (HN.out w).mono ?_; rintro e w1 ⟨rfl, b1⟩
  have R1 := Lib.hid (HROW.out.below b1)
  have B1 := Lib.hid b1
  clear b1
  go_wp2_with fail
  refine (HM.out w1 R1.out).mono ?_; rintro e w2 ⟨rfl, b2⟩
  have B2 := Lib.hid (below_step B1.out b2)
  clear b2
  unfold st2
  go_wp2_with fail
  go_ret2
  exact ⟨by rw [HP.out, List.length_map]; rfl, B2.out⟩

def tb2 (h : List UInt8 × Bool) : Value := .tuple #[.string ⟨h.1.toArray⟩, .bool h.2]
set_option maxHeartbeats 1000000 in
set_option maxRecDepth 100000 in
theorem rtext6_any (s : ByteArray) (hs : s.size ≤ 281474976710656) (w : World) :
    Calls Tryz.prog 33 #[.string s] w fun e w' => e = .returned (tb2 (textP (bl s))) ∧ Below w.heap.size w w' := by
  have HM := Lib.hid (rmay_any s hs w)
  obtain ⟨z, hz⟩ : ∃ z, z = textP (bl s) := ⟨_, rfl⟩
  rw [← hz]
  unfold textP at hz
  by_cases hc : checkP (bl s) = 0
  · rw [show (checkP (bl s) == 0) = true by rw [hc]; rfl] at HM
    have hpos : 0 < s.size := by
      rcases Nat.eq_zero_or_pos s.size with h | h
      · rw [bl_nil h] at hc; exact absurd hc (by decide)
      · exact h
    obtain ⟨b, hb⟩ : ∃ b : UInt8, b = (bl s).getD 0 0 := ⟨_, rfl⟩
    have i1 : ∀ V : World, (Instr.index 9 (.string s) (.int .i64 0)).run Tryz.prog V = .ok (.int .u8 (b.toNat : Int)) V := tstr_index s 0 b hpos hb
    have hq := bl_cons hpos
    rw [← hb] at hq
    have hh : (bl s).head? = some b := by rw [hq]; rfl
    obtain ⟨n, hn⟩ : ∃ n, n = b.toNat := ⟨_, rfl⟩
    have b_of : ∀ c : UInt8, b = c ↔ n = c.toNat := fun c => by rw [hn]; exact ⟨fun e => by rw [e], fun e => UInt8.toNat_inj.1 e⟩
    rw [← hn] at i1
    have sl : ∀ V : World, (Instr.sliceAt 9 (.string s) (some (.int .i64 1)) none none).run Tryz.prog V = .ok (.string (s.extract 1 s.size)) V := tslice_from s 1 (by omega)
    have hx : bl (s.extract 1 s.size) = (bl s).drop 1 := bl_from s 1
    have hxs : (s.extract 1 s.size).size ≤ 281474976710656 := by rw [size_bl, hx, List.length_drop, bl_length]; omega
    rw [← hx] at hz
    generalize s.extract 1 s.size = x at *
    have HT := Lib.hid (fun V => refreadtext_any x 1024 V (by omega) (by decide) (by decide))
    rw [show x.data.toList = bl x from rfl] at HT
    have e1 : (bl s).head? = some 100 ↔ n = 100 := by rw [hh]; exact ⟨fun e => (b_of 100).1 (Option.some.inj e), fun e => by rw [(b_of 100).2 e]⟩
    have e2 : (bl s).head? = some 97 ↔ n = 97 := by rw [hh]; exact ⟨fun e => (b_of 97).1 (Option.some.inj e), fun e => by rw [(b_of 97).2 e]⟩
    simp only [e1, e2] at hz
    by_cases h100 : n = 100
    · have HZ := Lib.hid (hz.trans (if_pos ⟨hc, .inl h100⟩))
      subst h100
      clear hz hb hq hh hn b_of hx hxs e1 e2 hc hs
      go_enter Tryz.func33, Tryz.ntmps33
      go_wp2_with fail
      refine HM.out.mono ?_; rintro e w1 ⟨rfl, b1⟩
      have B1 := Lib.hid b1
      clear b1
      go_wp2_with fail
      refine (HT.out w1).mono ?_; rintro e w2 ⟨rfl, b2⟩
      have B2 := Lib.hid (below_step B1.out b2)
      clear b2
      go_wp2_with fail
      go_ret2
      exact ⟨by rw [HZ.out]; rfl, B2.out⟩
    · have q1 : ((n : Int) != 100) = true := by rw [bne_iff_ne]; omega
      by_cases h97 : n = 97
      · have HZ := Lib.hid (hz.trans (if_pos ⟨hc, .inr h97⟩))
        subst h97
        clear hz hb hq hh hn b_of hx hxs e1 e2 hc hs h100
        go_enter Tryz.func33, Tryz.ntmps33
        go_wp2_with fail
        refine HM.out.mono ?_; rintro e w1 ⟨rfl, b1⟩
        have B1 := Lib.hid b1
        clear b1
        go_wp2_with fail
        refine (HT.out w1).mono ?_; rintro e w2 ⟨rfl, b2⟩
        have B2 := Lib.hid (below_step B1.out b2)
        clear b2
        go_wp2_with fail
        go_ret2
        exact ⟨by rw [HZ.out]; rfl, B2.out⟩
      · have q2 : ((n : Int) != 97) = true := by rw [bne_iff_ne]; omega
        have HZ := Lib.hid (hz.trans (if_neg (fun h => h.2.elim h100 h97)))
        clear hz hb hq hh hn b_of hx hxs e1 e2 hc hs h100 h97
        go_enter Tryz.func33, Tryz.ntmps33
        go_wp2_with fail
        refine HM.out.mono ?_; rintro e w1 ⟨rfl, b1⟩
        have B1 := Lib.hid b1
        clear b1
        go_wp2_with fail
        go_ret2
        exact ⟨by rw [HZ.out]; rfl, B1.out⟩
  · rw [show (checkP (bl s) == 0) = false by rw [beq_eq_false_iff_ne]; exact hc] at HM
    have HZ := Lib.hid (hz.trans (if_neg (fun h => hc h.1)))
    clear hz hc hs
    go_enter Tryz.func33, Tryz.ntmps33
    go_wp2_with fail
    refine HM.out.mono ?_; rintro e w1 ⟨rfl, b1⟩
    have B1 := Lib.hid b1
    clear b1
    go_wp2_with fail
    go_ret2
    exact ⟨by rw [HZ.out]; rfl, B1.out⟩
end Go.Proofs.YtiehhlolhhjgpaaGreatDoor.Pl

namespace Go.Proofs.YtiehhlolhhjgpaaGreatDoor.Pl
open Go.RowKit

noncomputable def readnumP (s : List UInt8) : Nat × Bool :=
  if (textP s).2 = true ∧ kindP s = 1 ∧ (rdn (textP s).1).2.2 = 0 ∧ (rdn (textP s).1).2.1 = (textP s).1.length ∧ (rdn (textP s).1).1 ≤ 2147483647 then ((rdn (textP s).1).1, true) else (0, false)
theorem rdt_out (l : List UInt8) (m : Int) : (rdt l m).1.length ≤ l.length := by
  unfold rdt
  by_cases h1 : (rdn l).2.2 ≠ 0
  · rw [if_pos h1]; simp
  · rw [if_neg h1]
    by_cases h2 : max m 0 < ((rdn l).1 : Int)
    · rw [if_pos h2]; simp
    · rw [if_neg h2]
      by_cases h3 : l.length - (rdn l).2.1 < (rdn l).1
      · rw [if_pos h3]; simp
      · rw [if_neg h3]; simp; omega
theorem textP_len (s : List UInt8) : (textP s).1.length ≤ s.length := by
  unfold textP
  by_cases h : checkP s = 0 ∧ (s.head? = some 100 ∨ s.head? = some 97)
  · rw [if_pos h]
    have h1 := rdt_out (s.drop 1) 1024
    rw [List.length_drop] at h1
    simp only
    omega
  · rw [if_neg h]; simp
theorem kindP_le (s : List UInt8) : kindP s ≤ 6 := by
  unfold kindP
  split
  · split
    · omega
    · repeat (split; omega)
      omega
  · omega
def nb2 (h : Nat × Bool) : Value := .tuple #[.int .i64 h.1, .bool h.2]
end Go.Proofs.YtiehhlolhhjgpaaGreatDoor.Pl

namespace Go.Proofs.YtiehhlolhhjgpaaGreatDoor.Pl
open Go.RowKit

def nameP6 (s : List UInt8) : Nat × Nat := if (rdt s 32).2.2 = 0 ∧ nameOK (rdt s 32).1 = false then (0, 7) else ((rdt s 32).2.1, (rdt s 32).2.2)

set_option maxHeartbeats 1000000 in
set_option maxRecDepth 100000 in
theorem namesize_any (s : ByteArray) (hs : s.size ≤ 281474976710656) (w : World) :
    Calls Tryz.prog 120 #[.string s] w (Size6 (nameP6 (bl s)) w) := by
  have hT := fun V => readtext_any s 32 V hs (by decide) (by decide)
  obtain ⟨r, hr⟩ : ∃ r, r = rdt (bl s) 32 := ⟨_, rfl⟩
  have hbl : s.data.toList = bl s := rfl
  have hlen := rdt_out (bl s) 32
  rw [hbl, ← hr] at hT
  obtain ⟨z, hz⟩ : ∃ z, z = nameP6 (bl s) := ⟨_, rfl⟩
  rw [← hz]
  unfold nameP6 at hz
  rw [← hr] at hz hlen
  obtain ⟨t, k, f⟩ := r
  have HN := Lib.hid (fun V => isname_any ⟨t.toArray⟩ (by show t.toArray.size ≤ _; rw [List.size_toArray]; rw [bl_length] at hlen; simp only at hlen; omega) V)
  rw [bl_mk] at HN
  have HT := Lib.hid hT
  have HZ := Lib.hid hz
  clear hr hs hbl hz hlen hT
  by_cases hf : f = 0
  · subst hf
    cases hn : nameOK t with
    | false =>
      rw [hn] at HN
      have HNN := Lib.hid hn
      clear hn
      go_enter Tryz.func120, Tryz.ntmps120
      go_wp2_with (first | (go_at_call 57; refine (HT.out _).mono ?_; rintro e w1 ⟨rfl, b1⟩) | (go_at_call 123; refine (need_ok _).mono ?_; rintro e w2 ⟨rfl, rfl⟩) | (go_at_call 41; refine (HN.out _).mono ?_; rintro e w3 ⟨rfl, b3⟩))
      have hz := HZ.out
      rw [if_pos (by first | exact ⟨rfl, HNN.out⟩ | exact ⟨trivial, HNN.out⟩)] at hz
      exact ⟨rfl, hz ▸ Size6.bad (f := 7) (by decide) (b1.trans (b3.mono b1.size))⟩
    | true =>
      rw [hn] at HN
      have HNN := Lib.hid hn
      clear hn
      go_enter Tryz.func120, Tryz.ntmps120
      go_wp2_with (first | (go_at_call 57; refine (HT.out _).mono ?_; rintro e w1 ⟨rfl, b1⟩) | (go_at_call 123; refine (need_ok _).mono ?_; rintro e w2 ⟨rfl, rfl⟩) | (go_at_call 41; refine (HN.out _).mono ?_; rintro e w3 ⟨rfl, b3⟩))
      go_ret
      have hz := HZ.out
      rw [if_neg (by rintro ⟨_, h⟩; rw [HNN.out] at h; cases h)] at hz
      exact hz ▸ Size6.ok (b1.trans (b3.mono b1.size))
  · have HF := Lib.hid hf
    clear HN
    go_enter Tryz.func120, Tryz.ntmps120
    go_wp2_with (first | (go_at_call 57; refine (HT.out _).mono ?_; rintro e w1 ⟨rfl, b1⟩) | (go_at_call 123; refine (need_bad f HF.out _).mono ?_; rintro e w2 ⟨rfl, rfl⟩))
    have hz := HZ.out
    rw [if_neg (by rintro ⟨h, _⟩; exact HF.out h)] at hz
    exact ⟨rfl, hz ▸ Size6.bad HF.out b1⟩

/-- A place, as the program has it. -/
def cellsPl (p : Pl6) : Array Value := #[.int .i64 p.at_, .int .i64 p.dep, .int .i64 p.head, .int .i64 p.parts]
def encPl (p : Pl6) : Value := .agg (cellsPl p)
def Place6 (p : Pl6) (e : Nat) (w : World) (x : Ending) (w' : World) : Prop := (if e = 0 then x = .returned (encPl p) else x = boom e) ∧ Below w.heap.size w w'
theorem Place6.ok {p : Pl6} {w w' : World} (h : Below w.heap.size w w') : Place6 p 0 w (.returned (encPl p)) w' := ⟨by rw [if_pos rfl], h⟩
theorem Place6.bad {p : Pl6} {f : Nat} {w w' : World} (hf : f ≠ 0) (h : Below w.heap.size w w') : Place6 p f w (boom f) w' := ⟨by rw [if_neg hf], h⟩
theorem pl_info (p : Pl6) : (Tryz.prog.info? 68).map (·.size) = some (cellsPl p).size := by kernel_rfl
theorem pl_one (p : Pl6) : (cellsPl p).all (·.oneCell') = true := by simp [cellsPl, Value.oneCell']
theorem pl_info4 (x y z u : Int) : (Tryz.prog.info? 68).map (·.size) = some (#[Value.int .i64 x, .int .i64 y, .int .i64 z, .int .i64 u].size) := by kernel_rfl
theorem pl_one4 (x y z u : Int) : (#[Value.int .i64 x, .int .i64 y, .int .i64 z, .int .i64 u] : Array Value).all (·.oneCell') = true := by simp [Value.oneCell']
/-- The variable of a place, empty. -/
abbrev noPl : Array Value := #[.int .i64 0, .int .i64 0, .int .i64 0, .int .i64 0]

set_option maxHeartbeats 1000000 in
set_option maxRecDepth 100000 in
theorem placeat_deep (s : ByteArray) (a : Nat) (D : Nat) (hD : 16 < D) (hD2 : D ≤ 1000000) (p : Pl6) (w : World) :
    Calls Tryz.prog 106 #[.string s, .int .i64 a, .int .i64 D] w (Place6 p 60 w) := by
  have q : (16 : Int) < (D : Int) := by omega
  clear hD
  go_enter Tryz.func106, Tryz.ntmps106
  go_wp2_with fail
  exact ⟨rfl, Place6.bad (f := 60) (by decide) ((Below.refl _ _).alloc (Nat.le_refl _) _)⟩

/-- What storing the place leaves. -/
theorem pl_end (w V : World) (p : Pl6) (e : Nat) (he : e = 0) (N : V.heap[w.heap.size]? = some (.cells noPl 68 (0, 0))) (B : Below w.heap.size w V) (c : Array Value) (hc : c = cellsPl p) :
    (V.setRow w.heap.size c).heap[w.heap.size]? = some (.cells c 68 (0, 0)) ∧ (Tryz.prog.info? 68).map (·.size) = some c.size ∧ Place6 p e w (.returned (.agg c)) (V.setRow w.heap.size c) := by
  subst hc he
  exact ⟨setRow_heap _ _ _ _ _ _ N, pl_info p, Place6.ok (below_setRow B (Nat.le_refl _) _)⟩

set_option maxHeartbeats 4000000 in
set_option maxRecDepth 100000 in
theorem placeat_any (s : ByteArray) (a : Nat) (D : Nat) (hD : D ≤ 16) (ha : a ≤ s.size) (hs : s.size ≤ 281474976710656) (w : World) :
    Calls Tryz.prog 106 #[.string s, .int .i64 a, .int .i64 D] w (Place6 ⟨a, D, a + (headP ((bl s).drop a)).1, (headP ((bl s).drop a)).2.1⟩ (headP ((bl s).drop a)).2.2 w) := by
  have q : ¬ (16 : Int) < (D : Int) := by omega
  have N0 := Lib.hid (Go.heap_alloc_new w (.cells noPl 68))
  obtain ⟨z, hz⟩ : ∃ z, z = headP ((bl s).drop a) := ⟨_, rfl⟩
  rw [← hz]
  clear hD
  by_cases he : a = s.size
  · subst he
    rw [List.drop_of_length_le (by rw [bl_length]; exact Nat.le_refl _)] at hz
    have HZ := Lib.hid hz
    clear hz ha
    go_enter Tryz.func106, Tryz.ntmps106
    go_wp2_with fail
    exact ⟨rfl, HZ.out ▸ Place6.bad (f := 6) (by decide) ((Below.refl _ _).alloc (Nat.le_refl _) _)⟩
  · have q0 : ((a : Int) == (s.size : Int)) = false := by rw [beq_eq_false_iff_ne]; omega
    obtain ⟨b, hb⟩ : ∃ b : UInt8, b = (bl s).getD a 0 := ⟨_, rfl⟩
    have hc : (bl s).drop a = b :: (bl s).drop (a + 1) := by
      have hl : a < (bl s).length := by rw [bl_length]; omega
      rw [List.drop_eq_getElem_cons hl, hb]
      simp [List.getD_eq_getElem?_getD, hl]
    have hx : bl (s.extract (a + 1) s.size) = (bl s).drop (a + 1) := bl_from s (a + 1)
    have h1 : s.extract a (a + 1) = ⟨#[b]⟩ := bl_inj (by
      rw [bl_extract, show bl ⟨#[b]⟩ = [b] from rfl]
      rw [List.drop_take, hc]; simp)
    have sl1 : ∀ V : World, (Instr.sliceAt 9 (.string s) (some (.int .i64 (a : Int))) (some (.int .i64 ((a : Int) + 1))) none).run Tryz.prog V = .ok (.string ⟨#[b]⟩) V := fun V => by
      rw [← h1]; exact tslice_mid s a (a + 1) (by omega) (by omega) V
    have sl2 : ∀ V : World, (Instr.sliceAt 9 (.string s) (some (.int .i64 ((a : Int) + 1))) none none).run Tryz.prog V = .ok (.string (s.extract (a + 1) s.size)) V := tslice_from s (a + 1) (by omega)
    have HXS : Hid ((s.extract (a + 1) s.size).size ≤ 281474976710656) := Lib.hid (by rw [size_bl, hx, List.length_drop, bl_length]; omega)
    have hxl : (s.extract (a + 1) s.size).size + a + 1 = s.size := by rw [size_bl, hx, List.length_drop, bl_length]; omega
    rw [hc, ← hx] at hz
    clear hb hc hx h1
    generalize s.extract (a + 1) s.size = x at *
    have HT := Lib.hid (fun V => textsize_any x HXS.out V)
    have HN := Lib.hid (fun V => namesize_any x HXS.out V)
    have HR := Lib.hid (fun V => rowhead_any x HXS.out V)
    have HL := Lib.hid hxl
    simp only [headP] at hz
    have HB1 : Hid (Below w.heap.size w (w.alloc (.cells noPl 68))) := Lib.hid ((Below.refl _ _).alloc (Nat.le_refl _) _)
    by_cases e100 : b = 100
    · rw [if_pos e100] at hz
      subst e100
      have hsz := rdt_size (bl x) 1024
      have hT := HT.out
      have hq : (rdt (bl x) 1024).2.1 ≤ (bl x).length ∧ z = if (rdt (bl x) 1024).2.2 = 0 then (1 + (rdt (bl x) 1024).2.1, 0, 0) else (z.1, z.2.1, (rdt (bl x) 1024).2.2) := by
        refine ⟨hsz, ?_⟩
        rw [hz]
        split
        · rename_i h2; rw [h2]
        · rfl
      obtain ⟨r, hr⟩ : ∃ r : Nat × Nat, r = ((rdt (bl x) 1024).2.1, (rdt (bl x) 1024).2.2) := ⟨_, rfl⟩
      rw [← hr] at hT
      obtain ⟨k, f⟩ := r
      injection hr with hr1 hr2
      rw [← hr1, ← hr2] at hq
      obtain ⟨hk, hz2⟩ := hq
      replace hk : k ≤ 281474976710656 := by rw [bl_length] at hk; have := HXS.out; omega
      have HZ2 := Lib.hid hz2
      have HT2 := Lib.hid hT
      clear HT HN HR hT hz hsz hxl he hz2 hr1 hr2
      by_cases hf : f = 0
      · subst hf
        have HZ : Hid (z = (1 + k, 0, 0)) := Lib.hid (HZ2.out.trans (if_pos rfl))
        have HK := Lib.hid hk
        go_enter Tryz.func106, Tryz.ntmps106
        go_wp2_with fail
        refine (HT2.out _).mono ?_; rintro e w2 ⟨h2, b2⟩
        rw [if_pos rfl] at h2; subst h2
        have B2 := Lib.hid (HB1.out.trans (b2.mono HB1.out.size))
        have N2 := Lib.hid (heap_below b2 N0.out)
        clear b2
        go_wp2_with (refine wpList_store_row rfl 68 _ _ rfl w.heap.size #[.int .i64 (a : Int), .int .i64 (D : Int), .int .i64 ((a : Int) + 1 + (k : Int)), .int .i64 0] rfl rfl 68 noPl N2.out (pl_info4 _ _ _ _) rfl (pl_one4 _ _ _ _) ?_)
        obtain ⟨y1, y2, y3⟩ := pl_end w _ ⟨a, D, a + z.1, z.2.1⟩ z.2.2 (by rw [HZ.out]) N2.out B2.out #[.int .i64 (a : Int), .int .i64 (D : Int), .int .i64 ((a : Int) + 1 + (k : Int)), .int .i64 (0)] (by rw [HZ.out]; simp [cellsPl]; omega)
        refine bodyPost_ret (v := .agg _) ?_ rfl y3
        exact results_cell_row rfl _ _ w.heap.size 68 _ (0, 0) _ rfl y1 Tryz.underlying68 rfl y2
      · have HF := Lib.hid hf
        have HZ : Hid (z = (z.1, z.2.1, f)) := Lib.hid (HZ2.out.trans (if_neg hf))
        go_enter Tryz.func106, Tryz.ntmps106
        go_wp2_with fail
        refine (HT2.out _).mono ?_; rintro e w2 ⟨h2, b2⟩
        rw [if_neg HF.out] at h2; subst h2
        refine ⟨rfl, ?_⟩
        rw [HZ.out]
        exact Place6.bad HF.out (HB1.out.trans (b2.mono HB1.out.size))
    · rw [if_neg e100] at hz
      by_cases e97 : b = 97
      · rw [if_pos e97] at hz
        subst e97
        obtain ⟨n100, m100⟩ := str6_ne (a := ⟨#[97]⟩) (b := ⟨#[100]⟩) (by decide)
        have hsz := rdt_size (bl x) 32
        have hT := HN.out
        have hq : (nameP6 (bl x)).1 ≤ (bl x).length ∧ z = if (nameP6 (bl x)).2 = 0 then (1 + (nameP6 (bl x)).1, 0, 0) else (z.1, z.2.1, (nameP6 (bl x)).2) := by
          unfold nameP6
          split at hz
          · rename_i h; rw [if_pos h, hz]; exact ⟨Nat.zero_le _, rfl⟩
          · rename_i h; rw [if_neg h, hz]
            refine ⟨hsz, ?_⟩
            split
            · rename_i h2; simp only at h2; rw [h2]
            · rfl
        obtain ⟨r, hr⟩ : ∃ r : Nat × Nat, r = nameP6 (bl x) := ⟨_, rfl⟩
        rw [← hr] at hT
        rw [← hr] at hq
        obtain ⟨k, f⟩ := r
        obtain ⟨hk, hz2⟩ := hq
        replace hk : k ≤ 281474976710656 := by rw [bl_length] at hk; have := HXS.out; omega
        have HZ2 := Lib.hid hz2
        have HT2 := Lib.hid hT
        clear HT HN HR hT hz hsz hxl he hz2 hr
        by_cases hf : f = 0
        · subst hf
          have HZ : Hid (z = (1 + k, 0, 0)) := Lib.hid (HZ2.out.trans (if_pos rfl))
          have HK := Lib.hid hk
          go_enter Tryz.func106, Tryz.ntmps106
          go_wp2_with fail
          refine (HT2.out _).mono ?_; rintro e w2 ⟨h2, b2⟩
          rw [if_pos rfl] at h2; subst h2
          have B2 := Lib.hid (HB1.out.trans (b2.mono HB1.out.size))
          have N2 := Lib.hid (heap_below b2 N0.out)
          clear b2
          go_wp2_with (refine wpList_store_row rfl 68 _ _ rfl w.heap.size #[.int .i64 (a : Int), .int .i64 (D : Int), .int .i64 ((a : Int) + 1 + (k : Int)), .int .i64 0] rfl rfl 68 noPl N2.out (pl_info4 _ _ _ _) rfl (pl_one4 _ _ _ _) ?_)
          obtain ⟨y1, y2, y3⟩ := pl_end w _ ⟨a, D, a + z.1, z.2.1⟩ z.2.2 (by rw [HZ.out]) N2.out B2.out #[.int .i64 (a : Int), .int .i64 (D : Int), .int .i64 ((a : Int) + 1 + (k : Int)), .int .i64 (0)] (by rw [HZ.out]; simp [cellsPl]; omega)
          refine bodyPost_ret (v := .agg _) ?_ rfl y3
          exact results_cell_row rfl _ _ w.heap.size 68 _ (0, 0) _ rfl y1 Tryz.underlying68 rfl y2
        · have HF := Lib.hid hf
          have HZ : Hid (z = (z.1, z.2.1, f)) := Lib.hid (HZ2.out.trans (if_neg hf))
          go_enter Tryz.func106, Tryz.ntmps106
          go_wp2_with fail
          refine (HT2.out _).mono ?_; rintro e w2 ⟨h2, b2⟩
          rw [if_neg HF.out] at h2; subst h2
          refine ⟨rfl, ?_⟩
          rw [HZ.out]
          exact Place6.bad HF.out (HB1.out.trans (b2.mono HB1.out.size))
      · rw [if_neg e97] at hz
        by_cases e114 : b = 114
        · rw [if_pos e114] at hz
          subst e114
          obtain ⟨n100, m100⟩ := str6_ne (a := ⟨#[114]⟩) (b := ⟨#[100]⟩) (by decide)
          obtain ⟨n97, m97⟩ := str6_ne (a := ⟨#[114]⟩) (b := ⟨#[97]⟩) (by decide)
          have hsz : (rdn (bl x)).2.2 = 0 → (rdn (bl x)).2.1 ≤ (bl x).length := fun h => (rdn_sound (l := bl x) (v := (rdn (bl x)).1) (n := (rdn (bl x)).2.1) (by rw [← h])).2.1
          have hT := HR.out
          have hq : ((rowP6 (bl x)).2.2 = 0 → (rowP6 (bl x)).2.1 ≤ (bl x).length) ∧ ((rowP6 (bl x)).2.2 = 0 → (rowP6 (bl x)).1 ≤ 32) ∧ z = if (rowP6 (bl x)).2.2 = 0 then (1 + (rowP6 (bl x)).2.1, (rowP6 (bl x)).1, 0) else (z.1, z.2.1, (rowP6 (bl x)).2.2) := by
            unfold rowP6
            split at hz
            · rename_i h; rw [if_pos h, hz]; exact ⟨fun h => absurd h (by decide), fun h => absurd h (by decide), rfl⟩
            · rename_i h; rw [if_neg h, hz]
              refine ⟨hsz, fun h2 => ?_, ?_⟩
              · by_cases h3 : 32 < (rdn (bl x)).1
                · exact absurd ⟨h2, h3⟩ h
                · omega
              split
              · rename_i h2; rw [h2]
              · rfl
          obtain ⟨r, hr⟩ : ∃ r, r = rowP6 (bl x) := ⟨_, rfl⟩
          rw [← hr] at hT hq
          obtain ⟨v, k, f⟩ := r
          obtain ⟨hk, hv, hz2⟩ := hq
          have hx0 := HXS.out
          have HZ2 := Lib.hid hz2
          have HT2 := Lib.hid hT
          clear HT HN HR hT hz hsz hxl he hz2 hr
          by_cases hf : f = 0
          · subst hf
            replace hv : v ≤ 32 := hv rfl
            replace hk : k ≤ 281474976710656 := by have := hk rfl; rw [bl_length] at this; simp only at this; omega
            have HZ : Hid (z = (1 + k, v, 0)) := Lib.hid (HZ2.out.trans (if_pos rfl))
            have HK := Lib.hid hk
            go_enter Tryz.func106, Tryz.ntmps106
            go_wp2_with fail
            refine (HT2.out _).mono ?_; rintro e w2 ⟨h2, b2⟩
            rw [if_pos rfl] at h2; subst h2
            have B2 := Lib.hid (HB1.out.trans (b2.mono HB1.out.size))
            have N2 := Lib.hid (heap_below b2 N0.out)
            clear b2
            go_wp2_with (refine wpList_store_row rfl 68 _ _ rfl w.heap.size #[.int .i64 (a : Int), .int .i64 (D : Int), .int .i64 ((a : Int) + 1 + (k : Int)), .int .i64 (v : Int)] rfl rfl 68 noPl N2.out (pl_info4 _ _ _ _) rfl (pl_one4 _ _ _ _) ?_)
            obtain ⟨y1, y2, y3⟩ := pl_end w _ ⟨a, D, a + z.1, z.2.1⟩ z.2.2 (by rw [HZ.out]) N2.out B2.out #[.int .i64 (a : Int), .int .i64 (D : Int), .int .i64 ((a : Int) + 1 + (k : Int)), .int .i64 ((v : Int))] (by rw [HZ.out]; simp [cellsPl]; omega)
            refine bodyPost_ret (v := .agg _) ?_ rfl y3
            exact results_cell_row rfl _ _ w.heap.size 68 _ (0, 0) _ rfl y1 Tryz.underlying68 rfl y2
          · clear hv hk
            have HF := Lib.hid hf
            have HZ : Hid (z = (z.1, z.2.1, f)) := Lib.hid (HZ2.out.trans (if_neg hf))
            go_enter Tryz.func106, Tryz.ntmps106
            go_wp2_with fail
            refine (HT2.out _).mono ?_; rintro e w2 ⟨h2, b2⟩
            rw [if_neg HF.out] at h2; subst h2
            refine ⟨rfl, ?_⟩
            rw [HZ.out]
            exact Place6.bad HF.out (HB1.out.trans (b2.mono HB1.out.size))
        · rw [if_neg e114] at hz
          by_cases e104 : b = 104
          · rw [if_pos e104] at hz
            subst e104
            obtain ⟨n100, m100⟩ := str6_ne (a := ⟨#[104]⟩) (b := ⟨#[100]⟩) (by decide)
            obtain ⟨n97, m97⟩ := str6_ne (a := ⟨#[104]⟩) (b := ⟨#[97]⟩) (by decide)
            obtain ⟨n114, m114⟩ := str6_ne (a := ⟨#[104]⟩) (b := ⟨#[114]⟩) (by decide)
            clear HT HN HR hxl he
            have HZ : Hid (z = (1, 1, 0)) := Lib.hid hz
            clear hz
            have N2 := N0
            have B2 := HB1
            go_enter Tryz.func106, Tryz.ntmps106
            go_wp2_with (refine wpList_store_row rfl 68 _ _ rfl w.heap.size #[.int .i64 (a : Int), .int .i64 (D : Int), .int .i64 ((a : Int) + 1), .int .i64 1] rfl rfl 68 noPl N2.out (pl_info4 _ _ _ _) rfl (pl_one4 _ _ _ _) ?_)
            obtain ⟨y1, y2, y3⟩ := pl_end w _ ⟨a, D, a + z.1, z.2.1⟩ z.2.2 (by rw [HZ.out]) N2.out B2.out #[.int .i64 (a : Int), .int .i64 (D : Int), .int .i64 ((a : Int) + 1), .int .i64 (1)] (by rw [HZ.out]; simp [cellsPl])
            refine bodyPost_ret (v := .agg _) ?_ rfl y3
            exact results_cell_row rfl _ _ w.heap.size 68 _ (0, 0) _ rfl y1 Tryz.underlying68 rfl y2
          · rw [if_neg e104] at hz
            by_cases e109 : b = 109
            · rw [if_pos e109] at hz
              subst e109
              obtain ⟨n100, m100⟩ := str6_ne (a := ⟨#[109]⟩) (b := ⟨#[100]⟩) (by decide)
              obtain ⟨n97, m97⟩ := str6_ne (a := ⟨#[109]⟩) (b := ⟨#[97]⟩) (by decide)
              obtain ⟨n114, m114⟩ := str6_ne (a := ⟨#[109]⟩) (b := ⟨#[114]⟩) (by decide)
              obtain ⟨n104, m104⟩ := str6_ne (a := ⟨#[109]⟩) (b := ⟨#[104]⟩) (by decide)
              clear HT HN HR hxl he
              have HZ : Hid (z = (1, 2, 0)) := Lib.hid hz
              clear hz
              have N2 := N0
              have B2 := HB1
              go_enter Tryz.func106, Tryz.ntmps106
              go_wp2_with (refine wpList_store_row rfl 68 _ _ rfl w.heap.size #[.int .i64 (a : Int), .int .i64 (D : Int), .int .i64 ((a : Int) + 1), .int .i64 2] rfl rfl 68 noPl N2.out (pl_info4 _ _ _ _) rfl (pl_one4 _ _ _ _) ?_)
              obtain ⟨y1, y2, y3⟩ := pl_end w _ ⟨a, D, a + z.1, z.2.1⟩ z.2.2 (by rw [HZ.out]) N2.out B2.out #[.int .i64 (a : Int), .int .i64 (D : Int), .int .i64 ((a : Int) + 1), .int .i64 (2)] (by rw [HZ.out]; simp [cellsPl])
              refine bodyPost_ret (v := .agg _) ?_ rfl y3
              exact results_cell_row rfl _ _ w.heap.size 68 _ (0, 0) _ rfl y1 Tryz.underlying68 rfl y2
            · rw [if_neg e109] at hz
              by_cases e115 : b = 115
              · rw [if_pos e115] at hz
                subst e115
                obtain ⟨n100, m100⟩ := str6_ne (a := ⟨#[115]⟩) (b := ⟨#[100]⟩) (by decide)
                obtain ⟨n97, m97⟩ := str6_ne (a := ⟨#[115]⟩) (b := ⟨#[97]⟩) (by decide)
                obtain ⟨n114, m114⟩ := str6_ne (a := ⟨#[115]⟩) (b := ⟨#[114]⟩) (by decide)
                obtain ⟨n104, m104⟩ := str6_ne (a := ⟨#[115]⟩) (b := ⟨#[104]⟩) (by decide)
                obtain ⟨n109, m109⟩ := str6_ne (a := ⟨#[115]⟩) (b := ⟨#[109]⟩) (by decide)
                clear HT HN HR hxl he
                have HZ : Hid (z = (1, 3, 0)) := Lib.hid hz
                clear hz
                have N2 := N0
                have B2 := HB1
                go_enter Tryz.func106, Tryz.ntmps106
                go_wp2_with (refine wpList_store_row rfl 68 _ _ rfl w.heap.size #[.int .i64 (a : Int), .int .i64 (D : Int), .int .i64 ((a : Int) + 1), .int .i64 3] rfl rfl 68 noPl N2.out (pl_info4 _ _ _ _) rfl (pl_one4 _ _ _ _) ?_)
                obtain ⟨y1, y2, y3⟩ := pl_end w _ ⟨a, D, a + z.1, z.2.1⟩ z.2.2 (by rw [HZ.out]) N2.out B2.out #[.int .i64 (a : Int), .int .i64 (D : Int), .int .i64 ((a : Int) + 1), .int .i64 (3)] (by rw [HZ.out]; simp [cellsPl])
                refine bodyPost_ret (v := .agg _) ?_ rfl y3
                exact results_cell_row rfl _ _ w.heap.size 68 _ (0, 0) _ rfl y1 Tryz.underlying68 rfl y2
              · rw [if_neg e115] at hz
                obtain ⟨n100, m100⟩ := str6_ne (a := ⟨#[b]⟩) (b := ⟨#[100]⟩) (fun h => e100 (by injection h with h; simpa using h))
                obtain ⟨n97, m97⟩ := str6_ne (a := ⟨#[b]⟩) (b := ⟨#[97]⟩) (fun h => e97 (by injection h with h; simpa using h))
                obtain ⟨n114, m114⟩ := str6_ne (a := ⟨#[b]⟩) (b := ⟨#[114]⟩) (fun h => e114 (by injection h with h; simpa using h))
                obtain ⟨n104, m104⟩ := str6_ne (a := ⟨#[b]⟩) (b := ⟨#[104]⟩) (fun h => e104 (by injection h with h; simpa using h))
                obtain ⟨n109, m109⟩ := str6_ne (a := ⟨#[b]⟩) (b := ⟨#[109]⟩) (fun h => e109 (by injection h with h; simpa using h))
                obtain ⟨n115, m115⟩ := str6_ne (a := ⟨#[b]⟩) (b := ⟨#[115]⟩) (fun h => e115 (by injection h with h; simpa using h))
                have t100 : (⟨#[100]⟩ : ByteArray).toList = [100] := by rw [Lib.toList_data]
                rw [t100] at n100 m100
                have t97 : (⟨#[97]⟩ : ByteArray).toList = [97] := by rw [Lib.toList_data]
                rw [t97] at n97 m97
                have t114 : (⟨#[114]⟩ : ByteArray).toList = [114] := by rw [Lib.toList_data]
                rw [t114] at n114 m114
                have t104 : (⟨#[104]⟩ : ByteArray).toList = [104] := by rw [Lib.toList_data]
                rw [t104] at n104 m104
                have t109 : (⟨#[109]⟩ : ByteArray).toList = [109] := by rw [Lib.toList_data]
                rw [t109] at n109 m109
                have t115 : (⟨#[115]⟩ : ByteArray).toList = [115] := by rw [Lib.toList_data]
                rw [t115] at n115 m115
                generalize (⟨#[b]⟩ : ByteArray) = sb at *
                have HZ : Hid (z = (0, 0, 7)) := Lib.hid hz
                clear hz HT HN HR hxl he
                go_enter Tryz.func106, Tryz.ntmps106
                go_wp2_with fail
                exact ⟨rfl, HZ.out ▸ Place6.bad (f := 7) (by decide) HB1.out⟩
end Go.Proofs.YtiehhlolhhjgpaaGreatDoor.Pl

namespace Go.Proofs.YtiehhlolhhjgpaaGreatDoor.Pl
open Go.RowKit Go.Shelf
attribute [local go_sem] Oper.semAt_some

/-- What a round keeps: every block that is a place, and no block is gone. -/
def KeepP (W W' : World) : Prop := W.heap.size ≤ W'.heap.size ∧ ∀ (b : Nat) (cs : Array Value), W.heap[b]? = some (Obj.cells cs 68 (0, 0)) → W'.heap[b]? = some (Obj.cells cs 68 (0, 0))
theorem KeepP.refl (W : World) : KeepP W W := ⟨Nat.le_refl _, fun _ _ h => h⟩
theorem KeepP.trans {U V W : World} (h : KeepP U V) (k : KeepP V W) : KeepP U W := ⟨Nat.le_trans h.1 k.1, fun b cs e => k.2 b cs (h.2 b cs e)⟩
theorem KeepP.of_below {W W' : World} (h : Below W.heap.size W W') : KeepP W W' := ⟨h.size, fun b _ e => (h.block b (Array.getElem?_eq_some_iff.1 e).1).trans e⟩

theorem hdd (k : Nat) : Fence.wide.depth.isSome = true → 1 ≤ k := fun h => by cases h

def YP (J Jx : List Pl6 → World → Prop) (pre : List Pl6) (p : Pl6) (W : World) (e : Ending) (W' : World) : Prop :=
  (e = .returned (.bool true) ∧ J (pre ++ [p]) W' ∧ KeepP W W') ∨ (e = .returned (.bool false) ∧ Jx (pre ++ [p]) W' ∧ KeepP W W')
def VisPost (vs : List Pl6 × Nat × Nat) (J Jx : List Pl6 → World → Prop) (pre : List Pl6) (W : World) (e : Ending) (W' : World) : Prop :=
  (vs.2.2 = 0 ∧ e = .returned (.tuple #[.int .i64 vs.2.1, .bool true]) ∧ J (pre ++ vs.1) W' ∧ KeepP W W') ∨
  (∃ (z : Nat) (q : List Pl6), e = .returned (.tuple #[.int .i64 z, .bool false]) ∧ q <+: vs.1 ∧ Jx (pre ++ q) W' ∧ KeepP W W') ∨
  (vs.2.2 ≠ 0 ∧ e = boom vs.2.2 ∧ J (pre ++ vs.1) W')

set_option maxRecDepth 100000 in
set_option maxHeartbeats 4000000 in
theorem visit_in (s : ByteArray) (hs : s.size ≤ 281474976710656) (l : Nat) (L : List Pl6) (J Jx : List Pl6 → World → Prop)
    (hA : ∀ pre W W', J pre W → Below W.heap.size W W' → J pre W')
    (hY : ∀ m pre p W, J pre W → (pre ++ [p]) <+: L → YieldAt Fence.wide m Tryz.prog l #[encPl p] W (YP J Jx pre p W)) :
    ∀ (d D a : Nat) (pre : List Pl6) (n : Nat) (W : World), d + D = 17 → 1 ≤ D → a ≤ s.size → pre ++ (visP (bl s) d a).1 <+: L → J pre W →
      CallsIn Fence.wide n Tryz.prog 87 #[.string s, .int .i64 a, .int .i64 D, .func (.yield l) #[] #[]] W (VisPost (visP (bl s) d a) J Jx pre W) := by
  intro d
  induction d with
  | zero =>
    intro D a pre n W hD h1 ha hpre hJ
    obtain rfl : D = 17 := by omega
    have HP := Lib.hid (fun V => placeat_deep s a 17 (by decide) (by decide) ⟨0, 0, 0, 0⟩ V)
    have HJ := Lib.hid (fun V b => hA pre W V hJ b)
    clear hA hY hJ hpre
    refine callsIn_of_wp Tryz.func87 rfl trivial ?_ rfl
    simp only [Tryz.ntmps87, List.size_toArray, List.length_cons, List.length_nil, Nat.reduceAdd, Nat.reduceSub, Array.replicate_succ, Array.replicate_zero, List.push_toArray, List.append_toArray, List.nil_append, List.cons_append]
    gi_wp2_with (refine ⟨trivial, hdd _, ?_⟩; gi_at_call 106; refine (callsIn_wide.2 (HP.out _)).mono ?_; rintro e w1 ⟨h2, b1⟩; rw [if_neg (by decide)] at h2; subst h2)
    exact ⟨rfl, .inr (.inr ⟨by simp [visP], by simp [visP], by simpa [visP] using HJ.out _ b1⟩)⟩
  | succ d ih =>
    intro D a pre n W hD h1 ha hpre hJ
    have HP := Lib.hid (fun V => placeat_any s a D (by omega) ha hs V)
    by_cases hh : (headP ((bl s).drop a)).2.2 = 0
    · rw [visP, if_pos hh] at hpre ⊢
      have hl1 : (headP ((bl s).drop a)).1 + a ≤ s.size := by
        have := head_le hh
        rw [List.length_drop, bl_length] at this
        omega
      have hl2 : (headP ((bl s).drop a)).2.1 ≤ 32 := head_le32 hh
      rw [hh] at HP
      have hD2 : 16 - d = D := by omega
      rw [hD2] at hpre ⊢
      obtain ⟨e0, he0⟩ : ∃ e0, e0 = a + (headP ((bl s).drop a)).1 := ⟨_, rfl⟩
      obtain ⟨k, hk⟩ : ∃ k, k = (headP ((bl s).drop a)).2.1 := ⟨_, rfl⟩
      rw [← he0, ← hk] at HP hpre ⊢
      rw [← hk] at hl2
      have hle0 : e0 ≤ s.size := by omega
      clear hh he0 hk hl1 hD2
      have HQ : Hid (∀ V, Calls Tryz.prog 106 #[.string s, .int .i64 a, .int .i64 D] V fun e V' => e = .returned (.agg #[.int .i64 a, .int .i64 D, .int .i64 e0, .int .i64 k]) ∧ Below V.heap.size V V') := Lib.hid (fun V => (HP.out V).mono (fun e V' h => ⟨h.1.trans rfl, h.2⟩))
      replace hpre : pre ++ (⟨a, D, e0, k⟩ :: (visL (visP (bl s) d) k e0).1) <+: L := hpre
      have HY : Hid (∀ m w1, Below W.heap.size W w1 → YieldAt Fence.wide m Tryz.prog l #[.agg #[.int .i64 a, .int .i64 D, .int .i64 e0, .int .i64 k]] w1 (YP J Jx pre ⟨a, D, e0, k⟩ w1)) := Lib.hid (fun m w1 b => hY m pre ⟨a, D, e0, k⟩ w1 (hA pre W w1 hJ b) (List.IsPrefix.trans ⟨(visL (visP (bl s) d) k e0).1, by simp⟩ hpre))
      clear HP
      refine callsIn_of_wp Tryz.func87 rfl trivial ?_ rfl
      simp only [Tryz.ntmps87, List.size_toArray, List.length_cons, List.length_nil, Nat.reduceAdd, Nat.reduceSub, Array.replicate_succ, Array.replicate_zero, List.push_toArray, List.append_toArray, List.nil_append, List.cons_append]
      gi_wp2_with (refine ⟨trivial, hdd _, ?_⟩; gi_at_call 106; refine (callsIn_wide.2 (HQ.out _)).mono ?_; rintro e w1 ⟨rfl, b1⟩)
      have mixed : Tryz.prog.follows .mixedOrders = true := by kernel_rfl
      refine wpIn_region_any mixed ?_
      obtain ⟨U0, hU0⟩ : ∃ U0, ({ w1.alloc (.cells #[.int .i64 a, .int .i64 D, .int .i64 e0, .int .i64 k] 68) with drawn := (w1.alloc (.cells #[.int .i64 a, .int .i64 D, .int .i64 e0, .int .i64 k] 68)).drawn + 1 } : World) = U0 := ⟨_, rfl⟩
      rw [hU0]
      have hB0 : Below W.heap.size W U0 := by rw [← hU0]; exact (b1.alloc b1.size _).drew
      have hPc : U0.heap[w1.heap.size]? = some (.cells #[.int .i64 a, .int .i64 D, .int .i64 e0, .int .i64 k] 68 (0, 0)) := by rw [← hU0]; exact Go.heap_alloc_new w1 _
      obtain ⟨B, hB⟩ : ∃ B, B = w1.heap.size := ⟨_, rfl⟩
      rw [← hB] at hPc ⊢
      clear hU0 hB b1
      obtain ⟨fn, tm, asg, bod, hy, hR⟩ := HY.out (n - 1) U0 hB0
      have hPW : ∀ w', KeepP U0 w' → w'.heap[B]? = some (.cells #[.int .i64 a, .int .i64 D, .int .i64 e0, .int .i64 k] 68 (0, 0)) := fun w' h => h.2 B _ hPc
      refine wpAnyIn_inv (fun listed a' w' => ∃ q0 q1 q2 q3 q4 q5 q6 : Bool, ∃ x16 x17 x18 x19 x20 x8 x9 : Value, listed = #[q0, q1, q2, q3, q4, q5, q6] ∧ a' = { tmps := #[.string s, .int .i64 a, .int .i64 D, .func (.yield l) #[] #[], undef, undef, undef, undef, x8, x9, .pointer (some ⟨B, 0, none⟩), undef, .string s, .int .i64 a, .int .i64 D, .agg #[.int .i64 a, .int .i64 D, .int .i64 e0, .int .i64 k], x16, x17, x18, x19, x20, undef, undef, undef, undef, undef, undef, undef, undef, undef, undef, undef, undef, undef, undef, undef, undef, undef, undef, undef, undef], defers := [] } ∧
        ((q0 = true → x16 = .pointer (some ⟨B, 2, none⟩)) ∧ (q1 = true → x17 = .int .i64 e0) ∧ (q2 = true → x18 = .func (.yield l) #[] #[]) ∧ (q3 = true → x19 = .agg #[.int .i64 a, .int .i64 D, .int .i64 e0, .int .i64 k]) ∧ (q5 = true → x8 = .int .i64 e0) ∧ (q6 = true → x9 = x20)) ∧
        (q4 = false → w' = U0) ∧ (q4 = true → YP J Jx pre ⟨a, D, e0, k⟩ U0 (.returned x20) w') ∧ (q6 = true → q4 = true)) ?_ ?_ _ _ _ _ (by decide) ?_
      · intro listed a' w' i hI hi
        obtain ⟨q0, q1, q2, q3, q4, q5, q6, x16, x17, x18, x19, x20, x8, x9, rfl, rfl, ⟨h0, h1, h2, h3, h5, h6⟩, c1, c2, c3⟩ := hI
        have hun := (mem_ready.1 hi).1
        have hpl : w'.heap[B]? = some (.cells #[.int .i64 a, .int .i64 D, .int .i64 e0, .int .i64 k] 68 (0, 0)) := by
          cases q4 with
          | false => rw [c1 rfl]; exact hPc
          | true => rcases c2 rfl with ⟨_, _, hk⟩ | ⟨_, _, hk⟩ <;> exact hPW _ hk
        rcases i with _ | _ | _ | _ | _ | _ | _ | i
        · refine wpOpIn_want rfl rfl (fun K hK => ?_)
          have H := Lib.hid (And.intro h1 (And.intro h2 (And.intro h3 (And.intro h5 (And.intro h6 (And.intro c1 (And.intro c2 c3)))))))
          clear h0 h1 h2 h3 h5 h6 c1 c2 c3 hpl
          go_simp
          obtain ⟨h1, h2, h3, h5, h6, c1, c2, c3⟩ := H.out
          exact hK _ _ ⟨true, q1, q2, q3, q4, q5, q6, _, x17, x18, x19, x20, x8, x9, rfl, rfl, ⟨fun _ => rfl, h1, h2, h3, h5, h6⟩, c1, c2, c3⟩
        · have d0 : q0 = true := dep hi rfl ⟨0, .data⟩ (by simp) rfl
          obtain rfl := (h0 d0).symm
          have hc : w'.cell? ⟨B, 2, none⟩ = some (.int .i64 e0) := cell_of_row _ _ _ _ _ _ hpl
          refine wpOpIn_want rfl rfl (fun K hK => ?_)
          have H := Lib.hid (And.intro h0 (And.intro h2 (And.intro h3 (And.intro h5 (And.intro h6 (And.intro c1 (And.intro c2 c3)))))))
          clear h0 h1 h2 h3 h5 h6 c1 c2 c3 hpl
          go_simp
          obtain ⟨h0, h2, h3, h5, h6, c1, c2, c3⟩ := H.out
          exact hK _ _ ⟨q0, true, q2, q3, q4, q5, q6, _, _, x18, x19, x20, x8, x9, rfl, rfl, ⟨h0, fun _ => rfl, h2, h3, h5, h6⟩, c1, c2, c3⟩
        · refine wpOpIn_want rfl rfl (fun K hK => ?_)
          have H := Lib.hid (And.intro h0 (And.intro h1 (And.intro h3 (And.intro h5 (And.intro h6 (And.intro c1 (And.intro c2 c3)))))))
          clear h0 h1 h2 h3 h5 h6 c1 c2 c3 hpl
          go_simp
          obtain ⟨h0, h1, h3, h5, h6, c1, c2, c3⟩ := H.out
          exact hK _ _ ⟨q0, q1, true, q3, q4, q5, q6, x16, x17, _, x19, x20, x8, x9, rfl, rfl, ⟨h0, h1, fun _ => rfl, h3, h5, h6⟩, c1, c2, c3⟩
        · refine wpOpIn_want rfl rfl (fun K hK => ?_)
          have H := Lib.hid (And.intro h0 (And.intro h1 (And.intro h2 (And.intro h5 (And.intro h6 (And.intro c1 (And.intro c2 c3)))))))
          have HPL := Lib.hid hpl
          have hl0 : w'.cell? ⟨B, 0, none⟩ = some (.int .i64 a) := cell_of_row _ _ _ _ _ _ hpl
          have hl1 : w'.cell? ⟨B, 1, none⟩ = some (.int .i64 D) := cell_of_row _ _ _ _ _ _ hpl
          have hl2 : w'.cell? ⟨B, 2, none⟩ = some (.int .i64 e0) := cell_of_row _ _ _ _ _ _ hpl
          have hl3 : w'.cell? ⟨B, 3, none⟩ = some (.int .i64 k) := cell_of_row _ _ _ _ _ _ hpl
          clear h0 h1 h2 h3 h5 h6 c1 c2 c3 hpl
          go_simp
          obtain ⟨h0, h1, h2, h5, h6, c1, c2, c3⟩ := H.out
          exact hK _ _ ⟨q0, q1, q2, true, q4, q5, q6, x16, x17, x18, _, x20, x8, x9, rfl, rfl, ⟨h0, h1, h2, fun _ => rfl, h5, h6⟩, c1, c2, c3⟩
        · have e4 : q4 = false := hun
          have d2 : q2 = true := dep hi rfl ⟨2, .data⟩ (by simp) rfl
          have d3 : q3 = true := dep hi rfl ⟨3, .data⟩ (by simp) rfl
          have f6 : q6 = false := by cases q6 with | false => rfl | true => exact absurd (c3 rfl) (by simp [e4])
          obtain rfl := (h2 d2).symm
          obtain rfl := (h3 d3).symm
          obtain rfl := (c1 e4).symm
          subst f6
          refine wpOpIn_want rfl rfl (fun K hK => ?_)
          have H := Lib.hid (And.intro h0 (And.intro h1 (And.intro h2 (And.intro h3 h5))))
          clear h0 h1 h2 h3 h5 h6 c1 c2 c3 hpl
          go_simp
          refine ⟨hdd _, hR.mono ?_⟩
          rintro e W3 hyp
          obtain ⟨v, rfl⟩ : ∃ v, e = .returned v := by rcases hyp with ⟨rfl, _⟩ | ⟨rfl, _⟩ <;> exact ⟨_, rfl⟩
          obtain ⟨h0, h1, h2, h3, h5⟩ := H.out
          exact hK _ _ ⟨q0, q1, q2, q3, true, q5, false, x16, x17, _, _, v, x8, x9, rfl, rfl, ⟨h0, h1, h2, h3, h5, fun h => by cases h⟩, fun h => (by cases h), fun _ => hyp, fun h => (by cases h)⟩
        · have d1 : q1 = true := dep hi rfl ⟨1, .data⟩ (by simp) rfl
          obtain rfl := (h1 d1).symm
          refine wpOpIn_want rfl rfl (fun K hK => ?_)
          have H := Lib.hid (And.intro h0 (And.intro h1 (And.intro h2 (And.intro h3 (And.intro h6 (And.intro c1 (And.intro c2 c3)))))))
          clear h0 h1 h2 h3 h5 h6 c1 c2 c3 hpl
          go_simp
          obtain ⟨h0, h1, h2, h3, h6, c1, c2, c3⟩ := H.out
          exact hK _ _ ⟨q0, q1, q2, q3, q4, true, q6, x16, _, x18, x19, x20, _, x9, rfl, rfl, ⟨h0, h1, h2, h3, fun _ => rfl, h6⟩, c1, c2, c3⟩
        · have d4 : q4 = true := dep hi rfl ⟨4, .data⟩ (by simp) rfl
          refine wpOpIn_want rfl rfl (fun K hK => ?_)
          have H := Lib.hid (And.intro h0 (And.intro h1 (And.intro h2 (And.intro h3 (And.intro h5 (And.intro c1 c2))))))
          clear h0 h1 h2 h3 h5 h6 c1 c2 c3 hpl
          go_simp
          obtain ⟨h0, h1, h2, h3, h5, c1, c2⟩ := H.out
          exact hK _ _ ⟨q0, q1, q2, q3, q4, q5, true, x16, x17, x18, x19, x20, x8, _, rfl, rfl, ⟨h0, h1, h2, h3, h5, fun _ => rfl⟩, c1, c2, fun _ => d4⟩
        · exact absurd (mem_ready.1 hi).2 (by rintro ⟨o, ho, _⟩; simp at ho)
      · rintro listed a' w' ⟨q0, q1, q2, q3, q4, q5, q6, x16, x17, x18, x19, x20, x8, x9, rfl, rfl, ⟨h0, h1, h2, h3, h5, h6⟩, c1, c2, c3⟩ hr
        have hall := fun i (hi : i < 7) => all_listed (by kernel_rfl) rfl hr 7 i hi hi
        have e0' : q0 = true := hall 0 (by decide)
        have e1' : q1 = true := hall 1 (by decide)
        have e2' : q2 = true := hall 2 (by decide)
        have e3' : q3 = true := hall 3 (by decide)
        have e4' : q4 = true := hall 4 (by decide)
        have e5' : q5 = true := hall 5 (by decide)
        have e6' : q6 = true := hall 6 (by decide)
        obtain rfl := (h0 e0').symm
        obtain rfl := (h1 e1').symm
        obtain rfl := (h2 e2').symm
        obtain rfl := (h3 e3').symm
        obtain rfl := (h5 e5').symm
        obtain rfl := (h6 e6').symm
        have hyp := c2 e4'
        clear hall hr h0 h1 h2 h3 h5 h6 c1 c2 c3 e0' e1' e2' e3' e4' e5' e6' hy hR
        dsimp only
        have hst : ∃ m : Bool, x20 = .bool m ∧ KeepP U0 w' ∧ (m = true → J (pre ++ [⟨a, D, e0, k⟩]) w') ∧ (m = false → Jx (pre ++ [⟨a, D, e0, k⟩]) w') := by
          rcases hyp with ⟨he, hj, hk⟩ | ⟨he, hj, hk⟩
          · cases he; exact ⟨true, rfl, hk, fun _ => hj, fun h => (by cases h)⟩
          · cases he; exact ⟨false, rfl, hk, fun h => (by cases h), fun _ => hj⟩
        obtain ⟨m0, rfl, hk0, hj0, hx0⟩ := hst
        obtain ⟨VL, hVL⟩ : ∃ VL, VL = visL (visP (bl s) d) k e0 := ⟨_, rfl⟩
        have HPRE := Lib.hid hpre
        have HVL := Lib.hid hVL
        have HJ0 := Lib.hid hj0
        have HX0 := Lib.hid hx0
        have HK0 := Lib.hid hk0
        have HIH := Lib.hid ih
        have HL2 := Lib.hid hl2
        have HLE := Lib.hid hle0
        rw [← hVL] at HPRE ⊢
        have HPW := Lib.hid hPW
        have HBU : Hid (KeepP W U0) := Lib.hid (KeepP.of_below hB0)
        have HD := Lib.hid hD
        clear hA hY HY hyp hPW hpre hVL hj0 hx0 hk0 ih hJ HQ hl2 hle0 hPc hB0 mixed
        gi_wp2
        gi_loopw [8, 9, 11] (fun ev mv iv wr => ∃ (E I : Nat) (m : Bool), ev = .int .i64 E ∧ mv = .bool m ∧ iv = .int .i64 I ∧ I ≤ k ∧ Hid (KeepP U0 wr) ∧
            Hid (m = true → E ≤ s.size ∧ ∃ dn, VL = (dn ++ (visL (visP (bl s) d) (k - I) E).1, (visL (visP (bl s) d) (k - I) E).2) ∧ J (pre ++ ⟨a, D, e0, k⟩ :: dn) wr) ∧
            Hid (m = false → ∃ q, q <+: ⟨a, D, e0, k⟩ :: VL.1 ∧ Jx (pre ++ q) wr))
          (fun _ _ iv _ => k + 1 - (intOf iv).toNat)
        case atStart =>
          refine ⟨e0, 0, m0, rfl, rfl, rfl, Nat.zero_le _, HK0, Lib.hid (fun h => ⟨HLE.out, [], by rw [HVL.out]; rfl, HJ0.out h⟩), Lib.hid (fun h => ⟨[⟨a, D, e0, k⟩], ⟨VL.1, rfl⟩, HX0.out h⟩)⟩
        case round =>
          obtain ⟨E, I, m, rfl, rfl, rfl, hIk, hkp, hgo, hno⟩ := hrel
          cases m with
          | false =>
            gi_wp2
            go_ret2
            obtain ⟨q, hq, hx⟩ := hno.out (by first | rfl | trivial)
            rw [← HVL.out]
            exact .inr (.inl ⟨E, q, rfl, hq, hx, HBU.out.trans hkp.out⟩)
          | true =>
            have hpl := HPW.out wr hkp.out
            have hc3 : wr.cell? ⟨B, 3, none⟩ = some (.int .i64 k) := cell_of_row _ _ _ _ _ _ hpl
            clear hpl
            by_cases hik : I = k
            · have hq : ¬ (I : Int) < (k : Int) := by omega
              have HIK := Lib.hid hik
              clear hik hIk
              gi_wp2
              go_ret2
              obtain ⟨_, dn, hv, hj⟩ := hgo.out (by first | rfl | trivial)
              rw [HIK.out, Nat.sub_self] at hv
              have hv' : VL = (dn, E, 0) := by rw [hv]; simp [visL]
              rw [← HVL.out, hv']
              exact .inl ⟨rfl, rfl, hj, HBU.out.trans hkp.out⟩
            · have hq : (I : Int) < (k : Int) := by omega
              obtain ⟨hE, dn, hv, hj⟩ := hgo.out (by first | rfl | trivial)
              obtain ⟨r, hr⟩ : ∃ r, k - I = r + 1 := ⟨k - I - 1, by omega⟩
              have hr' : k - (I + 1) = r := by omega
              rw [hr, visL] at hv
              have hpx : pre ++ ⟨a, D, e0, k⟩ :: dn ++ (visP (bl s) d E).1 <+: L := by
                refine List.IsPrefix.trans ?_ HPRE.out
                rw [hv]
                split
                · exact ⟨(visL (visP (bl s) d) r (visP (bl s) d E).2.1).1, by simp⟩
                · exact ⟨[], by simp⟩
              have HC := Lib.hid (HIH.out (D + 1) E (pre ++ ⟨a, D, e0, k⟩ :: dn) (n - 1) wr (by have := HD.out; omega) (by omega) hE hpx hj)
              have hok := (vis_ok (bl s) d E (by omega) (by rw [bl_length]; exact hE)).2
              rw [bl_length] at hok
              have HOK := Lib.hid hok
              have HV := Lib.hid hv
              have HR := Lib.hid hr'
              have HEB := Lib.hid hE
              have hb1 : (I : Int) ≤ 32 := by have := HL2.out; omega
              have hb2 : (D : Int) ≤ 17 := by have := HD.out; omega
              have HI : Hid (I + 1 ≤ k) := Lib.hid (by omega)
              clear hik hIk hE hv hj hr hr' hpx hok h1 ha hD
              generalize visP (bl s) d E = vs at *
              obtain ⟨vl, ve, vf⟩ := vs
              gi_wp2_with (refine ⟨trivial, hdd _, ?_⟩; gi_at_call 87; refine HC.out.mono ?_; rintro e W3 (⟨hz, rfl, hj3, hk3⟩ | ⟨z, q, rfl, hq3, hx3, hk3⟩ | ⟨hz, rfl, hj3⟩))
              · go_roundw
                case rel =>
                  refine ⟨ve, I + 1, true, rfl, rfl, rfl, HI.out, Lib.hid (hkp.out.trans hk3), Lib.hid (fun _ => ⟨HOK.out hz, dn ++ vl, ?_, ?_⟩), Lib.hid (fun h => by cases h)⟩
                  · have h := HV.out
                    rw [if_pos hz] at h
                    rw [HR.out, h]; simp
                  · simpa using hj3
                case measure => have := HI.out; simp [intOf]; omega
              · go_roundw
                case rel =>
                  refine ⟨z, I + 1, false, rfl, rfl, rfl, HI.out, Lib.hid (hkp.out.trans hk3), Lib.hid (fun h => by cases h), Lib.hid (fun _ => ⟨⟨a, D, e0, k⟩ :: dn ++ q, ?_, ?_⟩)⟩
                  · obtain ⟨t, ht⟩ := hq3
                    have h := HV.out
                    split at h
                    · rw [h]; exact ⟨t ++ (visL (visP (bl s) d) r ve).1, by simp [← ht]⟩
                    · rw [h]; exact ⟨t, by simp [← ht]⟩
                  · simpa using hx3
                case measure => have := HI.out; simp [intOf]; omega
              · refine ⟨rfl, .inr (.inr ?_)⟩
                have h := HV.out
                rw [if_neg hz] at h
                rw [← HVL.out, h]
                exact ⟨hz, rfl, by simpa using hj3⟩
      · exact ⟨false, false, false, false, false, false, false, undef, undef, undef, undef, undef, .int .i64 0, .bool false, rfl, rfl, by simp, by simp, by simp, by simp⟩
    · have HH := Lib.hid hh
      have HJ := Lib.hid (fun V b => hA pre W V hJ b)
      have HV : Hid (visP (bl s) (d + 1) a = ([], 0, (headP ((bl s).drop a)).2.2)) := Lib.hid (by rw [visP, if_neg hh])
      rw [HV.out]
      clear hA hY hJ hpre ih hh
      refine callsIn_of_wp Tryz.func87 rfl trivial ?_ rfl
      simp only [Tryz.ntmps87, List.size_toArray, List.length_cons, List.length_nil, Nat.reduceAdd, Nat.reduceSub, Array.replicate_succ, Array.replicate_zero, List.push_toArray, List.append_toArray, List.nil_append, List.cons_append]
      gi_wp2_with (refine ⟨trivial, hdd _, ?_⟩; gi_at_call 106; refine (callsIn_wide.2 (HP.out _)).mono ?_; rintro e w1 ⟨h2, b1⟩; rw [if_neg HH.out] at h2; subst h2)
      exact ⟨rfl, .inr (.inr ⟨HH.out, rfl, by simpa using HJ.out _ b1⟩)⟩
end Go.Proofs.YtiehhlolhhjgpaaGreatDoor.Pl

namespace Go.Proofs.YtiehhlolhhjgpaaGreatDoor.Pl
open Go.RowKit Go.Shelf
attribute [local go_sem] Oper.semAt_some

theorem KeepP.putObj {W : World} {l : Nat} {o : Obj} (h : W.heap[l]? = some o) (ho : o.isCells = false) (o' : Obj) : KeepP W (W.putObj l o') :=
  ⟨by simp, fun b cs hb => (World.putObj_heap_other (fun e => by subst e; rw [h] at hb; cases hb; cases ho)).trans hb⟩
theorem KeepP.alloc (W : World) (o : Obj) : KeepP W (W.alloc o) := KeepP.of_below ((Below.refl _ W).alloc (Nat.le_refl _) _)

/-- The places of a whole text. -/
def vis (s : ByteArray) : List Pl6 × Nat × Nat := visP (bl s) 16 0

/-- How going over the places ends. -/
def WalkPost (s : ByteArray) (J Jx : List Pl6 → World → Prop) (e : Ending) (W' : World) : Prop :=
  ((vis s).2.2 = 0 ∧ (∃ v, e = .returned v) ∧ J (vis s).1 W') ∨ (∃ q, (∃ v, e = .returned v) ∧ q <+: (vis s).1 ∧ Jx q W') ∨ ((vis s).2.2 ≠ 0 ∧ e = boom (vis s).2.2 ∧ J (vis s).1 W')

set_option maxRecDepth 100000 in
set_option maxHeartbeats 1000000 in
theorem places1_in (s : ByteArray) (hs : s.size ≤ 281474976710656) (l B n : Nat) (J Jx : List Pl6 → World → Prop)
    (hA : ∀ pre W W', J pre W → Below W.heap.size W W' → J pre W')
    (hY : ∀ m pre p W, J pre W → (pre ++ [p]) <+: (vis s).1 → YieldAt Fence.wide m Tryz.prog l #[encPl p] W (YP J Jx pre p W))
    (W : World) (hB : W.cell? ⟨B, 0, none⟩ = some (.string s)) (h0 : J [] W) :
    CallsIn Fence.wide n Tryz.prog 86 #[.func (.yield l) #[] #[], .pointer (some ⟨B, 0, none⟩)] W (WalkPost s J Jx) := by
  have HV := Lib.hid (fun m => visit_in s hs l (vis s).1 J Jx hA hY 16 1 0 [] m W rfl (Nat.le_refl _) (Nat.zero_le _) (List.prefix_refl _) h0)
  clear hA hY h0
  refine callsIn_of_wp Tryz.func86 rfl trivial ?_ rfl
  simp only [Tryz.ntmps86, List.size_toArray, List.length_cons, List.length_nil, Nat.reduceAdd, Nat.reduceSub, Array.replicate_succ, Array.replicate_zero, List.push_toArray, List.append_toArray, List.nil_append, List.cons_append]
  gi_wp2_with (refine ⟨trivial, hdd _, ?_⟩; gi_at_call 87; refine (HV.out _).mono ?_; rintro e W3 (⟨hz, rfl, hj3, hk3⟩ | ⟨z, q, rfl, hq3, hx3, hk3⟩ | ⟨hz, rfl, hj3⟩))
  · go_end0
    exact .inl ⟨hz, ⟨_, rfl⟩, hj3⟩
  · go_end0
    exact .inr (.inl ⟨q, ⟨_, rfl⟩, hq3, hx3⟩)
  · exact ⟨rfl, .inr (.inr ⟨hz, rfl, hj3⟩)⟩

theorem places_in (s : ByteArray) (w : World) :
    Calls Tryz.prog 54 #[.string s] w fun e w' => e = .returned (.func (.func 86) #[] #[.pointer (some ⟨w.heap.size, 0, none⟩)]) ∧
      w.alloc (.cells #[.string s] 9) = w' := by
  go_enter Tryz.func54, Tryz.ntmps54
  go_wp2
  go_ret
  exact ⟨rfl, rfl⟩

/-- How the body of a round may be left. -/
def PlPost (B : Nat) (I : List Pl6 → World → Prop) (Ix : Code → List Pl6 → World → Prop) (xs : List Pl6) (W : World) : Exit → Act → World → Prop
  | .normal, _, W' => KeepsFrom B W W' ∧ KeepP W W' ∧ I xs W'
  | .ret, _, W' => KeepsFrom B W W' ∧ KeepP W W' ∧ Ix .ret xs W'
  | .exit id, _, W' => KeepsFrom B W W' ∧ KeepP W W' ∧ Ix (.exit id) xs W'
  | .goto t, _, W' => KeepsFrom B W W' ∧ KeepP W W' ∧ Ix (.goto t) xs W'
  | .panic _, _, _ => False
  | .outgrown, _, _ => False

/-- The mark that a loop leaves among the deferred calls. -/
abbrev markOf (D : Nat) : Deferred := { target := .collected D, args := #[] }

theorem wpIn_places {g : Operand} {p : Tmp} {assign body : Code} {Q : Exit → Act → World → Prop} {a : Act} {w : World} {n : Nat}
    (s : ByteArray) (hs : s.size ≤ 281474976710656) (B : Nat) (hB : Boxed w B 9 (.string s)) (hg : a.eval g = .func (.func 86) #[] #[.pointer (some ⟨B, 0, none⟩)])
    (I : List Pl6 → World → Prop) (Ix : Code → List Pl6 → World → Prop) (hI : OwnFrom w.heap.size I) (hIx : ∀ c, OwnFrom w.heap.size (Ix c)) (h0 : I [] w)
    (Ax : Pl6 → Act → World → Prop) (hAx : ∀ x a', OwnFrom w.heap.size (fun (_ : Unit) W => Ax x a' W))
    (hassign : ∀ (m l : Nat) (pre : List Pl6) (x : Pl6) (W : World) (K : Act → World → Prop), I pre W → (∀ a' W', KeepsFrom w.heap.size W W' → KeepP W W' → I pre W' → Ax x a' W' → K a' W') →
      assign.wpIn (Fence.wide.inRound l) m Tryz.prog (Exit.then K (fun _ _ _ => False)) { tmps := a.tmps.setIfInBounds p (encPl x), defers := [] } W)
    (hbody : ∀ (m l : Nat) (pre : List Pl6) (x : Pl6) (a' : Act) (W : World), w.heap.size ≤ l → I pre W → Ax x a' W → pre ++ [x] <+: (vis s).1 →
      body.wpIn (Fence.wide.inRound l) m Tryz.prog (PlPost w.heap.size I Ix (pre ++ [x]) W) a' W)
    (hdone : ∀ (D : Nat) (W : World), w.heap.size ≤ D → (vis s).2.2 = 0 → I (vis s).1 W → W.heap[D]? = some (.deferred (some [])) → Q .normal { a with defers := markOf D :: a.defers } W)
    (hstop : ∀ (D : Nat) (c : Code) (pre : List Pl6) (W : World), w.heap.size ≤ D → pre <+: (vis s).1 → Ix c pre W → W.heap[D]? = some (.deferred (some [])) → c.wpIn Fence.wide n Tryz.prog Q { a with defers := markOf D :: a.defers } W)
    (hthrow : ∀ (D : Nat) (W : World), w.heap.size ≤ D → (vis s).2.2 ≠ 0 → I (vis s).1 W → W.heap[D]? = some (.deferred (some [])) →
      Q (.panic [{ v := .iface 24 (.int .i64 (vis s).2.2), recovered := false }]) { a with defers := markOf D :: a.defers } W) :
    (Code.rangeFunc g #[p] assign body).wpIn Fence.wide n Tryz.prog Q a w := by
  refine wpIn_rangeFunc fun fn hfn => ?_
  obtain ⟨B0, hB0⟩ : ∃ B0, B0 = w.heap.size := ⟨_, rfl⟩
  obtain ⟨rec, hrec⟩ : ∃ rec : LoopState → Option Code → Loop, rec = fun st pe => { state := st, pending := pe, fn := fn, tmps := a.tmps, params := #[p], assign := assign, body := body, defers := w.heap.size } := ⟨_, rfl⟩
  obtain ⟨V, hV⟩ : ∃ V, V = (w.alloc (.deferred (some []))).alloc (.loop (rec .ready none)) := ⟨_, rfl⟩
  have vB : Below w.heap.size w V := by rw [hV]; exact ((Below.refl _ w).alloc (Nat.le_refl _) _).alloc (by simp) _
  have vL : V.heap[w.heap.size + 1]? = some (.loop (rec .ready none)) := by
    have h := World.alloc_heap_new (w.alloc (.deferred (some []))) (.loop (rec .ready none))
    rw [World.size_alloc] at h
    rw [hV]; exact h
  have vD : V.heap[w.heap.size]? = some (.deferred (some [])) := by
    rw [hV]; exact (Below.heap_alloc _ _ _ (by simp)).trans (World.alloc_heap_new w _)
  have vI : I [] V := by rw [hV]; exact hI.alloc _ (hI.alloc _ h0)
  have vC : V.cell? ⟨B, 0, none⟩ = some (.string s) := (vB.cell (p := ⟨B, 0, none⟩) hB.lt).trans hB.cell
  -- the two blocks of the loop, behind whatever a round has done
  obtain ⟨Bk, hBk⟩ : ∃ Bk : Loop → World → Prop, Bk = fun r W => W.heap[w.heap.size + 1]? = some (.loop r) ∧ W.heap[w.heap.size]? = some (.deferred (some [])) := ⟨_, rfl⟩
  have bkV : Bk (rec .ready none) V := by rw [hBk]; exact ⟨vL, vD⟩
  have bkBelow : ∀ r W W', Bk r W → Below W.heap.size W W' → Bk r W' := fun r W W' h b => by
    rw [hBk] at h ⊢; exact ⟨heap_below b h.1, heap_below b h.2⟩
  have bkKeep : ∀ r W W', Bk r W → KeepsFrom w.heap.size W W' → Bk r W' := fun r W W' h k => by
    rw [hBk] at h ⊢; exact ⟨k.same _ _ (Nat.le_succ _) h.1 rfl, k.same _ _ (Nat.le_refl _) h.2 rfl⟩
  have bkPut : ∀ r r' W, Bk r W → Bk r' (W.putObj (w.heap.size + 1) (.loop r')) := fun r r' W h => by
    rw [hBk] at h ⊢; exact ⟨World.putObj_heap_same (Array.getElem?_eq_some_iff.1 h.1).1, (World.putObj_heap_other (by omega)).trans h.2⟩
  have bkL : ∀ r W, Bk r W → W.heap[w.heap.size + 1]? = some (.loop r) := fun r W h => by rw [hBk] at h; exact h.1
  have bkD : ∀ r W, Bk r W → W.heap[w.heap.size]? = some (.deferred (some [])) := fun r W h => by rw [hBk] at h; exact h.2
  clear hBk vL vD
  have grow : ∀ {W W' : World}, Below W.heap.size W W' → W.grownBy W' none := fun b => ⟨b.os, b.tape, b.output, b.size, fun k hk _ => b.block k hk⟩
  refine ⟨w.heap.size + 1, [markOf w.heap.size], V, { target := .fn (.func 86) #[.pointer (some ⟨B, 0, none⟩)], args := #[.func (.yield (w.heap.size + 1)) #[] #[]] }, V, 86,
    #[.func (.yield (w.heap.size + 1)) #[] #[]] ++ #[.pointer (some ⟨B, 0, none⟩)], V, ?_, ?_, ?_, ?_, hdd _, ?_⟩
  · rw [hV, hrec]; exact run_enterLoop_outer _ _ _ _ _
  · simp only [resolve, hg]; simp [go_sem]
  · intro f' _; exact trivial
  · simp [invoke, go_sem]
  · refine CallsIn.mono (places1_in s hs (w.heap.size + 1) B (n - 1) (fun pre W => I pre W ∧ Bk (rec .ready none) W) (fun pre W => ∃ c, Ix c pre W ∧ Bk (rec .done (some c)) W) ?_ ?_ V vC ⟨vI, bkV⟩) ?_
    · exact fun pre W W' h b => ⟨hI pre W W' none h.1 (grow b) (fun r e => by cases e), bkBelow _ _ _ h.2 b⟩
    · rintro m pre x W ⟨hi, hbk⟩ hpre
      have hy := run_yield (P := Tryz.prog) (args := #[encPl x]) (bkL _ _ hbk) (by rw [hrec]; rfl)
      have hy2 : (Instr.yield (w.heap.size + 1) #[encPl x]).run Tryz.prog W = .ok (.round (w.heap.size + 1) fn (a.tmps.setIfInBounds p (encPl x)) assign body) W := by rw [hy, hrec]; simp
      refine ⟨fn, _, assign, body, hy2, roundIn_of_wpIn trivial ?_⟩
      clear hy hy2
      refine hassign m _ pre x W _ hi fun a' Wa k1 k2 hia hax => ?_
      have bka := bkKeep _ _ _ hbk k1
      have hla := bkL _ _ bka
      refine ⟨_, run_beginRound hla (by rw [hrec]), ?_⟩
      obtain ⟨Wb, hWb⟩ : ∃ Wb, Wb = Wa.putObj (w.heap.size + 1) (.loop { rec .ready none with state := .busy }) := ⟨_, rfl⟩
      have bkb : Bk { rec .ready none with state := .busy } Wb := by rw [hWb]; exact bkPut _ _ _ bka
      have k3 : KeepP Wa Wb := by rw [hWb]; exact KeepP.putObj hla rfl _
      have hib : I pre Wb := by rw [hWb]; exact hI.putObj _ hia (by omega) hla rfl
      have haxb : Ax x a' Wb := by rw [hWb]; exact (hAx x a').putObj (s := ()) _ hax (by omega) hla rfl
      rw [← hWb]
      refine wpIn_mono (hbody m (w.heap.size + 1) pre x a' Wb (by omega) hib haxb hpre) ?_
      have fin : ∀ (jump : Option Code) (Wc : World), KeepsFrom w.heap.size Wb Wc → KeepP Wb Wc →
          ∃ Wd, (Instr.endRound (w.heap.size + 1) jump).run Tryz.prog Wc = .ok (.bool jump.isNone) Wd ∧ Bk (rec (if jump.isNone then .ready else .done) jump) Wd ∧ KeepP W Wd ∧
            Wd = Wc.putObj (w.heap.size + 1) (.loop (rec (if jump.isNone then .ready else .done) jump)) ∧ Wc.heap[w.heap.size + 1]? = some (.loop { rec .ready none with state := .busy }) := fun jump Wc k4 k5 => by
        have bkc := bkKeep _ _ _ bkb k4
        have hlc := bkL _ _ bkc
        have hr := run_endRound (P := Tryz.prog) jump hlc
        refine ⟨_, ?_, bkPut _ _ _ bkc, ((k2.trans k3).trans k5).trans (KeepP.putObj hlc rfl _), rfl, hlc⟩
        rw [hr, hrec]
      rintro e a3 Wc hp
      cases e with
      | normal =>
        obtain ⟨k4, k5, hic⟩ := hp
        obtain ⟨Wd, hr, bkd, kd, hWd, hlc⟩ := fin none Wc k4 k5
        exact ⟨_, _, hr, .inl ⟨rfl, ⟨by rw [hWd]; exact hI.putObj _ hic (by omega) hlc rfl, bkd⟩, kd⟩⟩
      | ret =>
        obtain ⟨k4, k5, hic⟩ := hp
        obtain ⟨Wd, hr, bkd, kd, hWd, hlc⟩ := fin (some .ret) Wc k4 k5
        exact ⟨_, _, hr, .inr ⟨rfl, ⟨.ret, by rw [hWd]; exact (hIx _).putObj _ hic (by omega) hlc rfl, bkd⟩, kd⟩⟩
      | exit id =>
        obtain ⟨k4, k5, hic⟩ := hp
        obtain ⟨Wd, hr, bkd, kd, hWd, hlc⟩ := fin (some (.exit id)) Wc k4 k5
        exact ⟨_, _, hr, .inr ⟨rfl, ⟨.exit id, by rw [hWd]; exact (hIx _).putObj _ hic (by omega) hlc rfl, bkd⟩, kd⟩⟩
      | goto t =>
        obtain ⟨k4, k5, hic⟩ := hp
        obtain ⟨Wd, hr, bkd, kd, hWd, hlc⟩ := fin (some (.goto t)) Wc k4 k5
        exact ⟨_, _, hr, .inr ⟨rfl, ⟨.goto t, by rw [hWd]; exact (hIx _).putObj _ hic (by omega) hlc rfl, bkd⟩, kd⟩⟩
      | panic ch => exact hp.elim
      | outgrown => exact hp.elim
    · rintro e W2 (⟨hz, ⟨v, rfl⟩, hi, hbk⟩ | ⟨q, ⟨v, rfl⟩, hq, c, hi, hbk⟩ | ⟨hz, rfl, hi, hbk⟩)
      · have hl := bkL _ _ hbk
        have he := run_endLoop (P := Tryz.prog) hl (by rw [hrec]; simp)
        refine ⟨none, _, he.trans (by rw [hrec]), ?_⟩
        exact hdone _ _ (Nat.le_refl _) hz (hI.putObj _ hi (by omega) hl rfl) ((World.putObj_heap_other (by omega)).trans (bkD _ _ hbk))
      · have hl := bkL _ _ hbk
        have he := run_endLoop (P := Tryz.prog) hl (by rw [hrec]; simp)
        refine ⟨some c, _, he.trans (by rw [hrec]), ?_⟩
        exact hstop _ c q _ (Nat.le_refl _) hq ((hIx c).putObj _ hi (by omega) hl rfl) ((World.putObj_heap_other (by omega)).trans (bkD _ _ hbk))
      · exact hthrow _ W2 (Nat.le_refl _) hz hi (bkD _ _ hbk)
end Go.Proofs.YtiehhlolhhjgpaaGreatDoor.Pl

namespace Go.Proofs.YtiehhlolhhjgpaaGreatDoor.Pl
open Go.RowKit Go.Shelf
attribute [local go_sem] Oper.semAt_some

theorem assert_none (w : World) : (Instr.typeAssert .nilIface 20 24 true).run Tryz.prog w = .ok (.tuple #[.int .i64 0, .bool false]) w := by kernel_rfl
theorem assert_errno (w : World) (f : Nat) : (Instr.typeAssert (.iface 24 (.int .i64 f)) 20 24 true).run Tryz.prog w = .ok (.tuple #[.int .i64 f, .bool true]) w := by kernel_rfl

theorem catch_idle (b c n : Nat) (w : World) :
    CallsDIn Fence.wide n Tryz.prog 79 #[.pointer (some ⟨b, 0, none⟩), .pointer (some ⟨c, 0, none⟩)] .returning w fun e u' w' => e = .returned (.tuple #[]) ∧ u' = .returning ∧ w' = w := by
  refine callsDIn_of_wpSIn Tryz.func79 rfl trivial fun c₀ cs hu => ?_
  apply wpSIn_seq
  apply wpSIn_region
  simp [wpOpsSIn, go_sem, recoverD, hu, Tryz.ntmps79, Exit.thenS, assert_none]
  apply wpSIn_seq
  apply wpSIn_region
  simp [wpOpsSIn, go_sem, Exit.thenS]
  refine wpSIn_cond (t := false) (by simp [Act.eval, Array.replicate]) ?_
  simp only [Bool.false_eq_true, if_false]
  refine wpSIn_of_wpIn rfl (wpIn_skip ?_)
  cases c₀
  simp_all [bodyPostS, results, Tryz.results79]
theorem catch_thrown (b c n f : Nat) (w : World) (u v : Value) (hbc : c ≠ b) (hb : Boxed w b 3 u) (hc : Boxed w c 24 v) :
    CallsDIn Fence.wide n Tryz.prog 79 #[.pointer (some ⟨b, 0, none⟩), .pointer (some ⟨c, 0, none⟩)] (.panicking [{ v := .iface 24 (.int .i64 f), recovered := false }]) w fun e u' w' =>
      e = .returned (.tuple #[]) ∧ u' = .panicking [{ v := .iface 24 (.int .i64 f), recovered := true }] ∧ w' = (w.setCell ⟨b, 0, none⟩ (.int .i64 0)).setCell ⟨c, 0, none⟩ (.int .i64 f) := by
  have hb1 := hb.cell
  have hb2 := hb.frozen
  have hc0 := hc.other (B' := b) hbc (.int .i64 0)
  have hc1 := hc0.cell
  have hc2 := hc0.frozen
  refine callsDIn_of_wpSIn Tryz.func79 rfl trivial fun c₀ cs hu => ?_
  apply wpSIn_seq
  apply wpSIn_region
  simp [wpOpsSIn, go_sem, recoverD, hu, Tryz.ntmps79, Exit.thenS, assert_errno]
  apply wpSIn_seq
  apply wpSIn_region
  simp [wpOpsSIn, go_sem, Exit.thenS]
  refine wpSIn_cond (t := true) (by simp [Act.eval, Array.replicate]) ?_
  simp only [if_true]
  apply wpSIn_region
  simp [wpOpsSIn, go_sem, hb1, hb2, hc1, hc2, bodyPostS, results, Tryz.results79, Array.replicate]

/-- The last place's end. -/
def lastH (l : List Pl6) : Nat := (l.getLast?.map (·.head)).getD 0
theorem lastH_snoc (l : List Pl6) (p : Pl6) : lastH (l ++ [p]) = p.head := by simp [lastH]
theorem vis_front (s : ByteArray) : frontP (bl s) = if (vis s).2.2 = 0 then (if 16384 < lastH (vis s).1 then (0, 5) else (lastH (vis s).1, 0)) else (0, (vis s).2.2) := by
  have h := vis_read (bl s) 16 0
  rw [List.drop_zero] at h
  have hl := vis_last (bl s) 16 0
  unfold vis frontP
  by_cases h0 : (readP 16 (bl s)).2 = 0
  · rw [if_pos h0] at h
    have h2 : (visP (bl s) 16 0).2.2 = 0 := by rw [h]
    obtain ⟨q, p, e1, e2⟩ := hl h2
    rw [if_pos h0, if_pos h2, e1, lastH_snoc, e2, h, Nat.zero_add]
    split
    · rfl
    · exact Prod.ext rfl h0
  · rw [if_neg h0] at h
    have h2 : (visP (bl s) 16 0).2.2 = (readP 16 (bl s)).2 := by rw [h]
    rw [if_neg h0, if_neg (by rw [h2]; exact h0), h2]
theorem lastH_le (s : ByteArray) (q : List Pl6) (h : q <+: (vis s).1) : lastH q ≤ s.size := by
  have hk := (vis_ok (bl s) 16 0 (Nat.le_refl _) (Nat.zero_le _)).1
  rcases List.eq_nil_or_concat q with rfl | ⟨r, p, rfl⟩
  · simp [lastH]
  · rw [List.concat_eq_append, lastH_snoc]
    have := (hk p (h.subset (by simp))).2.1
    rwa [bl_length] at this
theorem vis_any (s : ByteArray) (p : Pl6) (q : List Pl6) (h : q ++ [p] <+: (vis s).1) : okPl (bl s) p :=
  (vis_ok (bl s) 16 0 (Nat.le_refl _) (Nat.zero_le _)).1 p (h.subset (by simp))

/-- What Read's results hold while it goes over the places. -/
def ReadI (w : World) (pre : List Pl6) (W : World) : Prop := (Boxed W w.heap.size 3 (.int .i64 (lastH pre)) ∧ Boxed W (w.heap.size + 1) 24 (.int .i64 0)) ∧ Below w.heap.size w W
theorem readI_own (w : World) (B : Nat) (h : w.heap.size ≤ B) : OwnFrom B (ReadI w) :=
  OwnFrom.and (OwnFrom.and (Own.from (boxed_own _ _ _) _) (Own.from (boxed_own _ _ _) _)) (ownFrom_below (Nat.le_refl _) h)

/-- A round's variable: a place in a block of its own. -/
def PlAx (B : Nat) (mk : Nat → Pl6 → Act) (x : Pl6) (a' : Act) (W : World) : Prop := ∃ b, B ≤ b ∧ W.heap[b]? = some (Obj.cells (cellsPl x) 68 (0, 0)) ∧ a' = mk b x
theorem plAx_own (B : Nat) (mk : Nat → Pl6 → Act) (C : Nat) (x : Pl6) (a' : Act) : OwnFrom C (fun (_ : Unit) W => PlAx B mk x a' W) := by
  intro s' X Y row hs' hg hr
  obtain ⟨b, h1, h2, h3⟩ := hs'
  refine ⟨b, h1, ?_, h3⟩
  refine (hg.block b (Array.getElem?_eq_some_iff.1 h2).1 (fun e => ?_)).trans h2
  obtain ⟨o, ho, hcl⟩ := (hr b e.symm).2
  rw [h2] at ho; cases ho; cases hcl
theorem KeepP.setBox {W : World} {B : Nat} {t : TypeId} {u : Value} (h : Boxed W B t u) (ht : t ≠ 68) (v : Value) : KeepP W (W.setCell ⟨B, 0, none⟩ v) :=
  ⟨(KeepsOthers.setCell W ⟨B, 0, none⟩ v).size, fun b cs hb => (Below.heap_setCell W ⟨B, 0, none⟩ v b (fun e => by
    have e' : b = B := e
    subst e'
    rw [show W.heap[b]? = _ from h] at hb
    cases hb
    exact ht rfl)).trans hb⟩
theorem place_cells {W : World} {b : Nat} {x : Pl6} (h : W.heap[b]? = some (Obj.cells (cellsPl x) 68 (0, 0))) :
    W.cell? ⟨b, 0, none⟩ = some (.int .i64 x.at_) ∧ W.cell? ⟨b, 1, none⟩ = some (.int .i64 x.dep) ∧ W.cell? ⟨b, 2, none⟩ = some (.int .i64 x.head) ∧ W.cell? ⟨b, 3, none⟩ = some (.int .i64 x.parts) := by
  refine ⟨?_, ?_, ?_, ?_⟩ <;> simp [World.cell?, h, cellsPl]

/-- The deferred call of Read. -/
abbrev readDef (B : Nat) : Deferred := { target := .fn (.func 79) #[.pointer (some ⟨B, 0, none⟩), .pointer (some ⟨B + 1, 0, none⟩)], args := #[] }
def ReadPost (w : World) (n e : Nat) (x : Ending) (w' : World) : Prop := x = .returned (.tuple #[.int .i64 n, .int .i64 e]) ∧ Below w.heap.size w w'
theorem read_results (w V : World) (n e : Nat) (tmps : Array Value) (h2 : tmps.getD 2 undef = .pointer (some ⟨w.heap.size, 0, none⟩)) (h3 : tmps.getD 3 undef = .pointer (some ⟨w.heap.size + 1, 0, none⟩))
    (bN : Boxed V w.heap.size 3 (.int .i64 n)) (bE : Boxed V (w.heap.size + 1) 24 (.int .i64 e)) :
    (results Tryz.f45 tmps).run Tryz.prog V = .ok (.tuple #[.int .i64 n, .int .i64 e]) V := by
  have c1 := bN.cell
  have c2 := bE.cell
  have h2' : tmps[2]?.getD undef = .pointer (some ⟨w.heap.size, 0, none⟩) := by simpa using h2
  have h3' : tmps[3]?.getD undef = .pointer (some ⟨w.heap.size + 1, 0, none⟩) := by simpa using h3
  simp [results, Tryz.results45, go_sem, h2', h3', c1, c2, asAddr]
theorem read_leave (w V : World) (n e D : Nat) (hDD : w.heap.size + 2 ≤ D) (hD : V.heap[D]? = some (.deferred (some []))) (tmps : Array Value) (h2 : tmps.getD 2 undef = .pointer (some ⟨w.heap.size, 0, none⟩)) (h3 : tmps.getD 3 undef = .pointer (some ⟨w.heap.size + 1, 0, none⟩))
    (bN : Boxed V w.heap.size 3 (.int .i64 n)) (bE : Boxed V (w.heap.size + 1) 24 (.int .i64 e)) (hb : Below w.heap.size w V) :
    LeavesInM Fence.wide 5 Tryz.prog Tryz.f45 tmps (ReadPost w n e) [markOf D, readDef w.heap.size] .returning V := by
  refine ⟨by simp, .inl ⟨D, _, rfl, run_takeDeferred hD, ?_⟩⟩
  have bN' : Boxed (V.putObj D (.deferred none)) w.heap.size 3 (.int .i64 n) := (World.putObj_heap_other (by omega)).trans bN
  have bE' : Boxed (V.putObj D (.deferred none)) (w.heap.size + 1) 24 (.int .i64 e) := (World.putObj_heap_other (by omega)).trans bE
  have hb' : Below w.heap.size w (V.putObj D (.deferred none)) := hb.grown (grownBy_putObj' V D _) hb.size (fun k e => by cases e; omega)
  refine ⟨by simp, .inr ⟨hdd _, _, _, 79, #[.pointer (some ⟨w.heap.size, 0, none⟩), .pointer (some ⟨w.heap.size + 1, 0, none⟩)], rfl, by simp [invoke, go_sem], fun g _ => trivial, ?_⟩⟩
  refine (catch_idle _ _ _ _).mono ?_
  rintro x u' w' ⟨rfl, rfl, rfl⟩
  exact ⟨_, read_results w _ n e tmps h2 h3 bN' bE', rfl, hb'⟩
theorem read_thrown (w V : World) (n e f D : Nat) (hDD : w.heap.size + 2 ≤ D) (hD : V.heap[D]? = some (.deferred (some []))) (tmps : Array Value) (h2 : tmps.getD 2 undef = .pointer (some ⟨w.heap.size, 0, none⟩)) (h3 : tmps.getD 3 undef = .pointer (some ⟨w.heap.size + 1, 0, none⟩))
    (bN : Boxed V w.heap.size 3 (.int .i64 n)) (bE : Boxed V (w.heap.size + 1) 24 (.int .i64 e)) (hb : Below w.heap.size w V) :
    LeavesInM Fence.wide 5 Tryz.prog Tryz.f45 tmps (ReadPost w 0 f) [markOf D, readDef w.heap.size] (.panicking [{ v := .iface 24 (.int .i64 f), recovered := false }]) V := by
  refine ⟨by simp, .inl ⟨D, _, rfl, run_takeDeferred hD, ?_⟩⟩
  have bN' : Boxed (V.putObj D (.deferred none)) w.heap.size 3 (.int .i64 n) := (World.putObj_heap_other (by omega)).trans bN
  have bE' : Boxed (V.putObj D (.deferred none)) (w.heap.size + 1) 24 (.int .i64 e) := (World.putObj_heap_other (by omega)).trans bE
  have hb' : Below w.heap.size w (V.putObj D (.deferred none)) := hb.grown (grownBy_putObj' V D _) hb.size (fun k e => by cases e; omega)
  refine ⟨by simp, .inr ⟨hdd _, _, _, 79, #[.pointer (some ⟨w.heap.size, 0, none⟩), .pointer (some ⟨w.heap.size + 1, 0, none⟩)], rfl, by simp [invoke, go_sem], fun g _ => trivial, ?_⟩⟩
  refine (catch_thrown _ _ _ f _ _ _ (by omega) bN' bE').mono ?_
  rintro x u' w' ⟨rfl, rfl, rfl⟩
  have bN2 := (bN'.set (.int .i64 0)).other (B' := w.heap.size + 1) (by omega) (.int .i64 f)
  have bE2 := (bE'.other (B' := w.heap.size) (by omega) (.int .i64 0)).set (.int .i64 f)
  refine ⟨_, read_results w _ 0 f tmps h2 h3 bN2 bE2, rfl, ?_⟩
  exact (hb'.setCell (p := ⟨w.heap.size, 0, none⟩) (Nat.le_refl _) _).setCell (p := ⟨w.heap.size + 1, 0, none⟩) (Nat.le_succ _) _

abbrev readAct (s : ByteArray) (B b : Nat) (x : Pl6) : Act :=
  { tmps := #[.string s, undef, .pointer (some ⟨B, 0, none⟩), .pointer (some ⟨B + 1, 0, none⟩), .pointer (some ⟨b, 0, none⟩), .func (.func 79) #[] #[.pointer (some ⟨B, 0, none⟩), .pointer (some ⟨B + 1, 0, none⟩)], .string s, .func (.func 86) #[] #[.pointer (some ⟨B + 1 + 1, 0, none⟩)], encPl x, undef, undef, undef, undef, undef], defers := [] }

set_option maxRecDepth 100000 in
set_option maxHeartbeats 4000000 in
theorem read6_any (s : ByteArray) (hs : s.size ≤ 281474976710656) (w : World) :
    Calls Tryz.prog 45 #[.string s] w fun e w' => e = .returned (.tuple #[.int .i64 (frontP (bl s)).1, .int .i64 (frontP (bl s)).2]) ∧ Below w.heap.size w w' := by
  have hmf : ∀ (fn : Fn) (first cap : Array Value) (w : World), (Instr.makeFunc fn first cap).run Tryz.prog w = .ok (.func fn first cap) w := fun _ _ _ _ => rfl
  refine (callsIn_wide (n := 5)).1 ?_
  refine callsIn_of_wp_marks Tryz.func45 rfl trivial ?_ rfl
  simp only [Tryz.ntmps45, List.size_toArray, List.length_cons, List.length_nil, Nat.reduceAdd, Nat.reduceSub, Array.replicate_succ, Array.replicate_zero, List.push_toArray, List.append_toArray, List.nil_append, List.cons_append]
  gi_wp2_with (refine ⟨trivial, ?_⟩; gi_at_call 54; refine (callsIn_wide.2 (places_in s _)).mono ?_; rintro e w1 ⟨rfl, rfl⟩)
  obtain ⟨W0, hW0⟩ : ∃ W0, ((w.alloc (.cells #[.int .i64 0] 3)).alloc (.cells #[.int .i64 0] 24)).alloc (.cells #[.string s] 9) = W0 := ⟨_, rfl⟩
  have bN : Boxed W0 w.heap.size 3 (.int .i64 0) := by rw [← hW0]; exact ((Boxed.new w _ _).alloc _).alloc _
  have bE : Boxed W0 (w.heap.size + 1) 24 (.int .i64 0) := by rw [← hW0]; have h := (Boxed.new (w.alloc (.cells #[.int .i64 0] 3)) 24 (.int .i64 0)).alloc (.cells #[.string s] 9); simpa using h
  have bS : Boxed W0 (w.heap.size + 2) 9 (.string s) := by rw [← hW0]; have h := Boxed.new ((w.alloc (.cells #[.int .i64 0] 3)).alloc (.cells #[.int .i64 0] 24)) 9 (.string s); simpa using h
  have hB0 : Below w.heap.size w W0 := by rw [← hW0]; exact (((Below.refl _ w).alloc (Nat.le_refl _) _).alloc (by simp) _).alloc (by simp; omega) _
  have hsz : W0.heap.size = w.heap.size + 3 := by rw [← hW0]; simp
  rw [hW0]
  clear hW0
  refine wpIn_places s hs (w.heap.size + 2) bS rfl (ReadI w) (fun _ _ _ => False) (readI_own w _ (by omega)) (fun c => fun _ _ _ _ h _ _ => h) ⟨⟨bN, bE⟩, hB0⟩
    (PlAx (w.heap.size + 2) (readAct s w.heap.size)) (plAx_own _ _ _) ?assign ?body ?done ?stop ?throw
  case assign =>
    intro m l pre x W K hi hK
    have hzr := Lib.hid hK
    clear hK
    unfold encPl cellsPl
    gi_wp2
    have hlt := hi.1.2.lt
    exact hzr.out _ _ ((KeepsOthers.alloc _ _).from _) (KeepP.alloc _ _) ((readI_own w W0.heap.size (by omega)).alloc _ hi) ⟨W.heap.size, by omega, World.alloc_heap_new _ _, rfl⟩
  case body =>
    rintro m l pre x a' W hl hi ⟨b, hb, hbx, rfl⟩ hpre
    have hx2 := (place_cells hbx).2.2.1
    have hc := hi.1.1.cell
    have hf := hi.1.1.frozen
    have HI := Lib.hid hi
    have HX := Lib.hid hbx
    clear hi hbx hpre bN bE bS
    unfold readAct
    gi_wp2
    obtain ⟨⟨b1, b2⟩, b3⟩ := HI.out
    refine ⟨(KeepsOthers.setCell _ _ _).from _, KeepP.setBox b1 (by decide) _, ⟨?_, b2.other (by omega) _⟩, b3.setCell (p := ⟨w.heap.size, 0, none⟩) (Nat.le_refl _) _⟩
    rw [lastH_snoc]
    exact b1.set _
  case done =>
    rintro D W hD hz ⟨⟨b1, b2⟩, b3⟩ hK
    have hfr := vis_front s
    rw [if_pos hz] at hfr
    have hle := lastH_le s _ (List.prefix_refl _)
    have hDD : w.heap.size + 2 ≤ D := by omega
    have hc := b1.cell
    have hf := b1.frozen
    have hce := b2.cell
    have hfe := b2.frozen
    have HL := Lib.hid hle
    generalize lastH (vis s).1 = n at *
    clear bN bE bS hz hle hB0 hD hsz
    by_cases hn : 16384 < n
    · rw [if_pos hn] at hfr
      have hn' : (16384 : Int) < (n : Int) := by omega
      have B1 := Lib.hid b1
      have B2 := Lib.hid b2
      have B3 := Lib.hid b3
      have HK := Lib.hid hK
      have c2 := (b2.other (B' := w.heap.size) (by omega) (.int .i64 0)).cell
      have f2 := (b2.other (B' := w.heap.size) (by omega) (.int .i64 0)).frozen
      clear hn b1 b2 b3 hK
      gi_wp2
      try rw [hfr]
      refine read_leave w _ 0 5 D hDD ?_ _ rfl rfl ((B1.out.set _).other (by omega) _) ((B2.out.other (by omega) _).set _) ((B3.out.setCell (p := ⟨w.heap.size, 0, none⟩) (Nat.le_refl _) _).setCell (p := ⟨w.heap.size + 1, 0, none⟩) (Nat.le_succ _) _)
      exact ((KeepsOthers.setCell _ _ _).same _ _ ((KeepsOthers.setCell _ _ _).same _ _ HK.out rfl) rfl)
    · rw [if_neg hn] at hfr
      have hn' : ¬ (16384 : Int) < (n : Int) := by omega
      have B1 := Lib.hid b1
      have B2 := Lib.hid b2
      have B3 := Lib.hid b3
      have HK := Lib.hid hK
      have c2 := (b2.other (B' := w.heap.size) (by omega) (.int .i64 n)).cell
      have f2 := (b2.other (B' := w.heap.size) (by omega) (.int .i64 n)).frozen
      clear hn b1 b2 b3 hK
      gi_wp2
      try rw [hfr]
      refine read_leave w _ n 0 D hDD ?_ _ rfl rfl ((B1.out.set _).other (by omega) _) ((B2.out.other (by omega) _).set _) ((B3.out.setCell (p := ⟨w.heap.size, 0, none⟩) (Nat.le_refl _) _).setCell (p := ⟨w.heap.size + 1, 0, none⟩) (Nat.le_succ _) _)
      exact ((KeepsOthers.setCell _ _ _).same _ _ ((KeepsOthers.setCell _ _ _).same _ _ HK.out rfl) rfl)
  case stop =>
    rintro D c pre W hD hq h hK
    exact h.elim
  case throw =>
    rintro D W hD hz ⟨⟨b1, b2⟩, b3⟩ hK
    have hfr := vis_front s
    rw [if_neg hz] at hfr
    gi_wp2
    try rw [hfr]
    exact read_thrown w W _ _ _ D (by omega) hK _ rfl rfl b1 b2 b3
end Go.Proofs.YtiehhlolhhjgpaaGreatDoor.Pl

namespace Go.Proofs.YtiehhlolhhjgpaaGreatDoor.Pl
open Go.RowKit

theorem encs_append (a b : List Tm) : encs (a ++ b) = encs a ++ encs b := by
  rw [encs_flat, encs_flat, encs_flat, List.map_append, List.flatten_append]
theorem encs_one (t : Tm) : encs [t] = t.enc := by simp [encs]
theorem encs_at (l : List Tm) (k : Nat) (hk : k < l.length) : encs l = encs (l.take k) ++ (l[k].enc ++ encs (l.drop (k + 1))) := by
  have e : l = l.take k ++ (l[k] :: l.drop (k + 1)) := by rw [← List.drop_eq_getElem_cons hk, List.take_append_drop]
  have e2 : encs (l.take k ++ (l[k] :: l.drop (k + 1))) = encs (l.take k) ++ (l[k].enc ++ encs (l.drop (k + 1))) := by rw [encs_append]; simp [encs]
  rw [← e2, ← e]
theorem encs_take (l : List Tm) (k : Nat) (hk : k < l.length) : (encs (l.take (k + 1))).length = (encs (l.take k)).length + l[k].enc.length := by
  rw [List.take_succ_eq_append_getElem hk, encs_append, encs_one, List.length_append]
def txts (l : List ByteArray) : List Value := l.map Value.string
theorem txts_length (l : List ByteArray) : (txts l).length = l.length := by simp [txts]
theorem txts_at (l : List ByteArray) (j : Nat) (h : j < l.length) : (txts l)[j]? = some (.string (l.getD j ByteArray.empty)) := by
  simp [txts, List.getD_eq_getElem?_getD, h]
/-- v is a row of these texts that the call owns, from block B on. -/
def OwnT (w : World) (B : Nat) (v : Value) (l : List ByteArray) : Prop := w.ownsRow B 9 1 v l.length (txts l)
theorem ownT_nil (w : World) (B : Nat) : OwnT w B (.slice none 0 0) [] := World.ownsRow_nil _ _ _ _
theorem ownT_below {w w' : World} {B : Nat} {v : Value} {l : List ByteArray} (h : OwnT w B v l) (hb : Below w.heap.size w w') : OwnT w' B v l := by
  refine ⟨h.1, ?_⟩
  rcases h.2 with hn | ⟨g, cap, cur, hv, hbg, hg, rest⟩
  · exact .inl hn
  · exact .inr ⟨g, cap, cur, hv, hbg, (hb.block g (Array.getElem?_eq_some_iff.1 hg).1).trans hg, rest⟩
theorem ownT_row {w : World} {B : Nat} {v : Value} {l : List ByteArray} (h : OwnT w B v l) : ∃ ao cap, v = .slice ao l.length cap ∧ TxtRow w ao l := by
  rcases h.2 with ⟨hv, h0⟩ | ⟨g, cap, cur, hv, hbg, hg, rest⟩
  · exact ⟨none, 0, by rw [hv, h0], .inl (List.length_eq_zero_iff.1 h0)⟩
  · have h' := h
    unfold OwnT at h'
    rw [hv] at h'
    exact ⟨_, cap, hv, .inr ⟨g, 0, rfl, (Array.getElem?_eq_some_iff.1 hg).1, fun j hj => by rw [Nat.zero_add, h'.cellAt j (by omega), txts_at l j hj]⟩⟩
theorem ownT_row2 {w : World} {B : Nat} {v : Value} {l : List ByteArray} (h : OwnT w B v l) : ∃ ao cap, v = .slice ao l.length cap ∧ TxtRow w ao l ∧ ∀ b off, ao = some ⟨b, off, none⟩ → B ≤ b := by
  rcases h.2 with ⟨hv, h0⟩ | ⟨g, cap, cur, hv, hbg, hg, rest⟩
  · exact ⟨none, 0, by rw [hv, h0], .inl (List.length_eq_zero_iff.1 h0), fun b off e => by cases e⟩
  · have h' := h
    unfold OwnT at h'
    rw [hv] at h'
    exact ⟨_, cap, hv, .inr ⟨g, 0, rfl, (Array.getElem?_eq_some_iff.1 hg).1, fun j hj => by rw [Nat.zero_add, h'.cellAt j (by omega), txts_at l j hj]⟩, fun b off e => by cases e; exact hbg⟩
/-- v's own row is not the one at ao. -/
def ApartV (v : Value) (ao : Option Addr) : Prop := ∀ b off, ao = some ⟨b, off, none⟩ → v.ownBlock ≠ some b
theorem TxtRow.grown {w w' : World} {ao : Option Addr} {l : List ByteArray} {row : Option Nat} (h : TxtRow w ao l) (hg : w.grownBy w' row) (hne : ∀ b off, ao = some ⟨b, off, none⟩ → row ≠ some b) : TxtRow w' ao l := by
  rcases h with h | ⟨b, off, e, hlt, hc⟩
  · exact .inl h
  · exact .inr ⟨b, off, e, Nat.lt_of_lt_of_le hlt hg.size, fun j hj => hg.cell (hc j hj) (fun e2 => hne b off e e2.symm)⟩
theorem infoStr : (Tryz.prog.info? 9).map (fun i => (i.zero, i.size, i.bytes)) = some (some (.string ⟨#[]⟩), 1, 16) := by kernel_rfl
/-- A tree's parts as texts. -/
def tx (t : Tm) : ByteArray := ⟨t.enc.toArray⟩
theorem bl_tx (t : Tm) : bl (tx t) = t.enc := rfl
theorem tx_size (t : Tm) : (tx t).size = t.enc.length := size_lit _

set_option maxHeartbeats 4000000 in
set_option maxRecDepth 100000 in
theorem parts_any (h : List UInt8) (l : List Tm) (hv : (Tm.node h l).valid) (s : ByteArray) (hs : bl s = (Tm.node h l).enc) (w : World) :
    Calls Tryz.prog 85 #[.string s] w fun e w' => ∃ v, e = .returned v ∧ OwnT w' w.heap.size v (l.map tx) ∧ Below w.heap.size w w' := by
  obtain ⟨i0, hi, hz0, hz1, hz2⟩ := info_parts infoStr
  have HI := Lib.hid hi
  have hg := hv.1
  simp only [Tm.good] at hg
  obtain ⟨c, hkd⟩ := head_kind hg.1
  have hl32 : l.length ≤ 32 := by cases hkd <;> omega
  have hsz : s.size = (Tm.node h l).enc.length := by rw [size_bl, hs]
  have hsz2 : s.size ≤ 16384 := by rw [hsz]; exact hv.2.2
  have hbl : bl s = h ++ encs l := by rw [hs, Tm.enc_node]
  have hhead : headP (bl s) = (h.length, l.length, 0) := by rw [hbl]; exact hg.1 _
  have HH := Lib.hid (rhead_any s (by omega) w)
  rw [hhead] at HH
  -- where the k-th part lies
  have HP : Hid (∀ k, k < l.length → ∃ t : Tm, l[k]? = some t ∧ t.valid ∧ (bl s).drop (h.length + (encs (l.take k)).length) = t.enc ++ encs (l.drop (k + 1)) ∧ (encs (l.take (k + 1))).length = (encs (l.take k)).length + t.enc.length ∧ h.length + (encs (l.take (k + 1))).length ≤ s.size) := Lib.hid (fun k hk => by
    refine ⟨l[k], List.getElem?_eq_getElem hk, node_valid_parts hv _ (List.getElem_mem hk), ?_, ?_, ?_⟩
    · rw [hbl, encs_at l k hk, ← List.append_assoc, ← List.length_append, List.drop_left]
    · exact encs_take l k hk
    · have e : encs l = encs (l.take (k + 1)) ++ encs (l.drop (k + 1)) := by
        rw [encs_flat, encs_flat, encs_flat, ← List.flatten_append, ← List.map_append, List.take_append_drop]
      have h2 := congrArg List.length hbl
      rw [bl_length, List.length_append, e, List.length_append] at h2
      omega)
  have HALL : Hid (h.length ≤ s.size) := Lib.hid (by
    have h2 := congrArg List.length hbl
    rw [bl_length, List.length_append] at h2
    omega)
  obtain ⟨n, hn⟩ : ∃ n, n = l.length := ⟨_, rfl⟩
  rw [← hn] at HH HP hl32
  have HN := Lib.hid hn
  clear hv hg hkd hsz hbl hhead hs hn hi
  obtain ⟨hl, hhl⟩ : ∃ q, q = h.length := ⟨_, rfl⟩
  rw [← hhl] at HH HP HALL
  clear hhl
  go_enter Tryz.func85, Tryz.ntmps85
  go_wp2_with fail
  refine HH.out.mono ?_; rintro e w1 ⟨rfl, b1⟩
  have B1 := Lib.hid b1
  clear b1
  unfold hd3
  go_wp2_with fail
  go_loopw [3, 6, 7] (fun nv v iv wr => ∃ k m : Nat, iv = .int .i64 k ∧ nv = .int .i64 m ∧ k ≤ n ∧ m ≤ 16384 ∧ Hid (m = hl + (encs (l.take k)).length) ∧ Hid (m ≤ s.size) ∧ Hid (OwnT wr w.heap.size v ((l.take k).map tx)) ∧ Hid (Below w.heap.size w wr)) (fun _ _ iv _ => n - (intOf iv).toNat)
  case atStart => exact ⟨0, hl, rfl, rfl, Nat.zero_le _, by have := HALL.out; omega, Lib.hid (by simp [encs]), HALL, Lib.hid (ownT_nil _ _), B1⟩
  case round =>
    obtain ⟨k, m, rfl, rfl, hkn, hm, hme, hms, hown, hb⟩ := hrel
    by_cases hk : k < n
    · have hk' : (k : Int) < (n : Int) := by omega
      obtain ⟨t, ht, tv, td, tl, te⟩ := HP.out k hk
      have sl : ∀ V : World, (Instr.sliceAt 9 (.string s) (some (.int .i64 (m : Int))) none none).run Tryz.prog V = .ok (.string (s.extract m s.size)) V := tslice_from s m hms.out
      have hx : bl (s.extract m s.size) = t.enc ++ encs (l.drop (k + 1)) := by rw [bl_from, hme.out, td]
      have hxs : (s.extract m s.size).size ≤ 281474976710656 := by rw [size_bl, bl_from, List.length_drop, bl_length]; omega
      have hC := rread_any 16 (s.extract m s.size) wr (Nat.le_refl _) hxs
      rw [hx, read_enc t tv.1 16 tv.2.1, show (17 - ((16 : Nat) : Int)) = 1 by decide] at hC
      have HC := Lib.hid hC
      generalize s.extract m s.size = x at *
      obtain ⟨q, hq⟩ : ∃ q, q = t.enc.length := ⟨_, rfl⟩
      rw [← hq] at HC tl
      have hq1 : m + q ≤ s.size := by rw [hme.out, Nat.add_assoc, ← tl]; exact te
      have sm : ∀ V : World, (Instr.sliceAt 9 (.string s) (some (.int .i64 (m : Int))) (some (.int .i64 (((m + q : Nat)) : Int))) none).run Tryz.prog V = .ok (.string (s.extract m (m + q))) V := tslice_mid s m (m + q) (by omega) hq1
      have hpart : s.extract m (m + q) = tx t := by
        apply bl_inj
        rw [bl_extract, bl_tx, List.drop_take, hme.out, td, show hl + (encs (l.take k)).length + q - (hl + (encs (l.take k)).length) = q by omega, hq, List.take_left]
      rw [hpart] at sm
      have sm' : ∀ V : World, (Instr.sliceAt 9 (.string s) (some (.int .i64 (m : Int))) (some (.int .i64 ((m : Int) + (q : Int)))) none).run Tryz.prog V = .ok (.string (tx t)) V := fun V => by
        have h := sm V
        rw [show (((m + q : Nat)) : Int) = (m : Int) + (q : Int) by omega] at h
        exact h
      have HTK : Hid ((l.take (k + 1)).map tx = (l.take k).map tx ++ [tx t]) := Lib.hid (by
        have hkl : k < l.length := by rw [← HN.out]; exact hk
        rw [List.take_succ_eq_append_getElem hkl, List.map_append]
        have : l[k] = t := by rw [List.getElem?_eq_getElem hkl] at ht; exact Option.some.inj ht
        rw [this]; rfl)
      have HME : Hid (m + q = hl + (encs (l.take (k + 1))).length) := Lib.hid (by rw [tl, hme.out]; omega)
      have HLN : Hid (((l.take k).map tx).length ≤ 32) := Lib.hid (by rw [List.length_map, List.length_take]; omega)
      obtain ⟨L, hL⟩ : ∃ L, L = (l.take k).map tx := ⟨_, rfl⟩
      rw [← hL] at HTK HLN hown
      clear hL
      have HQ1 := Lib.hid hq1
      have hq2 : m + q ≤ 16384 := by omega
      clear ht tv td tl te hx hxs hC hq sm hpart hme hms
      generalize tx t = y at *
      go_wp2_with fail
      refine HC.out.mono ?_; rintro e w2 ⟨rfl, b2⟩
      have B2 := Lib.hid (below_step hb.out b2)
      have O2 := Lib.hid (ownT_below hown.out b2)
      have HSZ := Lib.hid (Nat.le_trans hb.out.size b2.size)
      clear b2
      unfold rd2
      go_wp2_with (at_builtin; refine wpList_append_own _ rfl _ _ 29 rfl w.heap.size 9 i0 (.string ⟨#[]⟩) 1 16 Tryz.underlying29 HI.out hz0 hz1 hz2 rfl (by decide) _ _ _ rfl (World.ownsRow.alloc O2.out _) ⟨w2.heap.size, 0, none⟩ 1 1 [.string y] rfl rfl ?c1 ?c2 ?c3 ?c4 ?c5 ?_)
      case c1 =>
        intro j u hj
        match j, hj with
        | 0, hj => simp at hj; subst hj; simp [Addr.add]
        | (j + 1), hj => simp at hj
      case c2 => intro u hu; simp at hu; subst hu; rfl
      case c3 => have := HLN.out; unfold maxLen; omega
      case c4 => have := HLN.out; omega
      case c5 => have := HSZ.out; simp; omega
      intro v' w3 hown' hgrow _
      have HO : Hid (OwnT w3 w.heap.size v' ((l.take (k + 1)).map tx)) := Lib.hid (by
        rw [HTK.out]
        have h := hown'
        unfold OwnT
        rw [show txts (L ++ [y]) = txts L ++ [.string y] by simp [txts], List.length_append, List.length_singleton]
        exact h)
      have B3 : Hid (Below w.heap.size w w3) := Lib.hid ((B2.out.alloc (by have := HSZ.out; omega) _).grown hgrow (by have := HSZ.out; simp; omega) (fun j hj => (O2.out.lt _ hj).1))
      clear hown' hgrow
      go_wp2_with fail
      go_roundw
      case rel => exact ⟨k + 1, m + q, by go_num, by go_num, by omega, hq2, HME, HQ1, HO, B3⟩
      case measure => simp [intOf]; omega
    · obtain rfl : k = n := by omega
      have HE : Hid ((l.take k).map tx = l.map tx) := Lib.hid (by rw [List.take_of_length_le (by have := HN.out; omega)])
      obtain ⟨ao, cap, rfl, _⟩ := ownT_row hown.out
      clear hk hkn
      go_wp2_with fail
      go_ret
      exact ⟨_, rfl, by rw [← HE.out]; exact hown.out, hb.out⟩
end Go.Proofs.YtiehhlolhhjgpaaGreatDoor.Pl

namespace Go.Proofs.YtiehhlolhhjgpaaGreatDoor.Pl
open Go.RowKit

theorem placess_append (a b : List Tm) : placess (a ++ b) = placess a ++ placess b := by
  rw [placess_flat, placess_flat, placess_flat, List.flatMap_append]
theorem placess_len {l : List Tm} (h : ∀ t ∈ l, t.places.length ≤ t.enc.length) : (placess l).length ≤ (encs l).length := by
  induction l with
  | nil => simp [placess]
  | cons t l ih =>
    simp only [placess, encs, List.length_append]
    have h1 := h t (List.mem_cons_self ..)
    have h2 := ih (fun u hu => h u (List.mem_cons_of_mem _ hu))
    omega
theorem places_count : ∀ t : Tm, t.good → t.places.length ≤ t.enc.length := by
  refine Tm.ind ?_
  intro h l ih hg
  simp only [Tm.good] at hg
  have h1 := List.length_pos_iff.2 hg.1.pos
  have h2 := placess_len (l := l) (fun t ht => ih t ht (goods_mem hg.2 t ht))
  simp only [Tm.places, Tm.enc, List.length_cons, List.length_append]
  omega
theorem places_pos (t : Tm) : 0 < t.places.length := by obtain ⟨h, l⟩ := t; simp [Tm.places]
theorem placess_take (l : List Tm) (k : Nat) (h : k < l.length) : placess (l.take (k + 1)) = placess (l.take k) ++ l[k].places := by
  rw [List.take_succ_eq_append_getElem h, placess_append]
  simp [placess]
theorem placess_take_len {l : List Tm} (hg : goods l) (k : Nat) : (placess (l.take k)).length ≤ (encs l).length := by
  have h1 := placess_len (l := l.take k) (fun t ht => places_count t (goods_mem hg t (List.mem_of_mem_take ht)))
  have e : encs l = encs (l.take k) ++ encs (l.drop k) := by rw [← encs_append, List.take_append_drop]
  rw [e, List.length_append]
  omega
theorem ownT_one (w : World) (s : ByteArray) : OwnT (w.alloc (.cells #[.string s] 9)) w.heap.size (.slice (some ⟨w.heap.size, 0, none⟩) 1 1) [s] :=
  World.ownsRow_lit w #[.string s] 1 (Nat.le_refl _) (by decide) rfl

set_option maxHeartbeats 4000000 in
set_option maxRecDepth 100000 in
theorem rplaces_any : ∀ T : Tm, T.valid → ∀ (s : ByteArray), bl s = T.enc → ∀ w : World,
    Calls Tryz.prog 58 #[.string s] w fun e w' => ∃ v, e = .returned v ∧ OwnT w' w.heap.size v (T.places.map tx) ∧ Below w.heap.size w w' := by
  refine Tm.ind ?_
  intro h l ih hv s hs w
  obtain ⟨i0, hi, hz0, hz1, hz2⟩ := info_parts infoStr
  have HI := Lib.hid hi
  have hst : s = tx (.node h l) := bl_inj (by rw [hs]; rfl)
  have hg := hv.1
  simp only [Tm.good] at hg
  have hlen : (encs l).length ≤ 16384 := by
    have := hv.2.2
    rw [Tm.enc_node, List.length_append] at this
    omega
  have HL := Lib.hid (fun k => Nat.le_trans (placess_take_len hg.2 k) hlen)
  have hl32 : l.length ≤ 32 := by
    obtain ⟨c, hkd⟩ := head_kind hg.1
    cases hkd <;> omega
  have HP := Lib.hid (fun V => parts_any h l hv s hs V)
  have IH : Hid (∀ k, (hk : k < l.length) → ∀ V, Calls Tryz.prog 58 #[.string (tx l[k])] V fun e w' => ∃ v, e = .returned v ∧ OwnT w' V.heap.size v (l[k].places.map tx) ∧ Below V.heap.size V w') := Lib.hid (fun k hk V => ih l[k] (List.getElem_mem hk) (node_valid_parts hv _ (List.getElem_mem hk)) (tx l[k]) rfl V)
  have O0 := Lib.hid (ownT_one w s)
  have B0 := Lib.hid ((Below.refl w.heap.size w).alloc (Nat.le_refl _) (.cells #[.string s] 9))
  have E0 : Hid ([s] = ((Tm.node h l) :: placess (l.take 0)).map tx) := Lib.hid (by rw [hst]; simp [placess])
  have E1 : Hid (((Tm.node h l) :: placess l).map tx = (Tm.node h l).places.map tx) := Lib.hid (by simp only [Tm.places])
  obtain ⟨n, hn⟩ : ∃ n, n = l.length := ⟨_, rfl⟩
  have HN := Lib.hid hn
  rw [← hn] at hl32
  obtain ⟨P, hP⟩ : ∃ P, P = l.map tx := ⟨_, rfl⟩
  have hPl : P.length = n := by rw [hP, List.length_map, hn]
  have HPE : Hid (∀ k, (hk : k < l.length) → P.getD k ByteArray.empty = tx l[k]) := Lib.hid (fun k hk => by rw [hP]; simp [List.getD_eq_getElem?_getD, hk])
  rw [← hP] at HP
  clear ih hv hs hst hg hlen hn hP hi
  obtain ⟨N, hNN⟩ : ∃ N, N = Tm.node h l := ⟨_, rfl⟩
  rw [← hNN] at E0 E1 ⊢
  clear hNN
  go_enter Tryz.func58, Tryz.ntmps58
  go_wp2_with fail
  generalize hW : w.alloc (.cells #[.string s] 9) = W0 at *
  refine (HP.out W0).mono ?_; rintro e w1 ⟨v, rfl, ho, b1⟩
  have B1 := Lib.hid (below_step B0.out b1)
  have O1 := Lib.hid (ownT_below O0.out b1)
  have HS1 := Lib.hid (Nat.le_trans B0.out.size b1.size)
  obtain ⟨ao, cap, rfl, hrow, hbase⟩ := ownT_row2 ho
  have R1 := Lib.hid hrow
  have A1 : Hid (ApartV (.slice (some ⟨w.heap.size, 0, none⟩) 1 1) ao) := Lib.hid (fun b off e => by
    have h1 := hbase b off e
    have h2 : w.heap.size < W0.heap.size := by rw [← hW]; simp
    intro h3
    have h4 : w.heap.size = b := Option.some.inj h3
    omega)
  rw [hPl]
  clear b1 ho hrow hW hbase
  go_wp2_with fail
  go_loopw [3, 5] (fun v iv wr => ∃ k : Nat, iv = .int .i64 k ∧ k ≤ n ∧ Hid (OwnT wr w.heap.size v ((N :: placess (l.take k)).map tx)) ∧ Hid (ApartV v ao) ∧ Hid (TxtRow wr ao P) ∧ Hid (Below w.heap.size w wr)) (fun _ iv _ => n - (intOf iv).toNat)
  case atStart => exact ⟨0, rfl, Nat.zero_le _, Lib.hid (by rw [← E0.out]; exact O1.out), A1, R1, B1⟩
  case round =>
    obtain ⟨k, rfl, hkn, hown, hap, hrow, hb⟩ := hrel
    by_cases hk : k < n
    · have hk' : (k : Int) < (n : Int) := by omega
      have hkl : k < l.length := by rw [← HN.out]; exact hk
      rcases hrow.out with e | ⟨b, off, rfl, hlt, hc⟩
      · exfalso; rw [e] at hPl; simp at hPl; omega
      have ck := hc k (by omega)
      rw [HPE.out k hkl] at ck
      have HC := Lib.hid (IH.out k hkl wr)
      obtain ⟨L, hL⟩ : ∃ L, L = (N :: placess (l.take k)).map tx := ⟨_, rfl⟩
      obtain ⟨M, hM⟩ : ∃ M, M = l[k].places.map tx := ⟨_, rfl⟩
      have hLl : L.length ≤ 16385 := by rw [hL, List.length_map, List.length_cons]; have := HL.out k; omega
      have hMl : M.length ≤ 16384 := by
        rw [hM, List.length_map]
        have h1 := HL.out (k + 1)
        rw [placess_take l k hkl, List.length_append] at h1
        omega
      have hM0 : 0 < M.length := by rw [hM, List.length_map]; exact places_pos _
      have HLM : Hid ((N :: placess (l.take (k + 1))).map tx = L ++ M) := Lib.hid (by rw [placess_take l k hkl, hL, hM, ← List.map_append]; rfl)
      rw [← hM] at HC
      rw [← hL] at hown
      generalize tx l[k] = y at *
      clear hL hM hc
      go_wp2_with fail
      refine HC.out.mono ?_; rintro e w2 ⟨v2, rfl, ho2, b2⟩
      have B2 := Lib.hid (below_step hb.out b2)
      have O2 := Lib.hid (ownT_below hown.out b2)
      have R2 := Lib.hid (hrow.out.below b2)
      have HSZ := Lib.hid (Nat.le_trans hb.out.size b2.size)
      have HWR := Lib.hid b2.size
      obtain ⟨g, cap2, rfl, hgw⟩ : ∃ g cap2, v2 = .slice (some ⟨g, 0, none⟩) M.length cap2 ∧ wr.heap.size ≤ g := by
        rcases ho2.2 with ⟨_, h0⟩ | ⟨g, cap2, cur, hv2, hbg, _⟩
        · omega
        · exact ⟨g, cap2, hv2, hbg⟩
      have HO2 : Hid (w2.ownsRow wr.heap.size 9 1 (.slice (some ⟨g, 0, none⟩) M.length cap2) M.length (txts M)) := Lib.hid ho2
      clear b2 ho2 hgw
      go_wp2_with (at_builtin; refine wpList_append_own_at _ rfl _ _ 29 rfl w.heap.size 9 i0 (.string ⟨#[]⟩) 1 16 Tryz.underlying29 HI.out hz0 hz1 hz2 rfl (by decide) _ _ _ rfl O2.out ⟨g, 0, none⟩ M.length cap2 (txts M) rfl (by rw [txts_length, Nat.mul_one]) ?c1 ?c2 ?c3 ?c4 ?c5 ?_)
      case c1 => exact fun j u hu => HO2.out.cells rfl j u hu
      case c2 =>
        intro u hu
        unfold txts at hu
        obtain ⟨x, _, rfl⟩ := List.mem_map.1 hu
        rfl
      case c3 => unfold maxLen; omega
      case c4 => omega
      case c5 => have := HSZ.out; omega
      intro v' w3 hown' hgrow _ hloc
      have HO : Hid (OwnT w3 w.heap.size v' ((N :: placess (l.take (k + 1))).map tx)) := Lib.hid (by
        rw [HLM.out]
        have h := hown'
        unfold OwnT
        rw [show txts (L ++ M) = txts L ++ txts M by simp [txts], List.length_append]
        exact h)
      have B3 : Hid (Below w.heap.size w w3) := Lib.hid (B2.out.grown hgrow HSZ.out (fun j hj => (O2.out.lt _ hj).1))
      have R3 := Lib.hid (R2.out.grown hgrow hap.out)
      have A3 : Hid (ApartV v' (some ⟨b, off, none⟩)) := Lib.hid (fun b' off' e h3 => by
        cases e
        rcases hloc with h4 | h4
        · exact hap.out b off rfl (by rw [← h4]; exact h3)
        · rw [h4] at h3
          have := Option.some.inj h3
          have := HWR.out
          omega)
      clear hown' hgrow hloc
      go_wp2_with fail
      go_roundw
      case rel => exact ⟨k + 1, by go_num, by omega, HO, A3, R3, B3⟩
      case measure => simp [intOf]; omega
    · obtain rfl : k = n := by omega
      have HE : Hid ((N :: placess (l.take k)).map tx = N.places.map tx) := Lib.hid (by rw [List.take_of_length_le (by have := HN.out; omega)]; exact E1.out)
      obtain ⟨ao2, cap2, rfl, _⟩ := ownT_row hown.out
      clear hk hkn
      go_wp2_with fail
      go_ret
      exact ⟨_, rfl, by rw [← HE.out]; exact hown.out, hb.out⟩
end Go.Proofs.YtiehhlolhhjgpaaGreatDoor.Pl

namespace Go.Proofs.YtiehhlolhhjgpaaGreatDoor.Pl
open Go.RowKit

theorem tree_of {s : List UInt8} (h : checkP s = 0) : ∃ t : Tm, t.valid ∧ s = t.enc ∧ treeOf s = some t := by
  obtain ⟨t, h1, h2, h3⟩ := treeOf_some h
  exact ⟨t, h1, h2.symm, h3⟩
theorem may_yes {s : ByteArray} (h : checkP (bl s) = 0) : (checkP (bl s) == 0) = true := by rw [h]; rfl
theorem may_no {s : ByteArray} (h : checkP (bl s) ≠ 0) : (checkP (bl s) == 0) = false := by rw [beq_eq_false_iff_ne]; exact h
theorem valid_size {t : Tm} (h : t.valid) {s : ByteArray} (e : bl s = t.enc) : s.size ≤ 16384 := by rw [size_bl, e]; exact h.2.2

/-- Two rows of texts, by their bytes. -/
theorem map_bl_tx (l : List Tm) : (l.map tx).map bl = l.map Tm.enc := by rw [List.map_map]; rfl

set_option maxRecDepth 100000 in
theorem rparts6_any (s : ByteArray) (hs : s.size ≤ 281474976710656) (w : World) :
    Calls Tryz.prog 52 #[.string s] w fun e w' => ∃ (v : Value) (L : List ByteArray), e = .returned (.tuple #[v, .bool (partsP (bl s)).2]) ∧ OwnT w' w.heap.size v L ∧ L.map bl = (partsP (bl s)).1 ∧ Below w.heap.size w w' := by
  have HM := Lib.hid (rmay_any s hs w)
  by_cases hc : checkP (bl s) = 0
  · rw [may_yes hc] at HM
    obtain ⟨⟨h, l⟩, tv, te, tr⟩ := tree_of hc
    have HP := Lib.hid (fun V => parts_any h l tv s te V)
    have H1 : Hid ((partsP (bl s)).2 = true) := Lib.hid (by unfold partsP; rw [tr])
    have H2 : Hid ((l.map tx).map bl = (partsP (bl s)).1) := Lib.hid (by unfold partsP; rw [tr, map_bl_tx])
    generalize partsP (bl s) = q at *
    obtain ⟨q1, q2⟩ := q
    simp only at H1 H2
    have h1 := H1.out
    subst h1
    generalize l.map tx = L at *
    clear hc tv te tr hs
    go_enter Tryz.func52, Tryz.ntmps52
    go_wp2_with fail
    refine HM.out.mono ?_; rintro e w1 ⟨rfl, b1⟩
    have B1 := Lib.hid b1
    clear b1
    go_wp2_with fail
    refine (HP.out w1).mono ?_; rintro e w2 ⟨v, rfl, ho, b2⟩
    have B2 := Lib.hid (below_step B1.out b2)
    have HO : Hid (OwnT w2 w.heap.size v L) := Lib.hid (by
      refine ⟨ho.1, ho.2.elim .inl ?_⟩
      rintro ⟨g, cap, cur, e1, e2, rest⟩
      exact .inr ⟨g, cap, cur, e1, Nat.le_trans B1.out.size e2, rest⟩)
    obtain ⟨ao, cap, rfl, _⟩ := ownT_row HO.out
    clear b2 ho
    go_wp2_with fail
    go_ret2
    exact ⟨_, _, rfl, HO.out, H2.out, B2.out⟩
  · rw [may_no hc] at HM
    have H1 : Hid (partsP (bl s) = ([], false)) := Lib.hid (by unfold partsP; rw [treeOf_none hc])
    clear hc hs
    go_enter Tryz.func52, Tryz.ntmps52
    go_wp2_with fail
    refine HM.out.mono ?_; rintro e w1 ⟨rfl, b1⟩
    have B1 := Lib.hid b1
    clear b1
    go_wp2_with fail
    go_ret2
    exact ⟨_, [], by rw [H1.out]; rfl, ownT_nil _ _, by rw [H1.out]; rfl, B1.out⟩

theorem deeps_take (l : List Tm) (k : Nat) (h : k < l.length) : deeps (l.take (k + 1)) = max (deeps (l.take k)) l[k].deep := by
  have ap : ∀ a b : List Tm, deeps (a ++ b) = max (deeps a) (deeps b) := by
    intro a b
    induction a with
    | nil => simp [deeps]
    | cons t a ih => simp only [List.cons_append, deeps, ih]; omega
  rw [List.take_succ_eq_append_getElem h, ap]
  simp [deeps]
set_option maxHeartbeats 1000000 in
set_option maxRecDepth 100000 in
theorem rin_any (l : List ByteArray) (ao : Option Addr) (cap : Nat) (hl : l.length ≤ 281474976710656) (s : ByteArray) (w : World) (hrow : TxtRow w ao l) (r : Bool) (hr : r = true ↔ s ∈ l) :
    Calls Tryz.prog 59 #[.slice ao l.length cap, .string s] w fun e w' => e = .returned (.bool r) ∧ Below w.heap.size w w' := by
  have HROW := Lib.hid hrow
  have HIN : Hid (∀ k, k < l.length → l.getD k ByteArray.empty = s → r = true) := Lib.hid (fun k hk e => hr.2 (by rw [← e]; exact getD_mem6 l k hk))
  have HNO : Hid ((∀ k, k < l.length → l.getD k ByteArray.empty ≠ s) → r = false) := Lib.hid (fun h => by
    cases e : r with
    | false => rfl
    | true =>
      obtain ⟨k, hk, e2⟩ := mem_getD6 (hr.1 e)
      exact absurd e2 (h k hk))
  obtain ⟨n, hn⟩ : ∃ n, n = l.length := ⟨_, rfl⟩
  have HN := Lib.hid hn
  rw [← hn] at hl ⊢
  clear hrow hr hn
  go_enter Tryz.func59, Tryz.ntmps59
  go_wp2_with fail
  go_loopw [5] (fun iv wr => ∃ k : Nat, iv = .int .i64 k ∧ k ≤ n ∧ Hid (∀ j, j < k → l.getD j ByteArray.empty ≠ s) ∧ Hid (Below w.heap.size w wr)) (fun iv _ => n - (intOf iv).toNat)
  case atStart => exact ⟨0, rfl, Nat.zero_le _, Lib.hid (fun j hj => absurd hj (Nat.not_lt_zero j)), Lib.hid (Below.refl _ _)⟩
  case round =>
    obtain ⟨k, rfl, hkn, hch, hb⟩ := hrel
    by_cases hk : k < n
    · have hk' : (k : Int) < (n : Int) := by omega
      rcases HROW.out.below hb.out with e | ⟨b, off, rfl, hlt, hc⟩
      · exfalso; have := HN.out; rw [e] at this; simp at this; omega
      have ck := hc k (by have := HN.out; omega)
      have HK := Lib.hid (HIN.out k (by have := HN.out; omega))
      have HX : Hid (l.getD k ByteArray.empty ≠ s → ∀ j, j < k + 1 → l.getD j ByteArray.empty ≠ s) := Lib.hid (fun h j hj => by
        by_cases e : j = k
        · rw [e]; exact h
        · exact hch.out j (by omega))
      generalize l.getD k ByteArray.empty = y at *
      clear hc hlt
      by_cases e : y = s
      · have HQ := Lib.hid (HK.out e)
        subst e
        go_wp2_with fail
        go_ret
        exact ⟨ret6_bool HQ.out.symm, hb.out⟩
      · obtain ⟨g1, g2⟩ := str6_ne e
        have HQ := Lib.hid (HX.out e)
        clear e
        go_wp2_with fail
        go_roundw
        case rel => exact ⟨k + 1, by go_num, by omega, HQ, hb⟩
        case measure => simp [intOf]; omega
    · obtain rfl : k = n := by omega
      have HQ := Lib.hid (HNO.out (fun j hj => hch.out j (by have := HN.out; omega)))
      clear hk hkn
      go_wp2_with fail
      go_ret
      exact ⟨ret6_bool HQ.out.symm, hb.out⟩
theorem hasP_places {s f : List UInt8} {t u : Tm} (hs : treeOf s = some t) (hf : treeOf f = some u) : hasP s f = true ↔ f ∈ t.places.map Tm.enc := by
  unfold hasP placesP
  rw [hs, hf]
  simp only [decide_eq_true_iff]
end Go.Proofs.YtiehhlolhhjgpaaGreatDoor.Pl

namespace Go.Proofs.YtiehhlolhhjgpaaGreatDoor.Pl
open Go.RowKit

theorem front_len (s : ByteArray) (h0 : (frontP (bl s)).2 = 0) : (frontP (bl s)).1 ≤ s.size := by
  obtain ⟨t, _, h1, h2⟩ := front_sound (s := bl s) (n := (frontP (bl s)).1) (by rw [← h0])
  have h3 := congrArg List.length h2
  rw [List.length_append, bl_length] at h3
  omega
set_option maxRecDepth 100000 in
theorem check_any (s : ByteArray) (hs : s.size ≤ 281474976710656) (w : World) :
    Calls Tryz.prog 24 #[.string s] w fun e w' => e = .returned (.int .i64 (checkP (bl s))) ∧ Below w.heap.size w w' := by
  have HC := Lib.hid (fun V => read6_any s hs V)
  obtain ⟨z, hz⟩ : ∃ z, z = checkP (bl s) := ⟨_, rfl⟩
  have hle : (frontP (bl s)).2 = 0 → (frontP (bl s)).1 ≤ s.size := fun h0 => by
    exact front_len s h0
  rw [← hz]
  unfold checkP at hz
  rw [bl_length] at hz
  generalize frontP (bl s) = r at *
  obtain ⟨m, f⟩ := r
  simp only at hz hle
  by_cases hf : f = 0
  · subst hf
    rw [if_pos rfl] at hz
    have hle := hle rfl
    by_cases hm : m = s.size
    · have HZ := Lib.hid (hz.trans (if_pos hm))
      have q : ¬ (m : Int) < (s.size : Int) := by omega
      clear hz hm hs hle
      go_enter Tryz.func24, Tryz.ntmps24
      go_wp2_with (go_at_call 45; refine (HC.out _).mono ?_; rintro e w1 ⟨rfl, b1⟩)
      go_ret
      exact ⟨by rw [HZ.out]; rfl, b1⟩
    · have HZ := Lib.hid (hz.trans (if_neg hm))
      have q : (m : Int) < (s.size : Int) := by omega
      clear hz hm hs hle
      go_enter Tryz.func24, Tryz.ntmps24
      go_wp2_with (go_at_call 45; refine (HC.out _).mono ?_; rintro e w1 ⟨rfl, b1⟩)
      go_ret
      exact ⟨by rw [HZ.out]; rfl, b1⟩
  · have HZ := Lib.hid (hz.trans (if_neg hf))
    have qf : ((f : Int) == 0) = false := by rw [beq_eq_false_iff_ne]; omega
    clear hz hf hs hle
    go_enter Tryz.func24, Tryz.ntmps24
    go_wp2_with (go_at_call 45; refine (HC.out _).mono ?_; rintro e w1 ⟨rfl, b1⟩)
    go_ret
    exact ⟨by rw [HZ.out]; rfl, b1⟩

set_option maxHeartbeats 1000000 in
set_option maxRecDepth 100000 in
theorem are_any (l : List ByteArray) (ao : Option Addr) (cap : Nat) (hl : l.length ≤ 281474976710656) (hx : ∀ x ∈ l, x.size ≤ 281474976710656) (w : World) (hrow : TxtRow w ao l) (r : Bool) (hr : r = true ↔ ∀ x ∈ l, checkP (bl x) = 0) :
    Calls Tryz.prog 53 #[.slice ao l.length cap] w fun e w' => e = .returned (.bool r) ∧ Below w.heap.size w w' := by
  have HROW := Lib.hid hrow
  have HNO : Hid (∀ k, k < l.length → checkP (bl (l.getD k ByteArray.empty)) ≠ 0 → r = false) := Lib.hid (fun k hk e => by
    cases er : r with
    | false => rfl
    | true => exact absurd (hr.1 er _ (getD_mem6 l k hk)) e)
  have HIN : Hid ((∀ k, k < l.length → checkP (bl (l.getD k ByteArray.empty)) = 0) → r = true) := Lib.hid (fun h => hr.2 (fun x hx => by
    obtain ⟨k, hk, rfl⟩ := mem_getD6 hx
    exact h k hk))
  have HX : Hid (∀ k, k < l.length → (l.getD k ByteArray.empty).size ≤ 281474976710656) := Lib.hid (fun k hk => hx _ (getD_mem6 l k hk))
  obtain ⟨n, hn⟩ : ∃ n, n = l.length := ⟨_, rfl⟩
  have HN := Lib.hid hn
  rw [← hn] at hl ⊢
  clear hrow hr hn hx
  go_enter Tryz.func53, Tryz.ntmps53
  go_wp2_with fail
  go_loopw [7] (fun iv wr => ∃ k : Nat, iv = .int .i64 k ∧ k ≤ n ∧ Hid (∀ j, j < k → checkP (bl (l.getD j ByteArray.empty)) = 0) ∧ Hid (Below w.heap.size w wr)) (fun iv _ => n - (intOf iv).toNat)
  case atStart => exact ⟨0, rfl, Nat.zero_le _, Lib.hid (fun j hj => absurd hj (Nat.not_lt_zero j)), Lib.hid (Below.refl _ _)⟩
  case round =>
    obtain ⟨k, rfl, hkn, hch, hb⟩ := hrel
    by_cases hk : k < n
    · have hk' : (k : Int) < (n : Int) := by omega
      rcases HROW.out.below hb.out with e | ⟨b, off, rfl, hlt, hc⟩
      · exfalso; have := HN.out; rw [e] at this; simp at this; omega
      have ck := hc k (by have := HN.out; omega)
      have HK := Lib.hid (HNO.out k (by have := HN.out; omega))
      have HC := Lib.hid (fun V => check_any (l.getD k ByteArray.empty) (HX.out k (by have := HN.out; omega)) V)
      have HY : Hid (checkP (bl (l.getD k ByteArray.empty)) = 0 → ∀ j, j < k + 1 → checkP (bl (l.getD j ByteArray.empty)) = 0) := Lib.hid (fun h j hj => by
        by_cases e : j = k
        · rw [e]; exact h
        · exact hch.out j (by omega))
      generalize l.getD k ByteArray.empty = y at *
      generalize checkP (bl y) = c at *
      clear hc hlt
      by_cases e : c = 0
      · subst e
        have HQ := Lib.hid (HY.out rfl)
        go_wp2_with (go_at_call 24; refine (HC.out _).mono ?_; rintro e w1 ⟨rfl, b1⟩)
        go_roundw
        case rel => exact ⟨k + 1, by go_num, by omega, HQ, Lib.hid (below_step hb.out b1)⟩
        case measure => simp [intOf]; omega
      · have q : ((c : Int) != 0) = true := by rw [bne_iff_ne]; omega
        have HQ := Lib.hid (HK.out e)
        clear e
        go_wp2_with (go_at_call 24; refine (HC.out _).mono ?_; rintro e w1 ⟨rfl, b1⟩)
        go_ret
        exact ⟨ret6_bool HQ.out.symm, below_step hb.out b1⟩
    · obtain rfl : k = n := by omega
      have HQ := Lib.hid (HIN.out (fun j hj => hch.out j (by have := HN.out; omega)))
      clear hk hkn
      go_wp2_with fail
      go_ret
      exact ⟨ret6_bool HQ.out.symm, hb.out⟩

theorem valid6_any (s : ByteArray) (hs : s.size ≤ 281474976710656) (w : World) :
    Calls Tryz.prog 78 #[.string s] w fun e w' => e = .returned (st2 (if checkP (bl s) = 0 then (bl s, 0) else ([], 5))) ∧ Below w.heap.size w w' := by
  have HC := Lib.hid (fun V => check_any s hs V)
  generalize checkP (bl s) = c at *
  by_cases h : c = 0
  · subst h
    rw [if_pos rfl]
    go_enter Tryz.func78, Tryz.ntmps78
    go_wp2_with (go_at_call 24; refine (HC.out _).mono ?_; rintro e w1 ⟨rfl, b1⟩)
    go_ret2
    exact ⟨rfl, b1⟩
  · have q : ((c : Int) != 0) = true := by rw [bne_iff_ne]; omega
    rw [if_neg h]
    clear h
    go_enter Tryz.func78, Tryz.ntmps78
    go_wp2_with (go_at_call 24; refine (HC.out _).mono ?_; rintro e w1 ⟨rfl, b1⟩)
    go_ret2
    exact ⟨rfl, b1⟩

/-- The letters. -/
def letterK (b : UInt8) : Nat := if b = 100 then 1 else if b = 97 then 2 else if b = 114 then 3 else if b = 104 then 4 else if b = 109 then 5 else if b = 115 then 6 else 0
set_option maxHeartbeats 1000000 in
set_option maxRecDepth 100000 in
theorem kind6_any (b : UInt8) (w : World) :
    Calls Tryz.prog 56 #[.string ⟨#[b]⟩] w fun e w' => e = .returned (.int .u8 (letterK b)) ∧ w' = w := by
  by_cases e100 : b = 100
  · subst e100
    go_enter Tryz.func56, Tryz.ntmps56
    go_wp2_with fail
    go_ret
    exact ⟨rfl, rfl⟩
  by_cases e97 : b = 97
  · subst e97
    go_enter Tryz.func56, Tryz.ntmps56
    go_wp2_with fail
    go_ret
    exact ⟨rfl, rfl⟩
  by_cases e114 : b = 114
  · subst e114
    go_enter Tryz.func56, Tryz.ntmps56
    go_wp2_with fail
    go_ret
    exact ⟨rfl, rfl⟩
  by_cases e104 : b = 104
  · subst e104
    go_enter Tryz.func56, Tryz.ntmps56
    go_wp2_with fail
    go_ret
    exact ⟨rfl, rfl⟩
  by_cases e109 : b = 109
  · subst e109
    go_enter Tryz.func56, Tryz.ntmps56
    go_wp2_with fail
    go_ret
    exact ⟨rfl, rfl⟩
  by_cases e115 : b = 115
  · subst e115
    go_enter Tryz.func56, Tryz.ntmps56
    go_wp2_with fail
    go_ret
    exact ⟨rfl, rfl⟩
  have HZ : Hid (letterK b = 0) := Lib.hid (by unfold letterK; simp [e100, e97, e114, e104, e109, e115])
  have lit : ∀ c : UInt8, (⟨#[c]⟩ : ByteArray).toList = [c] := fun c => by rw [Lib.toList_data]
  obtain ⟨n100, m100⟩ := str6_ne (a := ⟨#[b]⟩) (b := ⟨#[100]⟩) (fun h => e100 (by injection h with h; simpa using h))
  rw [lit 100] at n100 m100
  obtain ⟨n97, m97⟩ := str6_ne (a := ⟨#[b]⟩) (b := ⟨#[97]⟩) (fun h => e97 (by injection h with h; simpa using h))
  rw [lit 97] at n97 m97
  obtain ⟨n114, m114⟩ := str6_ne (a := ⟨#[b]⟩) (b := ⟨#[114]⟩) (fun h => e114 (by injection h with h; simpa using h))
  rw [lit 114] at n114 m114
  obtain ⟨n104, m104⟩ := str6_ne (a := ⟨#[b]⟩) (b := ⟨#[104]⟩) (fun h => e104 (by injection h with h; simpa using h))
  rw [lit 104] at n104 m104
  obtain ⟨n109, m109⟩ := str6_ne (a := ⟨#[b]⟩) (b := ⟨#[109]⟩) (fun h => e109 (by injection h with h; simpa using h))
  rw [lit 109] at n109 m109
  obtain ⟨n115, m115⟩ := str6_ne (a := ⟨#[b]⟩) (b := ⟨#[115]⟩) (fun h => e115 (by injection h with h; simpa using h))
  rw [lit 115] at n115 m115
  generalize (⟨#[b]⟩ : ByteArray) = sb at *
  rw [HZ.out]
  go_enter Tryz.func56, Tryz.ntmps56
  go_wp2_with fail
  go_ret
  exact ⟨rfl, rfl⟩

theorem kind_of {s : List UInt8} (h : checkP s = 0) : ∃ b r, s = b :: r ∧ kindP s = letterK b ∧ (letterK b = 1 ∨ letterK b = 2 → (rdt r 1024).2.2 = 0 ∧ textP s = ((rdt r 1024).1, true)) ∧
    (letterK b ≠ 1 → letterK b ≠ 2 → textP s = ([], false)) := by
  obtain ⟨t, ht, te⟩ := check_iff.1 h
  obtain ⟨hd, l⟩ := t
  have hg := ht.1
  simp only [Tm.good] at hg
  rw [Tm.enc_node] at te
  obtain ⟨c, hk⟩ := head_kind hg.1
  cases hk with
  | data t e1 e2 e3 =>
    refine ⟨100, txt t ++ encs l, by rw [← te, e1]; rfl, ?_, fun _ => ?_, fun h => absurd rfl h⟩
    · unfold kindP; rw [if_pos h, ← te, e1]; rfl
    · have hr := rdt_txt (t := t) (by rw [two64]; omega) (encs l) 1024 (by omega)
      refine ⟨by rw [hr], ?_⟩
      unfold textP
      rw [if_pos ⟨h, .inl (by rw [← te, e1]; rfl)⟩, ← te, e1]
      rfl
  | atom t e1 e2 e4 e3 =>
    refine ⟨97, txt t ++ encs l, by rw [← te, e1]; rfl, ?_, fun _ => ?_, fun _ h => absurd rfl h⟩
    · unfold kindP; rw [if_pos h, ← te, e1]; rfl
    · have hr := rdt_txt (t := t) (by rw [two64]; omega) (encs l) 1024 (by omega)
      refine ⟨by rw [hr], ?_⟩
      unfold textP
      rw [if_pos ⟨h, .inr (by rw [← te, e1]; rfl)⟩, ← te, e1]
      rfl
  | row v e1 e2 e3 =>
    refine ⟨114, enc v ++ encs l, by rw [← te, e1]; rfl, ?_, fun h => absurd h (by decide), fun _ _ => ?_⟩
    · unfold kindP; rw [if_pos h, ← te, e1]; rfl
    · unfold textP; rw [if_neg (by rintro ⟨_, h | h⟩ <;> (rw [← te, e1] at h; exact absurd h (by simp)))]
  | hash e1 e3 =>
    refine ⟨104, encs l, by rw [← te, e1]; rfl, ?_, fun h => absurd h (by decide), fun _ _ => ?_⟩
    · unfold kindP; rw [if_pos h, ← te, e1]; rfl
    · unfold textP; rw [if_neg (by rintro ⟨_, h | h⟩ <;> (rw [← te, e1] at h; exact absurd h (by simp)))]
  | mac e1 e3 =>
    refine ⟨109, encs l, by rw [← te, e1]; rfl, ?_, fun h => absurd h (by decide), fun _ _ => ?_⟩
    · unfold kindP; rw [if_pos h, ← te, e1]; rfl
    · unfold textP; rw [if_neg (by rintro ⟨_, h | h⟩ <;> (rw [← te, e1] at h; exact absurd h (by simp)))]
  | seal_ e1 e3 =>
    refine ⟨115, encs l, by rw [← te, e1]; rfl, ?_, fun h => absurd h (by decide), fun _ _ => ?_⟩
    · unfold kindP; rw [if_pos h, ← te, e1]; rfl
    · unfold textP; rw [if_neg (by rintro ⟨_, h | h⟩ <;> (rw [← te, e1] at h; exact absurd h (by simp)))]
theorem kind_no {s : List UInt8} (h : checkP s ≠ 0) : kindP s = 0 ∧ textP s = ([], false) := by
  unfold kindP textP
  exact ⟨if_neg h, if_neg (fun e => h e.1)⟩

/-- One text in a row of its own. -/
theorem are1_any (s : ByteArray) (hs : s.size ≤ 281474976710656) (w : World) :
    Calls Tryz.prog 53 #[.slice (some ⟨w.heap.size, 0, none⟩) 1 1] (w.alloc (.cells #[.string s] 9)) fun e w' => e = .returned (.bool (checkP (bl s) == 0)) ∧ Below w.heap.size w w' :=
  (are_any [s] (some ⟨w.heap.size, 0, none⟩) 1 (by simp) (fun x hx => by simp at hx; rw [hx]; exact hs) _ (row1 w s) (checkP (bl s) == 0) (by simp)).mono (fun e w' h => ⟨h.1, below_step ((Below.refl _ _).alloc (Nat.le_refl _) _) h.2⟩)
theorem tslice_to (x : ByteArray) (b : Nat) (h2 : b ≤ x.size) (V : World) : (Instr.sliceAt 9 (.string x) none (some (.int .i64 (b : Int))) none).run Tryz.prog V = .ok (.string (x.extract 0 b)) V := by
  have h1 : (0 : Int) ≤ (b : Int) := by omega
  have h3 : (b : Int) ≤ (x.size : Int) := by omega
  go_simp

set_option maxHeartbeats 1000000 in
set_option maxRecDepth 100000 in
theorem tkind_any (s : ByteArray) (hs : s.size ≤ 281474976710656) (w : World) :
    Calls Tryz.prog 29 #[.string s] w fun e w' => e = .returned (.int .u8 (kindP (bl s))) ∧ Below w.heap.size w w' := by
  have HA := Lib.hid (are1_any s hs w)
  by_cases hc : checkP (bl s) = 0
  · rw [may_yes hc] at HA
    obtain ⟨b, r, e1, e2, _⟩ := kind_of hc
    have hpos : 0 < s.size := by rw [size_bl, e1]; simp
    have h1 : s.extract 0 1 = ⟨#[b]⟩ := bl_inj (by rw [bl_extract, e1]; rfl)
    have sl : ∀ V : World, (Instr.sliceAt 9 (.string s) none (some (.int .i64 1)) none).run Tryz.prog V = .ok (.string ⟨#[b]⟩) V := fun V => by
      rw [← h1]; exact tslice_to s 1 hpos V
    have HK := Lib.hid (fun V => kind6_any b V)
    rw [e2]
    generalize letterK b = k at *
    generalize (⟨#[b]⟩ : ByteArray) = sb at *
    clear hc e1 e2 hpos h1 hs
    go_enter Tryz.func29, Tryz.ntmps29
    go_wp2_with (first | (go_at_call 53; refine HA.out.mono ?_; rintro e w1 ⟨rfl, b1⟩) | (go_at_call 56; refine (HK.out _).mono ?_; rintro e w2 ⟨rfl, rfl⟩))
    go_ret
    exact ⟨rfl, b1⟩
  · rw [may_no hc] at HA
    rw [(kind_no hc).1]
    clear hc
    go_enter Tryz.func29, Tryz.ntmps29
    go_wp2_with (first | (go_at_call 53; refine HA.out.mono ?_; rintro e w1 ⟨rfl, b1⟩))
    go_ret
    exact ⟨rfl, b1⟩

set_option maxHeartbeats 1000000 in
set_option maxRecDepth 100000 in
theorem text6_any (s : ByteArray) (hs : s.size ≤ 281474976710656) (w : World) :
    Calls Tryz.prog 30 #[.string s] w fun e w' => e = .returned (tb2 (textP (bl s))) ∧ Below w.heap.size w w' := by
  have HA := Lib.hid (tkind_any s hs w)
  by_cases hc : checkP (bl s) = 0
  · obtain ⟨b, r, e1, e2, e3, e4⟩ := kind_of hc
    have hpos : 1 ≤ s.size := by rw [size_bl, e1]; simp
    have hx : bl (s.extract 1 s.size) = r := by rw [bl_from, e1]; rfl
    have sl : ∀ V : World, (Instr.sliceAt 9 (.string s) (some (.int .i64 1)) none none).run Tryz.prog V = .ok (.string (s.extract 1 s.size)) V := tslice_from s 1 hpos
    have hxs : (s.extract 1 s.size).size ≤ 281474976710656 := by rw [size_bl, bl_from, List.length_drop, bl_length]; omega
    rw [e2] at HA
    generalize letterK b = k at *
    generalize s.extract 1 s.size = x at *
    have HT := Lib.hid (fun V => readtext_any x 1024 V hxs (by decide) (by decide))
    rw [show x.data.toList = bl x from rfl, hx] at HT
    by_cases hk1 : k = 1
    · subst hk1
      obtain ⟨f1, f2⟩ := e3 (.inl rfl)
      rw [f2]
      obtain ⟨z, hz⟩ : ∃ z, z = rdt r 1024 := ⟨_, rfl⟩
      rw [← hz] at HT f1 ⊢
      obtain ⟨t, n, f⟩ := z
      simp only at f1
      subst f1
      clear e1 e2 e3 e4 hx hxs hz hc hs f2
      go_enter Tryz.func30, Tryz.ntmps30
      go_wp2_with (first | (go_at_call 29; refine HA.out.mono ?_; rintro e w1 ⟨rfl, b1⟩) | (go_at_call 57; refine (HT.out _).mono ?_; rintro e w2 ⟨rfl, b2⟩))
      go_ret2
      exact ⟨rfl, below_step b1 b2⟩
    · have q1 : ((k : Int) == 1) = false := by rw [beq_eq_false_iff_ne]; omega
      by_cases hk2 : k = 2
      · subst hk2
        obtain ⟨f1, f2⟩ := e3 (.inr rfl)
        rw [f2]
        obtain ⟨z, hz⟩ : ∃ z, z = rdt r 1024 := ⟨_, rfl⟩
        rw [← hz] at HT f1 ⊢
        obtain ⟨t, n, f⟩ := z
        simp only at f1
        subst f1
        clear e1 e2 e3 e4 hx hxs hz hc hs f2
        go_enter Tryz.func30, Tryz.ntmps30
        go_wp2_with (first | (go_at_call 29; refine HA.out.mono ?_; rintro e w1 ⟨rfl, b1⟩) | (go_at_call 57; refine (HT.out _).mono ?_; rintro e w2 ⟨rfl, b2⟩))
        go_ret2
        exact ⟨rfl, below_step b1 b2⟩
      · have q2 : ((k : Int) == 2) = false := by rw [beq_eq_false_iff_ne]; omega
        rw [e4 hk1 hk2]
        clear e1 e2 e3 e4 hx hxs hc hs hk1 hk2
        go_enter Tryz.func30, Tryz.ntmps30
        go_wp2_with (first | (go_at_call 29; refine HA.out.mono ?_; rintro e w1 ⟨rfl, b1⟩))
        go_ret2
        exact ⟨rfl, b1⟩
  · rw [(kind_no hc).1] at HA
    rw [(kind_no hc).2]
    clear hc
    go_enter Tryz.func30, Tryz.ntmps30
    go_wp2_with (first | (go_at_call 29; refine HA.out.mono ?_; rintro e w1 ⟨rfl, b1⟩))
    go_ret2
    exact ⟨rfl, b1⟩
end Go.Proofs.YtiehhlolhhjgpaaGreatDoor.Pl

namespace Go.Proofs.YtiehhlolhhjgpaaGreatDoor.Pl
open Go.RowKit

/-- What is thrown. -/
abbrev boom7 : Ending := .panicked [{ v := .iface 43 (.agg #[]), recovered := false }]

theorem need7_ok (w : World) : Calls Tryz.prog 39 #[.bool true] w fun x w' => x = .returned (.tuple #[]) ∧ w' = w := by
  go_enter Tryz.func39, Tryz.ntmps39
  go_wp2
  go_end0
  exact ⟨rfl, rfl⟩
theorem need7_bad (w : World) : Calls Tryz.prog 39 #[.bool false] w fun x w' => x = boom7 ∧ w' = w := by
  go_enter Tryz.func39, Tryz.ntmps39
  go_wp2
  exact ⟨rfl, rfl, rfl⟩
theorem made7_ok (t : ByteArray) (w : World) : Calls Tryz.prog 67 #[.string t, .int .i64 0] w fun x w' => x = .returned (.string t) ∧ w' = w := by
  go_enter Tryz.func67, Tryz.ntmps67
  go_wp2_with (go_at_call 39; refine (need7_ok _).mono ?_; rintro e w2 ⟨rfl, rfl⟩)
  go_ret
  exact ⟨rfl, rfl⟩
theorem made7_bad (t : ByteArray) (e : Nat) (he : e ≠ 0) (w : World) : Calls Tryz.prog 67 #[.string t, .int .i64 e] w fun x w' => x = boom7 ∧ w' = w := by
  have hz : ((e : Int) == 0) = false := by rw [beq_eq_false_iff_ne]; omega
  go_enter Tryz.func67, Tryz.ntmps67
  go_wp2_with (go_at_call 39; refine (need7_bad _).mono ?_; rintro e w2 ⟨rfl, rfl⟩)
  exact ⟨rfl, rfl, rfl⟩

/-- Nothing but one block's cells has turned; new blocks may be there. -/
def Moved (B : Nat) (W W' : World) : Prop := W.grownBy W' (some B)
theorem Moved.refl (B : Nat) (W : World) : Moved B W W := ⟨rfl, rfl, rfl, Nat.le_refl _, fun _ _ _ => rfl⟩
theorem Moved.trans {B : Nat} {U V W : World} (h : Moved B U V) (k : Moved B V W) : Moved B U W :=
  ⟨k.os.trans h.os, k.tape.trans h.tape, k.output.trans h.output, Nat.le_trans h.size k.size, fun b hb hne => (k.block b (Nat.lt_of_lt_of_le hb h.size) hne).trans (h.block b hb hne)⟩
theorem Moved.of_below {B : Nat} {W W' : World} (h : Below W.heap.size W W') : Moved B W W' := ⟨h.os, h.tape, h.output, h.size, fun b hb _ => h.block b hb⟩
theorem Moved.set (B : Nat) (W : World) (v : Value) : Moved B W (W.setCell ⟨B, 0, none⟩ v) :=
  ⟨rfl, rfl, rfl, by simp [World.setCell], fun k _ hk => Below.heap_setCell _ _ _ _ (fun e => hk (by simp [e]))⟩
theorem Moved.below {B n : Nat} {w W W' : World} (h : Moved B W W') (k : Below n w W) (hB : n ≤ B) (hn : n ≤ W.heap.size) : Below n w W' :=
  k.grown h hn (fun b e => by cases e; exact hB)
theorem Moved.heap {B b : Nat} {W W' : World} {o : Obj} (h : Moved B W W') (hb : b ≠ B) (k : W.heap[b]? = some o) : W'.heap[b]? = some o :=
  (h.block b (Array.getElem?_eq_some_iff.1 k).1 (fun e => hb (Option.some.inj e))).trans k

/-- The reader's two functions, and what it stands at. -/
abbrev skipV (B : Nat) : Value := .func (.func 61) #[] #[.pointer (some ⟨B, 0, none⟩)]
abbrev upV (B : Nat) : Value := .func (.func 63) #[] #[.pointer (some ⟨B, 0, none⟩)]
abbrev rdV (B : Nat) : Value := .agg #[skipV B, upV B]
abbrev At7 (B : Nat) (s : List UInt8) (W : World) : Prop := Boxed W B 9 (.string ⟨s.toArray⟩)

theorem skip7_any (B : Nat) (s m : List UInt8) (w : World) (h : At7 B s w) :
    Calls Tryz.prog 61 #[.string ⟨m.toArray⟩, .pointer (some ⟨B, 0, none⟩)] w fun e w' => e = .returned (.bool (m.isPrefixOf s)) ∧ At7 B (if m.isPrefixOf s then s.drop m.length else s) w' ∧ Moved B w w' := by
  have hc := h.cell
  have hf := h.frozen
  have HH := Lib.hid h
  have HP : Hid (∀ V, Calls Tryz.prog 62 #[.string ⟨s.toArray⟩, .string ⟨m.toArray⟩] V fun e w' => e = .returned (.tuple #[.string ⟨(if m.isPrefixOf s then s.drop m.length else s).toArray⟩, .bool (m.isPrefixOf s)]) ∧ w' = V) := Lib.hid (fun V => Tryz.strings_CutPrefix ⟨s.toArray⟩ ⟨m.toArray⟩ V)
  clear h
  generalize (if m.isPrefixOf s then s.drop m.length else s) = r at *
  generalize m.isPrefixOf s = b at *
  go_enter Tryz.func61, Tryz.ntmps61
  go_wp2_with (go_at_call 62; refine (HP.out _).mono ?_; rintro e w1 ⟨rfl, rfl⟩)
  go_ret
  exact ⟨rfl, HH.out.set _, Moved.set _ _ _⟩
theorem decode_wide (s : ByteArray) (pos : Nat) (h : pos < s.size) (ha : 128 ≤ (s.get! pos).toNat) : ∀ j, j < (Utf8.decode s pos).2 → pos + j < s.size ∧ 128 ≤ (s.get! (pos + j)).toNat := by
  have h0 : ¬ (s.get! (pos + 0)).toNat < 128 := by rw [Nat.add_zero]; omega
  simp only [Utf8.decode, if_neg h0]
  repeat' split
  all_goals
    intro j hj
    simp only [Bool.and_eq_true, beq_iff_eq, decide_eq_true_eq] at *
    have hj4 : j = 0 ∨ j = 1 ∨ j = 2 ∨ j = 3 := by omega
    rcases hj4 with rfl | rfl | rfl | rfl <;> first | omega | (constructor <;> omega)
theorem get_bl (s : List UInt8) (k : Nat) (h : k < s.length) : (⟨s.toArray⟩ : ByteArray).get! k = s.getD k 0 := by
  rw [get_bang _ k (by rw [size_lit]; exact h)]
  rw [List.getD_eq_getElem?_getD, List.getElem?_eq_getElem h]; rfl
/-- How far a rune takes one. -/
theorem up_step (p : UInt8 → Bool) (ends s : List UInt8) (hp : ∀ b, p b = !(ends.contains b)) (ha : ∀ b ∈ ends, b.toNat < 128) (pos : Nat) (h : pos < s.length) (hz : pos ≤ runL p s) :
    ((decide (((Utf8.decode ⟨s.toArray⟩ pos).1 : Int) < 128) && ends.contains ((Utf8.decode ⟨s.toArray⟩ pos).1 : Int).toNat.toUInt8) = true → runL p s = pos) ∧
      ((decide (((Utf8.decode ⟨s.toArray⟩ pos).1 : Int) < 128) && ends.contains ((Utf8.decode ⟨s.toArray⟩ pos).1 : Int).toNat.toUInt8) = false → pos + (Utf8.decode ⟨s.toArray⟩ pos).2 ≤ runL p s) := by
  have hs : pos < (⟨s.toArray⟩ : ByteArray).size := by rw [size_lit]; exact h
  have hg := get_bl s pos h
  have hst := runL_step p s pos h hz
  by_cases hb : (s.getD pos 0).toNat < 128
  · have hx : ((⟨s.toArray⟩ : ByteArray)[pos]'hs) = s.getD pos 0 := by rw [← hg]; exact (get_bang _ pos hs).symm
    rw [decode_ascii _ pos hs (by rw [hx]; exact hb), hx]
    have e : (((s.getD pos 0).toNat : Nat) : Int).toNat.toUInt8 = s.getD pos 0 := by simp
    simp only
    rw [e, decide_eq_true (by omega : (((s.getD pos 0).toNat : Nat) : Int) < 128), Bool.true_and]
    exact ⟨fun k => hst.2 (by rw [hp, k]; rfl), fun k => hst.1 (by rw [hp, k]; rfl)⟩
  · have hx : 128 ≤ ((⟨s.toArray⟩ : ByteArray)[pos]'hs).toNat := by rw [show ((⟨s.toArray⟩ : ByteArray)[pos]'hs) = s.getD pos 0 by rw [← hg]; exact (get_bang _ pos hs).symm]; omega
    have h1 := (decode_high _ pos hs hx).1
    rw [decide_eq_false (by omega), Bool.false_and]
    refine ⟨(fun k => by cases k), fun _ => ?_⟩
    have hw := decode_wide _ pos hs (by rw [hg]; omega)
    have key : ∀ j, j ≤ (Utf8.decode ⟨s.toArray⟩ pos).2 → pos + j ≤ runL p s := by
      intro j
      induction j with
      | zero => intro _; exact hz
      | succ j ih =>
        intro hj
        obtain ⟨k1, k2⟩ := hw j (by omega)
        rw [size_lit] at k1
        rw [get_bl s _ k1] at k2
        refine (runL_step p s (pos + j) k1 (ih (by omega))).1 ?_
        rw [hp]
        cases hc : ends.contains (s.getD (pos + j) 0) with
        | false => rfl
        | true =>
          have := ha _ (List.contains_iff_mem.1 hc)
          omega
    exact key _ (Nat.le_refl _)
set_option maxHeartbeats 2000000 in
set_option maxRecDepth 100000 in
theorem upto7_any (B : Nat) (s ends : List UInt8) (p : UInt8 → Bool) (hp : ∀ b, p b = !(ends.contains b)) (ha : ∀ b ∈ ends, b.toNat < 128) (hs : s.length ≤ 281474976710656) (w : World) (h : At7 B s w) :
    Calls Tryz.prog 63 #[.string ⟨ends.toArray⟩, .pointer (some ⟨B, 0, none⟩)] w fun e w' => e = .returned (.string ⟨(s.take (runL p s)).toArray⟩) ∧ At7 B (s.drop (runL p s)) w' ∧ Moved B w w' := by
  have HU := Lib.hid (up_step p ends s hp ha)
  have HC := Lib.hid (fun (r : Nat) V => containsrune7_any ⟨ends.toArray⟩ ha (r : Int) (Int.natCast_nonneg r) V)
  have HZL : Hid (runL p s ≤ s.length) := Lib.hid (runL_le p s)
  obtain ⟨z, hz⟩ : ∃ z, z = runL p s := ⟨_, rfl⟩
  rw [← hz] at HU HZL ⊢
  have hsz : (⟨s.toArray⟩ : ByteArray).size = s.length := size_lit s
  have hx1 : (⟨s.toArray⟩ : ByteArray).extract 0 z = ⟨(s.take z).toArray⟩ := bl_inj (by rw [bl_extract, bl_mk, bl_mk, List.drop_zero])
  have hx2 : (⟨s.toArray⟩ : ByteArray).extract z (⟨s.toArray⟩ : ByteArray).size = ⟨(s.drop z).toArray⟩ := bl_inj (by rw [bl_from, bl_mk, bl_mk])
  have hs1 : ∀ V : World, (Instr.sliceAt 9 (.string ⟨s.toArray⟩) none (some (.int .i64 (z : Int))) none).run Tryz.prog V = .ok (.string ⟨(s.take z).toArray⟩) V := fun V => by
    rw [← hx1]; exact tslice_to _ z (by rw [hsz]; exact HZL.out) V
  have hs2 : ∀ V : World, (Instr.sliceAt 9 (.string ⟨s.toArray⟩) (some (.int .i64 (z : Int))) none none).run Tryz.prog V = .ok (.string ⟨(s.drop z).toArray⟩) V := fun V => by
    rw [← hx2]; exact tslice_from _ z (by rw [hsz]; exact HZL.out) V
  have hc := h.cell
  have HH := Lib.hid h
  have HX := Lib.hid (And.intro hx1 hx2)
  have HL := Lib.hid hs
  have HBL := Lib.hid h.lt
  unfold At7
  clear hz hx1 hx2 h ha hp hs
  generalize (s.take z).toArray = st at *
  generalize (s.drop z).toArray = sd at *
  go_enter Tryz.func63, Tryz.ntmps63
  go_wp2_with fail
  go_loopw [4] (fun nv wr => ∃ pos : Nat, nv = .int .i64 s.length ∧ Hid (pos ≤ z) ∧ Hid (wr.heap[w.heap.size]? = some (.stringIter ⟨s.toArray⟩ pos)) ∧ Hid (Below w.heap.size w wr)) (fun _ wr => s.length - wr.iterPos w.heap.size)
  case atStart => exact ⟨0, rfl, Lib.hid (Nat.zero_le _), Lib.hid (World.iter_heap w ⟨s.toArray⟩ 0), Lib.hid ((Below.refl _ w).alloc (Nat.le_refl _) _)⟩
  case round =>
    obtain ⟨pos, rfl, hpz, hit, hb⟩ := hrel
    by_cases hp : pos < s.length
    · have hp2 : pos < (⟨s.toArray⟩ : ByteArray).size := by rw [hsz]; exact hp
      have hwd := Lib.hid (width_pos _ pos hp2)
      have HUP := Lib.hid (HU.out pos hp hpz.out)
      have hit2 := Lib.hid (Lib.iterAt_heap wr w.heap.size ⟨s.toArray⟩ pos (pos + (Utf8.decode ⟨s.toArray⟩ pos).2) hit.out)
      have hb2 := Lib.hid (Lib.below_iterAt hb.out (k := w.heap.size) (Nat.le_refl _) ⟨s.toArray⟩ (pos + (Utf8.decode ⟨s.toArray⟩ pos).2))
      have hnx : ∀ ty, (Instr.next (.pointer (some ⟨w.heap.size, 0, none⟩)) true ty).run Tryz.prog wr = _ := fun ty => Lib.run_next_any_at wr w.heap.size ⟨s.toArray⟩ pos ty hit.out hp2
      generalize wr.iterAt w.heap.size ⟨s.toArray⟩ (pos + (Utf8.decode ⟨s.toArray⟩ pos).2) = W1 at *
      have HC1 := Lib.hid (fun V => HC.out (Utf8.decode ⟨s.toArray⟩ pos).1 V)
      rw [bl_mk] at HC1
      generalize Utf8.decode ⟨s.toArray⟩ pos = rd at *
      obtain ⟨r, d⟩ := rd
      simp only at HUP hit2 hnx HC1 hwd
      cases hcn : decide ((r : Int) < 128) && ends.contains (r : Int).toNat.toUInt8 with
      | true =>
        rw [hcn] at HC1
        obtain rfl : z = pos := HUP.out.1 hcn
        have HB1 := Lib.hid hb2.out
        clear hcn HUP hwd
        go_wp2_with (go_at_call 64; refine (HC1.out _).mono ?_; rintro e w2 ⟨rfl, b2⟩; have B2 := Lib.hid (below_step HB1.out b2); have bx2 : At7 B s w2 := (B2.out.block B HBL.out).trans HH.out; have hc2 := bx2.cell; have hf2 := bx2.frozen; have HX2 := Lib.hid bx2; clear b2 bx2)
        go_ret
        exact ⟨rfl, HX2.out.set _, (Moved.of_below B2.out).trans (Moved.set _ _ _)⟩
      | false =>
        rw [hcn] at HC1
        have HN := Lib.hid (HUP.out.2 hcn)
        clear hcn HUP
        go_wp2_with (go_at_call 64; refine (HC1.out _).mono ?_; rintro e w2 ⟨rfl, b2⟩)
        have hit3 := Lib.hid (heap_below b2 hit2.out)
        have B2 := Lib.hid (below_step hb2.out b2)
        clear b2
        go_roundw
        case rel => exact ⟨pos + d, rfl, HN, hit3, B2⟩
        case measure => simp only [World.iterPos, hit3.out, hit.out]; have := hwd.out; omega
    · have hnx : ∀ ty, (Instr.next (.pointer (some ⟨w.heap.size, 0, none⟩)) true ty).run Tryz.prog wr = _ := fun ty => Lib.run_next_end_at wr w.heap.size ⟨s.toArray⟩ pos ty hit.out (by rw [hsz]; exact hp)
      have hzl : z = s.length := by have := HZL.out; have := hpz.out; omega
      have bx2 : At7 B s wr := (hb.out.block B HBL.out).trans HH.out
      have hc2 := bx2.cell
      have hf2 := bx2.frozen
      have HX2 := Lib.hid bx2
      clear hp bx2
      rw [hzl] at hs1 hs2
      go_wp2_with fail
      go_ret
      exact ⟨rfl, HX2.out.set _, (Moved.of_below hb.out).trans (Moved.set _ _ _)⟩
end Go.Proofs.YtiehhlolhhjgpaaGreatDoor.Pl

namespace Go.Proofs.YtiehhlolhhjgpaaGreatDoor.Pl
open Go.RowKit Go.Shelf
attribute [local go_sem] Oper.semAt_some

/-- The places of a term. -/
theorem vis_term {s : ByteArray} (h : checkP (bl s) = 0) : ∃ T : Tm, T.valid ∧ bl s = T.enc ∧ treeOf (bl s) = some T ∧ vis s = ((offT 0 1 T).map Prod.fst, T.enc.length, 0) := by
  obtain ⟨T, tv, te, tr⟩ := tree_of h
  refine ⟨T, tv, te, tr, ?_⟩
  have h1 := vis_tree (bl s) T tv.1 16 tv.2.1 (Nat.le_refl _) 0 [] (by rw [List.drop_zero, te, List.append_nil])
  rw [Nat.zero_add] at h1
  exact h1
theorem below_mark {B : Nat} {w V : World} {D : Nat} {o : Obj} (h : Below B w V) (hB : B ≤ D) (hD : V.heap[D]? = some o) (o' : Obj) : Below B w (V.putObj D o') :=
  h.grown (grownBy_putObj' V D o') (by have := (Array.getElem?_eq_some_iff.1 hD).1; omega) (fun k e => by cases e; exact hB)
theorem leave_mark {n : Nat} {fn : Func} {tmps : Array Value} {R : Ending → World → Prop} {D : Nat} {V : World} {v : Value} (hm : V.heap[D]? = some (.deferred (some [])))
    (h : (results fn tmps).run Tryz.prog (V.putObj D (.deferred none)) = .ok v (V.putObj D (.deferred none))) (hR : R (.returned v) (V.putObj D (.deferred none))) :
    LeavesInM Fence.wide n Tryz.prog fn tmps R [markOf D] .returning V :=
  ⟨by simp, .inl ⟨D, _, rfl, run_takeDeferred hm, v, h, hR⟩⟩
theorem vis_count {s : ByteArray} (h : checkP (bl s) = 0) (q : List Pl6) (hq : q <+: (vis s).1) : q.length ≤ 16384 := by
  obtain ⟨T, tv, te, tr, hv⟩ := vis_term h
  have h1 := hq.length_le
  rw [hv, List.length_map] at h1
  have h2 : (offT 0 1 T).length = T.places.length := by rw [← offs_snd T 0 1, List.length_map]
  have h3 := places_count T tv.1
  have h4 := tv.2.2
  omega

/-- A counter's box, and nothing below turned. -/
def CntI (w : World) (B : Nat) (f : List Pl6 → Nat) (pre : List Pl6) (W : World) : Prop := Boxed W B 3 (.int .i64 (f pre)) ∧ Below w.heap.size w W
theorem cntI_own (w : World) (B : Nat) (f : List Pl6 → Nat) (C : Nat) (h : w.heap.size ≤ C) : OwnFrom C (CntI w B f) :=
  OwnFrom.and (Own.from (boxed_own _ _ _) _) (ownFrom_below (Nat.le_refl _) h)

/-- How deep the deepest is. -/
def deepL (l : List Pl6) : Nat := (l.map fun x => x.dep).foldl max 0
theorem deepL_snoc (l : List Pl6) (x : Pl6) : deepL (l ++ [x]) = max (deepL l) x.dep := by
  unfold deepL; rw [List.map_append, List.foldl_append]; rfl
theorem deepL_le (l : List Pl6) (h : ∀ x ∈ l, x.dep ≤ 16) : deepL l ≤ 16 := by
  have hh : ∀ (l : List Pl6) (a : Nat), a ≤ 16 → (∀ x ∈ l, x.dep ≤ 16) → (l.map fun x => x.dep).foldl max a ≤ 16 := by
    intro l
    induction l with
    | nil => intro a ha _; exact ha
    | cons x l ih => intro a ha hx; exact ih _ (show max a x.dep ≤ 16 by have := hx x (List.mem_cons_self ..); omega) (fun y hy => hx y (List.mem_cons_of_mem _ hy))
  exact hh l 0 (by decide) h

end Go.Proofs.YtiehhlolhhjgpaaGreatDoor.Pl
