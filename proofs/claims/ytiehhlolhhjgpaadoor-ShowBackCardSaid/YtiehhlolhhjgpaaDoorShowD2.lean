/- What strings.IndexRune and ContainsRune answer of a text of ASCII bytes, whatever the rune. What octet.Num answers. What octet.ReadNum answers. What octet.Text and octet.ReadText answer. Rows of texts read: what comes, text by text, and what a reader of count of them answers; plain mathematics alone. The places of a text of terms, one behind the other: where each begins, how deep it is, where its head ends, how many parts it has; plain mathematics alone. What term's need, textSize and rowHead answer, and what they throw. What term.isName answers. What the document's own Num and digits answer: the same encoding. What the document's own ReadNum answers: the same as octet.ReadNum. What the document's Text and ReadText answer. What the document's head, read, Read, Check and May of layer 6 answer. What the document's read, Read, Check and May of layer 6 answer: read calls itself. What the document's Data, Atom, Num, Kind, Text, and what makes a term of parts, answer. What the document's made answers, of whatever parts; Row, Hash, Mac, Seal. What the document's Row, Hash, Mac, Seal, Text and ReadNum of layer 6 answer. What the document's ReadNum of layer 6 answers: the number in a datum. Rows of numbers as the cells of an array. What term.nameSize and term.placeAt answer, and what they throw. What term.visit hands to a loop's round, and how it ends: all came, stopped, or thrown. A loop over term.places: what the caller owes, whatever the text; the loop may end, be left, or be thrown out of. What the document's parts of a term answers: a row of texts that the call owns. What the document's Places, Parts, Size, depth, Depth, In and Has of layer 6 answer: Places and depth call themselves. What the document's plain, Plain, Width, datum of layer 7 answer. -/
import Derived.Test.YtiehhlolhhjgpaaDoorShowD1
import Derived.Test.YtiehhlolhhjgpaaDoorShelf
import Derived.Laws.RangeString
import Derived.Laws.RangeAny
import Derived.Laws.Runes
import Derived.Lib.OthersKept
import Derived.Lib.RuneBytes
import Derived.Deep.RegionHeld3
import Derived.BigQuiet
import Derived.Deep.QuietTactic
import Derived.WalkMore
import Derived.Test.YtiehhlolhhjgpaaDoorProg
import Derived.WalkKit
import Derived.Outline
import Derived.Handy
import Derived.Lib.Hide
import Derived.Laws.IdiomStrings
import Derived.WalkSpells
import Derived.Lib.Strings
import Derived.WalkLawsBesides
import Derived.Laws.Cover4
import Derived.Laws.OwnMore
import Derived.OwnWalk
import Derived.Deep.RegionWith
import Derived.Deep.WholeRow
import Derived.Laws.Tables
import Derived.Laws.Rows
import Derived.RangeFuncBox
import Derived.RangeFuncNested
import Derived.RangeFuncLeaves
import Derived.Shelf.Abstract
import Derived.OwnWalkIn
import Derived.TacticsInMore
import Derived.LoopNIn
import Derived.LoopIn
import Derived.RangeFuncIn
import Derived.RangeFuncRecord
import Derived.Maps.AppendAt
namespace Go.Proofs.YtiehhlolhhjgpaaDoor.Pl
open Go.RowKit

def Ascii (s : ByteArray) : Prop := ∀ b ∈ bl s, b.toNat < 128
theorem indexByte_no : ∀ (l : List UInt8) (c : UInt8), (∀ b ∈ l, b ≠ c) → Lib.indexByte l c = -1
  | [], _, _ => rfl
  | b :: l, c, h => by
    have h1 := indexByte_no l c (fun x hx => h x (List.mem_cons_of_mem _ hx))
    have h2 : (b == c) = false := beq_eq_false_iff_ne.2 (h b (List.mem_cons_self ..))
    rw [Lib.indexByte, h2, h1]; rfl
theorem indexByte_in : ∀ (l : List UInt8) (c : UInt8), decide (0 ≤ Lib.indexByte l c) = l.contains c
  | [], _ => rfl
  | b :: l, c => by
    have ih := indexByte_in l c
    have hge := Lib.indexByte_ge l c
    rw [Lib.indexByte, List.contains_cons]
    by_cases h : b = c
    · subst h; simp
    · have h2 : (b == c) = false := beq_eq_false_iff_ne.2 h
      have h3 : (c == b) = false := beq_eq_false_iff_ne.2 (fun e => h e.symm)
      rw [h2, h3, Bool.false_or, ← ih]
      simp only [Bool.false_eq_true, if_false]
      by_cases h4 : Lib.indexByte l c = -1
      · rw [h4]; rfl
      · have h5 : (Lib.indexByte l c == -1) = false := beq_eq_false_iff_ne.2 h4
        rw [h5, if_neg (by decide), decide_eq_true (by omega), decide_eq_true (by omega)]
theorem validrune_any (r : Int) (w : World) : Calls Tryd.prog 72 #[.int .i32 r] w fun e w' => e = .returned (.bool (decide ((0 ≤ r ∧ r < 55296) ∨ (57343 < r ∧ r ≤ 1114111)))) ∧ w' = w := by
  have h := Tryd.utf8_ValidRune r w
  exact h.mono fun e w' ⟨h1, h2⟩ => ⟨by rw [h1]; rfl, h2⟩
set_option maxHeartbeats 1000000 in
set_option maxRecDepth 1000000 in
theorem indexrune_big (s : ByteArray) (ha : Ascii s) (r : Int) (h1 : 128 ≤ r) (h2 : r ≠ 65533) (w : World) :
    Calls Tryd.prog 59 #[.string s, .int .i32 r] w fun e w' => e = .returned (.int .i64 (-1)) ∧ Below w.heap.size w w' := by
  have HV := Lib.hid (validrune_any r w)
  have q1 : decide (r < 128) = false := decide_eq_false (by omega)
  have q2 : (r == 65533) = false := beq_eq_false_iff_ne.2 h2
  by_cases hv : (0 ≤ r ∧ r < 55296) ∨ (57343 < r ∧ r ≤ 1114111)
  · rw [decide_eq_true hv] at HV
    obtain ⟨e1, e2, e3⟩ := encode_facts r (by rw [validRune_eq]; exact decide_eq_true hv) h1
    have hcv : ∀ V, (convert 21 9 (.int .i32 r)).run Tryd.prog V = .ok (.string (Utf8.encode r)) V := fun V => run_convert_int_string V _ _ _ _ (by kernel_rfl) Tryd.underlying9
    generalize Utf8.encode r = rs at *
    obtain ⟨n, hn⟩ : ∃ n, rs.size = n + 1 := ⟨rs.size - 1, by omega⟩
    have e3' := e3 (by omega)
    have hlast : rs.size - 1 = n := by omega
    have hnr : n < rs.size := by rw [hn]; exact Nat.lt_succ_self n
    obtain ⟨c, hc⟩ : ∃ c, c = rs[n]'hnr := ⟨_, rfl⟩
    have hc2 : 128 ≤ c.toNat := by rw [hc]; have := e3'; simp only [hlast] at this; exact this
    have hn1 : 1 ≤ n := by omega
    have hn3 : n ≤ 3 := by omega
    clear e1 e2 e3 e3' hlast hv
    go_enter Tryd.func59, Tryd.ntmps59
    go_wp2_with (go_at_call 72; refine HV.out.mono ?_; rintro e w1 ⟨rfl, rfl⟩)
    refine wp_scope_straight ?_
    go_wp2_with fail
    by_cases hlt : n < s.size
    · have hlt' : (n : Int) < (s.size : Int) := by omega
      obtain ⟨d, hd⟩ : ∃ d : UInt8, d = (bl s).getD n 0 := ⟨_, rfl⟩
      have hd2 : d.toNat < 128 := by
        rw [hd, List.getD_eq_getElem?_getD, List.getElem?_eq_getElem (by rw [bl_length]; exact hlt)]
        exact ha _ (List.getElem_mem _)
      have hix : ∀ V : World, (Instr.index 9 (.string s) (.int .i64 (n : Int))).run Tryd.prog V = .ok (.int .u8 (d.toNat : Int)) V := tstr_index s n d hlt hd
      have hjx : ∀ V : World, (Instr.index 9 (.string rs) (.int .i64 (n : Int))).run Tryd.prog V = .ok (.int .u8 (c.toNat : Int)) V := tstr_index rs n c hnr (by
        rw [hc, List.getD_eq_getElem?_getD, List.getElem?_eq_getElem (by rw [bl_length]; exact hnr)]; rfl)
      have hne : ((d.toNat : Int) != (c.toNat : Int)) = true := by rw [bne_iff_ne]; omega
      have hsl : ∀ V : World, (Instr.sliceAt 9 (.string s) (some (.int .i64 ((n : Int) + 1))) none none).run Tryd.prog V = .ok (.string (s.extract (n + 1) s.size)) V := tslice_from s (n + 1) (by omega)
      have hwr : IntKind.i64.wrap ((n : Int) + 1) = (n : Int) + 1 := wrap_small _ (by omega) (by omega)
      have HB : Hid (∀ V : World, Calls Tryd.prog 71 #[.string (s.extract (n + 1) s.size), .int .u8 (c.toNat : Int)] V fun e w' => e = .returned (.int .i64 (-1)) ∧ w' = V) := Lib.hid (fun V => (Tryd.strings_IndexByte (s.extract (n + 1) s.size) (c.toNat : Int) V).mono fun e w' ⟨h1, h2⟩ => ⟨by
        rw [h1, indexByte_no]
        intro b hb e
        have hb' : b ∈ bl s := by
          have h3 : b ∈ bl (s.extract (n + 1) s.size) := hb
          rw [bl_from] at h3
          exact List.mem_of_mem_drop h3
        have h4 := ha b hb'
        rw [e] at h4
        have h5 : ((c.toNat : Int).toNat.toUInt8) = c := by simp
        rw [h5] at h4
        omega, h2⟩)
      generalize s.extract (n + 1) s.size = s1 at *
      have HH := Lib.hid (And.intro hd hc)
      clear hd hc ha
      refine wp_loop_rounds 1 ?_
      rw [rounds_succ]
      go_wp2_with fail
      refine wp_scope_straight ?_
      go_wp2_with fail
      go_quiet (fail)
      have B2 := Lib.hid (below_drewN (Below.refl w1.heap.size w1) nq)
      generalize w1.drewN nq = W2 at *
      go_wp2_with fail
      go_quiet (first | (go_at_call 71; with_reducible refine Calls.quiet_of_same (HB.out _)) | fail)
      go_wp2_with fail
      simp only [Exit.inBlock, Exit.then, Exit.noGoto]
      go_ret
      exact ⟨rfl, below_drewN B2.out _⟩
    · have hlt' : ¬ (n : Int) < (s.size : Int) := by omega
      refine wp_loop_rounds 1 ?_
      rw [rounds_succ]
      go_wp2_with fail
      go_ret
      exact ⟨rfl, Below.refl _ _⟩
  · rw [decide_eq_false hv] at HV
    go_enter Tryd.func59, Tryd.ntmps59
    go_wp2_with (go_at_call 72; refine HV.out.mono ?_; rintro e w1 ⟨rfl, rfl⟩)
    go_ret
    exact ⟨rfl, Below.refl _ _⟩
set_option maxHeartbeats 1000000 in
set_option maxRecDepth 1000000 in
theorem indexrune_err (s : ByteArray) (ha : Ascii s) (w : World) :
    Calls Tryd.prog 59 #[.string s, .int .i32 65533] w fun e w' => e = .returned (.int .i64 (-1)) ∧ Below w.heap.size w w' := by
  have HA := Lib.hid ha
  clear ha
  go_enter Tryd.func59, Tryd.ntmps59
  go_wp2_with fail
  go_loopw [] (fun wr => ∃ pos : Nat, Hid (wr.heap[w.heap.size]? = some (.stringIter s pos)) ∧ Hid (Below w.heap.size w wr)) (fun wr => s.size - wr.iterPos w.heap.size)
  case atStart => exact ⟨0, Lib.hid (World.iter_heap w s 0), Lib.hid ((Below.refl _ w).alloc (Nat.le_refl _) _)⟩
  case round =>
    obtain ⟨pos, hit, hb⟩ := hrel
    by_cases hp : pos < s.size
    · have hd2 : ((bl s).getD pos 0).toNat < 128 := by
        rw [List.getD_eq_getElem?_getD, List.getElem?_eq_getElem (by rw [bl_length]; exact hp)]
        exact HA.out _ (List.getElem_mem _)
      have hdx : (bl s).getD pos 0 = s[pos]'hp := by
        rw [List.getD_eq_getElem?_getD, List.getElem?_eq_getElem (by rw [bl_length]; exact hp)]; rfl
      have hdec : Utf8.decode s pos = (((bl s).getD pos 0).toNat, 1) := by
        rw [hdx] at hd2 ⊢; exact decode_ascii s pos hp hd2
      clear hdx
      have hit2 := Lib.hid (Lib.iterAt_heap wr w.heap.size s pos (pos + (Utf8.decode s pos).2) hit.out)
      have hb2 := Lib.hid (Lib.below_iterAt hb.out (k := w.heap.size) (Nat.le_refl _) s (pos + (Utf8.decode s pos).2))
      have hnx : ∀ ty, (Instr.next (.pointer (some ⟨w.heap.size, 0, none⟩)) true ty).run Tryd.prog wr = _ := fun ty => Lib.run_next_any_at wr w.heap.size s pos ty hit.out hp
      generalize wr.iterAt w.heap.size s (pos + (Utf8.decode s pos).2) = W1 at *
      rw [hdec] at hnx hit2
      generalize ((bl s).getD pos 0).toNat = x at *
      have hq : ((x : Int) == 65533) = false := by rw [beq_eq_false_iff_ne]; omega
      clear hdec
      go_wp2_with fail
      go_roundw
      case rel => exact ⟨pos + 1, hit2, hb2⟩
      case measure => simp only [World.iterPos, hit2.out, hit.out]; omega
    · have hnx : ∀ ty, (Instr.next (.pointer (some ⟨w.heap.size, 0, none⟩)) true ty).run Tryd.prog wr = _ := fun ty => Lib.run_next_end_at wr w.heap.size s pos ty hit.out hp
      clear hp
      go_wp2_with fail
      go_ret
      exact ⟨rfl, hb.out⟩
theorem containsrune7_any (s : ByteArray) (ha : Ascii s) (r : Int) (h0 : 0 ≤ r) (w : World) :
    Calls Tryd.prog 41 #[.string s, .int .i32 r] w fun e w' => e = .returned (.bool (decide (r < 128) && (bl s).contains r.toNat.toUInt8)) ∧ Below w.heap.size w w' := by
  by_cases h : r < 128
  · refine (Tryd.strings_ContainsRune_ascii s r w h0 h).mono ?_
    rintro e w' ⟨rfl, rfl⟩
    refine ⟨?_, Below.refl _ _⟩
    rw [indexByte_in, decide_eq_true h, Bool.true_and]; rfl
  · rw [decide_eq_false h, Bool.false_and]
    have HC : Hid (Calls Tryd.prog 59 #[.string s, .int .i32 r] w fun e w' => e = .returned (.int .i64 (-1)) ∧ Below w.heap.size w w') := Lib.hid (by
      by_cases h2 : r = 65533
      · subst h2; exact indexrune_err s ha w
      · exact indexrune_big s ha r (by omega) h2 w)
    clear h ha
    go_enter Tryd.func41, Tryd.ntmps41
    go_wp2_with (go_at_call 59; refine HC.out.mono ?_; rintro e w1 ⟨rfl, b1⟩)
    go_ret
    exact ⟨rfl, b1⟩
end Go.Proofs.YtiehhlolhhjgpaaDoor.Pl

namespace Go.Proofs.YtiehhlolhhjgpaaDoor.Pl
open Go.RowKit

theorem conv_tail (w : World) (b off len cap : Nat) (l : List UInt8) (hl : l.length = len) (hc : ∀ j (hj : j < l.length), w.cell? ⟨b, off + j, none⟩ = some (.int .u8 (l[j].toNat : Int))) :
    (convert 84 9 (.slice (some ⟨b, off, none⟩) len cap)).run Tryd.prog w = .ok (.string ⟨l.toArray⟩) w := by
  subst hl
  exact run_convert_bytes_back w _ _ _ ⟨b, off, none⟩ cap l Tryd.underlying84 Tryd.underlying5 Tryd.underlying9 (fun j hj => by
    rw [show (⟨b, off, none⟩ : Addr).add j = ⟨b, off + j, none⟩ from by unfold Addr.add; split <;> simp_all]
    exact hc j hj)

theorem conv_lit (w : World) (C : Array Value) (t off len cap : Nat) (ns : List Nat) (h : ∀ n, n ∈ ns → n < 256) (hl : ns.length = len)
    (hC : C.toList.drop off = ns.map fun (n : Nat) => Value.int .u8 (n : Int)) :
    (convert 84 9 (.slice (some ⟨w.heap.size, off, none⟩) len cap)).run Tryd.prog (w.alloc (.cells C t)) = .ok (.string ⟨(ns.map UInt8.ofNat).toArray⟩) (w.alloc (.cells C t)) := by
  refine conv_tail _ _ _ _ _ (ns.map UInt8.ofNat) (by simpa using hl) ?_
  intro j hj
  rw [World.cell?_alloc_mark]
  have hj' : j < ns.length := by simpa using hj
  have h1 : (C.toList.drop off)[j]? = some (.int .u8 (ns[j] : Int)) := by rw [hC]; simp [hj']
  rw [List.getElem?_drop, Array.getElem?_toList] at h1
  rw [h1]
  have h2 := h ns[j] (List.getElem_mem hj')
  have h3 : ((ns.map UInt8.ofNat)[j]).toNat = ns[j] := by simp; omega
  rw [h3]

set_option maxRecDepth 100000 in
theorem num_any (v : Nat) (h8 : v < 256 ^ 8) (w : World) :
    Calls Tryd.prog 36 #[.int .u64 v] w fun e w' => e = .returned (.string ⟨(enc v).toArray⟩) ∧ Below w.heap.size w w' := by
  have h9 : v < 18446744073709551616 := by rw [two64] at h8; exact h8
  clear h8
  by_cases hv : v < 248
  · go_enter Tryd.func36, Tryd.ntmps36
    go_wp2
    rw [conv_lit w _ 83 8 1 1 [v] (by intro n hn; simp at hn; omega) rfl (by simp)]
    go_wp2
    go_ret
    refine ⟨?_, (Below.refl _ _).alloc (Nat.le_refl _) _⟩
    rw [enc_small hv]; rfl
  · go_enter Tryd.func36, Tryd.ntmps36
    go_wp2
    go_rounds 9
    · rw [conv_lit w _ 83 0 9 9 ((247 + 8) :: dn 8 v) (by intro n hn; simp [dn] at hn; omega) rfl (by simp [dn]; try omega)]
      go_wp2; go_ret
      refine ⟨?_, (Below.refl _ _).alloc (Nat.le_refl _) _⟩
      rw [enc_dn (k := 8) (by omega) hv (by simp; omega) (by simp; omega)]; rfl
    · rw [conv_lit w _ 83 1 8 8 ((247 + 7) :: dn 7 v) (by intro n hn; simp [dn] at hn; omega) rfl (by simp [dn]; try omega)]
      go_wp2; go_ret
      refine ⟨?_, (Below.refl _ _).alloc (Nat.le_refl _) _⟩
      rw [enc_dn (k := 7) (by omega) hv (by simp; omega) (by simp; omega)]; rfl
    · rw [conv_lit w _ 83 2 7 7 ((247 + 6) :: dn 6 v) (by intro n hn; simp [dn] at hn; omega) rfl (by simp [dn]; try omega)]
      go_wp2; go_ret
      refine ⟨?_, (Below.refl _ _).alloc (Nat.le_refl _) _⟩
      rw [enc_dn (k := 6) (by omega) hv (by simp; omega) (by simp; omega)]; rfl
    · rw [conv_lit w _ 83 3 6 6 ((247 + 5) :: dn 5 v) (by intro n hn; simp [dn] at hn; omega) rfl (by simp [dn]; try omega)]
      go_wp2; go_ret
      refine ⟨?_, (Below.refl _ _).alloc (Nat.le_refl _) _⟩
      rw [enc_dn (k := 5) (by omega) hv (by simp; omega) (by simp; omega)]; rfl
    · rw [conv_lit w _ 83 4 5 5 ((247 + 4) :: dn 4 v) (by intro n hn; simp [dn] at hn; omega) rfl (by simp [dn]; try omega)]
      go_wp2; go_ret
      refine ⟨?_, (Below.refl _ _).alloc (Nat.le_refl _) _⟩
      rw [enc_dn (k := 4) (by omega) hv (by simp; omega) (by simp; omega)]; rfl
    · rw [conv_lit w _ 83 5 4 4 ((247 + 3) :: dn 3 v) (by intro n hn; simp [dn] at hn; omega) rfl (by simp [dn]; try omega)]
      go_wp2; go_ret
      refine ⟨?_, (Below.refl _ _).alloc (Nat.le_refl _) _⟩
      rw [enc_dn (k := 3) (by omega) hv (by simp; omega) (by simp; omega)]; rfl
    · rw [conv_lit w _ 83 6 3 3 ((247 + 2) :: dn 2 v) (by intro n hn; simp [dn] at hn; omega) rfl (by simp [dn]; try omega)]
      go_wp2; go_ret
      refine ⟨?_, (Below.refl _ _).alloc (Nat.le_refl _) _⟩
      rw [enc_dn (k := 2) (by omega) hv (by simp; omega) (by simp; omega)]; rfl
    · rw [conv_lit w _ 83 7 2 2 ((247 + 1) :: dn 1 v) (by intro n hn; simp [dn] at hn; omega) rfl (by simp [dn]; try omega)]
      go_wp2; go_ret
      refine ⟨?_, (Below.refl _ _).alloc (Nat.le_refl _) _⟩
      rw [enc_dn (k := 1) (by omega) hv (by simp; omega) (by simp; omega)]; rfl
end Go.Proofs.YtiehhlolhhjgpaaDoor.Pl

namespace Go.Proofs.YtiehhlolhhjgpaaDoor.Pl
open Go.RowKit

theorem isEmpty_no {s : ByteArray} (h0 : 0 < s.size) : s.toList.isEmpty = false := by
  rw [ByteArray.toList_eq]
  have : s.data.toList.length = s.size := by simp
  cases hd : s.data.toList with
  | nil => rw [hd] at this; simp at this; omega
  | cons a r => rfl

set_option maxRecDepth 100000 in
theorem readnum_nil (w : World) :
    Calls Tryd.prog 55 #[.string ⟨#[]⟩] w fun e w' => e = .returned (.tuple #[.int .u64 0, .int .i64 0, .int .i64 6]) ∧ w = w' := by
  go_enter Tryd.func55, Tryd.ntmps55
  go_wp2
  go_ret3
  exact ⟨rfl, rfl⟩
set_option maxRecDepth 100000 in
theorem readnum_small (s : ByteArray) (h0 : 0 < s.size) (hb : s[0].toNat < 248) (w : World) :
    Calls Tryd.prog 55 #[.string s] w fun e w' => e = .returned (.tuple #[.int .u64 s[0].toNat, .int .i64 1, .int .i64 0]) ∧ w = w' := by
  have hne : s.toList.isEmpty = false := isEmpty_no h0
  go_enter Tryd.func55, Tryd.ntmps55
  go_wp2
  go_ret3
  exact ⟨rfl, rfl⟩
set_option maxRecDepth 100000 in
theorem readnum_end (s : ByteArray) (h0 : 0 < s.size) (hb : 248 ≤ s[0].toNat) (hb2 : s[0].toNat < 256) (hk : s.size - 1 < s[0].toNat - 247) (w : World) :
    Calls Tryd.prog 55 #[.string s] w fun e w' => e = .returned (.tuple #[.int .u64 0, .int .i64 0, .int .i64 6]) ∧ w = w' := by
  have hne : s.toList.isEmpty = false := isEmpty_no h0
  go_enter Tryd.func55, Tryd.ntmps55
  go_wp2
  go_ret3
  exact ⟨rfl, rfl⟩
set_option maxRecDepth 100000 in
theorem readnum_zero (s d : ByteArray) (hd : s.extract 1 s.size = d) (h0 : 0 < s.size) (hb : 248 ≤ s[0].toNat) (hb2 : s[0].toNat < 256) (hk : s[0].toNat - 247 ≤ d.size) (h1 : 0 < d.size) (hz : d[0].toNat = 0) (w : World) :
    Calls Tryd.prog 55 #[.string s] w fun e w' => e = .returned (.tuple #[.int .u64 0, .int .i64 0, .int .i64 7]) ∧ w = w' := by
  have hne : s.toList.isEmpty = false := isEmpty_no h0
  have hz' : ((d[0].toNat : Int) == 0) = true := by rw [hz]; rfl
  clear hz
  go_enter Tryd.func55, Tryd.ntmps55
  go_wp2
  go_ret3
  exact ⟨rfl, rfl⟩
set_option maxRecDepth 100000 in
theorem readnum_one (s d : ByteArray) (hd : s.extract 1 s.size = d) (h0 : 0 < s.size) (hb : s[0].toNat = 248) (h1 : 0 < d.size) (hz : d[0].toNat ≠ 0) (hz2 : d[0].toNat < 248) (w : World) :
    Calls Tryd.prog 55 #[.string s] w fun e w' => e = .returned (.tuple #[.int .u64 0, .int .i64 0, .int .i64 7]) ∧ w = w' := by
  have hne : s.toList.isEmpty = false := isEmpty_no h0
  have hz' : ((d[0].toNat : Int) == 0) = false := by rw [beq_eq_false_iff_ne]; omega
  clear hz
  go_enter Tryd.func55, Tryd.ntmps55
  go_wp2
  go_ret3
  exact ⟨rfl, rfl⟩
/-- A number of fewer than eight digits, and one digit more. -/
theorem or_digit (V : Nat) (b : UInt8) (hV : V < 256 ^ 7) : bits .or .u64 (IntKind.u64.wrap ((V : Int) * 256)) (IntKind.u64.wrap (b.toNat : Int)) = ((V * 256 + b.toNat : Nat) : Int) := by
  have hb : b.toNat < 256 := b.toNat_lt
  have h7 : V < 72057594037927936 := hV
  have e1 : IntKind.u64.wrap ((V : Int) * 256) = ((V * 256 : Nat) : Int) := by rw [IntWalk.u64_in _ (by omega)]; omega
  have e2 : IntKind.u64.wrap (b.toNat : Int) = (b.toNat : Int) := IntWalk.u64_in _ (by omega)
  rw [e1, e2, bits_or_u64_nat _ _ (by omega) (by omega)]
  have h := Nat.two_pow_add_eq_or_of_lt (i := 8) (b := b.toNat) (by omega) V
  have h2 : 2 ^ 8 * V = V * 256 := by omega
  rw [h2] at h
  rw [← h]
theorem val_take (l : List UInt8) (j : Nat) (h : j < l.length) : val (l.take (j + 1)) = val (l.take j) * 256 + l[j].toNat := by
  rw [List.take_succ_eq_append_getElem h, val_snoc]
theorem or_zero (b : UInt8) : bits .or .u64 0 (IntKind.u64.wrap (b.toNat : Int)) = (b.toNat : Int) := by
  have h := or_digit 0 b (by decide)
  have e : IntKind.u64.wrap (((0 : Nat) : Int) * 256) = 0 := by rw [IntWalk.u64_in _ (by omega)]; omega
  rw [e] at h
  rw [h]; simp
set_option maxRecDepth 100000 in
theorem readnum_ok1 (s d : ByteArray) (hd : s.extract 1 s.size = d) (h0 : 0 < s.size) (hb : s[0].toNat = 248) (h1 : 0 < d.size) (hz2 : 248 ≤ d[0].toNat) (w : World) :
    Calls Tryd.prog 55 #[.string s] w fun e w' => e = .returned (.tuple #[.int .u64 d[0].toNat, .int .i64 2, .int .i64 0]) ∧ w = w' := by
  have hne : s.toList.isEmpty = false := isEmpty_no h0
  have hz' : ((d[0].toNat : Int) == 0) = false := by rw [beq_eq_false_iff_ne]; omega
  go_enter Tryd.func55, Tryd.ntmps55
  go_wp2
  go_rounds 2
  go_ret3
  exact ⟨ret3 (or_zero _), rfl⟩
set_option maxRecDepth 100000 in
theorem readnum_okk (s d : ByteArray) (k : Nat) (hd : s.extract 1 s.size = d) (h0 : 0 < s.size) (hb : s[0].toNat = 247 + k) (hk2 : 2 ≤ k) (hk8 : k ≤ 8) (h1 : k ≤ d.size) (h1' : 0 < d.size) (hz : d[0].toNat ≠ 0) (w : World) :
    Calls Tryd.prog 55 #[.string s] w fun e w' => e = .returned (.tuple #[.int .u64 (val (d.data.toList.take k)), .int .i64 (1 + k), .int .i64 0]) ∧ w = w' := by
  have hne : s.toList.isEmpty = false := isEmpty_no h0
  have hz' : ((d[0].toNat : Int) == 0) = false := by rw [beq_eq_false_iff_ne]; omega
  have hk1 : ((k : Int) == 1) = false := by rw [beq_eq_false_iff_ne]; omega
  have hk7 : (247 + (k : Int) - 247) = k := by omega
  have hd1 : decide (d.size < k) = false := by simp; omega
  have hd2 : decide (247 + (k : Int) < 248) = false := by simp; omega
  clear hz
  go_enter Tryd.func55, Tryd.ntmps55
  go_wp2
  go_loop [2, 39] (fun v i => ∃ j : Nat, j ≤ k ∧ i = .int .i64 j ∧ v = .int .u64 (val (d.data.toList.take j))) (fun _ i => k - (intOf i).toNat)
  case atStart => exact ⟨0, Nat.zero_le _, rfl, rfl⟩
  case round =>
    obtain ⟨j, hj, rfl, rfl⟩ := hrel
    have HS : Hid (∀ h : j < d.size, val (d.data.toList.take (j + 1)) = val (d.data.toList.take j) * 256 + d[j].toNat) := fun h => val_take d.data.toList j (by simpa using h)
    have HV : Hid (j < k → val (d.data.toList.take j) < 256 ^ 7) := fun h => by
      have h2 := val_lt (d.data.toList.take j)
      exact Nat.lt_of_lt_of_le h2 (Nat.pow_le_pow_right (by decide) (by simp; omega))
    clear hz' hk1 hk7 hne hd1 hd2
    go_wp2
    · have hlt : j < k := by assumption
      go_round
      case rel => exact ⟨j + 1, by omega, by go_num, by rw [HS.out (by omega), ← or_digit _ _ (HV.out hlt)]⟩
      case measure => simp [intOf]; omega
    · obtain rfl : j = k := by omega
      go_ret3
      exact ⟨rfl, rfl⟩
/-- ReadNum, whatever it is given. -/
theorem readnum_any (s : ByteArray) (hs : s.size ≤ 9223372036854775807) (w : World) :
    Calls Tryd.prog 55 #[.string s] w fun e w' => e = .returned (.tuple #[.int .u64 (rdn s.data.toList).1, .int .i64 (rdn s.data.toList).2.1, .int .i64 (rdn s.data.toList).2.2]) ∧ w = w' := by
  by_cases h0 : 0 < s.size
  · have hd : ∃ d, s.extract 1 s.size = d := ⟨_, rfl⟩
    obtain ⟨d, hd⟩ := hd
    have hdd : d.data.toList = s.data.toList.drop 1 := by
      rw [← hd]
      have := Lib.extract_data s 1 s.size
      rw [this]
      exact List.take_of_length_le (by simp)
    have hds : d.size = s.size - 1 := by
      have : d.data.toList.length = s.size - 1 := by rw [hdd]; simp
      simpa using this
    have hlist : s.data.toList = s[0] :: d.data.toList := by
      rw [hdd]
      have h1 : s.data.toList.length = s.size := by simp
      cases hl : s.data.toList with
      | nil => rw [hl] at h1; simp at h1; omega
      | cons a r =>
        have : s[0] = a := by
          have h2 : s.data.toList[0]'(by omega) = a := by simp [hl]
          exact h2
        simp [this]
    have hhd : ∀ h : 0 < d.size, d.data.toList.headD 0 = d[0] := by
      intro h
      have h1 : d.data.toList.length = d.size := by simp
      cases hl : d.data.toList with
      | nil => rw [hl] at h1; simp at h1; omega
      | cons a r =>
        have h2 : d.data.toList[0]'(by omega) = a := by simp [hl]
        exact h2.symm
    have hb2 : s[0].toNat < 256 := s[0].toNat_lt
    have hdl : d.data.toList.length = d.size := by simp
    rw [hlist]
    by_cases hb : s[0].toNat < 248
    · rw [rdn_small _ _ hb]
      exact readnum_small s h0 hb w
    · by_cases hk : d.size < s[0].toNat - 247
      · rw [rdn_end _ _ hb (by omega)]
        exact readnum_end s h0 (by omega) hb2 (by omega) w
      · have h1 : 0 < d.size := by omega
        have hh := hhd h1
        by_cases hz : d[0].toNat = 0
        · rw [rdn_form _ _ hb (by omega) (.inl (by rw [hh]; exact UInt8.toNat.inj (by simpa using hz)))]
          exact readnum_zero s d hd h0 (by omega) hb2 (by omega) h1 hz w
        · have hz' : ¬ d.data.toList.headD 0 = 0 := fun e => hz (by rw [← hh, e]; rfl)
          by_cases hone : s[0].toNat = 248
          · by_cases hz2 : d[0].toNat < 248
            · rw [rdn_form _ _ hb (by omega) (.inr ⟨hone, by rw [hh]; exact hz2⟩)]
              exact readnum_one s d hd h0 hone h1 hz hz2 w
            · rw [rdn_ok _ _ hb (by omega) (by
                intro h
                rcases h with h | ⟨_, h⟩
                · exact hz' h
                · rw [hh] at h; exact hz2 h), hone]
              have e1 : val (d.data.toList.take (248 - 247)) = d[0].toNat := by
                rw [← hh]
                cases hl : d.data.toList with
                | nil => rw [hl] at hdl; simp at hdl; omega
                | cons a r => simp [val]
              rw [e1]
              exact readnum_ok1 s d hd h0 hone h1 (by omega) w
          · have ⟨k, hk2⟩ : ∃ k, s[0].toNat = 247 + k := ⟨s[0].toNat - 247, by omega⟩
            rw [rdn_ok _ _ hb (by omega) (by
                intro h
                rcases h with h | ⟨h, _⟩
                · exact hz' h
                · exact hone h), hk2, Nat.add_sub_cancel_left]
            exact readnum_okk s d k hd h0 hk2 (by omega) (by omega) (by omega) h1 hz w
  · have : s = ⟨#[]⟩ := by
      cases s with
      | mk a =>
        have h2 : a.size = 0 := by simpa [ByteArray.size] using h0
        rw [Array.eq_empty_of_size_eq_zero h2]
    subst this
    exact readnum_nil w
end Go.Proofs.YtiehhlolhhjgpaaDoor.Pl

namespace Go.Proofs.YtiehhlolhhjgpaaDoor.Pl
open Go.RowKit

theorem clone_any (s : ByteArray) (w : World) (hs : s.size ≤ 281474976710656) :
    Calls Tryd.prog 56 #[.string s] w fun e w' => e = .returned (.string s) ∧ Below w.heap.size w w' := by
  go_enter Tryd.func56, Tryd.ntmps56
  go_wp2_with (go_at_call 70; refine (Tryd.stringslite_Clone _ _ hs).mono ?_; rintro e w' ⟨rfl, hb⟩)
  go_ret
  exact ⟨rfl, hb⟩

set_option maxRecDepth 100000 in
theorem text_any (s : ByteArray) (w : World) (hs : s.size ≤ 281474976710656) :
    Calls Tryd.prog 29 #[.string s] w fun e w' => e = .returned (.string (⟨(enc s.size).toArray⟩ ++ s)) ∧ Below w.heap.size w w' := by
  have h8 : s.size < 256 ^ 8 := by rw [two64]; omega
  have hl := (enc_len s.size).2
  have H8 := Lib.hid h8
  clear h8
  go_enter Tryd.func29, Tryd.ntmps29
  go_wp2_with (go_at_call 36; refine (num_any _ H8.out _).mono ?_; rintro e w' ⟨rfl, hb⟩)
  go_ret
  exact ⟨rfl, hb⟩
theorem text_list (s : ByteArray) : (⟨(enc s.size).toArray⟩ ++ s : ByteArray) = ⟨(txt s.data.toList).toArray⟩ := by
  apply ByteArray.ext
  simp [txt]

set_option maxRecDepth 100000 in
theorem readtext_any (s : ByteArray) (m : Int) (w : World) (hs : s.size ≤ 281474976710656) (m1 : -9223372036854775808 ≤ m) (m2 : m ≤ 9223372036854775807) :
    Calls Tryd.prog 34 #[.string s, .int .i64 m] w fun e w' =>
      e = .returned (.tuple #[.string ⟨(rdt s.data.toList m).1.toArray⟩, .int .i64 (rdt s.data.toList m).2.1, .int .i64 (rdt s.data.toList m).2.2]) ∧ Below w.heap.size w w' := by
  have ⟨v, n, e, hr⟩ : ∃ v n e, rdn s.data.toList = (v, n, e) := ⟨_, _, _, rfl⟩
  have hc : ∀ W, Calls Tryd.prog 55 #[.string s] W fun e' w' => e' = .returned (.tuple #[.int .u64 v, .int .i64 n, .int .i64 e]) ∧ W = w' := by
    intro W
    have h := readnum_any s (by omega) W
    rw [hr] at h
    exact h
  have hlen : s.data.toList.length = s.size := by simp
  have HC := Lib.hid hc
  clear hc
  by_cases he : e = 0
  · subst he
    obtain ⟨n1, n2, hn, hv⟩ := rdn_sound hr
    clear hn
    have hv' : v < 18446744073709551616 := by rw [two64] at hv; exact hv
    clear hv
    by_cases h1 : max m 0 < (v : Int)
    · have HR := Lib.hid (rdt_long hr h1)
      clear hr hlen
      go_enter Tryd.func34, Tryd.ntmps34
      go_wp2_with (go_at_call 55; refine (HC.out _).mono ?_; rintro e w' ⟨rfl, rfl⟩)
      go_ret3
      exact ⟨by rw [HR.out]; rfl, Below.refl _ _⟩
    · have hns : n ≤ s.size := by omega
      by_cases h2 : s.size - n < v
      · have HR := Lib.hid (rdt_end (m := m) hr h1 (by rw [hlen]; exact h2))
        clear hr hlen
        go_enter Tryd.func34, Tryd.ntmps34
        go_wp2_with (go_at_call 55; refine (HC.out _).mono ?_; rintro e w' ⟨rfl, rfl⟩)
        go_quiet (fail)
        go_wp2
        go_ret3
        exact ⟨by rw [HR.out]; rfl, below_drewN (Below.refl _ _) _⟩
      · have HR := Lib.hid (rdt_ok (m := m) hr h1 (by rw [hlen]; exact h2))
        have HE : Hid ((s.extract n s.size).extract 0 v = ⟨((s.data.toList.drop n).take v).toArray⟩) := by
          apply ByteArray.ext
          apply Array.toList_inj.1
          rw [Lib.extract_data, Lib.extract_data]
          simp only [List.drop_zero, Nat.sub_zero]
          congr 1
          exact List.take_of_length_le (by simp)
        clear hr hlen
        go_enter Tryd.func34, Tryd.ntmps34
        go_wp2_with (go_at_call 55; refine (HC.out _).mono ?_; rintro e w' ⟨rfl, rfl⟩)
        go_quiet (fail)
        go_wp2_with (go_at_call 56; refine (clone_any _ _ (by simp; omega)).mono ?_; rintro e w' ⟨rfl, hb⟩)
        go_ret3
        exact ⟨by rw [HR.out]; exact ret3s HE.out (by simp) rfl, (below_drewN (Below.refl _ _) _).trans hb⟩
  · have HR := Lib.hid (rdt_err (m := m) hr he)
    have he' : ((e : Int) != 0) = true := by rw [bne_iff_ne]; omega
    clear hr hlen
    go_enter Tryd.func34, Tryd.ntmps34
    go_wp2_with (go_at_call 55; refine (HC.out _).mono ?_; rintro e w' ⟨rfl, rfl⟩)
    go_ret3
    exact ⟨by rw [HR.out]; rfl, Below.refl _ _⟩
end Go.Proofs.YtiehhlolhhjgpaaDoor.Pl

namespace Go.Proofs.YtiehhlolhhjgpaaDoor.Pl

/-- What is read of l, one text behind the other, up to the first that can't be read. -/
def seqP (m : Int) : Nat → List UInt8 → List (List UInt8 × Nat × Nat)
  | 0, _ => []
  | f + 1, l => rdt l m :: (if (rdt l m).2.2 = 0 then seqP m f (l.drop (rdt l m).2.1) else [])
/-- What a reader of k texts answers, behind acc that have at bytes. -/
def rdrow (m : Int) : Nat → List UInt8 → List (List UInt8) → Nat → List (List UInt8) × Nat × Nat
  | 0, _, acc, at' => (acc, at', 0)
  | k + 1, l, acc, at' => if (rdt l m).2.2 = 0 then rdrow m k (l.drop (rdt l m).2.1) (acc ++ [(rdt l m).1]) (at' + (rdt l m).2.1) else ([], 0, (rdt l m).2.2)

def sumN (xs : List (List UInt8 × Nat × Nat)) : Nat := (xs.map (·.2.1)).sum

theorem rdrow_exit (m : Int) : ∀ (pre : List (List UInt8 × Nat × Nat)) (f : Nat) (l : List UInt8) (acc : List (List UInt8)) (at' : Nat), pre <+: seqP m f l → (∀ x ∈ pre, x.2.2 = 0) →
    rdrow m pre.length l acc at' = (acc ++ pre.map (·.1), at' + sumN pre, 0)
  | [], _, _, _, _, _, _ => by simp [rdrow, sumN]
  | x :: pre, 0, l, acc, at', h, _ => by simp [seqP] at h
  | x :: pre, f + 1, l, acc, at', h, he => by
    rw [seqP, List.cons_prefix_cons] at h
    obtain ⟨hx, h⟩ := h
    have h0 := he x (by simp)
    subst hx
    rw [if_pos h0] at h
    have ih := rdrow_exit m pre f _ (acc ++ [(rdt l m).1]) (at' + (rdt l m).2.1) h (fun y hy => he y (by simp [hy]))
    simp only [List.length_cons, rdrow, if_pos h0]
    rw [ih]
    simp [sumN]; omega

theorem rdrow_ret (m : Int) : ∀ (q : List (List UInt8 × Nat × Nat)) (x : List UInt8 × Nat × Nat) (f : Nat) (l : List UInt8) (acc : List (List UInt8)) (at' k : Nat), q ++ [x] <+: seqP m f l → (∀ y ∈ q, y.2.2 = 0) → x.2.2 ≠ 0 → q.length < k →
    rdrow m k l acc at' = ([], 0, x.2.2)
  | [], x, 0, l, acc, at', k, h, _, _, _ => by simp [seqP] at h
  | [], x, f + 1, l, acc, at', k, h, _, hx, hk => by
    rw [seqP, List.nil_append, List.cons_prefix_cons] at h
    obtain ⟨k, rfl⟩ : ∃ j, k = j + 1 := ⟨k - 1, by simp at hk; omega⟩
    rw [rdrow, ← h.1, if_neg hx]
  | y :: q, x, 0, l, acc, at', k, h, _, _, _ => by simp [seqP] at h
  | y :: q, x, f + 1, l, acc, at', k, h, he, hx, hk => by
    rw [seqP, List.cons_append, List.cons_prefix_cons] at h
    obtain ⟨hy, h⟩ := h
    have h0 := he y (by simp)
    subst hy
    rw [if_pos h0] at h
    obtain ⟨k, rfl⟩ : ∃ j, k = j + 1 := ⟨k - 1, by simp at hk; omega⟩
    rw [rdrow, if_pos h0]
    exact rdrow_ret m q x f _ _ _ k h (fun z hz => he z (by simp [hz])) hx (by simpa using hk)

theorem rdt_nil (m : Int) : rdt [] m = ([], 0, 6) := by simp [rdt, rdn]
theorem rdt_step {l : List UInt8} {m : Int} (h : (rdt l m).2.2 = 0) : 1 ≤ (rdt l m).2.1 ∧ (rdt l m).2.1 ≤ l.length := by
  have e : rdt l m = ((rdt l m).1, (rdt l m).2.1, 0) := by rw [← h]
  obtain ⟨h1, h2, _⟩ := rdt_sound e
  exact ⟨h1, h2⟩
theorem rdt_size (l : List UInt8) (m : Int) : (rdt l m).2.1 ≤ l.length := by
  by_cases h : (rdt l m).2.2 = 0
  · exact (rdt_step h).2
  · have ⟨v, n, e, hr⟩ : ∃ v n e, rdn l = (v, n, e) := ⟨_, _, _, rfl⟩
    by_cases he : e = 0
    · subst he
      by_cases h1 : max m 0 < (v : Int)
      · rw [rdt_long hr h1]; simp
      · by_cases h2 : l.length - n < v
        · rw [rdt_end hr h1 h2]; simp
        · rw [rdt_ok hr h1 h2] at h; simp at h
    · rw [rdt_err hr he]; simp
/-- It ends: by one that can't be read. -/
theorem seqP_ends (m : Int) : ∀ (f : Nat) (l : List UInt8), l.length < f → ¬ ∀ x ∈ seqP m f l, x.2.2 = 0
  | 0, l, h, _ => by omega
  | f + 1, l, h, he => by
    rw [seqP] at he
    have h0 := he (rdt l m) (by simp)
    rw [if_pos h0] at he
    have hs := rdt_step h0
    exact seqP_ends m f (l.drop (rdt l m).2.1) (by simp; omega) (fun x hx => he x (by simp [hx]))
end Go.Proofs.YtiehhlolhhjgpaaDoor.Pl

namespace Go.Proofs.YtiehhlolhhjgpaaDoor.Pl

structure Pl6 where
  at_ : Nat
  dep : Nat
  head : Nat
  parts : Nat

/-- Of so many terms, one behind the other. -/
def visL (vs : Nat → List Pl6 × Nat × Nat) : Nat → Nat → List Pl6 × Nat × Nat
  | 0, a => ([], a, 0)
  | k + 1, a => if (vs a).2.2 = 0 then ((vs a).1 ++ (visL vs k (vs a).2.1).1, (visL vs k (vs a).2.1).2) else ((vs a).1, 0, (vs a).2.2)
/-- Of the term at a place, that is no deeper than d below. -/
def visP (s : List UInt8) : Nat → Nat → List Pl6 × Nat × Nat
  | 0, _ => ([], 0, 60)
  | d + 1, a =>
    if (headP (s.drop a)).2.2 = 0 then
      (⟨a, 16 - d, a + (headP (s.drop a)).1, (headP (s.drop a)).2.1⟩ :: (visL (visP s d) (headP (s.drop a)).2.1 (a + (headP (s.drop a)).1)).1, (visL (visP s d) (headP (s.drop a)).2.1 (a + (headP (s.drop a)).1)).2)
    else ([], 0, (headP (s.drop a)).2.2)

/-- Where the places end, and what is wrong, is what reading tells. -/
theorem vis_read (s : List UInt8) : ∀ (d a : Nat), (visP s d a).2 = if (readP d (s.drop a)).2 = 0 then (a + (readP d (s.drop a)).1, 0) else (0, (readP d (s.drop a)).2) := by
  intro d
  induction d with
  | zero => intro a; simp [visP, readP]
  | succ d ih =>
    have loop : ∀ (k a : Nat), (visL (visP s d) k a).2 = if (loopP (readP d) k (s.drop a)).2 = 0 then (a + (loopP (readP d) k (s.drop a)).1, 0) else (0, (loopP (readP d) k (s.drop a)).2) := by
      intro k
      induction k with
      | zero => intro a; simp [visL, loopP]
      | succ k ihk =>
        intro a
        have h := ih a
        by_cases h0 : (readP d (s.drop a)).2 = 0
        · rw [if_pos h0] at h
          have h1 : (visP s d a).2.2 = 0 := by rw [h]
          have h2 : (visP s d a).2.1 = a + (readP d (s.drop a)).1 := by rw [h]
          rw [visL, if_pos h1, loopP, if_pos h0]
          simp only
          rw [ihk, h2, ← List.drop_drop]
          by_cases h3 : (loopP (readP d) k ((s.drop a).drop (readP d (s.drop a)).1)).2 = 0
          · rw [if_pos h3, if_pos h3]; simp [Nat.add_assoc]
          · rw [if_neg h3, if_neg h3]; exact (if_neg h3).symm
        · rw [if_neg h0] at h
          have h1 : (visP s d a).2.2 ≠ 0 := by rw [h]; exact h0
          rw [visL, if_neg h1, loopP, if_neg h0]
          simp only
          rw [if_neg h0, h]
    intro a
    by_cases h0 : (headP (s.drop a)).2.2 = 0
    · rw [visP, if_pos h0, readP, if_pos h0]
      simp only
      rw [loop, ← List.drop_drop]
      by_cases h3 : (loopP (readP d) (headP (s.drop a)).2.1 ((s.drop a).drop (headP (s.drop a)).1)).2 = 0
      · rw [if_pos h3, if_pos h3]; simp [Nat.add_assoc]
      · rw [if_neg h3, if_neg h3]; exact (if_neg h3).symm
    · rw [visP, if_neg h0, readP, if_neg h0]
      simp [h0]

theorem head_le {s : List UInt8} (h : (headP s).2.2 = 0) : (headP s).1 ≤ s.length := (head_front (s := s) (n := (headP s).1) (p := (headP s).2.1) (by rw [← h])).1
theorem head_le32 {s : List UInt8} (h : (headP s).2.2 = 0) : (headP s).2.1 ≤ 32 := by
  obtain ⟨c, hk⟩ := head_kind (head_front (s := s) (n := (headP s).1) (p := (headP s).2.1) (by rw [← h])).2
  cases hk <;> omega
theorem head_pos {s : List UInt8} (h : (headP s).2.2 = 0) : 1 ≤ (headP s).1 := by
  have h1 := (head_front (s := s) (n := (headP s).1) (p := (headP s).2.1) (by rw [← h])).2.pos
  cases hh : (headP s).1 with
  | zero => rw [hh] at h1; simp at h1
  | succ k => omega

/-- What every place is. -/
def okPl (s : List UInt8) (p : Pl6) : Prop := p.at_ ≤ s.length ∧ p.head ≤ s.length ∧ 1 ≤ p.dep ∧ p.dep ≤ 16 ∧ p.parts ≤ 32
theorem vis_ok (s : List UInt8) : ∀ (d a : Nat), d ≤ 16 → a ≤ s.length → (∀ p ∈ (visP s d a).1, okPl s p) ∧ ((visP s d a).2.2 = 0 → (visP s d a).2.1 ≤ s.length) := by
  intro d
  induction d with
  | zero => intro a _ _; simp [visP]
  | succ d ih =>
    intro a hd ha
    have loop : ∀ (k a : Nat), a ≤ s.length → (∀ p ∈ (visL (visP s d) k a).1, okPl s p) ∧ ((visL (visP s d) k a).2.2 = 0 → (visL (visP s d) k a).2.1 ≤ s.length) := by
      intro k
      induction k with
      | zero => intro a ha; simp [visL, ha]
      | succ k ihk =>
        intro a ha
        obtain ⟨i1, i2⟩ := ih a (by omega) ha
        rw [visL]
        split
        · rename_i h0
          obtain ⟨j1, j2⟩ := ihk (visP s d a).2.1 (i2 h0)
          refine ⟨?_, j2⟩
          intro p hp
          rcases List.mem_append.1 hp with hp | hp
          · exact i1 p hp
          · exact j1 p hp
        · rename_i h0
          exact ⟨i1, fun h => absurd h h0⟩
    rw [visP]
    split
    · rename_i h0
      have h1 := head_le h0
      have h2 := head_le32 h0
      rw [List.length_drop] at h1
      obtain ⟨j1, j2⟩ := loop (headP (s.drop a)).2.1 (a + (headP (s.drop a)).1) (by omega)
      refine ⟨?_, j2⟩
      intro p hp
      rcases List.mem_cons.1 hp with rfl | hp
      · exact ⟨ha, by show a + _ ≤ _; omega, by show 1 ≤ 16 - d; omega, by show 16 - d ≤ 16; omega, h2⟩
      · exact j1 p hp
    · rename_i h0
      exact ⟨by simp, fun h => absurd h h0⟩

/-- The last place's head is where all ends. -/
theorem vis_last (s : List UInt8) : ∀ (d a : Nat), (visP s d a).2.2 = 0 → ∃ q p, (visP s d a).1 = q ++ [p] ∧ p.head = (visP s d a).2.1 := by
  intro d
  induction d with
  | zero => intro a h; simp [visP] at h
  | succ d ih =>
    have loop : ∀ (k a : Nat), (visL (visP s d) (k + 1) a).2.2 = 0 → ∃ q p, (visL (visP s d) (k + 1) a).1 = q ++ [p] ∧ p.head = (visL (visP s d) (k + 1) a).2.1 := by
      intro k
      induction k with
      | zero =>
        intro a h
        rw [visL] at h ⊢
        split at h
        · rename_i h0
          rw [if_pos h0]
          obtain ⟨q, p, e1, e2⟩ := ih a h0
          exact ⟨q, p, by simp [visL, e1], by simp [visL, e2]⟩
        · rename_i h0
          exact absurd h h0
      | succ k ihk =>
        intro a h
        rw [visL] at h ⊢
        split at h
        · rename_i h0
          rw [if_pos h0]
          obtain ⟨q, p, e1, e2⟩ := ihk _ h
          exact ⟨(visP s d a).1 ++ q, p, by simp [e1], e2⟩
        · rename_i h0
          exact absurd h h0
    intro a h
    rw [visP] at h ⊢
    split at h
    · rename_i h0
      rw [if_pos h0]
      cases hk : (headP (s.drop a)).2.1 with
      | zero => exact ⟨[], ⟨a, 16 - d, a + (headP (s.drop a)).1, 0⟩, by simp [visL], by simp [visL]⟩
      | succ k =>
        rw [hk] at h
        obtain ⟨q, p, e1, e2⟩ := loop k _ h
        exact ⟨_ :: q, p, by simp [e1]; rfl, e2⟩
    · rename_i h0
      exact absurd h h0

/- The places of a tree, each with what stands there. -/
mutual
def offT : Nat → Nat → Tm → List (Pl6 × Tm)
  | a, D, .node h l => (⟨a, D, a + h.length, l.length⟩, .node h l) :: offs (a + h.length) (D + 1) l
def offs : Nat → Nat → List Tm → List (Pl6 × Tm)
  | _, _, [] => []
  | a, D, t :: l => offT a D t ++ offs (a + t.enc.length) D l
end
theorem offs_snd : ∀ t : Tm, ∀ a D, (offT a D t).map Prod.snd = t.places := by
  refine Tm.ind ?_
  intro h l ih a D
  have loop : ∀ m : List Tm, (∀ t ∈ m, t ∈ l) → ∀ a D, (offs a D m).map Prod.snd = placess m := by
    intro m
    induction m with
    | nil => intro _ a D; rfl
    | cons t m ihm =>
      intro hm a D
      rw [offs, List.map_append, ih t (hm t (List.mem_cons_self ..)), ihm (fun u hu => hm u (List.mem_cons_of_mem _ hu)), placess]
  rw [offT, List.map_cons, loop l (fun _ h => h), Tm.places]
/-- What reading a tree's bytes goes over. -/
theorem vis_tree (s : List UInt8) : ∀ t : Tm, t.good → ∀ d, t.deep ≤ d → d ≤ 16 → ∀ a rest, s.drop a = t.enc ++ rest → visP s d a = ((offT a (17 - d) t).map Prod.fst, a + t.enc.length, 0) := by
  refine Tm.ind ?_
  intro h l ih hg d hd hd16 a rest e
  simp only [Tm.good] at hg
  simp only [Tm.deep] at hd
  obtain ⟨d, rfl⟩ : ∃ k, d = k + 1 := ⟨d - 1, by omega⟩
  have loop : ∀ m : List Tm, (∀ t ∈ m, t ∈ l) → ∀ a rest, s.drop a = encs m ++ rest → visL (visP s d) m.length a = ((offs a (17 - d) m).map Prod.fst, a + (encs m).length, 0) := by
    intro m
    induction m with
    | nil => intro _ a rest _; simp [visL, offs, encs]
    | cons t m ihm =>
      intro hm a rest e
      have ht := hm t (List.mem_cons_self ..)
      rw [encs, List.append_assoc] at e
      have h1 := ih t ht (goods_mem hg.2 t ht) d (by have := deeps_mem ht; omega) (by omega) a _ e
      have e2 : s.drop (a + t.enc.length) = encs m ++ rest := by rw [← List.drop_drop, e, List.drop_left]
      have h2 := ihm (fun u hu => hm u (List.mem_cons_of_mem _ hu)) _ _ e2
      rw [List.length_cons, visL, h1, if_pos rfl]
      simp only
      rw [h2, offs, encs, List.map_append]
      simp [Nat.add_assoc]
  rw [Tm.enc_node, List.append_assoc] at e
  have e1 := hg.1 (encs l ++ rest)
  have e2 : s.drop (a + h.length) = encs l ++ rest := by rw [← List.drop_drop, e, List.drop_left]
  rw [visP, e, e1, if_pos rfl]
  simp only
  rw [loop l (fun _ h => h) _ _ e2, offT, Tm.enc_node]
  have hD : 17 - (d + 1) = 16 - d := by omega
  have hD2 : 17 - (d + 1) + 1 = 17 - d := by omega
  rw [hD2, hD, List.map_cons]
  simp [Nat.add_assoc]
/-- What stands at a place. -/
theorem offs_at (s : List UInt8) : ∀ t : Tm, ∀ a D rest, s.drop a = t.enc ++ rest → ∀ x ∈ offT a D t, ∃ r, s.drop x.1.at_ = x.2.enc ++ r := by
  refine Tm.ind ?_
  intro h l ih a D rest e
  have loop : ∀ m : List Tm, (∀ t ∈ m, t ∈ l) → ∀ a D rest, s.drop a = encs m ++ rest → ∀ x ∈ offs a D m, ∃ r, s.drop x.1.at_ = x.2.enc ++ r := by
    intro m
    induction m with
    | nil => intro _ a D rest _ x hx; simp [offs] at hx
    | cons t m ihm =>
      intro hm a D rest e x hx
      rw [encs, List.append_assoc] at e
      rw [offs] at hx
      rcases List.mem_append.1 hx with hx | hx
      · exact ih t (hm t (List.mem_cons_self ..)) a D _ e x hx
      · exact ihm (fun u hu => hm u (List.mem_cons_of_mem _ hu)) (a + t.enc.length) D rest (by rw [← List.drop_drop, e, List.drop_left]) x hx
  intro x hx
  rw [offT] at hx
  rcases List.mem_cons.1 hx with rfl | hx
  · exact ⟨rest, e⟩
  · rw [Tm.enc_node, List.append_assoc] at e
    exact loop l (fun _ h => h) _ _ rest (by rw [← List.drop_drop, e, List.drop_left]) x hx
theorem offs_dep : ∀ t : Tm, ∀ a D, ∀ x ∈ offT a D t, D ≤ x.1.dep := by
  refine Tm.ind ?_
  intro h l ih a D
  have loop : ∀ m : List Tm, (∀ t ∈ m, t ∈ l) → ∀ a D, ∀ x ∈ offs a D m, D ≤ x.1.dep := by
    intro m
    induction m with
    | nil => intro _ a D x hx; simp [offs] at hx
    | cons t m ihm =>
      intro hm a D x hx
      rw [offs] at hx
      rcases List.mem_append.1 hx with hx | hx
      · exact ih t (hm t (List.mem_cons_self ..)) a D x hx
      · exact ihm (fun u hu => hm u (List.mem_cons_of_mem _ hu)) _ D x hx
  intro x hx
  rw [offT] at hx
  rcases List.mem_cons.1 hx with rfl | hx
  · exact Nat.le_refl _
  · have := loop l (fun _ h => h) _ _ x hx; omega
/-- The parts are what stands one deeper. -/
theorem offs_parts (h : List UInt8) (l : List Tm) (a D : Nat) : ((offT a D (.node h l)).filter fun x => x.1.dep == D + 1).map Prod.snd = l := by
  have loop : ∀ m : List Tm, ∀ a, ((offs a (D + 1) m).filter fun x => x.1.dep == D + 1).map Prod.snd = m := by
    intro m
    induction m with
    | nil => intro a; rfl
    | cons t m ihm =>
      intro a
      obtain ⟨h', l'⟩ := t
      rw [offs, List.filter_append, List.map_append, ihm]
      rw [offT, List.filter_cons, if_pos (by simp)]
      have hz : (offs (a + h'.length) (D + 1 + 1) l').filter (fun x => x.1.dep == D + 1) = [] := by
        rw [List.filter_eq_nil_iff]
        intro x hx
        have h1 : D + 1 + 1 ≤ x.1.dep := by
          have h2 := offs_dep (.node h' l') a (D + 1) x (by rw [offT]; exact List.mem_cons_of_mem _ hx)
          have : ∀ m : List Tm, ∀ a E, ∀ x ∈ offs a E m, E ≤ x.1.dep := by
            intro m
            induction m with
            | nil => intro a E x hx; simp [offs] at hx
            | cons t m ihm =>
              intro a E x hx
              rw [offs] at hx
              rcases List.mem_append.1 hx with hx | hx
              · exact offs_dep t a E x hx
              · exact ihm _ E x hx
          exact this l' _ _ x hx
        simp <;> omega
      rw [hz]; simp
  rw [offT, List.filter_cons, if_neg (by simp), loop]
theorem max_app (l m : List Nat) : (l ++ m).foldl max 0 = max (l.foldl max 0) (m.foldl max 0) := by
  have h : ∀ (m : List Nat) (x : Nat), m.foldl max x = max x (m.foldl max 0) := by
    intro m
    induction m with
    | nil => intro x; simp
    | cons y m ih => intro x; rw [List.foldl_cons, List.foldl_cons, ih (max x y), ih (max 0 y)]; omega
  rw [List.foldl_append, h]
theorem max_cons (x : Nat) (l : List Nat) : (x :: l).foldl max 0 = max x (l.foldl max 0) := by
  have := max_app [x] l
  simpa using this
/-- How deep it all is. -/
theorem offs_deep : ∀ t : Tm, ∀ a D, D ≠ 0 → ((offT a D t).map fun x => x.1.dep).foldl max 0 = D - 1 + t.deep := by
  refine Tm.ind ?_
  intro h l ih a D hD
  have loop : ∀ m : List Tm, (∀ t ∈ m, t ∈ l) → ∀ a, ((offs a (D + 1) m).map fun x => x.1.dep).foldl max 0 = if m = [] then 0 else D + deeps m := by
    intro m
    induction m with
    | nil => intro _ a; simp [offs]
    | cons t m ihm =>
      intro hm a
      rw [offs, List.map_append, max_app, ihm (fun u hu => hm u (List.mem_cons_of_mem _ hu))]
      have h1 := ih t (hm t (List.mem_cons_self ..)) a (D + 1) (by omega)
      rw [h1, if_neg (List.cons_ne_nil _ _), deeps]
      have : 1 ≤ t.deep := by obtain ⟨a, b⟩ := t; simp [Tm.deep]
      by_cases hm0 : m = []
      · subst hm0; simp [deeps]
      · rw [if_neg hm0]; omega
  rw [offT, List.map_cons, max_cons, loop l (fun _ h => h)]
  simp only [Tm.deep]
  by_cases hl : l = []
  · subst hl; rw [if_pos rfl, deeps]; omega
  · rw [if_neg hl]
    omega
end Go.Proofs.YtiehhlolhhjgpaaDoor.Pl

namespace Go.Proofs.YtiehhlolhhjgpaaDoor.Pl
open Go.RowKit

/-- What is thrown. -/
abbrev boom (e : Nat) : Ending := .panicked [{ v := .iface 24 (.int .i64 e), recovered := false }]

theorem need_ok (w : World) : Calls Tryd.prog 85 #[.int .i64 0] w fun x w' => x = .returned (.tuple #[]) ∧ w' = w := by
  go_enter Tryd.func85, Tryd.ntmps85
  go_wp2
  go_end0
  exact ⟨rfl, rfl⟩
theorem need_bad (e : Nat) (he : e ≠ 0) (w : World) : Calls Tryd.prog 85 #[.int .i64 e] w fun x w' => x = boom e ∧ w' = w := by
  have hz : ((e : Int) != 0) = true := by rw [bne_iff_ne]; omega
  go_enter Tryd.func85, Tryd.ntmps85
  go_wp2
  exact ⟨rfl, rfl, rfl⟩

/-- A text's size, or what is wrong. -/
def Size6 (r : Nat × Nat) (w : World) (x : Ending) (w' : World) : Prop := (if r.2 = 0 then x = .returned (.int .i64 r.1) else x = boom r.2) ∧ Below w.heap.size w w'
theorem Size6.ok {k : Nat} {w w' : World} (h : Below w.heap.size w w') : Size6 (k, 0) w (.returned (.int .i64 k)) w' := ⟨by rw [if_pos rfl], h⟩
theorem Size6.bad {k f : Nat} {w w' : World} (hf : f ≠ 0) (h : Below w.heap.size w w') : Size6 (k, f) w (boom f) w' := ⟨by rw [if_neg hf], h⟩

set_option maxHeartbeats 1000000 in
set_option maxRecDepth 100000 in
theorem textsize_any (s : ByteArray) (hs : s.size ≤ 281474976710656) (w : World) :
    Calls Tryd.prog 79 #[.string s] w (Size6 ((rdt (bl s) 1024).2.1, (rdt (bl s) 1024).2.2) w) := by
  have hT := fun V => readtext_any s 1024 V hs (by decide) (by decide)
  obtain ⟨r, hr⟩ : ∃ r, r = rdt (bl s) 1024 := ⟨_, rfl⟩
  have hbl : s.data.toList = bl s := rfl
  rw [hbl, ← hr] at hT
  rw [← hr]
  obtain ⟨t, k, f⟩ := r
  clear hr hs hbl
  have HT := Lib.hid hT
  clear hT
  by_cases hf : f = 0
  · subst hf
    go_enter Tryd.func79, Tryd.ntmps79
    go_wp2_with (first | (go_at_call 34; refine (HT.out _).mono ?_; rintro e w1 ⟨rfl, b1⟩) | (go_at_call 85; refine (need_ok _).mono ?_; rintro e w2 ⟨rfl, rfl⟩))
    go_ret
    exact Size6.ok b1
  · have HF := Lib.hid hf
    go_enter Tryd.func79, Tryd.ntmps79
    go_wp2_with (first | (go_at_call 34; refine (HT.out _).mono ?_; rintro e w1 ⟨rfl, b1⟩) | (go_at_call 85; refine (need_bad f HF.out _).mono ?_; rintro e w2 ⟨rfl, rfl⟩))
    exact ⟨by first | rfl | trivial, Size6.bad HF.out b1⟩

/-- A row's parts and its head's length, or what is wrong. -/
def Size62 (r : Nat × Nat × Nat) (w : World) (x : Ending) (w' : World) : Prop := (if r.2.2 = 0 then x = .returned (.tuple #[.int .i64 r.1, .int .i64 r.2.1]) else x = boom r.2.2) ∧ Below w.heap.size w w'
theorem Size62.ok {v k : Nat} {w w' : World} (h : Below w.heap.size w w') : Size62 (v, k, 0) w (.returned (.tuple #[.int .i64 v, .int .i64 k])) w' := ⟨by rw [if_pos rfl], h⟩
theorem Size62.bad {v k f : Nat} {w w' : World} (hf : f ≠ 0) (h : Below w.heap.size w w') : Size62 (v, k, f) w (boom f) w' := ⟨by rw [if_neg hf], h⟩
def rowP6 (s : List UInt8) : Nat × Nat × Nat := if (rdn s).2.2 = 0 ∧ 32 < (rdn s).1 then (0, 0, 5) else rdn s

set_option maxHeartbeats 1000000 in
set_option maxRecDepth 100000 in
theorem rowhead_any (s : ByteArray) (hs : s.size ≤ 281474976710656) (w : World) :
    Calls Tryd.prog 81 #[.string s] w (Size62 (rowP6 (bl s)) w) := by
  have hT := fun V => readnum_any s (by omega) V
  obtain ⟨r, hr⟩ : ∃ r, r = rdn (bl s) := ⟨_, rfl⟩
  have hbl : s.data.toList = bl s := rfl
  rw [hbl, ← hr] at hT
  obtain ⟨z, hz⟩ : ∃ z, z = rowP6 (bl s) := ⟨_, rfl⟩
  rw [← hz]
  unfold rowP6 at hz
  rw [← hr] at hz
  obtain ⟨v, k, f⟩ := r
  have HZ := Lib.hid hz
  clear hr hs hbl hz
  have HT := Lib.hid hT
  clear hT
  by_cases hf : f = 0
  · subst hf
    by_cases hv : 32 < v
    · have q1 : (32 : Int) < (v : Int) := by omega
      have HV := Lib.hid hv
      clear hv
      go_enter Tryd.func81, Tryd.ntmps81
      go_wp2_with (first | (go_at_call 55; refine (HT.out _).mono ?_; rintro e w1 ⟨rfl, rfl⟩) | (go_at_call 85; refine (need_ok _).mono ?_; rintro e w2 ⟨rfl, rfl⟩))
      have hz := HZ.out
      rw [if_pos (by first | exact ⟨rfl, HV.out⟩ | exact ⟨trivial, HV.out⟩)] at hz
      exact ⟨rfl, hz ▸ Size62.bad (f := 5) (by decide) (Below.refl _ _)⟩
    · have q1 : ¬ (32 : Int) < (v : Int) := by omega
      have q2 : (v : Int) ≤ 32 := by omega
      have HV := Lib.hid hv
      clear hv
      go_enter Tryd.func81, Tryd.ntmps81
      go_wp2_with (first | (go_at_call 55; refine (HT.out _).mono ?_; rintro e w1 ⟨rfl, rfl⟩) | (go_at_call 85; refine (need_ok _).mono ?_; rintro e w2 ⟨rfl, rfl⟩))
      go_ret2
      have hz := HZ.out
      rw [if_neg (by rintro ⟨_, h⟩; exact HV.out h)] at hz
      exact hz ▸ Size62.ok (Below.refl _ _)
  · have HF := Lib.hid hf
    go_enter Tryd.func81, Tryd.ntmps81
    go_wp2_with (first | (go_at_call 55; refine (HT.out _).mono ?_; rintro e w1 ⟨rfl, rfl⟩) | (go_at_call 85; refine (need_bad f HF.out _).mono ?_; rintro e w2 ⟨rfl, rfl⟩))
    have hz := HZ.out
    rw [if_neg (by rintro ⟨h, _⟩; exact HF.out h)] at hz
    exact ⟨rfl, hz ▸ Size62.bad HF.out (Below.refl _ _)⟩
end Go.Proofs.YtiehhlolhhjgpaaDoor.Pl

namespace Go.Proofs.YtiehhlolhhjgpaaDoor.Pl
open Go.RowKit

theorem bl_at (s : ByteArray) (p : Nat) (h : p < s.size) : (bl s).getD p 0 = s[p]'h := by
  unfold bl
  rw [List.getD_eq_getElem?_getD, List.getElem?_eq_getElem (by rw [Array.length_toList]; exact h)]
  simp
  rfl

set_option maxHeartbeats 4000000 in
set_option maxRecDepth 100000 in
theorem isname_any (s : ByteArray) (hs : s.size ≤ 281474976710656) (w : World) :
    Calls Tryd.prog 28 #[.string s] w fun e w' => e = .returned (.bool (nameOK (bl s))) ∧ Below w.heap.size w w' := by
  obtain ⟨z, hz⟩ : ∃ z, z = nameOK (bl s) := ⟨_, rfl⟩
  rw [← hz]
  by_cases h0 : s.size = 0
  · have HZ : Hid (z = false) := Lib.hid (by rw [hz, bl_nil h0]; rfl)
    obtain rfl : s = ⟨#[]⟩ := bl_inj (bl_nil h0)
    clear hz h0 hs
    go_enter Tryd.func28, Tryd.ntmps28
    go_wp2_with fail
    go_loopw [] (fun wr => Hid (wr.heap[w.heap.size]? = some (.stringIter ⟨#[]⟩ 0)) ∧ Hid (Below w.heap.size w wr)) (fun _ => 0)
    case atStart => exact ⟨Lib.hid (World.iter_heap w _ 0), Lib.hid ((Below.refl _ w).alloc (Nat.le_refl _) _)⟩
    case round =>
      obtain ⟨hit, hbw⟩ := hrel
      have hnx : ∀ ty, (Instr.next (.pointer (some ⟨w.heap.size, 0, none⟩)) true ty).run Tryd.prog wr = _ := fun ty => Lib.run_next_end_at wr w.heap.size ⟨#[]⟩ 0 ty hit.out (by decide)
      go_wp2_with fail
      go_ret
      exact ⟨ret6_bool HZ.out.symm, hbw.out⟩
  · have hne : s ≠ ⟨#[]⟩ := fun e => h0 (by rw [e]; rfl)
    obtain ⟨g1, g2⟩ := str6_ne hne
    have g3 : s.toList.isEmpty = false := by
      rw [Lib.toList_data, List.isEmpty_eq_false_iff]
      intro e
      exact h0 (by rw [size_bl]; unfold bl; rw [e]; rfl)
    have HB : Hid (∀ k, k < s.size → nameB ((bl s).getD k 0) = false → z = false) := Lib.hid (fun k hk hb => by
      rw [hz]
      cases e : nameOK (bl s) with
      | false => rfl
      | true => rw [((nameOK_iff _).1 e).2 k (by rw [bl_length]; exact hk)] at hb; exact absurd hb (by decide))
    have HE : Hid ((∀ j, j < s.size → nameB ((bl s).getD j 0) = true) → z = true) := Lib.hid (fun h => by
      rw [hz, nameOK_iff]
      refine ⟨fun e => h0 (by rw [size_bl, e]; rfl), fun j hj => h j (by rw [bl_length] at hj; exact hj)⟩)
    clear hz h0 hne
    go_enter Tryd.func28, Tryd.ntmps28
    go_wp2_with fail
    go_loopw [] (fun wr => ∃ pos : Nat, Hid (pos ≤ s.size) ∧ Hid (wr.heap[w.heap.size]? = some (.stringIter s pos)) ∧ Hid (∀ j, j < pos → nameB ((bl s).getD j 0) = true) ∧ Hid (Below w.heap.size w wr)) (fun wr => s.size - wr.iterPos w.heap.size)
    case atStart => exact ⟨0, Lib.hid (Nat.zero_le _), Lib.hid (World.iter_heap w s 0), Lib.hid (fun j hj => absurd hj (Nat.not_lt_zero j)), Lib.hid ((Below.refl _ w).alloc (Nat.le_refl _) _)⟩
    case round =>
      obtain ⟨pos, hps, hit, hch, hbw⟩ := hrel
      by_cases hp : pos < s.size
      · have hd : Hid (1 ≤ (Utf8.decode s pos).2 ∧ ((nameB ((bl s).getD pos 0) = true ∧ (Utf8.decode s pos).1 = ((bl s).getD pos 0).toNat ∧ (Utf8.decode s pos).2 = 1) ∨ (nameB ((bl s).getD pos 0) = false ∧ ((Utf8.decode s pos).1 = ((bl s).getD pos 0).toNat ∨ 128 ≤ (Utf8.decode s pos).1)))) := Lib.hid (by
          rw [bl_at s pos hp]
          by_cases ha : (s[pos]'hp).toNat < 128
          · rw [decode_ascii s pos hp ha]
            cases hnb : nameB (s[pos]'hp) with
            | true => exact ⟨Nat.le_refl _, .inl ⟨rfl, rfl, rfl⟩⟩
            | false => exact ⟨Nat.le_refl _, .inr ⟨rfl, .inl rfl⟩⟩
          · have hh := decode_high s pos hp (by omega)
            refine ⟨hh.2, .inr ⟨?_, .inr hh.1⟩⟩
            unfold nameB
            exact decide_eq_false (by omega))
        have hwd : Hid (1 ≤ (Utf8.decode s pos).2) := Lib.hid hd.out.1
        have hit2 := Lib.hid (Lib.iterAt_heap wr w.heap.size s pos (pos + (Utf8.decode s pos).2) hit.out)
        have hb2 := Lib.hid (Lib.below_iterAt hbw.out (k := w.heap.size) (Nat.le_refl _) s (pos + (Utf8.decode s pos).2))
        have hnx : ∀ ty, (Instr.next (.pointer (some ⟨w.heap.size, 0, none⟩)) true ty).run Tryd.prog wr = _ := fun ty => Lib.run_next_any_at wr w.heap.size s pos ty hit.out hp
        generalize wr.iterAt w.heap.size s (pos + (Utf8.decode s pos).2) = W1 at *
        obtain ⟨c, ec⟩ : ∃ c : UInt8, c = (bl s).getD pos 0 := ⟨_, rfl⟩
        have HBK : Hid (nameB c = false → z = false) := Lib.hid (by rw [ec]; exact HB.out pos hp)
        obtain ⟨n, hn⟩ : ∃ n, n = (Utf8.decode s pos).1 := ⟨_, rfl⟩
        obtain ⟨dw, hdw⟩ : ∃ dw, dw = (Utf8.decode s pos).2 := ⟨_, rfl⟩
        have hd' := hd.out
        rw [← hn, ← hdw, ← ec] at hd'
        have HNX : Hid (((97 ≤ n ∧ n ≤ 122) ∨ (48 ≤ n ∧ n ≤ 57) ∨ n = 47 ∨ n = 46 ∨ n = 45) → pos + dw ≤ s.size ∧ ∀ j, j < pos + dw → nameB ((bl s).getD j 0) = true) := Lib.hid (fun h => by
          rcases hd'.2 with ⟨h1, h2, h3⟩ | ⟨h1, h2 | h2⟩
          · refine ⟨by omega, fun j hj => ?_⟩
            by_cases e : j = pos
            · rw [e, ← ec]; exact h1
            · exact hch.out j (by omega)
          · exfalso
            unfold nameB at h1
            rw [← h2] at h1
            exact absurd h (of_decide_eq_false h1)
          · omega)
        have HW : Hid (¬ ((97 ≤ n ∧ n ≤ 122) ∨ (48 ≤ n ∧ n ≤ 57) ∨ n = 47 ∨ n = 46 ∨ n = 45) → z = false) := Lib.hid (fun h => by
          rcases hd'.2 with ⟨h1, h2, h3⟩ | ⟨h1, _⟩
          · exfalso
            unfold nameB at h1
            rw [← h2] at h1
            exact h (of_decide_eq_true h1)
          · exact HBK.out h1)
        rw [← hn] at hnx
        rw [← hdw] at hit2 hwd
        clear ec hn hdw hd hd' HBK
        have hcs : n < 45 ∨ n = 45 ∨ n = 46 ∨ n = 47 ∨ (48 ≤ n ∧ n ≤ 57) ∨ (57 < n ∧ n < 97) ∨ (97 ≤ n ∧ n ≤ 122) ∨ 122 < n := by omega
        have ef : ∀ m : Nat, n ≠ m → ((n : Int) == (m : Int)) = false := fun m h => by rw [beq_eq_false_iff_ne]; omega
        rcases hcs with h | h | h | h | ⟨h, h'⟩ | ⟨h, h'⟩ | ⟨h, h'⟩ | h
        · have HX := Lib.hid (HW.out (by omega))
          have q1 : ((n : Int) == 47) = false := ef 47 (by omega)
          have q2 : ((n : Int) == 46) = false := ef 46 (by omega)
          have q3 : ((n : Int) == 45) = false := ef 45 (by omega)
          clear ef
          go_wp2_with fail
          go_ret
          exact ⟨ret6_bool HX.out.symm, hb2.out⟩
        · subst h
          have HP := Lib.hid (HNX.out (by omega)).1
          have HX := Lib.hid (HNX.out (by omega)).2
          clear ef
          go_wp2_with fail
          go_roundw
          case rel => exact ⟨_, HP, hit2, HX, hb2⟩
          case measure => simp only [World.iterPos, hit2.out, hit.out]; have := hwd.out; omega
        · subst h
          have HP := Lib.hid (HNX.out (by omega)).1
          have HX := Lib.hid (HNX.out (by omega)).2
          clear ef
          go_wp2_with fail
          go_roundw
          case rel => exact ⟨_, HP, hit2, HX, hb2⟩
          case measure => simp only [World.iterPos, hit2.out, hit.out]; have := hwd.out; omega
        · subst h
          have HP := Lib.hid (HNX.out (by omega)).1
          have HX := Lib.hid (HNX.out (by omega)).2
          clear ef
          go_wp2_with fail
          go_roundw
          case rel => exact ⟨_, HP, hit2, HX, hb2⟩
          case measure => simp only [World.iterPos, hit2.out, hit.out]; have := hwd.out; omega
        · have HP := Lib.hid (HNX.out (by omega)).1
          have HX := Lib.hid (HNX.out (by omega)).2
          clear ef
          go_wp2_with fail
          go_roundw
          case rel => exact ⟨_, HP, hit2, HX, hb2⟩
          case measure => simp only [World.iterPos, hit2.out, hit.out]; have := hwd.out; omega
        · have HX := Lib.hid (HW.out (by omega))
          have q1 : ((n : Int) == 47) = false := ef 47 (by omega)
          have q2 : ((n : Int) == 46) = false := ef 46 (by omega)
          have q3 : ((n : Int) == 45) = false := ef 45 (by omega)
          have q4 : decide ((n : Int) ≤ 57) = false := decide_eq_false (by omega)
          clear ef
          go_wp2_with fail
          go_ret
          exact ⟨ret6_bool HX.out.symm, hb2.out⟩
        · have HP := Lib.hid (HNX.out (by omega)).1
          have HX := Lib.hid (HNX.out (by omega)).2
          clear ef
          go_wp2_with fail
          go_roundw
          case rel => exact ⟨_, HP, hit2, HX, hb2⟩
          case measure => simp only [World.iterPos, hit2.out, hit.out]; have := hwd.out; omega
        · have HX := Lib.hid (HW.out (by omega))
          have q1 : ((n : Int) == 47) = false := ef 47 (by omega)
          have q2 : ((n : Int) == 46) = false := ef 46 (by omega)
          have q3 : ((n : Int) == 45) = false := ef 45 (by omega)
          have q4 : decide ((n : Int) ≤ 57) = false := decide_eq_false (by omega)
          have q5 : decide ((n : Int) ≤ 122) = false := decide_eq_false (by omega)
          clear ef
          go_wp2_with fail
          go_ret
          exact ⟨ret6_bool HX.out.symm, hb2.out⟩
      · have hnx : ∀ ty, (Instr.next (.pointer (some ⟨w.heap.size, 0, none⟩)) true ty).run Tryd.prog wr = _ := fun ty => Lib.run_next_end_at wr w.heap.size s pos ty hit.out hp
        have HQ := Lib.hid (HE.out (fun j hj => hch.out j (by omega)))
        clear hp
        go_wp2_with fail
        go_ret
        exact ⟨ret6_bool HQ.out.symm, hbw.out⟩
end Go.Proofs.YtiehhlolhhjgpaaDoor.Pl

namespace Go.Proofs.YtiehhlolhhjgpaaDoor.Pl
open Go.RowKit

theorem conv_at (W : World) (b : Nat) (x : Int) (h : W.cell? ⟨b, 0, none⟩ = some (.int .u8 x)) :
    (convert 84 9 (.slice (some ⟨b, 0, none⟩) 1 1)).run Tryd.prog W = .ok (.string ⟨#[UInt8.ofNat x.toNat]⟩) W := by
  rw [run_convert_bytes_string W _ _ _ (some ⟨b, 0, none⟩) 1 1 Tryd.underlying84 Tryd.underlying5 Tryd.underlying9]
  have hl := run_loadCells_list (P := Tryd.prog) W ⟨b, 0, none⟩ ([x].map (Value.int .u8)) (fun j v hj => by
    have hj' := (List.getElem?_eq_some_iff.1 hj).1
    obtain rfl : j = 0 := by simp at hj'; omega
    simp at hj
    rw [← hj]
    exact h)
  rw [run_bytesToString W ⟨b, 0, none⟩ 1 1 [x] hl]
  rfl
theorem conv_new (W : World) (x : Int) (T : TypeId) :
    (convert 84 9 (.slice (some ⟨W.heap.size, 0, none⟩) 1 1)).run Tryd.prog (W.alloc (.cells #[.int .u8 x] T)) = .ok (.string ⟨#[UInt8.ofNat x.toNat]⟩) (W.alloc (.cells #[.int .u8 x] T)) :=
  conv_at _ _ x (by rw [World.cell?_alloc_mark]; rfl)
theorem conv_newd (W : World) (x : Int) (T : TypeId) :
    (convert 84 9 (.slice (some ⟨W.heap.size, 0, none⟩) 1 1)).run Tryd.prog (W.alloc (.cells #[.int .u8 x] T)).drew = .ok (.string ⟨#[UInt8.ofNat x.toNat]⟩) (W.alloc (.cells #[.int .u8 x] T)).drew :=
  conv_at _ _ x (by rw [show (W.alloc (.cells #[.int .u8 x] T)).drew.cell? ⟨W.heap.size, 0, none⟩ = (W.alloc (.cells #[.int .u8 x] T)).cell? ⟨W.heap.size, 0, none⟩ from rfl, World.cell?_alloc_mark]; rfl)
attribute [local go_sem] conv_new conv_newd
theorem conv_kept {a w1 : World} (hb : Below a.heap.size a w1) (x : Int) : ∀ b, a.cell? ⟨b, 0, none⟩ = some (.int .u8 x) →
    (convert 84 9 (.slice (some ⟨b, 0, none⟩) 1 1)).run Tryd.prog w1 = .ok (.string ⟨#[UInt8.ofNat x.toNat]⟩) w1 :=
  fun b h => conv_at w1 b x ((hb.cell (p := ⟨b, 0, none⟩) (World.block_lt_of_cell? _ _ h)).trans h)



end Go.Proofs.YtiehhlolhhjgpaaDoor.Pl

namespace Go.Proofs.YtiehhlolhhjgpaaDoor.Pl
open Go.RowKit

/-- The number that the first j bytes behind the first one are. -/
def pre (s : ByteArray) (j : Nat) : Nat := val ((s.data.toList.drop 1).take j)
theorem pre_lt (s : ByteArray) (j : Nat) : pre s j < 256 ^ j :=
  Nat.lt_of_lt_of_le (val_lt _) (Nat.pow_le_pow_right (by decide) (by simp; omega))
theorem pre_succ (s : ByteArray) (j : Nat) (h : 1 + j < s.size) : pre s (j + 1) = pre s j * 256 + s[1 + j].toNat := by
  unfold pre
  have hl : (s.data.toList.drop 1).length = s.size - 1 := by simp
  rw [val_take _ j (by omega), List.getElem_drop]
  rfl
end Go.Proofs.YtiehhlolhhjgpaaDoor.Pl

namespace Go.Proofs.YtiehhlolhhjgpaaDoor.Pl
open Go.RowKit

end Go.Proofs.YtiehhlolhhjgpaaDoor.Pl

namespace Go.Proofs.YtiehhlolhhjgpaaDoor.Pl
open Go.RowKit

def hd3 (h : Nat × Nat × Nat) : Value := .tuple #[.int .i64 h.1, .int .i64 h.2.1, .int .i64 h.2.2]
theorem headP_nil : headP [] = (0, 0, 6) := rfl

def rd2 (h : Nat × Nat) : Value := .tuple #[.int .i64 h.1, .int .i64 h.2]
theorem readP_loop_zero (rd : List UInt8 → Nat × Nat) (s : List UInt8) : loopP rd 0 s = (0, 0) := rfl
/-- Of k terms and the rest: as far as the first goes, then the others. -/
theorem loopP_add (rd : List UInt8 → Nat × Nat) : ∀ (i k : Nat) (s : List UInt8) (m : Nat), loopP rd i s = (m, 0) → loopP rd (i + k) s = if (loopP rd k (s.drop m)).2 = 0 then (m + (loopP rd k (s.drop m)).1, 0) else (0, (loopP rd k (s.drop m)).2)
  | 0, k, s, m, h => by
    simp only [loopP, Prod.mk.injEq, and_true] at h
    subst h
    rw [Nat.zero_add, List.drop_zero, Nat.zero_add]
    split
    · rename_i h; exact Prod.ext rfl h
    · rename_i h
      -- what is wrong bears no length
      cases k with
      | zero => exact absurd rfl h
      | succ k =>
        simp only [loopP] at h ⊢
        split at h
        · rename_i h1
          split at h
          · exact absurd rfl h
          · rename_i h2
            rw [if_pos h1, if_neg h2]
        · rename_i h1
          rw [if_neg h1]
  | i + 1, k, s, m, h => by
    rw [loopP] at h
    split at h
    · rename_i h1
      split at h
      · rename_i h2
        simp only [Prod.mk.injEq, and_true] at h
        have ih := loopP_add rd i k (s.drop (rd s).1) (loopP rd i (s.drop (rd s).1)).1 (Prod.ext rfl h2)
        rw [List.drop_drop, h] at ih
        rw [show i + 1 + k = (i + k) + 1 by omega, loopP, if_pos h1, ih]
        split
        · rename_i h3
          rw [if_pos rfl, ← h, Nat.add_assoc]
        · rfl
      · rename_i h2
        simp only [Prod.mk.injEq] at h
        exact absurd h.2 h2
    · rename_i h1
      simp only [Prod.mk.injEq] at h
      exact absurd h.2 h1
theorem loopP_one (rd : List UInt8 → Nat × Nat) (s : List UInt8) : loopP rd 1 s = if (rd s).2 = 0 then ((rd s).1, 0) else (0, (rd s).2) := by
  simp [loopP]
end Go.Proofs.YtiehhlolhhjgpaaDoor.Pl

namespace Go.Proofs.YtiehhlolhhjgpaaDoor.Pl
open Go.RowKit

theorem head_err {s : List UInt8} (h : (headP s).2.2 ≠ 0) : (headP s).2.1 = 0 := by
  cases s with
  | nil => rfl
  | cons b r =>
    simp only [headP] at h ⊢
    split
    · rfl
    · rename_i h100
      rw [if_neg h100] at h
      split
      · rename_i h97
        rw [if_pos h97] at h
        split <;> rfl
      · rename_i h97
        rw [if_neg h97] at h
        split
        · rename_i h114
          rw [if_pos h114] at h
          split
          · rfl
          · rename_i hno
            rw [if_neg hno] at h
            simp only at h ⊢
            rcases rdn_err (l := r) (v := (rdn r).1) (n := (rdn r).2.1) (e := (rdn r).2.2) rfl with e | e
            · exact absurd e h
            · exact e.1
        · rename_i h114
          rw [if_neg h114] at h
          split
          · rename_i h104; rw [if_pos h104] at h; exact absurd rfl h
          · rename_i h104
            rw [if_neg h104] at h
            split
            · rename_i h109; rw [if_pos h109] at h; exact absurd rfl h
            · rename_i h109
              rw [if_neg h109] at h
              split
              · rename_i h115; rw [if_pos h115] at h; exact absurd rfl h
              · rfl
theorem head_parts {s : List UInt8} {n p : Nat} (h : headP s = (n, p, 0)) : p ≤ 32 := by
  obtain ⟨c, hk⟩ := head_kind (head_front h).2
  cases hk <;> omega
theorem loopP_len {rd : List UInt8 → Nat × Nat} (hrd : ∀ s n, rd s = (n, 0) → n ≤ s.length) : ∀ (i : Nat) (s : List UInt8) (m : Nat), loopP rd i s = (m, 0) → m ≤ s.length
  | 0, s, m, h => by
    simp only [loopP, Prod.mk.injEq, and_true] at h
    omega
  | i + 1, s, m, h => by
    rw [loopP] at h
    split at h
    · rename_i h1
      split at h
      · rename_i h2
        simp only [Prod.mk.injEq, and_true] at h
        have e1 := hrd s (rd s).1 (Prod.ext rfl h1)
        have e2 := loopP_len hrd i (s.drop (rd s).1) (loopP rd i (s.drop (rd s).1)).1 (Prod.ext rfl h2)
        rw [List.length_drop] at e2
        omega
      · rename_i h2
        simp only [Prod.mk.injEq] at h
        exact absurd h.2 h2
    · rename_i h1
      simp only [Prod.mk.injEq] at h
      exact absurd h.2 h1
theorem loopP_good {rd : List UInt8 → Nat × Nat} {i : Nat} {s : List UInt8} {m : Nat} (h : loopP rd i s = (m, 0)) (k : (rd (s.drop m)).2 = 0) : loopP rd (i + 1) s = (m + (rd (s.drop m)).1, 0) := by
  have e := loopP_add rd i 1 s m h
  rw [loopP_one, if_pos k] at e
  rw [e]; rfl
theorem loopP_bad {rd : List UInt8 → Nat × Nat} {i p : Nat} {s : List UInt8} {m : Nat} (h : loopP rd i s = (m, 0)) (hi : i < p) (k : (rd (s.drop m)).2 ≠ 0) : (loopP rd p s).2 = (rd (s.drop m)).2 := by
  obtain ⟨q, rfl⟩ : ∃ q, p = i + (q + 1) := ⟨p - i - 1, by omega⟩
  have e1 : loopP rd (q + 1) (s.drop m) = (0, (rd (s.drop m)).2) := by rw [loopP, if_neg k]
  have e := loopP_add rd i (q + 1) s m h
  rw [e1] at e
  rw [e, if_neg k]
theorem readP_len (d : Nat) (s : List UInt8) (n : Nat) (h : readP d s = (n, 0)) : n ≤ s.length := by
  obtain ⟨t, _, _, e1, e2⟩ := read_sound d s n h
  have := congrArg List.length e2
  rw [List.length_append, ← e1] at this
  omega
theorem readP_err (d : Nat) (s : List UInt8) (h : (readP d s).2 ≠ 0) : (readP d s).1 = 0 := by
  cases d with
  | zero => rfl
  | succ d =>
    simp only [readP] at h ⊢
    split
    · rename_i h1
      rw [if_pos h1] at h
      split
      · rename_i h2
        rw [if_pos h2] at h
        exact absurd rfl h
      · rfl
    · rfl

end Go.Proofs.YtiehhlolhhjgpaaDoor.Pl

namespace Go.Proofs.YtiehhlolhhjgpaaDoor.Pl
open Go.RowKit

def st2 (h : List UInt8 × Nat) : Value := .tuple #[.string ⟨h.1.toArray⟩, .int .i64 h.2]
theorem cat_front (b : UInt8) (l : List UInt8) : (⟨#[b]⟩ ++ ⟨l.toArray⟩ : ByteArray) = ⟨(b :: l).toArray⟩ := by
  apply bl_inj
  unfold bl
  rw [ByteArray.data_append]
  simp
theorem txt_le (t : List UInt8) : (txt t).length ≤ 9 + t.length := by rw [txt_len]; have := enc_len t.length; omega

/-- The term of a number. -/
def numP (v : Int) : List UInt8 × Nat := if 0 ≤ v ∧ v ≤ 2147483647 then (100 :: txt (enc v.toNat), 0) else ([], 2)
theorem dataP_enc (v : Nat) : dataP (enc v) = (100 :: txt (enc v), 0) := by
  unfold dataP
  exact if_neg (by have := enc_len v; omega)
end Go.Proofs.YtiehhlolhhjgpaaDoor.Pl

namespace Go.Proofs.YtiehhlolhhjgpaaDoor.Pl
open Go.RowKit

/-- A row of texts in memory, to read. -/
def TxtRow (w : World) (ao : Option Addr) (l : List ByteArray) : Prop := l = [] ∨ ∃ b off, ao = some ⟨b, off, none⟩ ∧ b < w.heap.size ∧ ∀ j, j < l.length → w.cell? ⟨b, off + j, none⟩ = some (.string (l.getD j ByteArray.empty))
theorem TxtRow.below {w w' : World} {ao : Option Addr} {l : List ByteArray} (h : TxtRow w ao l) (hb : Below w.heap.size w w') : TxtRow w' ao l := by
  rcases h with h | ⟨b, off, hg, hlt, hc⟩
  · exact .inl h
  · exact .inr ⟨b, off, hg, Nat.lt_of_lt_of_le hlt hb.size, fun j hj => (hb.cell (p := ⟨b, off + j, none⟩) hlt).trans (hc j hj)⟩
/-- The parts' bytes, one behind the other. -/
def catL (l : List ByteArray) (k : Nat) : List UInt8 := ((l.take k).map bl).flatten
theorem catL_zero (l : List ByteArray) : catL l 0 = [] := by simp [catL]
theorem catL_succ (l : List ByteArray) (k : Nat) (h : k < l.length) : catL l (k + 1) = catL l k ++ bl (l.getD k ByteArray.empty) := by
  unfold catL
  rw [List.take_succ_eq_append_getElem h, List.map_append, List.flatten_append]
  simp [List.getD_eq_getElem?_getD, h]
theorem catL_all (l : List ByteArray) (k : Nat) (h : l.length ≤ k) : catL l k = (l.map bl).flatten := by
  unfold catL; rw [List.take_of_length_le h]
theorem catL_le (l : List ByteArray) (k : Nat) : (catL l k).length ≤ ((l.map bl).flatten).length := by
  have e : (l.map bl).flatten = catL l k ++ ((l.drop k).map bl).flatten := by
    unfold catL
    rw [← List.flatten_append, ← List.map_append, List.take_append_drop]
  rw [e, List.length_append]; omega
theorem cat_bytes (a b : ByteArray) : bl (a ++ b) = bl a ++ bl b := by
  unfold bl
  rw [ByteArray.data_append, Array.toList_append]
theorem mem_getD6 {l : List ByteArray} {x : ByteArray} (h : x ∈ l) : ∃ k, k < l.length ∧ l.getD k ByteArray.empty = x := by
  obtain ⟨k, hk, rfl⟩ := List.getElem_of_mem h
  exact ⟨k, hk, by simp [List.getD_eq_getElem?_getD, hk]⟩
theorem getD_mem6 (l : List ByteArray) (k : Nat) (h : k < l.length) : l.getD k ByteArray.empty ∈ l := by
  rw [List.getD_eq_getElem?_getD, List.getElem?_eq_getElem h]; exact List.getElem_mem h

end Go.Proofs.YtiehhlolhhjgpaaDoor.Pl

namespace Go.Proofs.YtiehhlolhhjgpaaDoor.Pl
open Go.RowKit

theorem row1 (w : World) (a : ByteArray) : TxtRow (w.alloc (.cells #[.string a] 9)) (some ⟨w.heap.size, 0, none⟩) [a] :=
  .inr ⟨w.heap.size, 0, rfl, by simp, fun j hj => by
    obtain rfl : j = 0 := by simp at hj; omega
    simp⟩
theorem row2 (w : World) (a b : ByteArray) : TxtRow (w.alloc (.cells #[.string a, .string b] 9)) (some ⟨w.heap.size, 0, none⟩) [a, b] :=
  .inr ⟨w.heap.size, 0, rfl, by simp, fun j hj => by
    match j, hj with
    | 0, _ => simp
    | 1, _ => simp⟩
theorem row3 (w : World) (a b c : ByteArray) : TxtRow (w.alloc (.cells #[.string a, .string b, .string c] 9)) (some ⟨w.heap.size, 0, none⟩) [a, b, c] :=
  .inr ⟨w.heap.size, 0, rfl, by simp, fun j hj => by
    match j, hj with
    | 0, _ => simp
    | 1, _ => simp
    | 2, _ => simp⟩

def tb2 (h : List UInt8 × Bool) : Value := .tuple #[.string ⟨h.1.toArray⟩, .bool h.2]
end Go.Proofs.YtiehhlolhhjgpaaDoor.Pl

namespace Go.Proofs.YtiehhlolhhjgpaaDoor.Pl
open Go.RowKit

noncomputable def readnumP (s : List UInt8) : Nat × Bool :=
  if (textP s).2 = true ∧ kindP s = 1 ∧ (rdn (textP s).1).2.2 = 0 ∧ (rdn (textP s).1).2.1 = (textP s).1.length ∧ (rdn (textP s).1).1 ≤ 2147483647 then ((rdn (textP s).1).1, true) else (0, false)
theorem rdt_out (l : List UInt8) (m : Int) : (rdt l m).1.length ≤ l.length := by
  unfold rdt
  by_cases h1 : (rdn l).2.2 ≠ 0
  · rw [if_pos h1]; simp
  · rw [if_neg h1]
    by_cases h2 : max m 0 < ((rdn l).1 : Int)
    · rw [if_pos h2]; simp
    · rw [if_neg h2]
      by_cases h3 : l.length - (rdn l).2.1 < (rdn l).1
      · rw [if_pos h3]; simp
      · rw [if_neg h3]; simp; omega
theorem textP_len (s : List UInt8) : (textP s).1.length ≤ s.length := by
  unfold textP
  by_cases h : checkP s = 0 ∧ (s.head? = some 100 ∨ s.head? = some 97)
  · rw [if_pos h]
    have h1 := rdt_out (s.drop 1) 1024
    rw [List.length_drop] at h1
    simp only
    omega
  · rw [if_neg h]; simp
theorem kindP_le (s : List UInt8) : kindP s ≤ 6 := by
  unfold kindP
  split
  · split
    · omega
    · repeat (split; omega)
      omega
  · omega
def nb2 (h : Nat × Bool) : Value := .tuple #[.int .i64 h.1, .bool h.2]
end Go.Proofs.YtiehhlolhhjgpaaDoor.Pl

namespace Go.Proofs.YtiehhlolhhjgpaaDoor.Pl
open Go.RowKit

/-- The cells of an array that holds the numbers l. -/
def row (k : IntKind) (l : List Nat) : Array Value := (l.map fun (x : Nat) => Value.int k (x : Int)).toArray
theorem row_size (k : IntKind) (l : List Nat) : (row k l).size = l.length := by simp [row]
theorem row_at (k : IntKind) (l : List Nat) (i : Nat) (h : i < l.length) : (row k l)[i]? = some (.int k ((l.getD i 0 : Nat) : Int)) := by
  simp [row, List.getD_eq_getElem?_getD, h]
theorem row_set (k : IntKind) (l : List Nat) (i : Nat) (v : Nat) : (row k l).setIfInBounds i (.int k (v : Int)) = row k (l.set i v) := by
  simp [row, List.map_set]
theorem row_one (k : IntKind) (l : List Nat) : (row k l).all (·.oneCell') = true := by
  simp [row]; intro x _; rfl
theorem row_get (k : IntKind) (l : List Nat) (i : Nat) (h : i < l.length) : (row k l).getD i undef = .int k ((l.getD i 0 : Nat) : Int) := by
  have := row_at k l i h
  rw [Array.getD_eq_getD_getElem?, this]; rfl

/-- What the block of an array of numbers gives a walk. -/
theorem at_row {w : World} {b : Nat} {k : IntKind} {l : List Nat} {t : TypeId} (h : w.heap[b]? = some (.cells (row k l) t (0, 0))) (j : Nat) (hj : j < l.length) :
    w.cell? ⟨b, j, none⟩ = some (.int k ((l.getD j 0 : Nat) : Int)) ∧ w.frozen? ⟨b, j, none⟩ = false :=
  ⟨by rw [cell_of_row w b j _ t (0, 0) h, row_at k l j hj], frozen_of_row w b j _ t h⟩
theorem heap_step {w : World} {b j : Nat} {k : IntKind} {l : List Nat} {t : TypeId} (h : w.heap[b]? = some (.cells (row k l) t (0, 0))) (v : Nat) :
    (w.setCell ⟨b, j, none⟩ (.int k (v : Int))).heap[b]? = some (.cells (row k (l.set j v)) t (0, 0)) := by
  rw [heap_setCell_same w b j _ t _ h, row_set]
theorem heap_keep {w : World} {b c j : Nat} {v : Value} {o : Option Obj} (h : w.heap[c]? = o) (hc : c ≠ b) : (w.setCell ⟨b, j, none⟩ v).heap[c]? = o := by
  rw [heap_setCell_other _ _ _ _ hc]; exact h

theorem size_alloc' (w : World) (o : Obj) : (w.alloc o).heap.size = w.heap.size + 1 := by
  show (w.heap.push o).size = _
  simp

theorem below_setRow {B : Nat} {a w : World} (h : Below B a w) {g : Nat} (hg : B ≤ g) (cs : Array Value) : Below B a (w.setRow g cs) :=
  ⟨h.os, h.tape, h.output, by rw [setRow_size]; exact h.size, fun i hi => by rw [setRow_other _ _ _ _ (by omega)]; exact h.block i hi⟩

theorem heap3_0 (w : World) (A B C : Obj) : (((w.alloc A).alloc B).alloc C).heap[w.heap.size]? = some A := by
  rw [Go.heap_alloc_old _ _ (by simp; omega), Go.heap_alloc_old _ _ (by simp), Go.heap_alloc_new]
theorem heap3_1 (w : World) (A B C : Obj) : (((w.alloc A).alloc B).alloc C).heap[w.heap.size + 1]? = some B := by
  rw [Go.heap_alloc_old _ _ (by simp)]
  have := Go.heap_alloc_new (w.alloc A) B
  rw [size_alloc'] at this
  exact this
theorem heap3_2 (w : World) (A B C : Obj) : (((w.alloc A).alloc B).alloc C).heap[w.heap.size + 1 + 1]? = some C := by
  have := Go.heap_alloc_new ((w.alloc A).alloc B) C
  rw [size_alloc', size_alloc'] at this
  exact this
theorem below3 (w : World) (A B C : Obj) : Below w.heap.size w (((w.alloc A).alloc B).alloc C) := (((Below.refl _ _).alloc (Nat.le_refl _) _).alloc (by simp) _).alloc (by simp; omega) _
theorem heap_below {w w' : World} {b : Nat} {o : Obj} (hb : Below w.heap.size w w') (h : w.heap[b]? = some o) : w'.heap[b]? = some o := by
  rw [hb.block b (Array.getElem?_eq_some_iff.1 h).1]; exact h
theorem heap_alloc {w : World} {b : Nat} {o : Obj} (h : w.heap[b]? = some o) (p : Obj) : (w.alloc p).heap[b]? = some o := by
  rw [Go.heap_alloc_old _ _ (Array.getElem?_eq_some_iff.1 h).1]; exact h
theorem heap_setRow {w : World} {b : Nat} {o : Obj} (h : w.heap[b]? = some o) {g : Nat} (hg : b ≠ g) (cs : Array Value) : (w.setRow g cs).heap[b]? = some o := by
  rw [setRow_other _ _ _ _ hg]; exact h

theorem getD_set (l : List Nat) (j v i : Nat) (hj : j < l.length) : (l.set j v).getD i 0 = if i = j then v else l.getD i 0 := by
  rw [List.getD_eq_getElem?_getD, List.getElem?_set]
  by_cases e : j = i
  · subst e; simp [hj]
  · rw [if_neg e, if_neg (fun h => e h.symm), List.getD_eq_getElem?_getD]
theorem getD_ext {l m : List Nat} (hl : l.length = m.length) (h : ∀ i, i < l.length → l.getD i 0 = m.getD i 0) : l = m := by
  apply List.ext_getElem hl
  intro i h1 h2
  have := h i h1
  simpa [List.getD_eq_getElem?_getD, h1, h2] using this

/-- l agrees with f up to n. -/
def Agrees (l : List Nat) (f : Nat → Nat) (n : Nat) : Prop := ∀ j, j < n → l.getD j 0 = f j
theorem Agrees.zero (l : List Nat) (f : Nat → Nat) : Agrees l f 0 := fun _ h => absurd h (by omega)
theorem Agrees.next {l : List Nat} {f : Nat → Nat} {n : Nat} (h : Agrees l f n) (hn : n < l.length) : Agrees (l.set n (f n)) f (n + 1) := by
  intro j hj
  rw [List.getD_eq_getElem?_getD, List.getElem?_set]
  by_cases e : n = j
  · subst e; simp [hn]
  · rw [if_neg e, ← List.getD_eq_getElem?_getD]; exact h j (by omega)
theorem Agrees.ext {l m : List Nat} {n : Nat} (h : Agrees l (fun j => m.getD j 0) n) (hl : l.length = n) (hm : m.length = n) : l = m := by
  apply List.ext_getElem (by omega)
  intro i h1 h2
  have := h i (by omega)
  simpa [List.getD_eq_getElem?_getD, h1, h2] using this
end Go.Proofs.YtiehhlolhhjgpaaDoor.Pl

namespace Go.Proofs.YtiehhlolhhjgpaaDoor.Pl
open Go.RowKit

def nameP6 (s : List UInt8) : Nat × Nat := if (rdt s 32).2.2 = 0 ∧ nameOK (rdt s 32).1 = false then (0, 7) else ((rdt s 32).2.1, (rdt s 32).2.2)

set_option maxHeartbeats 1000000 in
set_option maxRecDepth 100000 in
theorem namesize_any (s : ByteArray) (hs : s.size ≤ 281474976710656) (w : World) :
    Calls Tryd.prog 80 #[.string s] w (Size6 (nameP6 (bl s)) w) := by
  have hT := fun V => readtext_any s 32 V hs (by decide) (by decide)
  obtain ⟨r, hr⟩ : ∃ r, r = rdt (bl s) 32 := ⟨_, rfl⟩
  have hbl : s.data.toList = bl s := rfl
  have hlen := rdt_out (bl s) 32
  rw [hbl, ← hr] at hT
  obtain ⟨z, hz⟩ : ∃ z, z = nameP6 (bl s) := ⟨_, rfl⟩
  rw [← hz]
  unfold nameP6 at hz
  rw [← hr] at hz hlen
  obtain ⟨t, k, f⟩ := r
  have HN := Lib.hid (fun V => isname_any ⟨t.toArray⟩ (by show t.toArray.size ≤ _; rw [List.size_toArray]; rw [bl_length] at hlen; simp only at hlen; omega) V)
  rw [bl_mk] at HN
  have HT := Lib.hid hT
  have HZ := Lib.hid hz
  clear hr hs hbl hz hlen hT
  by_cases hf : f = 0
  · subst hf
    cases hn : nameOK t with
    | false =>
      rw [hn] at HN
      have HNN := Lib.hid hn
      clear hn
      go_enter Tryd.func80, Tryd.ntmps80
      go_wp2_with (first | (go_at_call 34; refine (HT.out _).mono ?_; rintro e w1 ⟨rfl, b1⟩) | (go_at_call 85; refine (need_ok _).mono ?_; rintro e w2 ⟨rfl, rfl⟩) | (go_at_call 28; refine (HN.out _).mono ?_; rintro e w3 ⟨rfl, b3⟩))
      have hz := HZ.out
      rw [if_pos (by first | exact ⟨rfl, HNN.out⟩ | exact ⟨trivial, HNN.out⟩)] at hz
      exact ⟨rfl, hz ▸ Size6.bad (f := 7) (by decide) (b1.trans (b3.mono b1.size))⟩
    | true =>
      rw [hn] at HN
      have HNN := Lib.hid hn
      clear hn
      go_enter Tryd.func80, Tryd.ntmps80
      go_wp2_with (first | (go_at_call 34; refine (HT.out _).mono ?_; rintro e w1 ⟨rfl, b1⟩) | (go_at_call 85; refine (need_ok _).mono ?_; rintro e w2 ⟨rfl, rfl⟩) | (go_at_call 28; refine (HN.out _).mono ?_; rintro e w3 ⟨rfl, b3⟩))
      go_ret
      have hz := HZ.out
      rw [if_neg (by rintro ⟨_, h⟩; rw [HNN.out] at h; cases h)] at hz
      exact hz ▸ Size6.ok (b1.trans (b3.mono b1.size))
  · have HF := Lib.hid hf
    clear HN
    go_enter Tryd.func80, Tryd.ntmps80
    go_wp2_with (first | (go_at_call 34; refine (HT.out _).mono ?_; rintro e w1 ⟨rfl, b1⟩) | (go_at_call 85; refine (need_bad f HF.out _).mono ?_; rintro e w2 ⟨rfl, rfl⟩))
    have hz := HZ.out
    rw [if_neg (by rintro ⟨h, _⟩; exact HF.out h)] at hz
    exact ⟨rfl, hz ▸ Size6.bad HF.out b1⟩

/-- A place, as the program has it. -/
def cellsPl (p : Pl6) : Array Value := #[.int .i64 p.at_, .int .i64 p.dep, .int .i64 p.head, .int .i64 p.parts]
def encPl (p : Pl6) : Value := .agg (cellsPl p)
def Place6 (p : Pl6) (e : Nat) (w : World) (x : Ending) (w' : World) : Prop := (if e = 0 then x = .returned (encPl p) else x = boom e) ∧ Below w.heap.size w w'
theorem Place6.ok {p : Pl6} {w w' : World} (h : Below w.heap.size w w') : Place6 p 0 w (.returned (encPl p)) w' := ⟨by rw [if_pos rfl], h⟩
theorem Place6.bad {p : Pl6} {f : Nat} {w w' : World} (hf : f ≠ 0) (h : Below w.heap.size w w') : Place6 p f w (boom f) w' := ⟨by rw [if_neg hf], h⟩
theorem pl_info (p : Pl6) : (Tryd.prog.info? 56).map (·.size) = some (cellsPl p).size := by kernel_rfl
theorem pl_one (p : Pl6) : (cellsPl p).all (·.oneCell') = true := by simp [cellsPl, Value.oneCell']
theorem pl_info4 (x y z u : Int) : (Tryd.prog.info? 56).map (·.size) = some (#[Value.int .i64 x, .int .i64 y, .int .i64 z, .int .i64 u].size) := by kernel_rfl
theorem pl_one4 (x y z u : Int) : (#[Value.int .i64 x, .int .i64 y, .int .i64 z, .int .i64 u] : Array Value).all (·.oneCell') = true := by simp [Value.oneCell']
/-- The variable of a place, empty. -/
abbrev noPl : Array Value := #[.int .i64 0, .int .i64 0, .int .i64 0, .int .i64 0]

set_option maxHeartbeats 1000000 in
set_option maxRecDepth 100000 in
theorem placeat_deep (s : ByteArray) (a : Nat) (D : Nat) (hD : 16 < D) (hD2 : D ≤ 1000000) (p : Pl6) (w : World) :
    Calls Tryd.prog 68 #[.string s, .int .i64 a, .int .i64 D] w (Place6 p 60 w) := by
  have q : (16 : Int) < (D : Int) := by omega
  clear hD
  go_enter Tryd.func68, Tryd.ntmps68
  go_wp2_with fail
  exact ⟨rfl, Place6.bad (f := 60) (by decide) ((Below.refl _ _).alloc (Nat.le_refl _) _)⟩

/-- What storing the place leaves. -/
theorem pl_end (w V : World) (p : Pl6) (e : Nat) (he : e = 0) (N : V.heap[w.heap.size]? = some (.cells noPl 56 (0, 0))) (B : Below w.heap.size w V) (c : Array Value) (hc : c = cellsPl p) :
    (V.setRow w.heap.size c).heap[w.heap.size]? = some (.cells c 56 (0, 0)) ∧ (Tryd.prog.info? 56).map (·.size) = some c.size ∧ Place6 p e w (.returned (.agg c)) (V.setRow w.heap.size c) := by
  subst hc he
  exact ⟨setRow_heap _ _ _ _ _ _ N, pl_info p, Place6.ok (below_setRow B (Nat.le_refl _) _)⟩

set_option maxHeartbeats 4000000 in
set_option maxRecDepth 100000 in
theorem placeat_any (s : ByteArray) (a : Nat) (D : Nat) (hD : D ≤ 16) (ha : a ≤ s.size) (hs : s.size ≤ 281474976710656) (w : World) :
    Calls Tryd.prog 68 #[.string s, .int .i64 a, .int .i64 D] w (Place6 ⟨a, D, a + (headP ((bl s).drop a)).1, (headP ((bl s).drop a)).2.1⟩ (headP ((bl s).drop a)).2.2 w) := by
  have q : ¬ (16 : Int) < (D : Int) := by omega
  have N0 := Lib.hid (Go.heap_alloc_new w (.cells noPl 56))
  obtain ⟨z, hz⟩ : ∃ z, z = headP ((bl s).drop a) := ⟨_, rfl⟩
  rw [← hz]
  clear hD
  by_cases he : a = s.size
  · subst he
    rw [List.drop_of_length_le (by rw [bl_length]; exact Nat.le_refl _)] at hz
    have HZ := Lib.hid hz
    clear hz ha
    go_enter Tryd.func68, Tryd.ntmps68
    go_wp2_with fail
    exact ⟨rfl, HZ.out ▸ Place6.bad (f := 6) (by decide) ((Below.refl _ _).alloc (Nat.le_refl _) _)⟩
  · have q0 : ((a : Int) == (s.size : Int)) = false := by rw [beq_eq_false_iff_ne]; omega
    obtain ⟨b, hb⟩ : ∃ b : UInt8, b = (bl s).getD a 0 := ⟨_, rfl⟩
    have hc : (bl s).drop a = b :: (bl s).drop (a + 1) := by
      have hl : a < (bl s).length := by rw [bl_length]; omega
      rw [List.drop_eq_getElem_cons hl, hb]
      simp [List.getD_eq_getElem?_getD, hl]
    have hx : bl (s.extract (a + 1) s.size) = (bl s).drop (a + 1) := bl_from s (a + 1)
    have h1 : s.extract a (a + 1) = ⟨#[b]⟩ := bl_inj (by
      rw [bl_extract, show bl ⟨#[b]⟩ = [b] from rfl]
      rw [List.drop_take, hc]; simp)
    have sl1 : ∀ V : World, (Instr.sliceAt 9 (.string s) (some (.int .i64 (a : Int))) (some (.int .i64 ((a : Int) + 1))) none).run Tryd.prog V = .ok (.string ⟨#[b]⟩) V := fun V => by
      rw [← h1]; exact tslice_mid s a (a + 1) (by omega) (by omega) V
    have sl2 : ∀ V : World, (Instr.sliceAt 9 (.string s) (some (.int .i64 ((a : Int) + 1))) none none).run Tryd.prog V = .ok (.string (s.extract (a + 1) s.size)) V := tslice_from s (a + 1) (by omega)
    have HXS : Hid ((s.extract (a + 1) s.size).size ≤ 281474976710656) := Lib.hid (by rw [size_bl, hx, List.length_drop, bl_length]; omega)
    have hxl : (s.extract (a + 1) s.size).size + a + 1 = s.size := by rw [size_bl, hx, List.length_drop, bl_length]; omega
    rw [hc, ← hx] at hz
    clear hb hc hx h1
    generalize s.extract (a + 1) s.size = x at *
    have HT := Lib.hid (fun V => textsize_any x HXS.out V)
    have HN := Lib.hid (fun V => namesize_any x HXS.out V)
    have HR := Lib.hid (fun V => rowhead_any x HXS.out V)
    have HL := Lib.hid hxl
    simp only [headP] at hz
    have HB1 : Hid (Below w.heap.size w (w.alloc (.cells noPl 56))) := Lib.hid ((Below.refl _ _).alloc (Nat.le_refl _) _)
    by_cases e100 : b = 100
    · rw [if_pos e100] at hz
      subst e100
      have hsz := rdt_size (bl x) 1024
      have hT := HT.out
      have hq : (rdt (bl x) 1024).2.1 ≤ (bl x).length ∧ z = if (rdt (bl x) 1024).2.2 = 0 then (1 + (rdt (bl x) 1024).2.1, 0, 0) else (z.1, z.2.1, (rdt (bl x) 1024).2.2) := by
        refine ⟨hsz, ?_⟩
        rw [hz]
        split
        · rename_i h2; rw [h2]
        · rfl
      obtain ⟨r, hr⟩ : ∃ r : Nat × Nat, r = ((rdt (bl x) 1024).2.1, (rdt (bl x) 1024).2.2) := ⟨_, rfl⟩
      rw [← hr] at hT
      obtain ⟨k, f⟩ := r
      injection hr with hr1 hr2
      rw [← hr1, ← hr2] at hq
      obtain ⟨hk, hz2⟩ := hq
      replace hk : k ≤ 281474976710656 := by rw [bl_length] at hk; have := HXS.out; omega
      have HZ2 := Lib.hid hz2
      have HT2 := Lib.hid hT
      clear HT HN HR hT hz hsz hxl he hz2 hr1 hr2
      by_cases hf : f = 0
      · subst hf
        have HZ : Hid (z = (1 + k, 0, 0)) := Lib.hid (HZ2.out.trans (if_pos rfl))
        have HK := Lib.hid hk
        go_enter Tryd.func68, Tryd.ntmps68
        go_wp2_with fail
        refine (HT2.out _).mono ?_; rintro e w2 ⟨h2, b2⟩
        rw [if_pos rfl] at h2; subst h2
        have B2 := Lib.hid (HB1.out.trans (b2.mono HB1.out.size))
        have N2 := Lib.hid (heap_below b2 N0.out)
        clear b2
        go_wp2_with (refine wpList_store_row rfl 56 _ _ rfl w.heap.size #[.int .i64 (a : Int), .int .i64 (D : Int), .int .i64 ((a : Int) + 1 + (k : Int)), .int .i64 0] rfl rfl 56 noPl N2.out (pl_info4 _ _ _ _) rfl (pl_one4 _ _ _ _) ?_)
        obtain ⟨y1, y2, y3⟩ := pl_end w _ ⟨a, D, a + z.1, z.2.1⟩ z.2.2 (by rw [HZ.out]) N2.out B2.out #[.int .i64 (a : Int), .int .i64 (D : Int), .int .i64 ((a : Int) + 1 + (k : Int)), .int .i64 (0)] (by rw [HZ.out]; simp [cellsPl]; omega)
        refine bodyPost_ret (v := .agg _) ?_ rfl y3
        exact results_cell_row rfl _ _ w.heap.size 56 _ (0, 0) _ rfl y1 Tryd.underlying56 rfl y2
      · have HF := Lib.hid hf
        have HZ : Hid (z = (z.1, z.2.1, f)) := Lib.hid (HZ2.out.trans (if_neg hf))
        go_enter Tryd.func68, Tryd.ntmps68
        go_wp2_with fail
        refine (HT2.out _).mono ?_; rintro e w2 ⟨h2, b2⟩
        rw [if_neg HF.out] at h2; subst h2
        refine ⟨rfl, ?_⟩
        rw [HZ.out]
        exact Place6.bad HF.out (HB1.out.trans (b2.mono HB1.out.size))
    · rw [if_neg e100] at hz
      by_cases e97 : b = 97
      · rw [if_pos e97] at hz
        subst e97
        obtain ⟨n100, m100⟩ := str6_ne (a := ⟨#[97]⟩) (b := ⟨#[100]⟩) (by decide)
        have hsz := rdt_size (bl x) 32
        have hT := HN.out
        have hq : (nameP6 (bl x)).1 ≤ (bl x).length ∧ z = if (nameP6 (bl x)).2 = 0 then (1 + (nameP6 (bl x)).1, 0, 0) else (z.1, z.2.1, (nameP6 (bl x)).2) := by
          unfold nameP6
          split at hz
          · rename_i h; rw [if_pos h, hz]; exact ⟨Nat.zero_le _, rfl⟩
          · rename_i h; rw [if_neg h, hz]
            refine ⟨hsz, ?_⟩
            split
            · rename_i h2; simp only at h2; rw [h2]
            · rfl
        obtain ⟨r, hr⟩ : ∃ r : Nat × Nat, r = nameP6 (bl x) := ⟨_, rfl⟩
        rw [← hr] at hT
        rw [← hr] at hq
        obtain ⟨k, f⟩ := r
        obtain ⟨hk, hz2⟩ := hq
        replace hk : k ≤ 281474976710656 := by rw [bl_length] at hk; have := HXS.out; omega
        have HZ2 := Lib.hid hz2
        have HT2 := Lib.hid hT
        clear HT HN HR hT hz hsz hxl he hz2 hr
        by_cases hf : f = 0
        · subst hf
          have HZ : Hid (z = (1 + k, 0, 0)) := Lib.hid (HZ2.out.trans (if_pos rfl))
          have HK := Lib.hid hk
          go_enter Tryd.func68, Tryd.ntmps68
          go_wp2_with fail
          refine (HT2.out _).mono ?_; rintro e w2 ⟨h2, b2⟩
          rw [if_pos rfl] at h2; subst h2
          have B2 := Lib.hid (HB1.out.trans (b2.mono HB1.out.size))
          have N2 := Lib.hid (heap_below b2 N0.out)
          clear b2
          go_wp2_with (refine wpList_store_row rfl 56 _ _ rfl w.heap.size #[.int .i64 (a : Int), .int .i64 (D : Int), .int .i64 ((a : Int) + 1 + (k : Int)), .int .i64 0] rfl rfl 56 noPl N2.out (pl_info4 _ _ _ _) rfl (pl_one4 _ _ _ _) ?_)
          obtain ⟨y1, y2, y3⟩ := pl_end w _ ⟨a, D, a + z.1, z.2.1⟩ z.2.2 (by rw [HZ.out]) N2.out B2.out #[.int .i64 (a : Int), .int .i64 (D : Int), .int .i64 ((a : Int) + 1 + (k : Int)), .int .i64 (0)] (by rw [HZ.out]; simp [cellsPl]; omega)
          refine bodyPost_ret (v := .agg _) ?_ rfl y3
          exact results_cell_row rfl _ _ w.heap.size 56 _ (0, 0) _ rfl y1 Tryd.underlying56 rfl y2
        · have HF := Lib.hid hf
          have HZ : Hid (z = (z.1, z.2.1, f)) := Lib.hid (HZ2.out.trans (if_neg hf))
          go_enter Tryd.func68, Tryd.ntmps68
          go_wp2_with fail
          refine (HT2.out _).mono ?_; rintro e w2 ⟨h2, b2⟩
          rw [if_neg HF.out] at h2; subst h2
          refine ⟨rfl, ?_⟩
          rw [HZ.out]
          exact Place6.bad HF.out (HB1.out.trans (b2.mono HB1.out.size))
      · rw [if_neg e97] at hz
        by_cases e114 : b = 114
        · rw [if_pos e114] at hz
          subst e114
          obtain ⟨n100, m100⟩ := str6_ne (a := ⟨#[114]⟩) (b := ⟨#[100]⟩) (by decide)
          obtain ⟨n97, m97⟩ := str6_ne (a := ⟨#[114]⟩) (b := ⟨#[97]⟩) (by decide)
          have hsz : (rdn (bl x)).2.2 = 0 → (rdn (bl x)).2.1 ≤ (bl x).length := fun h => (rdn_sound (l := bl x) (v := (rdn (bl x)).1) (n := (rdn (bl x)).2.1) (by rw [← h])).2.1
          have hT := HR.out
          have hq : ((rowP6 (bl x)).2.2 = 0 → (rowP6 (bl x)).2.1 ≤ (bl x).length) ∧ ((rowP6 (bl x)).2.2 = 0 → (rowP6 (bl x)).1 ≤ 32) ∧ z = if (rowP6 (bl x)).2.2 = 0 then (1 + (rowP6 (bl x)).2.1, (rowP6 (bl x)).1, 0) else (z.1, z.2.1, (rowP6 (bl x)).2.2) := by
            unfold rowP6
            split at hz
            · rename_i h; rw [if_pos h, hz]; exact ⟨fun h => absurd h (by decide), fun h => absurd h (by decide), rfl⟩
            · rename_i h; rw [if_neg h, hz]
              refine ⟨hsz, fun h2 => ?_, ?_⟩
              · by_cases h3 : 32 < (rdn (bl x)).1
                · exact absurd ⟨h2, h3⟩ h
                · omega
              split
              · rename_i h2; rw [h2]
              · rfl
          obtain ⟨r, hr⟩ : ∃ r, r = rowP6 (bl x) := ⟨_, rfl⟩
          rw [← hr] at hT hq
          obtain ⟨v, k, f⟩ := r
          obtain ⟨hk, hv, hz2⟩ := hq
          have hx0 := HXS.out
          have HZ2 := Lib.hid hz2
          have HT2 := Lib.hid hT
          clear HT HN HR hT hz hsz hxl he hz2 hr
          by_cases hf : f = 0
          · subst hf
            replace hv : v ≤ 32 := hv rfl
            replace hk : k ≤ 281474976710656 := by have := hk rfl; rw [bl_length] at this; simp only at this; omega
            have HZ : Hid (z = (1 + k, v, 0)) := Lib.hid (HZ2.out.trans (if_pos rfl))
            have HK := Lib.hid hk
            go_enter Tryd.func68, Tryd.ntmps68
            go_wp2_with fail
            refine (HT2.out _).mono ?_; rintro e w2 ⟨h2, b2⟩
            rw [if_pos rfl] at h2; subst h2
            have B2 := Lib.hid (HB1.out.trans (b2.mono HB1.out.size))
            have N2 := Lib.hid (heap_below b2 N0.out)
            clear b2
            go_wp2_with (refine wpList_store_row rfl 56 _ _ rfl w.heap.size #[.int .i64 (a : Int), .int .i64 (D : Int), .int .i64 ((a : Int) + 1 + (k : Int)), .int .i64 (v : Int)] rfl rfl 56 noPl N2.out (pl_info4 _ _ _ _) rfl (pl_one4 _ _ _ _) ?_)
            obtain ⟨y1, y2, y3⟩ := pl_end w _ ⟨a, D, a + z.1, z.2.1⟩ z.2.2 (by rw [HZ.out]) N2.out B2.out #[.int .i64 (a : Int), .int .i64 (D : Int), .int .i64 ((a : Int) + 1 + (k : Int)), .int .i64 ((v : Int))] (by rw [HZ.out]; simp [cellsPl]; omega)
            refine bodyPost_ret (v := .agg _) ?_ rfl y3
            exact results_cell_row rfl _ _ w.heap.size 56 _ (0, 0) _ rfl y1 Tryd.underlying56 rfl y2
          · clear hv hk
            have HF := Lib.hid hf
            have HZ : Hid (z = (z.1, z.2.1, f)) := Lib.hid (HZ2.out.trans (if_neg hf))
            go_enter Tryd.func68, Tryd.ntmps68
            go_wp2_with fail
            refine (HT2.out _).mono ?_; rintro e w2 ⟨h2, b2⟩
            rw [if_neg HF.out] at h2; subst h2
            refine ⟨rfl, ?_⟩
            rw [HZ.out]
            exact Place6.bad HF.out (HB1.out.trans (b2.mono HB1.out.size))
        · rw [if_neg e114] at hz
          by_cases e104 : b = 104
          · rw [if_pos e104] at hz
            subst e104
            obtain ⟨n100, m100⟩ := str6_ne (a := ⟨#[104]⟩) (b := ⟨#[100]⟩) (by decide)
            obtain ⟨n97, m97⟩ := str6_ne (a := ⟨#[104]⟩) (b := ⟨#[97]⟩) (by decide)
            obtain ⟨n114, m114⟩ := str6_ne (a := ⟨#[104]⟩) (b := ⟨#[114]⟩) (by decide)
            clear HT HN HR hxl he
            have HZ : Hid (z = (1, 1, 0)) := Lib.hid hz
            clear hz
            have N2 := N0
            have B2 := HB1
            go_enter Tryd.func68, Tryd.ntmps68
            go_wp2_with (refine wpList_store_row rfl 56 _ _ rfl w.heap.size #[.int .i64 (a : Int), .int .i64 (D : Int), .int .i64 ((a : Int) + 1), .int .i64 1] rfl rfl 56 noPl N2.out (pl_info4 _ _ _ _) rfl (pl_one4 _ _ _ _) ?_)
            obtain ⟨y1, y2, y3⟩ := pl_end w _ ⟨a, D, a + z.1, z.2.1⟩ z.2.2 (by rw [HZ.out]) N2.out B2.out #[.int .i64 (a : Int), .int .i64 (D : Int), .int .i64 ((a : Int) + 1), .int .i64 (1)] (by rw [HZ.out]; simp [cellsPl])
            refine bodyPost_ret (v := .agg _) ?_ rfl y3
            exact results_cell_row rfl _ _ w.heap.size 56 _ (0, 0) _ rfl y1 Tryd.underlying56 rfl y2
          · rw [if_neg e104] at hz
            by_cases e109 : b = 109
            · rw [if_pos e109] at hz
              subst e109
              obtain ⟨n100, m100⟩ := str6_ne (a := ⟨#[109]⟩) (b := ⟨#[100]⟩) (by decide)
              obtain ⟨n97, m97⟩ := str6_ne (a := ⟨#[109]⟩) (b := ⟨#[97]⟩) (by decide)
              obtain ⟨n114, m114⟩ := str6_ne (a := ⟨#[109]⟩) (b := ⟨#[114]⟩) (by decide)
              obtain ⟨n104, m104⟩ := str6_ne (a := ⟨#[109]⟩) (b := ⟨#[104]⟩) (by decide)
              clear HT HN HR hxl he
              have HZ : Hid (z = (1, 2, 0)) := Lib.hid hz
              clear hz
              have N2 := N0
              have B2 := HB1
              go_enter Tryd.func68, Tryd.ntmps68
              go_wp2_with (refine wpList_store_row rfl 56 _ _ rfl w.heap.size #[.int .i64 (a : Int), .int .i64 (D : Int), .int .i64 ((a : Int) + 1), .int .i64 2] rfl rfl 56 noPl N2.out (pl_info4 _ _ _ _) rfl (pl_one4 _ _ _ _) ?_)
              obtain ⟨y1, y2, y3⟩ := pl_end w _ ⟨a, D, a + z.1, z.2.1⟩ z.2.2 (by rw [HZ.out]) N2.out B2.out #[.int .i64 (a : Int), .int .i64 (D : Int), .int .i64 ((a : Int) + 1), .int .i64 (2)] (by rw [HZ.out]; simp [cellsPl])
              refine bodyPost_ret (v := .agg _) ?_ rfl y3
              exact results_cell_row rfl _ _ w.heap.size 56 _ (0, 0) _ rfl y1 Tryd.underlying56 rfl y2
            · rw [if_neg e109] at hz
              by_cases e115 : b = 115
              · rw [if_pos e115] at hz
                subst e115
                obtain ⟨n100, m100⟩ := str6_ne (a := ⟨#[115]⟩) (b := ⟨#[100]⟩) (by decide)
                obtain ⟨n97, m97⟩ := str6_ne (a := ⟨#[115]⟩) (b := ⟨#[97]⟩) (by decide)
                obtain ⟨n114, m114⟩ := str6_ne (a := ⟨#[115]⟩) (b := ⟨#[114]⟩) (by decide)
                obtain ⟨n104, m104⟩ := str6_ne (a := ⟨#[115]⟩) (b := ⟨#[104]⟩) (by decide)
                obtain ⟨n109, m109⟩ := str6_ne (a := ⟨#[115]⟩) (b := ⟨#[109]⟩) (by decide)
                clear HT HN HR hxl he
                have HZ : Hid (z = (1, 3, 0)) := Lib.hid hz
                clear hz
                have N2 := N0
                have B2 := HB1
                go_enter Tryd.func68, Tryd.ntmps68
                go_wp2_with (refine wpList_store_row rfl 56 _ _ rfl w.heap.size #[.int .i64 (a : Int), .int .i64 (D : Int), .int .i64 ((a : Int) + 1), .int .i64 3] rfl rfl 56 noPl N2.out (pl_info4 _ _ _ _) rfl (pl_one4 _ _ _ _) ?_)
                obtain ⟨y1, y2, y3⟩ := pl_end w _ ⟨a, D, a + z.1, z.2.1⟩ z.2.2 (by rw [HZ.out]) N2.out B2.out #[.int .i64 (a : Int), .int .i64 (D : Int), .int .i64 ((a : Int) + 1), .int .i64 (3)] (by rw [HZ.out]; simp [cellsPl])
                refine bodyPost_ret (v := .agg _) ?_ rfl y3
                exact results_cell_row rfl _ _ w.heap.size 56 _ (0, 0) _ rfl y1 Tryd.underlying56 rfl y2
              · rw [if_neg e115] at hz
                obtain ⟨n100, m100⟩ := str6_ne (a := ⟨#[b]⟩) (b := ⟨#[100]⟩) (fun h => e100 (by injection h with h; simpa using h))
                obtain ⟨n97, m97⟩ := str6_ne (a := ⟨#[b]⟩) (b := ⟨#[97]⟩) (fun h => e97 (by injection h with h; simpa using h))
                obtain ⟨n114, m114⟩ := str6_ne (a := ⟨#[b]⟩) (b := ⟨#[114]⟩) (fun h => e114 (by injection h with h; simpa using h))
                obtain ⟨n104, m104⟩ := str6_ne (a := ⟨#[b]⟩) (b := ⟨#[104]⟩) (fun h => e104 (by injection h with h; simpa using h))
                obtain ⟨n109, m109⟩ := str6_ne (a := ⟨#[b]⟩) (b := ⟨#[109]⟩) (fun h => e109 (by injection h with h; simpa using h))
                obtain ⟨n115, m115⟩ := str6_ne (a := ⟨#[b]⟩) (b := ⟨#[115]⟩) (fun h => e115 (by injection h with h; simpa using h))
                have t100 : (⟨#[100]⟩ : ByteArray).toList = [100] := by rw [Lib.toList_data]
                rw [t100] at n100 m100
                have t97 : (⟨#[97]⟩ : ByteArray).toList = [97] := by rw [Lib.toList_data]
                rw [t97] at n97 m97
                have t114 : (⟨#[114]⟩ : ByteArray).toList = [114] := by rw [Lib.toList_data]
                rw [t114] at n114 m114
                have t104 : (⟨#[104]⟩ : ByteArray).toList = [104] := by rw [Lib.toList_data]
                rw [t104] at n104 m104
                have t109 : (⟨#[109]⟩ : ByteArray).toList = [109] := by rw [Lib.toList_data]
                rw [t109] at n109 m109
                have t115 : (⟨#[115]⟩ : ByteArray).toList = [115] := by rw [Lib.toList_data]
                rw [t115] at n115 m115
                generalize (⟨#[b]⟩ : ByteArray) = sb at *
                have HZ : Hid (z = (0, 0, 7)) := Lib.hid hz
                clear hz HT HN HR hxl he
                go_enter Tryd.func68, Tryd.ntmps68
                go_wp2_with fail
                exact ⟨rfl, HZ.out ▸ Place6.bad (f := 7) (by decide) HB1.out⟩
end Go.Proofs.YtiehhlolhhjgpaaDoor.Pl

namespace Go.Proofs.YtiehhlolhhjgpaaDoor.Pl
open Go.RowKit Go.Shelf
attribute [local go_sem] Oper.semAt_some

/-- What a round keeps: every block that is a place, and no block is gone. -/
def KeepP (W W' : World) : Prop := W.heap.size ≤ W'.heap.size ∧ ∀ (b : Nat) (cs : Array Value), W.heap[b]? = some (Obj.cells cs 56 (0, 0)) → W'.heap[b]? = some (Obj.cells cs 56 (0, 0))
theorem KeepP.refl (W : World) : KeepP W W := ⟨Nat.le_refl _, fun _ _ h => h⟩
theorem KeepP.trans {U V W : World} (h : KeepP U V) (k : KeepP V W) : KeepP U W := ⟨Nat.le_trans h.1 k.1, fun b cs e => k.2 b cs (h.2 b cs e)⟩
theorem KeepP.of_below {W W' : World} (h : Below W.heap.size W W') : KeepP W W' := ⟨h.size, fun b _ e => (h.block b (Array.getElem?_eq_some_iff.1 e).1).trans e⟩

theorem hdd (k : Nat) : Fence.wide.depth.isSome = true → 1 ≤ k := fun h => by cases h

def YP (J Jx : List Pl6 → World → Prop) (pre : List Pl6) (p : Pl6) (W : World) (e : Ending) (W' : World) : Prop :=
  (e = .returned (.bool true) ∧ J (pre ++ [p]) W' ∧ KeepP W W') ∨ (e = .returned (.bool false) ∧ Jx (pre ++ [p]) W' ∧ KeepP W W')
def VisPost (vs : List Pl6 × Nat × Nat) (J Jx : List Pl6 → World → Prop) (pre : List Pl6) (W : World) (e : Ending) (W' : World) : Prop :=
  (vs.2.2 = 0 ∧ e = .returned (.tuple #[.int .i64 vs.2.1, .bool true]) ∧ J (pre ++ vs.1) W' ∧ KeepP W W') ∨
  (∃ (z : Nat) (q : List Pl6), e = .returned (.tuple #[.int .i64 z, .bool false]) ∧ q <+: vs.1 ∧ Jx (pre ++ q) W' ∧ KeepP W W') ∨
  (vs.2.2 ≠ 0 ∧ e = boom vs.2.2 ∧ J (pre ++ vs.1) W')

set_option maxRecDepth 100000 in
set_option maxHeartbeats 4000000 in
theorem visit_in (s : ByteArray) (hs : s.size ≤ 281474976710656) (l : Nat) (L : List Pl6) (J Jx : List Pl6 → World → Prop)
    (hA : ∀ pre W W', J pre W → Below W.heap.size W W' → J pre W')
    (hY : ∀ m pre p W, J pre W → (pre ++ [p]) <+: L → YieldAt Fence.wide m Tryd.prog l #[encPl p] W (YP J Jx pre p W)) :
    ∀ (d D a : Nat) (pre : List Pl6) (n : Nat) (W : World), d + D = 17 → 1 ≤ D → a ≤ s.size → pre ++ (visP (bl s) d a).1 <+: L → J pre W →
      CallsIn Fence.wide n Tryd.prog 53 #[.string s, .int .i64 a, .int .i64 D, .func (.yield l) #[] #[]] W (VisPost (visP (bl s) d a) J Jx pre W) := by
  intro d
  induction d with
  | zero =>
    intro D a pre n W hD h1 ha hpre hJ
    obtain rfl : D = 17 := by omega
    have HP := Lib.hid (fun V => placeat_deep s a 17 (by decide) (by decide) ⟨0, 0, 0, 0⟩ V)
    have HJ := Lib.hid (fun V b => hA pre W V hJ b)
    clear hA hY hJ hpre
    refine callsIn_of_wp Tryd.func53 rfl trivial ?_ rfl
    simp only [Tryd.ntmps53, List.size_toArray, List.length_cons, List.length_nil, Nat.reduceAdd, Nat.reduceSub, Array.replicate_succ, Array.replicate_zero, List.push_toArray, List.append_toArray, List.nil_append, List.cons_append]
    gi_wp2_with (refine ⟨trivial, hdd _, ?_⟩; gi_at_call 68; refine (callsIn_wide.2 (HP.out _)).mono ?_; rintro e w1 ⟨h2, b1⟩; rw [if_neg (by decide)] at h2; subst h2)
    exact ⟨rfl, .inr (.inr ⟨by simp [visP], by simp [visP], by simpa [visP] using HJ.out _ b1⟩)⟩
  | succ d ih =>
    intro D a pre n W hD h1 ha hpre hJ
    have HP := Lib.hid (fun V => placeat_any s a D (by omega) ha hs V)
    by_cases hh : (headP ((bl s).drop a)).2.2 = 0
    · rw [visP, if_pos hh] at hpre ⊢
      have hl1 : (headP ((bl s).drop a)).1 + a ≤ s.size := by
        have := head_le hh
        rw [List.length_drop, bl_length] at this
        omega
      have hl2 : (headP ((bl s).drop a)).2.1 ≤ 32 := head_le32 hh
      rw [hh] at HP
      have hD2 : 16 - d = D := by omega
      rw [hD2] at hpre ⊢
      obtain ⟨e0, he0⟩ : ∃ e0, e0 = a + (headP ((bl s).drop a)).1 := ⟨_, rfl⟩
      obtain ⟨k, hk⟩ : ∃ k, k = (headP ((bl s).drop a)).2.1 := ⟨_, rfl⟩
      rw [← he0, ← hk] at HP hpre ⊢
      rw [← hk] at hl2
      have hle0 : e0 ≤ s.size := by omega
      clear hh he0 hk hl1 hD2
      have HQ : Hid (∀ V, Calls Tryd.prog 68 #[.string s, .int .i64 a, .int .i64 D] V fun e V' => e = .returned (.agg #[.int .i64 a, .int .i64 D, .int .i64 e0, .int .i64 k]) ∧ Below V.heap.size V V') := Lib.hid (fun V => (HP.out V).mono (fun e V' h => ⟨h.1.trans rfl, h.2⟩))
      replace hpre : pre ++ (⟨a, D, e0, k⟩ :: (visL (visP (bl s) d) k e0).1) <+: L := hpre
      have HY : Hid (∀ m w1, Below W.heap.size W w1 → YieldAt Fence.wide m Tryd.prog l #[.agg #[.int .i64 a, .int .i64 D, .int .i64 e0, .int .i64 k]] w1 (YP J Jx pre ⟨a, D, e0, k⟩ w1)) := Lib.hid (fun m w1 b => hY m pre ⟨a, D, e0, k⟩ w1 (hA pre W w1 hJ b) (List.IsPrefix.trans ⟨(visL (visP (bl s) d) k e0).1, by simp⟩ hpre))
      clear HP
      refine callsIn_of_wp Tryd.func53 rfl trivial ?_ rfl
      simp only [Tryd.ntmps53, List.size_toArray, List.length_cons, List.length_nil, Nat.reduceAdd, Nat.reduceSub, Array.replicate_succ, Array.replicate_zero, List.push_toArray, List.append_toArray, List.nil_append, List.cons_append]
      gi_wp2_with (refine ⟨trivial, hdd _, ?_⟩; gi_at_call 68; refine (callsIn_wide.2 (HQ.out _)).mono ?_; rintro e w1 ⟨rfl, b1⟩)
      have mixed : Tryd.prog.follows .mixedOrders = true := by kernel_rfl
      refine wpIn_region_any mixed ?_
      obtain ⟨U0, hU0⟩ : ∃ U0, ({ w1.alloc (.cells #[.int .i64 a, .int .i64 D, .int .i64 e0, .int .i64 k] 56) with drawn := (w1.alloc (.cells #[.int .i64 a, .int .i64 D, .int .i64 e0, .int .i64 k] 56)).drawn + 1 } : World) = U0 := ⟨_, rfl⟩
      rw [hU0]
      have hB0 : Below W.heap.size W U0 := by rw [← hU0]; exact (b1.alloc b1.size _).drew
      have hPc : U0.heap[w1.heap.size]? = some (.cells #[.int .i64 a, .int .i64 D, .int .i64 e0, .int .i64 k] 56 (0, 0)) := by rw [← hU0]; exact Go.heap_alloc_new w1 _
      obtain ⟨B, hB⟩ : ∃ B, B = w1.heap.size := ⟨_, rfl⟩
      rw [← hB] at hPc ⊢
      clear hU0 hB b1
      obtain ⟨fn, tm, asg, bod, hy, hR⟩ := HY.out (n - 1) U0 hB0
      have hPW : ∀ w', KeepP U0 w' → w'.heap[B]? = some (.cells #[.int .i64 a, .int .i64 D, .int .i64 e0, .int .i64 k] 56 (0, 0)) := fun w' h => h.2 B _ hPc
      refine wpAnyIn_inv (fun listed a' w' => ∃ q0 q1 q2 q3 q4 q5 q6 : Bool, ∃ x16 x17 x18 x19 x20 x8 x9 : Value, listed = #[q0, q1, q2, q3, q4, q5, q6] ∧ a' = { tmps := #[.string s, .int .i64 a, .int .i64 D, .func (.yield l) #[] #[], undef, undef, undef, undef, x8, x9, .pointer (some ⟨B, 0, none⟩), undef, .string s, .int .i64 a, .int .i64 D, .agg #[.int .i64 a, .int .i64 D, .int .i64 e0, .int .i64 k], x16, x17, x18, x19, x20, undef, undef, undef, undef, undef, undef, undef, undef, undef, undef, undef, undef, undef, undef, undef, undef, undef, undef, undef, undef], defers := [] } ∧
        ((q0 = true → x16 = .pointer (some ⟨B, 2, none⟩)) ∧ (q1 = true → x17 = .int .i64 e0) ∧ (q2 = true → x18 = .func (.yield l) #[] #[]) ∧ (q3 = true → x19 = .agg #[.int .i64 a, .int .i64 D, .int .i64 e0, .int .i64 k]) ∧ (q5 = true → x8 = .int .i64 e0) ∧ (q6 = true → x9 = x20)) ∧
        (q4 = false → w' = U0) ∧ (q4 = true → YP J Jx pre ⟨a, D, e0, k⟩ U0 (.returned x20) w') ∧ (q6 = true → q4 = true)) ?_ ?_ _ _ _ _ (by decide) ?_
      · intro listed a' w' i hI hi
        obtain ⟨q0, q1, q2, q3, q4, q5, q6, x16, x17, x18, x19, x20, x8, x9, rfl, rfl, ⟨h0, h1, h2, h3, h5, h6⟩, c1, c2, c3⟩ := hI
        have hun := (mem_ready.1 hi).1
        have hpl : w'.heap[B]? = some (.cells #[.int .i64 a, .int .i64 D, .int .i64 e0, .int .i64 k] 56 (0, 0)) := by
          cases q4 with
          | false => rw [c1 rfl]; exact hPc
          | true => rcases c2 rfl with ⟨_, _, hk⟩ | ⟨_, _, hk⟩ <;> exact hPW _ hk
        rcases i with _ | _ | _ | _ | _ | _ | _ | i
        · refine wpOpIn_want rfl rfl (fun K hK => ?_)
          have H := Lib.hid (And.intro h1 (And.intro h2 (And.intro h3 (And.intro h5 (And.intro h6 (And.intro c1 (And.intro c2 c3)))))))
          clear h0 h1 h2 h3 h5 h6 c1 c2 c3 hpl
          go_simp
          obtain ⟨h1, h2, h3, h5, h6, c1, c2, c3⟩ := H.out
          exact hK _ _ ⟨true, q1, q2, q3, q4, q5, q6, _, x17, x18, x19, x20, x8, x9, rfl, rfl, ⟨fun _ => rfl, h1, h2, h3, h5, h6⟩, c1, c2, c3⟩
        · have d0 : q0 = true := dep hi rfl ⟨0, .data⟩ (by simp) rfl
          obtain rfl := (h0 d0).symm
          have hc : w'.cell? ⟨B, 2, none⟩ = some (.int .i64 e0) := cell_of_row _ _ _ _ _ _ hpl
          refine wpOpIn_want rfl rfl (fun K hK => ?_)
          have H := Lib.hid (And.intro h0 (And.intro h2 (And.intro h3 (And.intro h5 (And.intro h6 (And.intro c1 (And.intro c2 c3)))))))
          clear h0 h1 h2 h3 h5 h6 c1 c2 c3 hpl
          go_simp
          obtain ⟨h0, h2, h3, h5, h6, c1, c2, c3⟩ := H.out
          exact hK _ _ ⟨q0, true, q2, q3, q4, q5, q6, _, _, x18, x19, x20, x8, x9, rfl, rfl, ⟨h0, fun _ => rfl, h2, h3, h5, h6⟩, c1, c2, c3⟩
        · refine wpOpIn_want rfl rfl (fun K hK => ?_)
          have H := Lib.hid (And.intro h0 (And.intro h1 (And.intro h3 (And.intro h5 (And.intro h6 (And.intro c1 (And.intro c2 c3)))))))
          clear h0 h1 h2 h3 h5 h6 c1 c2 c3 hpl
          go_simp
          obtain ⟨h0, h1, h3, h5, h6, c1, c2, c3⟩ := H.out
          exact hK _ _ ⟨q0, q1, true, q3, q4, q5, q6, x16, x17, _, x19, x20, x8, x9, rfl, rfl, ⟨h0, h1, fun _ => rfl, h3, h5, h6⟩, c1, c2, c3⟩
        · refine wpOpIn_want rfl rfl (fun K hK => ?_)
          have H := Lib.hid (And.intro h0 (And.intro h1 (And.intro h2 (And.intro h5 (And.intro h6 (And.intro c1 (And.intro c2 c3)))))))
          have HPL := Lib.hid hpl
          have hl0 : w'.cell? ⟨B, 0, none⟩ = some (.int .i64 a) := cell_of_row _ _ _ _ _ _ hpl
          have hl1 : w'.cell? ⟨B, 1, none⟩ = some (.int .i64 D) := cell_of_row _ _ _ _ _ _ hpl
          have hl2 : w'.cell? ⟨B, 2, none⟩ = some (.int .i64 e0) := cell_of_row _ _ _ _ _ _ hpl
          have hl3 : w'.cell? ⟨B, 3, none⟩ = some (.int .i64 k) := cell_of_row _ _ _ _ _ _ hpl
          clear h0 h1 h2 h3 h5 h6 c1 c2 c3 hpl
          go_simp
          obtain ⟨h0, h1, h2, h5, h6, c1, c2, c3⟩ := H.out
          exact hK _ _ ⟨q0, q1, q2, true, q4, q5, q6, x16, x17, x18, _, x20, x8, x9, rfl, rfl, ⟨h0, h1, h2, fun _ => rfl, h5, h6⟩, c1, c2, c3⟩
        · have e4 : q4 = false := hun
          have d2 : q2 = true := dep hi rfl ⟨2, .data⟩ (by simp) rfl
          have d3 : q3 = true := dep hi rfl ⟨3, .data⟩ (by simp) rfl
          have f6 : q6 = false := by cases q6 with | false => rfl | true => exact absurd (c3 rfl) (by simp [e4])
          obtain rfl := (h2 d2).symm
          obtain rfl := (h3 d3).symm
          obtain rfl := (c1 e4).symm
          subst f6
          refine wpOpIn_want rfl rfl (fun K hK => ?_)
          have H := Lib.hid (And.intro h0 (And.intro h1 (And.intro h2 (And.intro h3 h5))))
          clear h0 h1 h2 h3 h5 h6 c1 c2 c3 hpl
          go_simp
          refine ⟨hdd _, hR.mono ?_⟩
          rintro e W3 hyp
          obtain ⟨v, rfl⟩ : ∃ v, e = .returned v := by rcases hyp with ⟨rfl, _⟩ | ⟨rfl, _⟩ <;> exact ⟨_, rfl⟩
          obtain ⟨h0, h1, h2, h3, h5⟩ := H.out
          exact hK _ _ ⟨q0, q1, q2, q3, true, q5, false, x16, x17, _, _, v, x8, x9, rfl, rfl, ⟨h0, h1, h2, h3, h5, fun h => by cases h⟩, fun h => (by cases h), fun _ => hyp, fun h => (by cases h)⟩
        · have d1 : q1 = true := dep hi rfl ⟨1, .data⟩ (by simp) rfl
          obtain rfl := (h1 d1).symm
          refine wpOpIn_want rfl rfl (fun K hK => ?_)
          have H := Lib.hid (And.intro h0 (And.intro h1 (And.intro h2 (And.intro h3 (And.intro h6 (And.intro c1 (And.intro c2 c3)))))))
          clear h0 h1 h2 h3 h5 h6 c1 c2 c3 hpl
          go_simp
          obtain ⟨h0, h1, h2, h3, h6, c1, c2, c3⟩ := H.out
          exact hK _ _ ⟨q0, q1, q2, q3, q4, true, q6, x16, _, x18, x19, x20, _, x9, rfl, rfl, ⟨h0, h1, h2, h3, fun _ => rfl, h6⟩, c1, c2, c3⟩
        · have d4 : q4 = true := dep hi rfl ⟨4, .data⟩ (by simp) rfl
          refine wpOpIn_want rfl rfl (fun K hK => ?_)
          have H := Lib.hid (And.intro h0 (And.intro h1 (And.intro h2 (And.intro h3 (And.intro h5 (And.intro c1 c2))))))
          clear h0 h1 h2 h3 h5 h6 c1 c2 c3 hpl
          go_simp
          obtain ⟨h0, h1, h2, h3, h5, c1, c2⟩ := H.out
          exact hK _ _ ⟨q0, q1, q2, q3, q4, q5, true, x16, x17, x18, x19, x20, x8, _, rfl, rfl, ⟨h0, h1, h2, h3, h5, fun _ => rfl⟩, c1, c2, fun _ => d4⟩
        · exact absurd (mem_ready.1 hi).2 (by rintro ⟨o, ho, _⟩; simp at ho)
      · rintro listed a' w' ⟨q0, q1, q2, q3, q4, q5, q6, x16, x17, x18, x19, x20, x8, x9, rfl, rfl, ⟨h0, h1, h2, h3, h5, h6⟩, c1, c2, c3⟩ hr
        have hall := fun i (hi : i < 7) => all_listed (by kernel_rfl) rfl hr 7 i hi hi
        have e0' : q0 = true := hall 0 (by decide)
        have e1' : q1 = true := hall 1 (by decide)
        have e2' : q2 = true := hall 2 (by decide)
        have e3' : q3 = true := hall 3 (by decide)
        have e4' : q4 = true := hall 4 (by decide)
        have e5' : q5 = true := hall 5 (by decide)
        have e6' : q6 = true := hall 6 (by decide)
        obtain rfl := (h0 e0').symm
        obtain rfl := (h1 e1').symm
        obtain rfl := (h2 e2').symm
        obtain rfl := (h3 e3').symm
        obtain rfl := (h5 e5').symm
        obtain rfl := (h6 e6').symm
        have hyp := c2 e4'
        clear hall hr h0 h1 h2 h3 h5 h6 c1 c2 c3 e0' e1' e2' e3' e4' e5' e6' hy hR
        dsimp only
        have hst : ∃ m : Bool, x20 = .bool m ∧ KeepP U0 w' ∧ (m = true → J (pre ++ [⟨a, D, e0, k⟩]) w') ∧ (m = false → Jx (pre ++ [⟨a, D, e0, k⟩]) w') := by
          rcases hyp with ⟨he, hj, hk⟩ | ⟨he, hj, hk⟩
          · cases he; exact ⟨true, rfl, hk, fun _ => hj, fun h => (by cases h)⟩
          · cases he; exact ⟨false, rfl, hk, fun h => (by cases h), fun _ => hj⟩
        obtain ⟨m0, rfl, hk0, hj0, hx0⟩ := hst
        obtain ⟨VL, hVL⟩ : ∃ VL, VL = visL (visP (bl s) d) k e0 := ⟨_, rfl⟩
        have HPRE := Lib.hid hpre
        have HVL := Lib.hid hVL
        have HJ0 := Lib.hid hj0
        have HX0 := Lib.hid hx0
        have HK0 := Lib.hid hk0
        have HIH := Lib.hid ih
        have HL2 := Lib.hid hl2
        have HLE := Lib.hid hle0
        rw [← hVL] at HPRE ⊢
        have HPW := Lib.hid hPW
        have HBU : Hid (KeepP W U0) := Lib.hid (KeepP.of_below hB0)
        have HD := Lib.hid hD
        clear hA hY HY hyp hPW hpre hVL hj0 hx0 hk0 ih hJ HQ hl2 hle0 hPc hB0 mixed
        gi_wp2
        gi_loopw [8, 9, 11] (fun ev mv iv wr => ∃ (E I : Nat) (m : Bool), ev = .int .i64 E ∧ mv = .bool m ∧ iv = .int .i64 I ∧ I ≤ k ∧ Hid (KeepP U0 wr) ∧
            Hid (m = true → E ≤ s.size ∧ ∃ dn, VL = (dn ++ (visL (visP (bl s) d) (k - I) E).1, (visL (visP (bl s) d) (k - I) E).2) ∧ J (pre ++ ⟨a, D, e0, k⟩ :: dn) wr) ∧
            Hid (m = false → ∃ q, q <+: ⟨a, D, e0, k⟩ :: VL.1 ∧ Jx (pre ++ q) wr))
          (fun _ _ iv _ => k + 1 - (intOf iv).toNat)
        case atStart =>
          refine ⟨e0, 0, m0, rfl, rfl, rfl, Nat.zero_le _, HK0, Lib.hid (fun h => ⟨HLE.out, [], by rw [HVL.out]; rfl, HJ0.out h⟩), Lib.hid (fun h => ⟨[⟨a, D, e0, k⟩], ⟨VL.1, rfl⟩, HX0.out h⟩)⟩
        case round =>
          obtain ⟨E, I, m, rfl, rfl, rfl, hIk, hkp, hgo, hno⟩ := hrel
          cases m with
          | false =>
            gi_wp2
            go_ret2
            obtain ⟨q, hq, hx⟩ := hno.out (by first | rfl | trivial)
            rw [← HVL.out]
            exact .inr (.inl ⟨E, q, rfl, hq, hx, HBU.out.trans hkp.out⟩)
          | true =>
            have hpl := HPW.out wr hkp.out
            have hc3 : wr.cell? ⟨B, 3, none⟩ = some (.int .i64 k) := cell_of_row _ _ _ _ _ _ hpl
            clear hpl
            by_cases hik : I = k
            · have hq : ¬ (I : Int) < (k : Int) := by omega
              have HIK := Lib.hid hik
              clear hik hIk
              gi_wp2
              go_ret2
              obtain ⟨_, dn, hv, hj⟩ := hgo.out (by first | rfl | trivial)
              rw [HIK.out, Nat.sub_self] at hv
              have hv' : VL = (dn, E, 0) := by rw [hv]; simp [visL]
              rw [← HVL.out, hv']
              exact .inl ⟨rfl, rfl, hj, HBU.out.trans hkp.out⟩
            · have hq : (I : Int) < (k : Int) := by omega
              obtain ⟨hE, dn, hv, hj⟩ := hgo.out (by first | rfl | trivial)
              obtain ⟨r, hr⟩ : ∃ r, k - I = r + 1 := ⟨k - I - 1, by omega⟩
              have hr' : k - (I + 1) = r := by omega
              rw [hr, visL] at hv
              have hpx : pre ++ ⟨a, D, e0, k⟩ :: dn ++ (visP (bl s) d E).1 <+: L := by
                refine List.IsPrefix.trans ?_ HPRE.out
                rw [hv]
                split
                · exact ⟨(visL (visP (bl s) d) r (visP (bl s) d E).2.1).1, by simp⟩
                · exact ⟨[], by simp⟩
              have HC := Lib.hid (HIH.out (D + 1) E (pre ++ ⟨a, D, e0, k⟩ :: dn) (n - 1) wr (by have := HD.out; omega) (by omega) hE hpx hj)
              have hok := (vis_ok (bl s) d E (by omega) (by rw [bl_length]; exact hE)).2
              rw [bl_length] at hok
              have HOK := Lib.hid hok
              have HV := Lib.hid hv
              have HR := Lib.hid hr'
              have HEB := Lib.hid hE
              have hb1 : (I : Int) ≤ 32 := by have := HL2.out; omega
              have hb2 : (D : Int) ≤ 17 := by have := HD.out; omega
              have HI : Hid (I + 1 ≤ k) := Lib.hid (by omega)
              clear hik hIk hE hv hj hr hr' hpx hok h1 ha hD
              generalize visP (bl s) d E = vs at *
              obtain ⟨vl, ve, vf⟩ := vs
              gi_wp2_with (refine ⟨trivial, hdd _, ?_⟩; gi_at_call 53; refine HC.out.mono ?_; rintro e W3 (⟨hz, rfl, hj3, hk3⟩ | ⟨z, q, rfl, hq3, hx3, hk3⟩ | ⟨hz, rfl, hj3⟩))
              · go_roundw
                case rel =>
                  refine ⟨ve, I + 1, true, rfl, rfl, rfl, HI.out, Lib.hid (hkp.out.trans hk3), Lib.hid (fun _ => ⟨HOK.out hz, dn ++ vl, ?_, ?_⟩), Lib.hid (fun h => by cases h)⟩
                  · have h := HV.out
                    rw [if_pos hz] at h
                    rw [HR.out, h]; simp
                  · simpa using hj3
                case measure => have := HI.out; simp [intOf]; omega
              · go_roundw
                case rel =>
                  refine ⟨z, I + 1, false, rfl, rfl, rfl, HI.out, Lib.hid (hkp.out.trans hk3), Lib.hid (fun h => by cases h), Lib.hid (fun _ => ⟨⟨a, D, e0, k⟩ :: dn ++ q, ?_, ?_⟩)⟩
                  · obtain ⟨t, ht⟩ := hq3
                    have h := HV.out
                    split at h
                    · rw [h]; exact ⟨t ++ (visL (visP (bl s) d) r ve).1, by simp [← ht]⟩
                    · rw [h]; exact ⟨t, by simp [← ht]⟩
                  · simpa using hx3
                case measure => have := HI.out; simp [intOf]; omega
              · refine ⟨rfl, .inr (.inr ?_)⟩
                have h := HV.out
                rw [if_neg hz] at h
                rw [← HVL.out, h]
                exact ⟨hz, rfl, by simpa using hj3⟩
      · exact ⟨false, false, false, false, false, false, false, undef, undef, undef, undef, undef, .int .i64 0, .bool false, rfl, rfl, by simp, by simp, by simp, by simp⟩
    · have HH := Lib.hid hh
      have HJ := Lib.hid (fun V b => hA pre W V hJ b)
      have HV : Hid (visP (bl s) (d + 1) a = ([], 0, (headP ((bl s).drop a)).2.2)) := Lib.hid (by rw [visP, if_neg hh])
      rw [HV.out]
      clear hA hY hJ hpre ih hh
      refine callsIn_of_wp Tryd.func53 rfl trivial ?_ rfl
      simp only [Tryd.ntmps53, List.size_toArray, List.length_cons, List.length_nil, Nat.reduceAdd, Nat.reduceSub, Array.replicate_succ, Array.replicate_zero, List.push_toArray, List.append_toArray, List.nil_append, List.cons_append]
      gi_wp2_with (refine ⟨trivial, hdd _, ?_⟩; gi_at_call 68; refine (callsIn_wide.2 (HP.out _)).mono ?_; rintro e w1 ⟨h2, b1⟩; rw [if_neg HH.out] at h2; subst h2)
      exact ⟨rfl, .inr (.inr ⟨HH.out, rfl, by simpa using HJ.out _ b1⟩)⟩
end Go.Proofs.YtiehhlolhhjgpaaDoor.Pl

namespace Go.Proofs.YtiehhlolhhjgpaaDoor.Pl
open Go.RowKit Go.Shelf
attribute [local go_sem] Oper.semAt_some

theorem KeepP.putObj {W : World} {l : Nat} {o : Obj} (h : W.heap[l]? = some o) (ho : o.isCells = false) (o' : Obj) : KeepP W (W.putObj l o') :=
  ⟨by simp, fun b cs hb => (World.putObj_heap_other (fun e => by subst e; rw [h] at hb; cases hb; cases ho)).trans hb⟩
theorem KeepP.alloc (W : World) (o : Obj) : KeepP W (W.alloc o) := KeepP.of_below ((Below.refl _ W).alloc (Nat.le_refl _) _)

/-- The places of a whole text. -/
def vis (s : ByteArray) : List Pl6 × Nat × Nat := visP (bl s) 16 0

/-- How going over the places ends. -/
def WalkPost (s : ByteArray) (J Jx : List Pl6 → World → Prop) (e : Ending) (W' : World) : Prop :=
  ((vis s).2.2 = 0 ∧ (∃ v, e = .returned v) ∧ J (vis s).1 W') ∨ (∃ q, (∃ v, e = .returned v) ∧ q <+: (vis s).1 ∧ Jx q W') ∨ ((vis s).2.2 ≠ 0 ∧ e = boom (vis s).2.2 ∧ J (vis s).1 W')

set_option maxRecDepth 100000 in
set_option maxHeartbeats 1000000 in
theorem places1_in (s : ByteArray) (hs : s.size ≤ 281474976710656) (l B n : Nat) (J Jx : List Pl6 → World → Prop)
    (hA : ∀ pre W W', J pre W → Below W.heap.size W W' → J pre W')
    (hY : ∀ m pre p W, J pre W → (pre ++ [p]) <+: (vis s).1 → YieldAt Fence.wide m Tryd.prog l #[encPl p] W (YP J Jx pre p W))
    (W : World) (hB : W.cell? ⟨B, 0, none⟩ = some (.string s)) (h0 : J [] W) :
    CallsIn Fence.wide n Tryd.prog 52 #[.func (.yield l) #[] #[], .pointer (some ⟨B, 0, none⟩)] W (WalkPost s J Jx) := by
  have HV := Lib.hid (fun m => visit_in s hs l (vis s).1 J Jx hA hY 16 1 0 [] m W rfl (Nat.le_refl _) (Nat.zero_le _) (List.prefix_refl _) h0)
  clear hA hY h0
  refine callsIn_of_wp Tryd.func52 rfl trivial ?_ rfl
  simp only [Tryd.ntmps52, List.size_toArray, List.length_cons, List.length_nil, Nat.reduceAdd, Nat.reduceSub, Array.replicate_succ, Array.replicate_zero, List.push_toArray, List.append_toArray, List.nil_append, List.cons_append]
  gi_wp2_with (refine ⟨trivial, hdd _, ?_⟩; gi_at_call 53; refine (HV.out _).mono ?_; rintro e W3 (⟨hz, rfl, hj3, hk3⟩ | ⟨z, q, rfl, hq3, hx3, hk3⟩ | ⟨hz, rfl, hj3⟩))
  · go_end0
    exact .inl ⟨hz, ⟨_, rfl⟩, hj3⟩
  · go_end0
    exact .inr (.inl ⟨q, ⟨_, rfl⟩, hq3, hx3⟩)
  · exact ⟨rfl, .inr (.inr ⟨hz, rfl, hj3⟩)⟩

theorem places_in (s : ByteArray) (w : World) :
    Calls Tryd.prog 31 #[.string s] w fun e w' => e = .returned (.func (.func 52) #[] #[.pointer (some ⟨w.heap.size, 0, none⟩)]) ∧
      w.alloc (.cells #[.string s] 9) = w' := by
  go_enter Tryd.func31, Tryd.ntmps31
  go_wp2
  go_ret
  exact ⟨rfl, rfl⟩

/-- How the body of a round may be left. -/
def PlPost (B : Nat) (I : List Pl6 → World → Prop) (Ix : Code → List Pl6 → World → Prop) (xs : List Pl6) (W : World) : Exit → Act → World → Prop
  | .normal, _, W' => KeepsFrom B W W' ∧ KeepP W W' ∧ I xs W'
  | .ret, _, W' => KeepsFrom B W W' ∧ KeepP W W' ∧ Ix .ret xs W'
  | .exit id, _, W' => KeepsFrom B W W' ∧ KeepP W W' ∧ Ix (.exit id) xs W'
  | .goto t, _, W' => KeepsFrom B W W' ∧ KeepP W W' ∧ Ix (.goto t) xs W'
  | .panic _, _, _ => False
  | .outgrown, _, _ => False

/-- The mark that a loop leaves among the deferred calls. -/
abbrev markOf (D : Nat) : Deferred := { target := .collected D, args := #[] }

theorem wpIn_places {g : Operand} {p : Tmp} {assign body : Code} {Q : Exit → Act → World → Prop} {a : Act} {w : World} {n : Nat}
    (s : ByteArray) (hs : s.size ≤ 281474976710656) (B : Nat) (hB : Boxed w B 9 (.string s)) (hg : a.eval g = .func (.func 52) #[] #[.pointer (some ⟨B, 0, none⟩)])
    (I : List Pl6 → World → Prop) (Ix : Code → List Pl6 → World → Prop) (hI : OwnFrom w.heap.size I) (hIx : ∀ c, OwnFrom w.heap.size (Ix c)) (h0 : I [] w)
    (Ax : Pl6 → Act → World → Prop) (hAx : ∀ x a', OwnFrom w.heap.size (fun (_ : Unit) W => Ax x a' W))
    (hassign : ∀ (m l : Nat) (pre : List Pl6) (x : Pl6) (W : World) (K : Act → World → Prop), I pre W → (∀ a' W', KeepsFrom w.heap.size W W' → KeepP W W' → I pre W' → Ax x a' W' → K a' W') →
      assign.wpIn (Fence.wide.inRound l) m Tryd.prog (Exit.then K (fun _ _ _ => False)) { tmps := a.tmps.setIfInBounds p (encPl x), defers := [] } W)
    (hbody : ∀ (m l : Nat) (pre : List Pl6) (x : Pl6) (a' : Act) (W : World), w.heap.size ≤ l → I pre W → Ax x a' W → pre ++ [x] <+: (vis s).1 →
      body.wpIn (Fence.wide.inRound l) m Tryd.prog (PlPost w.heap.size I Ix (pre ++ [x]) W) a' W)
    (hdone : ∀ (D : Nat) (W : World), w.heap.size ≤ D → (vis s).2.2 = 0 → I (vis s).1 W → W.heap[D]? = some (.deferred (some [])) → Q .normal { a with defers := markOf D :: a.defers } W)
    (hstop : ∀ (D : Nat) (c : Code) (pre : List Pl6) (W : World), w.heap.size ≤ D → pre <+: (vis s).1 → Ix c pre W → W.heap[D]? = some (.deferred (some [])) → c.wpIn Fence.wide n Tryd.prog Q { a with defers := markOf D :: a.defers } W)
    (hthrow : ∀ (D : Nat) (W : World), w.heap.size ≤ D → (vis s).2.2 ≠ 0 → I (vis s).1 W → W.heap[D]? = some (.deferred (some [])) →
      Q (.panic [{ v := .iface 24 (.int .i64 (vis s).2.2), recovered := false }]) { a with defers := markOf D :: a.defers } W) :
    (Code.rangeFunc g #[p] assign body).wpIn Fence.wide n Tryd.prog Q a w := by
  refine wpIn_rangeFunc fun fn hfn => ?_
  obtain ⟨B0, hB0⟩ : ∃ B0, B0 = w.heap.size := ⟨_, rfl⟩
  obtain ⟨rec, hrec⟩ : ∃ rec : LoopState → Option Code → Loop, rec = fun st pe => { state := st, pending := pe, fn := fn, tmps := a.tmps, params := #[p], assign := assign, body := body, defers := w.heap.size } := ⟨_, rfl⟩
  obtain ⟨V, hV⟩ : ∃ V, V = (w.alloc (.deferred (some []))).alloc (.loop (rec .ready none)) := ⟨_, rfl⟩
  have vB : Below w.heap.size w V := by rw [hV]; exact ((Below.refl _ w).alloc (Nat.le_refl _) _).alloc (by simp) _
  have vL : V.heap[w.heap.size + 1]? = some (.loop (rec .ready none)) := by
    have h := World.alloc_heap_new (w.alloc (.deferred (some []))) (.loop (rec .ready none))
    rw [World.size_alloc] at h
    rw [hV]; exact h
  have vD : V.heap[w.heap.size]? = some (.deferred (some [])) := by
    rw [hV]; exact (Below.heap_alloc _ _ _ (by simp)).trans (World.alloc_heap_new w _)
  have vI : I [] V := by rw [hV]; exact hI.alloc _ (hI.alloc _ h0)
  have vC : V.cell? ⟨B, 0, none⟩ = some (.string s) := (vB.cell (p := ⟨B, 0, none⟩) hB.lt).trans hB.cell
  -- the two blocks of the loop, behind whatever a round has done
  obtain ⟨Bk, hBk⟩ : ∃ Bk : Loop → World → Prop, Bk = fun r W => W.heap[w.heap.size + 1]? = some (.loop r) ∧ W.heap[w.heap.size]? = some (.deferred (some [])) := ⟨_, rfl⟩
  have bkV : Bk (rec .ready none) V := by rw [hBk]; exact ⟨vL, vD⟩
  have bkBelow : ∀ r W W', Bk r W → Below W.heap.size W W' → Bk r W' := fun r W W' h b => by
    rw [hBk] at h ⊢; exact ⟨heap_below b h.1, heap_below b h.2⟩
  have bkKeep : ∀ r W W', Bk r W → KeepsFrom w.heap.size W W' → Bk r W' := fun r W W' h k => by
    rw [hBk] at h ⊢; exact ⟨k.same _ _ (Nat.le_succ _) h.1 rfl, k.same _ _ (Nat.le_refl _) h.2 rfl⟩
  have bkPut : ∀ r r' W, Bk r W → Bk r' (W.putObj (w.heap.size + 1) (.loop r')) := fun r r' W h => by
    rw [hBk] at h ⊢; exact ⟨World.putObj_heap_same (Array.getElem?_eq_some_iff.1 h.1).1, (World.putObj_heap_other (by omega)).trans h.2⟩
  have bkL : ∀ r W, Bk r W → W.heap[w.heap.size + 1]? = some (.loop r) := fun r W h => by rw [hBk] at h; exact h.1
  have bkD : ∀ r W, Bk r W → W.heap[w.heap.size]? = some (.deferred (some [])) := fun r W h => by rw [hBk] at h; exact h.2
  clear hBk vL vD
  have grow : ∀ {W W' : World}, Below W.heap.size W W' → W.grownBy W' none := fun b => ⟨b.os, b.tape, b.output, b.size, fun k hk _ => b.block k hk⟩
  refine ⟨w.heap.size + 1, [markOf w.heap.size], V, { target := .fn (.func 52) #[.pointer (some ⟨B, 0, none⟩)], args := #[.func (.yield (w.heap.size + 1)) #[] #[]] }, V, 52,
    #[.func (.yield (w.heap.size + 1)) #[] #[]] ++ #[.pointer (some ⟨B, 0, none⟩)], V, ?_, ?_, ?_, ?_, hdd _, ?_⟩
  · rw [hV, hrec]; exact run_enterLoop_outer _ _ _ _ _
  · simp only [resolve, hg]; simp [go_sem]
  · intro f' _; exact trivial
  · simp [invoke, go_sem]
  · refine CallsIn.mono (places1_in s hs (w.heap.size + 1) B (n - 1) (fun pre W => I pre W ∧ Bk (rec .ready none) W) (fun pre W => ∃ c, Ix c pre W ∧ Bk (rec .done (some c)) W) ?_ ?_ V vC ⟨vI, bkV⟩) ?_
    · exact fun pre W W' h b => ⟨hI pre W W' none h.1 (grow b) (fun r e => by cases e), bkBelow _ _ _ h.2 b⟩
    · rintro m pre x W ⟨hi, hbk⟩ hpre
      have hy := run_yield (P := Tryd.prog) (args := #[encPl x]) (bkL _ _ hbk) (by rw [hrec]; rfl)
      have hy2 : (Instr.yield (w.heap.size + 1) #[encPl x]).run Tryd.prog W = .ok (.round (w.heap.size + 1) fn (a.tmps.setIfInBounds p (encPl x)) assign body) W := by rw [hy, hrec]; simp
      refine ⟨fn, _, assign, body, hy2, roundIn_of_wpIn trivial ?_⟩
      clear hy hy2
      refine hassign m _ pre x W _ hi fun a' Wa k1 k2 hia hax => ?_
      have bka := bkKeep _ _ _ hbk k1
      have hla := bkL _ _ bka
      refine ⟨_, run_beginRound hla (by rw [hrec]), ?_⟩
      obtain ⟨Wb, hWb⟩ : ∃ Wb, Wb = Wa.putObj (w.heap.size + 1) (.loop { rec .ready none with state := .busy }) := ⟨_, rfl⟩
      have bkb : Bk { rec .ready none with state := .busy } Wb := by rw [hWb]; exact bkPut _ _ _ bka
      have k3 : KeepP Wa Wb := by rw [hWb]; exact KeepP.putObj hla rfl _
      have hib : I pre Wb := by rw [hWb]; exact hI.putObj _ hia (by omega) hla rfl
      have haxb : Ax x a' Wb := by rw [hWb]; exact (hAx x a').putObj (s := ()) _ hax (by omega) hla rfl
      rw [← hWb]
      refine wpIn_mono (hbody m (w.heap.size + 1) pre x a' Wb (by omega) hib haxb hpre) ?_
      have fin : ∀ (jump : Option Code) (Wc : World), KeepsFrom w.heap.size Wb Wc → KeepP Wb Wc →
          ∃ Wd, (Instr.endRound (w.heap.size + 1) jump).run Tryd.prog Wc = .ok (.bool jump.isNone) Wd ∧ Bk (rec (if jump.isNone then .ready else .done) jump) Wd ∧ KeepP W Wd ∧
            Wd = Wc.putObj (w.heap.size + 1) (.loop (rec (if jump.isNone then .ready else .done) jump)) ∧ Wc.heap[w.heap.size + 1]? = some (.loop { rec .ready none with state := .busy }) := fun jump Wc k4 k5 => by
        have bkc := bkKeep _ _ _ bkb k4
        have hlc := bkL _ _ bkc
        have hr := run_endRound (P := Tryd.prog) jump hlc
        refine ⟨_, ?_, bkPut _ _ _ bkc, ((k2.trans k3).trans k5).trans (KeepP.putObj hlc rfl _), rfl, hlc⟩
        rw [hr, hrec]
      rintro e a3 Wc hp
      cases e with
      | normal =>
        obtain ⟨k4, k5, hic⟩ := hp
        obtain ⟨Wd, hr, bkd, kd, hWd, hlc⟩ := fin none Wc k4 k5
        exact ⟨_, _, hr, .inl ⟨rfl, ⟨by rw [hWd]; exact hI.putObj _ hic (by omega) hlc rfl, bkd⟩, kd⟩⟩
      | ret =>
        obtain ⟨k4, k5, hic⟩ := hp
        obtain ⟨Wd, hr, bkd, kd, hWd, hlc⟩ := fin (some .ret) Wc k4 k5
        exact ⟨_, _, hr, .inr ⟨rfl, ⟨.ret, by rw [hWd]; exact (hIx _).putObj _ hic (by omega) hlc rfl, bkd⟩, kd⟩⟩
      | exit id =>
        obtain ⟨k4, k5, hic⟩ := hp
        obtain ⟨Wd, hr, bkd, kd, hWd, hlc⟩ := fin (some (.exit id)) Wc k4 k5
        exact ⟨_, _, hr, .inr ⟨rfl, ⟨.exit id, by rw [hWd]; exact (hIx _).putObj _ hic (by omega) hlc rfl, bkd⟩, kd⟩⟩
      | goto t =>
        obtain ⟨k4, k5, hic⟩ := hp
        obtain ⟨Wd, hr, bkd, kd, hWd, hlc⟩ := fin (some (.goto t)) Wc k4 k5
        exact ⟨_, _, hr, .inr ⟨rfl, ⟨.goto t, by rw [hWd]; exact (hIx _).putObj _ hic (by omega) hlc rfl, bkd⟩, kd⟩⟩
      | panic ch => exact hp.elim
      | outgrown => exact hp.elim
    · rintro e W2 (⟨hz, ⟨v, rfl⟩, hi, hbk⟩ | ⟨q, ⟨v, rfl⟩, hq, c, hi, hbk⟩ | ⟨hz, rfl, hi, hbk⟩)
      · have hl := bkL _ _ hbk
        have he := run_endLoop (P := Tryd.prog) hl (by rw [hrec]; simp)
        refine ⟨none, _, he.trans (by rw [hrec]), ?_⟩
        exact hdone _ _ (Nat.le_refl _) hz (hI.putObj _ hi (by omega) hl rfl) ((World.putObj_heap_other (by omega)).trans (bkD _ _ hbk))
      · have hl := bkL _ _ hbk
        have he := run_endLoop (P := Tryd.prog) hl (by rw [hrec]; simp)
        refine ⟨some c, _, he.trans (by rw [hrec]), ?_⟩
        exact hstop _ c q _ (Nat.le_refl _) hq ((hIx c).putObj _ hi (by omega) hl rfl) ((World.putObj_heap_other (by omega)).trans (bkD _ _ hbk))
      · exact hthrow _ W2 (Nat.le_refl _) hz hi (bkD _ _ hbk)
end Go.Proofs.YtiehhlolhhjgpaaDoor.Pl

namespace Go.Proofs.YtiehhlolhhjgpaaDoor.Pl
open Go.RowKit

theorem encs_append (a b : List Tm) : encs (a ++ b) = encs a ++ encs b := by
  rw [encs_flat, encs_flat, encs_flat, List.map_append, List.flatten_append]
theorem encs_one (t : Tm) : encs [t] = t.enc := by simp [encs]
theorem encs_at (l : List Tm) (k : Nat) (hk : k < l.length) : encs l = encs (l.take k) ++ (l[k].enc ++ encs (l.drop (k + 1))) := by
  have e : l = l.take k ++ (l[k] :: l.drop (k + 1)) := by rw [← List.drop_eq_getElem_cons hk, List.take_append_drop]
  have e2 : encs (l.take k ++ (l[k] :: l.drop (k + 1))) = encs (l.take k) ++ (l[k].enc ++ encs (l.drop (k + 1))) := by rw [encs_append]; simp [encs]
  rw [← e2, ← e]
theorem encs_take (l : List Tm) (k : Nat) (hk : k < l.length) : (encs (l.take (k + 1))).length = (encs (l.take k)).length + l[k].enc.length := by
  rw [List.take_succ_eq_append_getElem hk, encs_append, encs_one, List.length_append]
def txts (l : List ByteArray) : List Value := l.map Value.string
theorem txts_length (l : List ByteArray) : (txts l).length = l.length := by simp [txts]
theorem txts_at (l : List ByteArray) (j : Nat) (h : j < l.length) : (txts l)[j]? = some (.string (l.getD j ByteArray.empty)) := by
  simp [txts, List.getD_eq_getElem?_getD, h]
/-- v is a row of these texts that the call owns, from block B on. -/
def OwnT (w : World) (B : Nat) (v : Value) (l : List ByteArray) : Prop := w.ownsRow B 9 1 v l.length (txts l)
theorem ownT_nil (w : World) (B : Nat) : OwnT w B (.slice none 0 0) [] := World.ownsRow_nil _ _ _ _
theorem ownT_below {w w' : World} {B : Nat} {v : Value} {l : List ByteArray} (h : OwnT w B v l) (hb : Below w.heap.size w w') : OwnT w' B v l := by
  refine ⟨h.1, ?_⟩
  rcases h.2 with hn | ⟨g, cap, cur, hv, hbg, hg, rest⟩
  · exact .inl hn
  · exact .inr ⟨g, cap, cur, hv, hbg, (hb.block g (Array.getElem?_eq_some_iff.1 hg).1).trans hg, rest⟩
theorem ownT_row {w : World} {B : Nat} {v : Value} {l : List ByteArray} (h : OwnT w B v l) : ∃ ao cap, v = .slice ao l.length cap ∧ TxtRow w ao l := by
  rcases h.2 with ⟨hv, h0⟩ | ⟨g, cap, cur, hv, hbg, hg, rest⟩
  · exact ⟨none, 0, by rw [hv, h0], .inl (List.length_eq_zero_iff.1 h0)⟩
  · have h' := h
    unfold OwnT at h'
    rw [hv] at h'
    exact ⟨_, cap, hv, .inr ⟨g, 0, rfl, (Array.getElem?_eq_some_iff.1 hg).1, fun j hj => by rw [Nat.zero_add, h'.cellAt j (by omega), txts_at l j hj]⟩⟩
theorem ownT_row2 {w : World} {B : Nat} {v : Value} {l : List ByteArray} (h : OwnT w B v l) : ∃ ao cap, v = .slice ao l.length cap ∧ TxtRow w ao l ∧ ∀ b off, ao = some ⟨b, off, none⟩ → B ≤ b := by
  rcases h.2 with ⟨hv, h0⟩ | ⟨g, cap, cur, hv, hbg, hg, rest⟩
  · exact ⟨none, 0, by rw [hv, h0], .inl (List.length_eq_zero_iff.1 h0), fun b off e => by cases e⟩
  · have h' := h
    unfold OwnT at h'
    rw [hv] at h'
    exact ⟨_, cap, hv, .inr ⟨g, 0, rfl, (Array.getElem?_eq_some_iff.1 hg).1, fun j hj => by rw [Nat.zero_add, h'.cellAt j (by omega), txts_at l j hj]⟩, fun b off e => by cases e; exact hbg⟩
/-- v's own row is not the one at ao. -/
def ApartV (v : Value) (ao : Option Addr) : Prop := ∀ b off, ao = some ⟨b, off, none⟩ → v.ownBlock ≠ some b
theorem TxtRow.grown {w w' : World} {ao : Option Addr} {l : List ByteArray} {row : Option Nat} (h : TxtRow w ao l) (hg : w.grownBy w' row) (hne : ∀ b off, ao = some ⟨b, off, none⟩ → row ≠ some b) : TxtRow w' ao l := by
  rcases h with h | ⟨b, off, e, hlt, hc⟩
  · exact .inl h
  · exact .inr ⟨b, off, e, Nat.lt_of_lt_of_le hlt hg.size, fun j hj => hg.cell (hc j hj) (fun e2 => hne b off e e2.symm)⟩
theorem infoStr : (Tryd.prog.info? 9).map (fun i => (i.zero, i.size, i.bytes)) = some (some (.string ⟨#[]⟩), 1, 16) := by kernel_rfl
/-- A tree's parts as texts. -/
def tx (t : Tm) : ByteArray := ⟨t.enc.toArray⟩
theorem bl_tx (t : Tm) : bl (tx t) = t.enc := rfl
theorem tx_size (t : Tm) : (tx t).size = t.enc.length := size_lit _

end Go.Proofs.YtiehhlolhhjgpaaDoor.Pl

namespace Go.Proofs.YtiehhlolhhjgpaaDoor.Pl
open Go.RowKit

theorem placess_append (a b : List Tm) : placess (a ++ b) = placess a ++ placess b := by
  rw [placess_flat, placess_flat, placess_flat, List.flatMap_append]
theorem placess_len {l : List Tm} (h : ∀ t ∈ l, t.places.length ≤ t.enc.length) : (placess l).length ≤ (encs l).length := by
  induction l with
  | nil => simp [placess]
  | cons t l ih =>
    simp only [placess, encs, List.length_append]
    have h1 := h t (List.mem_cons_self ..)
    have h2 := ih (fun u hu => h u (List.mem_cons_of_mem _ hu))
    omega
theorem places_count : ∀ t : Tm, t.good → t.places.length ≤ t.enc.length := by
  refine Tm.ind ?_
  intro h l ih hg
  simp only [Tm.good] at hg
  have h1 := List.length_pos_iff.2 hg.1.pos
  have h2 := placess_len (l := l) (fun t ht => ih t ht (goods_mem hg.2 t ht))
  simp only [Tm.places, Tm.enc, List.length_cons, List.length_append]
  omega
theorem places_pos (t : Tm) : 0 < t.places.length := by obtain ⟨h, l⟩ := t; simp [Tm.places]
theorem placess_take (l : List Tm) (k : Nat) (h : k < l.length) : placess (l.take (k + 1)) = placess (l.take k) ++ l[k].places := by
  rw [List.take_succ_eq_append_getElem h, placess_append]
  simp [placess]
theorem placess_take_len {l : List Tm} (hg : goods l) (k : Nat) : (placess (l.take k)).length ≤ (encs l).length := by
  have h1 := placess_len (l := l.take k) (fun t ht => places_count t (goods_mem hg t (List.mem_of_mem_take ht)))
  have e : encs l = encs (l.take k) ++ encs (l.drop k) := by rw [← encs_append, List.take_append_drop]
  rw [e, List.length_append]
  omega
theorem ownT_one (w : World) (s : ByteArray) : OwnT (w.alloc (.cells #[.string s] 9)) w.heap.size (.slice (some ⟨w.heap.size, 0, none⟩) 1 1) [s] :=
  World.ownsRow_lit w #[.string s] 1 (Nat.le_refl _) (by decide) rfl

end Go.Proofs.YtiehhlolhhjgpaaDoor.Pl

namespace Go.Proofs.YtiehhlolhhjgpaaDoor.Pl
open Go.RowKit

end Go.Proofs.YtiehhlolhhjgpaaDoor.Pl
