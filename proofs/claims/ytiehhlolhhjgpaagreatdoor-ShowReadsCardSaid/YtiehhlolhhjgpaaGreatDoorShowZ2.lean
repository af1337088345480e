/- A text's bytes, its places, its slices, as facts for the walk; what the document's name of layer 6 answers. What strings.IndexRune and ContainsRune answer of a text of ASCII bytes, whatever the rune. The runes of a text, as bytes and as it stands in memory. What octet.Num answers. What octet.ReadNum answers. What octet.Text and octet.ReadText answer. The places of a text of terms, one behind the other: where each begins, how deep it is, where its head ends, how many parts it has; plain mathematics alone. What term's need, textSize and rowHead answer, and what they throw. What term.isName answers. What the document's own Num and digits answer: the same encoding. What the document's own ReadNum answers: the same as octet.ReadNum. What the document's Text and ReadText answer. What the document's head, read, Read, Check and May of layer 6 answer. What the document's read, Read, Check and May of layer 6 answer: read calls itself. What the document's Data, Atom, Num, Kind, Text, and what makes a term of parts, answer. What the document's made answers, of whatever parts; Row, Hash, Mac, Seal. Rows of numbers as the cells of an array. -/
import Derived.Test.YtiehhlolhhjgpaaGreatDoorShowZ1
import Derived.Test.YtiehhlolhhjgpaaGreatDoorProg
import Derived.WalkKit
import Derived.Handy
import Derived.Lib.Hide
import Derived.Lib.Strings
import Derived.Laws.IdiomStrings
import Derived.WalkSpells
import Derived.Test.YtiehhlolhhjgpaaGreatDoorShelf
import Derived.Laws.RangeString
import Derived.Laws.RangeAny
import Derived.Laws.Runes
import Derived.Lib.OthersKept
import Derived.Lib.RuneBytes
import Derived.Deep.RegionHeld3
import Derived.BigQuiet
import Derived.Deep.QuietTactic
import Derived.WalkMore
import Derived.Outline
import Derived.WalkLawsBesides
import Derived.Laws.Cover4
import Derived.Laws.OwnMore
import Derived.OwnWalk
import Derived.Deep.RegionWith
import Derived.Deep.WholeRow
namespace Go.Proofs.YtiehhlolhhjgpaaGreatDoor.Pl
open Go.RowKit

/-- A text's bytes. -/
def bl (s : ByteArray) : List UInt8 := s.data.toList
theorem bl_length (s : ByteArray) : (bl s).length = s.size := by unfold bl; rw [Array.length_toList]; rfl
theorem bl_mk (l : List UInt8) : bl ⟨l.toArray⟩ = l := rfl
theorem bl_inj {a b : ByteArray} (h : bl a = bl b) : a = b := ByteArray.ext (Array.ext' h)
theorem bl_eq (s : ByteArray) : s = ⟨(bl s).toArray⟩ := bl_inj rfl
theorem tstr_index (s : ByteArray) (k : Nat) (c : UInt8) (hk : k < s.size) (hc : c = (bl s).getD k 0) (V : World) : (Instr.index 9 (.string s) (.int .i64 (k : Int))).run Tryz.prog V = .ok (.int .u8 (c.toNat : Int)) V := by
  rw [run_index_string V 9 s .i64 k Tryz.underlying9, dif_pos ⟨by omega, by omega⟩, hc]
  congr 2
  have hk' : k < s.data.toList.length := by simpa using hk
  simp only [bl, List.getD_eq_getElem?_getD, List.getElem?_eq_getElem hk', Option.getD_some, Int.toNat_natCast]
  rfl
theorem tslice_from (x : ByteArray) (m : Nat) (h : m ≤ x.size) (V : World) : (Instr.sliceAt 9 (.string x) (some (.int .i64 (m : Int))) none none).run Tryz.prog V = .ok (.string (x.extract m x.size)) V := by
  have h0 : (0 : Int) ≤ (m : Int) := by omega
  have h1 : (m : Int) ≤ (x.size : Int) := by omega
  go_simp
theorem tslice_mid (x : ByteArray) (a b : Nat) (h : a ≤ b) (h2 : b ≤ x.size) (V : World) : (Instr.sliceAt 9 (.string x) (some (.int .i64 (a : Int))) (some (.int .i64 (b : Int))) none).run Tryz.prog V = .ok (.string (x.extract a b)) V := by
  have h0 : (0 : Int) ≤ (a : Int) := by omega
  have h1 : (a : Int) ≤ (b : Int) := by omega
  have h3 : (b : Int) ≤ (x.size : Int) := by omega
  go_simp
theorem bl_extract (x : ByteArray) (a b : Nat) : bl (x.extract a b) = ((bl x).take b).drop a := by
  unfold bl
  rw [Lib.extract_data, List.take_drop]
  by_cases h : a ≤ b
  · rw [show a + (b - a) = b by omega]
  · have : (x.data.toList.take (a + (b - a))).drop a = [] := List.drop_eq_nil_of_le (by simp; omega)
    rw [this]
    exact (List.drop_eq_nil_of_le (by simp; omega)).symm
theorem bl_from (x : ByteArray) (m : Nat) : bl (x.extract m x.size) = (bl x).drop m := by
  rw [bl_extract, List.take_of_length_le (by rw [bl_length]; exact Nat.le_refl _)]
theorem size_bl (s : ByteArray) : s.size = (bl s).length := (bl_length s).symm
theorem bl_nil {s : ByteArray} (h : s.size = 0) : bl s = [] := List.length_eq_zero_iff.1 (by rw [bl_length]; exact h)
theorem bl_cons {s : ByteArray} (h : 0 < s.size) : bl s = (bl s).getD 0 0 :: (bl s).drop 1 := by
  have hl : 0 < (bl s).length := by rw [bl_length]; exact h
  cases e : bl s with
  | nil => rw [e] at hl; simp at hl
  | cons b r => rfl
theorem nameOK_iff (l : List UInt8) : nameOK l = true ↔ l ≠ [] ∧ ∀ j, j < l.length → nameB (l.getD j 0) = true := by
  unfold nameOK
  rw [Bool.and_eq_true, List.all_eq_true]
  constructor
  · rintro ⟨h, k⟩
    refine ⟨fun e => by rw [e] at h; simp at h, fun j hj => k _ ?_⟩
    rw [List.getD_eq_getElem?_getD, List.getElem?_eq_getElem hj]; exact List.getElem_mem hj
  · rintro ⟨h, k⟩
    refine ⟨by cases l with | nil => exact absurd rfl h | cons => rfl, fun x hx => ?_⟩
    obtain ⟨j, hj, rfl⟩ := List.getElem_of_mem hx
    have := k j hj
    simpa [List.getD_eq_getElem?_getD, hj] using this
theorem str6_ne {a b : ByteArray} (h : a ≠ b) : (a.toList == b.toList) = false ∧ (a.toList != b.toList) = true := by
  have h' : a.toList ≠ b.toList := fun e => h (by
    rw [Lib.toList_data, Lib.toList_data] at e
    exact ByteArray.ext (Array.ext' e))
  exact ⟨beq_eq_false_iff_ne.2 h', bne_iff_ne.2 h'⟩
theorem ret6_bool {a b : Bool} (h : a = b) : Ending.returned (.bool a) = .returned (.bool b) := by rw [h]
theorem ret6_i64 {a b : Int} (h : a = b) : Ending.returned (.int .i64 a) = .returned (.int .i64 b) := by rw [h]

set_option maxHeartbeats 2000000 in
set_option maxRecDepth 100000 in
theorem rname_any (s : ByteArray) (hs : s.size ≤ 281474976710656) (w : World) :
    Calls Tryz.prog 114 #[.string s] w fun e w' => e = .returned (.bool (nameOK (bl s))) ∧ Below w.heap.size w w' := by
  obtain ⟨z, hz⟩ : ∃ z, z = nameOK (bl s) := ⟨_, rfl⟩
  rw [← hz]
  by_cases h0 : s.size = 0
  · have HZ : Hid (z = false) := Lib.hid (by rw [hz, bl_nil h0]; rfl)
    obtain rfl : s = ⟨#[]⟩ := bl_inj (bl_nil h0)
    clear hz h0 hs
    go_enter Tryz.func114, Tryz.ntmps114
    go_wp2_with fail
    refine wp_loop_rounds 1 ?_; rw [rounds_succ]; go_wp2_with fail
    go_ret
    exact ⟨ret6_bool HZ.out.symm, Below.refl _ _⟩
  · have hne : s ≠ ⟨#[]⟩ := fun e => h0 (by rw [e]; rfl)
    obtain ⟨g1, g2⟩ := str6_ne hne
    have g3 : s.toList.isEmpty = false := by
      rw [Lib.toList_data, List.isEmpty_eq_false_iff]
      intro e
      exact h0 (by rw [size_bl]; unfold bl; rw [e]; rfl)
    have HB : Hid (∀ k, k < s.size → nameB ((bl s).getD k 0) = false → z = false) := Lib.hid (fun k hk hb => by
      rw [hz]
      cases e : nameOK (bl s) with
      | false => rfl
      | true => rw [((nameOK_iff _).1 e).2 k (by rw [bl_length]; exact hk)] at hb; exact absurd hb (by decide))
    have HE : Hid ((∀ j, j < s.size → nameB ((bl s).getD j 0) = true) → z = true) := Lib.hid (fun h => by
      rw [hz, nameOK_iff]
      refine ⟨fun e => h0 (by rw [size_bl, e]; rfl), fun j hj => h j (by rw [bl_length] at hj; exact hj)⟩)
    clear hz h0 hne
    go_enter Tryz.func114, Tryz.ntmps114
    go_wp2_with fail
    go_loopw [3] (fun i wr => ∃ k : Nat, i = .int .i64 k ∧ k ≤ s.size ∧ Hid (∀ j, j < k → nameB ((bl s).getD j 0) = true) ∧ Hid (Below w.heap.size w wr)) (fun i _ => s.size - (intOf i).toNat)
    case atStart => exact ⟨0, rfl, Nat.zero_le _, Lib.hid (fun j hj => absurd hj (Nat.not_lt_zero j)), Lib.hid (Below.refl _ _)⟩
    case round =>
      obtain ⟨k, rfl, hks, hch, hbw⟩ := hrel
      by_cases hk : k < s.size
      · obtain ⟨c, ec⟩ : ∃ c : UInt8, c = (bl s).getD k 0 := ⟨_, rfl⟩
        have i1 : ∀ V : World, (Instr.index 9 (.string s) (.int .i64 (k : Int))).run Tryz.prog V = .ok (.int .u8 (c.toNat : Int)) V := tstr_index s k c hk ec
        have HBK : Hid (nameB c = false → z = false) := Lib.hid (by rw [ec]; exact HB.out k hk)
        have HNX : Hid (nameB c = true → ∀ j, j < k + 1 → nameB ((bl s).getD j 0) = true) := Lib.hid (fun h j hj => by
          by_cases e : j = k
          · rw [e, ← ec]; exact h
          · exact hch.out j (by omega))
        obtain ⟨n, hn⟩ : ∃ n, n = c.toNat := ⟨_, rfl⟩
        have HY : Hid (((97 ≤ n ∧ n ≤ 122) ∨ (48 ≤ n ∧ n ≤ 57) ∨ n = 47 ∨ n = 46 ∨ n = 45) → nameB c = true) := Lib.hid (fun h => by unfold nameB; rw [← hn]; exact decide_eq_true h)
        have HW : Hid (¬ ((97 ≤ n ∧ n ≤ 122) ∨ (48 ≤ n ∧ n ≤ 57) ∨ n = 47 ∨ n = 46 ∨ n = 45) → nameB c = false) := Lib.hid (fun h => by unfold nameB; rw [← hn]; exact decide_eq_false h)
        rw [← hn] at i1
        clear ec hn
        have hcs : n < 45 ∨ n = 45 ∨ n = 46 ∨ n = 47 ∨ (48 ≤ n ∧ n ≤ 57) ∨ (57 < n ∧ n < 97) ∨ (97 ≤ n ∧ n ≤ 122) ∨ 122 < n := by omega
        have ef : ∀ m : Nat, n ≠ m → ((n : Int) == (m : Int)) = false := fun m h => by rw [beq_eq_false_iff_ne]; omega
        rcases hcs with h | h | h | h | ⟨h, h'⟩ | ⟨h, h'⟩ | ⟨h, h'⟩ | h
        · have HX := Lib.hid (HBK.out (HW.out (by omega)))
          have q1 : ((n : Int) == 47) = false := ef 47 (by omega)
          have q2 : ((n : Int) == 46) = false := ef 46 (by omega)
          have q3 : ((n : Int) == 45) = false := ef 45 (by omega)
          clear ef
          go_wp2_with fail
          go_ret
          exact ⟨ret6_bool HX.out.symm, hbw.out⟩
        · subst h
          have HX := Lib.hid (HNX.out (HY.out (by omega)))
          clear ef
          go_wp2_with fail
          go_roundw
          case rel => exact ⟨k + 1, by go_num, by omega, HX, hbw⟩
          case measure => simp [intOf]; omega
        · subst h
          have HX := Lib.hid (HNX.out (HY.out (by omega)))
          clear ef
          go_wp2_with fail
          go_roundw
          case rel => exact ⟨k + 1, by go_num, by omega, HX, hbw⟩
          case measure => simp [intOf]; omega
        · subst h
          have HX := Lib.hid (HNX.out (HY.out (by omega)))
          clear ef
          go_wp2_with fail
          go_roundw
          case rel => exact ⟨k + 1, by go_num, by omega, HX, hbw⟩
          case measure => simp [intOf]; omega
        · have HX := Lib.hid (HNX.out (HY.out (by omega)))
          clear ef
          go_wp2_with fail
          go_roundw
          case rel => exact ⟨k + 1, by go_num, by omega, HX, hbw⟩
          case measure => simp [intOf]; omega
        · have HX := Lib.hid (HBK.out (HW.out (by omega)))
          have q1 : ((n : Int) == 47) = false := ef 47 (by omega)
          have q2 : ((n : Int) == 46) = false := ef 46 (by omega)
          have q3 : ((n : Int) == 45) = false := ef 45 (by omega)
          have q4 : decide ((n : Int) ≤ 57) = false := decide_eq_false (by omega)
          clear ef
          go_wp2_with fail
          go_ret
          exact ⟨ret6_bool HX.out.symm, hbw.out⟩
        · have HX := Lib.hid (HNX.out (HY.out (by omega)))
          clear ef
          go_wp2_with fail
          go_roundw
          case rel => exact ⟨k + 1, by go_num, by omega, HX, hbw⟩
          case measure => simp [intOf]; omega
        · have HX := Lib.hid (HBK.out (HW.out (by omega)))
          have q1 : ((n : Int) == 47) = false := ef 47 (by omega)
          have q2 : ((n : Int) == 46) = false := ef 46 (by omega)
          have q3 : ((n : Int) == 45) = false := ef 45 (by omega)
          have q4 : decide ((n : Int) ≤ 57) = false := decide_eq_false (by omega)
          have q5 : decide ((n : Int) ≤ 122) = false := decide_eq_false (by omega)
          clear ef
          go_wp2_with fail
          go_ret
          exact ⟨ret6_bool HX.out.symm, hbw.out⟩
      · obtain rfl : k = s.size := by omega
        have HQ := Lib.hid (HE.out hch.out)
        clear hk hks
        go_wp2_with fail
        go_ret
        exact ⟨ret6_bool HQ.out.symm, hbw.out⟩
end Go.Proofs.YtiehhlolhhjgpaaGreatDoor.Pl

namespace Go.Proofs.YtiehhlolhhjgpaaGreatDoor.Pl
open Go.RowKit

def Ascii (s : ByteArray) : Prop := ∀ b ∈ bl s, b.toNat < 128
theorem indexByte_no : ∀ (l : List UInt8) (c : UInt8), (∀ b ∈ l, b ≠ c) → Lib.indexByte l c = -1
  | [], _, _ => rfl
  | b :: l, c, h => by
    have h1 := indexByte_no l c (fun x hx => h x (List.mem_cons_of_mem _ hx))
    have h2 : (b == c) = false := beq_eq_false_iff_ne.2 (h b (List.mem_cons_self ..))
    rw [Lib.indexByte, h2, h1]; rfl
theorem indexByte_in : ∀ (l : List UInt8) (c : UInt8), decide (0 ≤ Lib.indexByte l c) = l.contains c
  | [], _ => rfl
  | b :: l, c => by
    have ih := indexByte_in l c
    have hge := Lib.indexByte_ge l c
    rw [Lib.indexByte, List.contains_cons]
    by_cases h : b = c
    · subst h; simp
    · have h2 : (b == c) = false := beq_eq_false_iff_ne.2 h
      have h3 : (c == b) = false := beq_eq_false_iff_ne.2 (fun e => h e.symm)
      rw [h2, h3, Bool.false_or, ← ih]
      simp only [Bool.false_eq_true, if_false]
      by_cases h4 : Lib.indexByte l c = -1
      · rw [h4]; rfl
      · have h5 : (Lib.indexByte l c == -1) = false := beq_eq_false_iff_ne.2 h4
        rw [h5, if_neg (by decide), decide_eq_true (by omega), decide_eq_true (by omega)]
theorem validrune_any (r : Int) (w : World) : Calls Tryz.prog 110 #[.int .i32 r] w fun e w' => e = .returned (.bool (decide ((0 ≤ r ∧ r < 55296) ∨ (57343 < r ∧ r ≤ 1114111)))) ∧ w' = w := by
  have h := Tryz.utf8_ValidRune r w
  exact h.mono fun e w' ⟨h1, h2⟩ => ⟨by rw [h1]; rfl, h2⟩
set_option maxHeartbeats 1000000 in
set_option maxRecDepth 1000000 in
theorem indexrune_big (s : ByteArray) (ha : Ascii s) (r : Int) (h1 : 128 ≤ r) (h2 : r ≠ 65533) (w : World) :
    Calls Tryz.prog 92 #[.string s, .int .i32 r] w fun e w' => e = .returned (.int .i64 (-1)) ∧ Below w.heap.size w w' := by
  have HV := Lib.hid (validrune_any r w)
  have q1 : decide (r < 128) = false := decide_eq_false (by omega)
  have q2 : (r == 65533) = false := beq_eq_false_iff_ne.2 h2
  by_cases hv : (0 ≤ r ∧ r < 55296) ∨ (57343 < r ∧ r ≤ 1114111)
  · rw [decide_eq_true hv] at HV
    obtain ⟨e1, e2, e3⟩ := encode_facts r (by rw [validRune_eq]; exact decide_eq_true hv) h1
    have hcv : ∀ V, (convert 21 9 (.int .i32 r)).run Tryz.prog V = .ok (.string (Utf8.encode r)) V := fun V => run_convert_int_string V _ _ _ _ (by kernel_rfl) Tryz.underlying9
    generalize Utf8.encode r = rs at *
    obtain ⟨n, hn⟩ : ∃ n, rs.size = n + 1 := ⟨rs.size - 1, by omega⟩
    have e3' := e3 (by omega)
    have hlast : rs.size - 1 = n := by omega
    have hnr : n < rs.size := by rw [hn]; exact Nat.lt_succ_self n
    obtain ⟨c, hc⟩ : ∃ c, c = rs[n]'hnr := ⟨_, rfl⟩
    have hc2 : 128 ≤ c.toNat := by rw [hc]; have := e3'; simp only [hlast] at this; exact this
    have hn1 : 1 ≤ n := by omega
    have hn3 : n ≤ 3 := by omega
    clear e1 e2 e3 e3' hlast hv
    go_enter Tryz.func92, Tryz.ntmps92
    go_wp2_with (go_at_call 110; refine HV.out.mono ?_; rintro e w1 ⟨rfl, rfl⟩)
    refine wp_scope_straight ?_
    go_wp2_with fail
    by_cases hlt : n < s.size
    · have hlt' : (n : Int) < (s.size : Int) := by omega
      obtain ⟨d, hd⟩ : ∃ d : UInt8, d = (bl s).getD n 0 := ⟨_, rfl⟩
      have hd2 : d.toNat < 128 := by
        rw [hd, List.getD_eq_getElem?_getD, List.getElem?_eq_getElem (by rw [bl_length]; exact hlt)]
        exact ha _ (List.getElem_mem _)
      have hix : ∀ V : World, (Instr.index 9 (.string s) (.int .i64 (n : Int))).run Tryz.prog V = .ok (.int .u8 (d.toNat : Int)) V := tstr_index s n d hlt hd
      have hjx : ∀ V : World, (Instr.index 9 (.string rs) (.int .i64 (n : Int))).run Tryz.prog V = .ok (.int .u8 (c.toNat : Int)) V := tstr_index rs n c hnr (by
        rw [hc, List.getD_eq_getElem?_getD, List.getElem?_eq_getElem (by rw [bl_length]; exact hnr)]; rfl)
      have hne : ((d.toNat : Int) != (c.toNat : Int)) = true := by rw [bne_iff_ne]; omega
      have hsl : ∀ V : World, (Instr.sliceAt 9 (.string s) (some (.int .i64 ((n : Int) + 1))) none none).run Tryz.prog V = .ok (.string (s.extract (n + 1) s.size)) V := tslice_from s (n + 1) (by omega)
      have hwr : IntKind.i64.wrap ((n : Int) + 1) = (n : Int) + 1 := wrap_small _ (by omega) (by omega)
      have HB : Hid (∀ V : World, Calls Tryz.prog 109 #[.string (s.extract (n + 1) s.size), .int .u8 (c.toNat : Int)] V fun e w' => e = .returned (.int .i64 (-1)) ∧ w' = V) := Lib.hid (fun V => (Tryz.strings_IndexByte (s.extract (n + 1) s.size) (c.toNat : Int) V).mono fun e w' ⟨h1, h2⟩ => ⟨by
        rw [h1, indexByte_no]
        intro b hb e
        have hb' : b ∈ bl s := by
          have h3 : b ∈ bl (s.extract (n + 1) s.size) := hb
          rw [bl_from] at h3
          exact List.mem_of_mem_drop h3
        have h4 := ha b hb'
        rw [e] at h4
        have h5 : ((c.toNat : Int).toNat.toUInt8) = c := by simp
        rw [h5] at h4
        omega, h2⟩)
      generalize s.extract (n + 1) s.size = s1 at *
      have HH := Lib.hid (And.intro hd hc)
      clear hd hc ha
      refine wp_loop_rounds 1 ?_
      rw [rounds_succ]
      go_wp2_with fail
      refine wp_scope_straight ?_
      go_wp2_with fail
      go_quiet (fail)
      have B2 := Lib.hid (below_drewN (Below.refl w1.heap.size w1) nq)
      generalize w1.drewN nq = W2 at *
      go_wp2_with fail
      go_quiet (first | (go_at_call 109; with_reducible refine Calls.quiet_of_same (HB.out _)) | fail)
      go_wp2_with fail
      simp only [Exit.inBlock, Exit.then, Exit.noGoto]
      go_ret
      exact ⟨rfl, below_drewN B2.out _⟩
    · have hlt' : ¬ (n : Int) < (s.size : Int) := by omega
      refine wp_loop_rounds 1 ?_
      rw [rounds_succ]
      go_wp2_with fail
      go_ret
      exact ⟨rfl, Below.refl _ _⟩
  · rw [decide_eq_false hv] at HV
    go_enter Tryz.func92, Tryz.ntmps92
    go_wp2_with (go_at_call 110; refine HV.out.mono ?_; rintro e w1 ⟨rfl, rfl⟩)
    go_ret
    exact ⟨rfl, Below.refl _ _⟩
set_option maxHeartbeats 1000000 in
set_option maxRecDepth 1000000 in
theorem indexrune_err (s : ByteArray) (ha : Ascii s) (w : World) :
    Calls Tryz.prog 92 #[.string s, .int .i32 65533] w fun e w' => e = .returned (.int .i64 (-1)) ∧ Below w.heap.size w w' := by
  have HA := Lib.hid ha
  clear ha
  go_enter Tryz.func92, Tryz.ntmps92
  go_wp2_with fail
  go_loopw [] (fun wr => ∃ pos : Nat, Hid (wr.heap[w.heap.size]? = some (.stringIter s pos)) ∧ Hid (Below w.heap.size w wr)) (fun wr => s.size - wr.iterPos w.heap.size)
  case atStart => exact ⟨0, Lib.hid (World.iter_heap w s 0), Lib.hid ((Below.refl _ w).alloc (Nat.le_refl _) _)⟩
  case round =>
    obtain ⟨pos, hit, hb⟩ := hrel
    by_cases hp : pos < s.size
    · have hd2 : ((bl s).getD pos 0).toNat < 128 := by
        rw [List.getD_eq_getElem?_getD, List.getElem?_eq_getElem (by rw [bl_length]; exact hp)]
        exact HA.out _ (List.getElem_mem _)
      have hdx : (bl s).getD pos 0 = s[pos]'hp := by
        rw [List.getD_eq_getElem?_getD, List.getElem?_eq_getElem (by rw [bl_length]; exact hp)]; rfl
      have hdec : Utf8.decode s pos = (((bl s).getD pos 0).toNat, 1) := by
        rw [hdx] at hd2 ⊢; exact decode_ascii s pos hp hd2
      clear hdx
      have hit2 := Lib.hid (Lib.iterAt_heap wr w.heap.size s pos (pos + (Utf8.decode s pos).2) hit.out)
      have hb2 := Lib.hid (Lib.below_iterAt hb.out (k := w.heap.size) (Nat.le_refl _) s (pos + (Utf8.decode s pos).2))
      have hnx : ∀ ty, (Instr.next (.pointer (some ⟨w.heap.size, 0, none⟩)) true ty).run Tryz.prog wr = _ := fun ty => Lib.run_next_any_at wr w.heap.size s pos ty hit.out hp
      generalize wr.iterAt w.heap.size s (pos + (Utf8.decode s pos).2) = W1 at *
      rw [hdec] at hnx hit2
      generalize ((bl s).getD pos 0).toNat = x at *
      have hq : ((x : Int) == 65533) = false := by rw [beq_eq_false_iff_ne]; omega
      clear hdec
      go_wp2_with fail
      go_roundw
      case rel => exact ⟨pos + 1, hit2, hb2⟩
      case measure => simp only [World.iterPos, hit2.out, hit.out]; omega
    · have hnx : ∀ ty, (Instr.next (.pointer (some ⟨w.heap.size, 0, none⟩)) true ty).run Tryz.prog wr = _ := fun ty => Lib.run_next_end_at wr w.heap.size s pos ty hit.out hp
      clear hp
      go_wp2_with fail
      go_ret
      exact ⟨rfl, hb.out⟩
theorem containsrune7_any (s : ByteArray) (ha : Ascii s) (r : Int) (h0 : 0 ≤ r) (w : World) :
    Calls Tryz.prog 64 #[.string s, .int .i32 r] w fun e w' => e = .returned (.bool (decide (r < 128) && (bl s).contains r.toNat.toUInt8)) ∧ Below w.heap.size w w' := by
  by_cases h : r < 128
  · refine (Tryz.strings_ContainsRune_ascii s r w h0 h).mono ?_
    rintro e w' ⟨rfl, rfl⟩
    refine ⟨?_, Below.refl _ _⟩
    rw [indexByte_in, decide_eq_true h, Bool.true_and]; rfl
  · rw [decide_eq_false h, Bool.false_and]
    have HC : Hid (Calls Tryz.prog 92 #[.string s, .int .i32 r] w fun e w' => e = .returned (.int .i64 (-1)) ∧ Below w.heap.size w w') := Lib.hid (by
      by_cases h2 : r = 65533
      · subst h2; exact indexrune_err s ha w
      · exact indexrune_big s ha r (by omega) h2 w)
    clear h ha
    go_enter Tryz.func64, Tryz.ntmps64
    go_wp2_with (go_at_call 92; refine HC.out.mono ?_; rintro e w1 ⟨rfl, b1⟩)
    go_ret
    exact ⟨rfl, b1⟩
end Go.Proofs.YtiehhlolhhjgpaaGreatDoor.Pl

namespace Go.Proofs.YtiehhlolhhjgpaaGreatDoor.Pl

theorem rn_bl (s : ByteArray) : rn (bl s) = runes s := by unfold rn; rw [← bl_eq s]
end Go.Proofs.YtiehhlolhhjgpaaGreatDoor.Pl

namespace Go.Proofs.YtiehhlolhhjgpaaGreatDoor.Pl
open Go.RowKit

theorem conv_tail (w : World) (b off len cap : Nat) (l : List UInt8) (hl : l.length = len) (hc : ∀ j (hj : j < l.length), w.cell? ⟨b, off + j, none⟩ = some (.int .u8 (l[j].toNat : Int))) :
    (convert 87 9 (.slice (some ⟨b, off, none⟩) len cap)).run Tryz.prog w = .ok (.string ⟨l.toArray⟩) w := by
  subst hl
  exact run_convert_bytes_back w _ _ _ ⟨b, off, none⟩ cap l Tryz.underlying87 Tryz.underlying5 Tryz.underlying9 (fun j hj => by
    rw [show (⟨b, off, none⟩ : Addr).add j = ⟨b, off + j, none⟩ from by unfold Addr.add; split <;> simp_all]
    exact hc j hj)

theorem conv_lit (w : World) (C : Array Value) (t off len cap : Nat) (ns : List Nat) (h : ∀ n, n ∈ ns → n < 256) (hl : ns.length = len)
    (hC : C.toList.drop off = ns.map fun (n : Nat) => Value.int .u8 (n : Int)) :
    (convert 87 9 (.slice (some ⟨w.heap.size, off, none⟩) len cap)).run Tryz.prog (w.alloc (.cells C t)) = .ok (.string ⟨(ns.map UInt8.ofNat).toArray⟩) (w.alloc (.cells C t)) := by
  refine conv_tail _ _ _ _ _ (ns.map UInt8.ofNat) (by simpa using hl) ?_
  intro j hj
  rw [World.cell?_alloc_mark]
  have hj' : j < ns.length := by simpa using hj
  have h1 : (C.toList.drop off)[j]? = some (.int .u8 (ns[j] : Int)) := by rw [hC]; simp [hj']
  rw [List.getElem?_drop, Array.getElem?_toList] at h1
  rw [h1]
  have h2 := h ns[j] (List.getElem_mem hj')
  have h3 : ((ns.map UInt8.ofNat)[j]).toNat = ns[j] := by simp; omega
  rw [h3]

set_option maxRecDepth 100000 in
theorem num_any (v : Nat) (h8 : v < 256 ^ 8) (w : World) :
    Calls Tryz.prog 44 #[.int .u64 v] w fun e w' => e = .returned (.string ⟨(enc v).toArray⟩) ∧ Below w.heap.size w w' := by
  have h9 : v < 18446744073709551616 := by rw [two64] at h8; exact h8
  clear h8
  by_cases hv : v < 248
  · go_enter Tryz.func44, Tryz.ntmps44
    go_wp2
    rw [conv_lit w _ 86 8 1 1 [v] (by intro n hn; simp at hn; omega) rfl (by simp)]
    go_wp2
    go_ret
    refine ⟨?_, (Below.refl _ _).alloc (Nat.le_refl _) _⟩
    rw [enc_small hv]; rfl
  · go_enter Tryz.func44, Tryz.ntmps44
    go_wp2
    go_rounds 9
    · rw [conv_lit w _ 86 0 9 9 ((247 + 8) :: dn 8 v) (by intro n hn; simp [dn] at hn; omega) rfl (by simp [dn]; try omega)]
      go_wp2; go_ret
      refine ⟨?_, (Below.refl _ _).alloc (Nat.le_refl _) _⟩
      rw [enc_dn (k := 8) (by omega) hv (by simp; omega) (by simp; omega)]; rfl
    · rw [conv_lit w _ 86 1 8 8 ((247 + 7) :: dn 7 v) (by intro n hn; simp [dn] at hn; omega) rfl (by simp [dn]; try omega)]
      go_wp2; go_ret
      refine ⟨?_, (Below.refl _ _).alloc (Nat.le_refl _) _⟩
      rw [enc_dn (k := 7) (by omega) hv (by simp; omega) (by simp; omega)]; rfl
    · rw [conv_lit w _ 86 2 7 7 ((247 + 6) :: dn 6 v) (by intro n hn; simp [dn] at hn; omega) rfl (by simp [dn]; try omega)]
      go_wp2; go_ret
      refine ⟨?_, (Below.refl _ _).alloc (Nat.le_refl _) _⟩
      rw [enc_dn (k := 6) (by omega) hv (by simp; omega) (by simp; omega)]; rfl
    · rw [conv_lit w _ 86 3 6 6 ((247 + 5) :: dn 5 v) (by intro n hn; simp [dn] at hn; omega) rfl (by simp [dn]; try omega)]
      go_wp2; go_ret
      refine ⟨?_, (Below.refl _ _).alloc (Nat.le_refl _) _⟩
      rw [enc_dn (k := 5) (by omega) hv (by simp; omega) (by simp; omega)]; rfl
    · rw [conv_lit w _ 86 4 5 5 ((247 + 4) :: dn 4 v) (by intro n hn; simp [dn] at hn; omega) rfl (by simp [dn]; try omega)]
      go_wp2; go_ret
      refine ⟨?_, (Below.refl _ _).alloc (Nat.le_refl _) _⟩
      rw [enc_dn (k := 4) (by omega) hv (by simp; omega) (by simp; omega)]; rfl
    · rw [conv_lit w _ 86 5 4 4 ((247 + 3) :: dn 3 v) (by intro n hn; simp [dn] at hn; omega) rfl (by simp [dn]; try omega)]
      go_wp2; go_ret
      refine ⟨?_, (Below.refl _ _).alloc (Nat.le_refl _) _⟩
      rw [enc_dn (k := 3) (by omega) hv (by simp; omega) (by simp; omega)]; rfl
    · rw [conv_lit w _ 86 6 3 3 ((247 + 2) :: dn 2 v) (by intro n hn; simp [dn] at hn; omega) rfl (by simp [dn]; try omega)]
      go_wp2; go_ret
      refine ⟨?_, (Below.refl _ _).alloc (Nat.le_refl _) _⟩
      rw [enc_dn (k := 2) (by omega) hv (by simp; omega) (by simp; omega)]; rfl
    · rw [conv_lit w _ 86 7 2 2 ((247 + 1) :: dn 1 v) (by intro n hn; simp [dn] at hn; omega) rfl (by simp [dn]; try omega)]
      go_wp2; go_ret
      refine ⟨?_, (Below.refl _ _).alloc (Nat.le_refl _) _⟩
      rw [enc_dn (k := 1) (by omega) hv (by simp; omega) (by simp; omega)]; rfl
end Go.Proofs.YtiehhlolhhjgpaaGreatDoor.Pl

namespace Go.Proofs.YtiehhlolhhjgpaaGreatDoor.Pl
open Go.RowKit

theorem isEmpty_no {s : ByteArray} (h0 : 0 < s.size) : s.toList.isEmpty = false := by
  rw [ByteArray.toList_eq]
  have : s.data.toList.length = s.size := by simp
  cases hd : s.data.toList with
  | nil => rw [hd] at this; simp at this; omega
  | cons a r => rfl

set_option maxRecDepth 100000 in
theorem readnum_nil (w : World) :
    Calls Tryz.prog 89 #[.string ⟨#[]⟩] w fun e w' => e = .returned (.tuple #[.int .u64 0, .int .i64 0, .int .i64 6]) ∧ w = w' := by
  go_enter Tryz.func89, Tryz.ntmps89
  go_wp2
  go_ret3
  exact ⟨rfl, rfl⟩
set_option maxRecDepth 100000 in
theorem readnum_small (s : ByteArray) (h0 : 0 < s.size) (hb : s[0].toNat < 248) (w : World) :
    Calls Tryz.prog 89 #[.string s] w fun e w' => e = .returned (.tuple #[.int .u64 s[0].toNat, .int .i64 1, .int .i64 0]) ∧ w = w' := by
  have hne : s.toList.isEmpty = false := isEmpty_no h0
  go_enter Tryz.func89, Tryz.ntmps89
  go_wp2
  go_ret3
  exact ⟨rfl, rfl⟩
set_option maxRecDepth 100000 in
theorem readnum_end (s : ByteArray) (h0 : 0 < s.size) (hb : 248 ≤ s[0].toNat) (hb2 : s[0].toNat < 256) (hk : s.size - 1 < s[0].toNat - 247) (w : World) :
    Calls Tryz.prog 89 #[.string s] w fun e w' => e = .returned (.tuple #[.int .u64 0, .int .i64 0, .int .i64 6]) ∧ w = w' := by
  have hne : s.toList.isEmpty = false := isEmpty_no h0
  go_enter Tryz.func89, Tryz.ntmps89
  go_wp2
  go_ret3
  exact ⟨rfl, rfl⟩
set_option maxRecDepth 100000 in
theorem readnum_zero (s d : ByteArray) (hd : s.extract 1 s.size = d) (h0 : 0 < s.size) (hb : 248 ≤ s[0].toNat) (hb2 : s[0].toNat < 256) (hk : s[0].toNat - 247 ≤ d.size) (h1 : 0 < d.size) (hz : d[0].toNat = 0) (w : World) :
    Calls Tryz.prog 89 #[.string s] w fun e w' => e = .returned (.tuple #[.int .u64 0, .int .i64 0, .int .i64 7]) ∧ w = w' := by
  have hne : s.toList.isEmpty = false := isEmpty_no h0
  have hz' : ((d[0].toNat : Int) == 0) = true := by rw [hz]; rfl
  clear hz
  go_enter Tryz.func89, Tryz.ntmps89
  go_wp2
  go_ret3
  exact ⟨rfl, rfl⟩
set_option maxRecDepth 100000 in
theorem readnum_one (s d : ByteArray) (hd : s.extract 1 s.size = d) (h0 : 0 < s.size) (hb : s[0].toNat = 248) (h1 : 0 < d.size) (hz : d[0].toNat ≠ 0) (hz2 : d[0].toNat < 248) (w : World) :
    Calls Tryz.prog 89 #[.string s] w fun e w' => e = .returned (.tuple #[.int .u64 0, .int .i64 0, .int .i64 7]) ∧ w = w' := by
  have hne : s.toList.isEmpty = false := isEmpty_no h0
  have hz' : ((d[0].toNat : Int) == 0) = false := by rw [beq_eq_false_iff_ne]; omega
  clear hz
  go_enter Tryz.func89, Tryz.ntmps89
  go_wp2
  go_ret3
  exact ⟨rfl, rfl⟩
/-- A number of fewer than eight digits, and one digit more. -/
theorem or_digit (V : Nat) (b : UInt8) (hV : V < 256 ^ 7) : bits .or .u64 (IntKind.u64.wrap ((V : Int) * 256)) (IntKind.u64.wrap (b.toNat : Int)) = ((V * 256 + b.toNat : Nat) : Int) := by
  have hb : b.toNat < 256 := b.toNat_lt
  have h7 : V < 72057594037927936 := hV
  have e1 : IntKind.u64.wrap ((V : Int) * 256) = ((V * 256 : Nat) : Int) := by rw [IntWalk.u64_in _ (by omega)]; omega
  have e2 : IntKind.u64.wrap (b.toNat : Int) = (b.toNat : Int) := IntWalk.u64_in _ (by omega)
  rw [e1, e2, bits_or_u64_nat _ _ (by omega) (by omega)]
  have h := Nat.two_pow_add_eq_or_of_lt (i := 8) (b := b.toNat) (by omega) V
  have h2 : 2 ^ 8 * V = V * 256 := by omega
  rw [h2] at h
  rw [← h]
theorem val_take (l : List UInt8) (j : Nat) (h : j < l.length) : val (l.take (j + 1)) = val (l.take j) * 256 + l[j].toNat := by
  rw [List.take_succ_eq_append_getElem h, val_snoc]
theorem or_zero (b : UInt8) : bits .or .u64 0 (IntKind.u64.wrap (b.toNat : Int)) = (b.toNat : Int) := by
  have h := or_digit 0 b (by decide)
  have e : IntKind.u64.wrap (((0 : Nat) : Int) * 256) = 0 := by rw [IntWalk.u64_in _ (by omega)]; omega
  rw [e] at h
  rw [h]; simp
set_option maxRecDepth 100000 in
theorem readnum_ok1 (s d : ByteArray) (hd : s.extract 1 s.size = d) (h0 : 0 < s.size) (hb : s[0].toNat = 248) (h1 : 0 < d.size) (hz2 : 248 ≤ d[0].toNat) (w : World) :
    Calls Tryz.prog 89 #[.string s] w fun e w' => e = .returned (.tuple #[.int .u64 d[0].toNat, .int .i64 2, .int .i64 0]) ∧ w = w' := by
  have hne : s.toList.isEmpty = false := isEmpty_no h0
  have hz' : ((d[0].toNat : Int) == 0) = false := by rw [beq_eq_false_iff_ne]; omega
  go_enter Tryz.func89, Tryz.ntmps89
  go_wp2
  go_rounds 2
  go_ret3
  exact ⟨ret3 (or_zero _), rfl⟩
set_option maxRecDepth 100000 in
theorem readnum_okk (s d : ByteArray) (k : Nat) (hd : s.extract 1 s.size = d) (h0 : 0 < s.size) (hb : s[0].toNat = 247 + k) (hk2 : 2 ≤ k) (hk8 : k ≤ 8) (h1 : k ≤ d.size) (h1' : 0 < d.size) (hz : d[0].toNat ≠ 0) (w : World) :
    Calls Tryz.prog 89 #[.string s] w fun e w' => e = .returned (.tuple #[.int .u64 (val (d.data.toList.take k)), .int .i64 (1 + k), .int .i64 0]) ∧ w = w' := by
  have hne : s.toList.isEmpty = false := isEmpty_no h0
  have hz' : ((d[0].toNat : Int) == 0) = false := by rw [beq_eq_false_iff_ne]; omega
  have hk1 : ((k : Int) == 1) = false := by rw [beq_eq_false_iff_ne]; omega
  have hk7 : (247 + (k : Int) - 247) = k := by omega
  have hd1 : decide (d.size < k) = false := by simp; omega
  have hd2 : decide (247 + (k : Int) < 248) = false := by simp; omega
  clear hz
  go_enter Tryz.func89, Tryz.ntmps89
  go_wp2
  go_loop [2, 39] (fun v i => ∃ j : Nat, j ≤ k ∧ i = .int .i64 j ∧ v = .int .u64 (val (d.data.toList.take j))) (fun _ i => k - (intOf i).toNat)
  case atStart => exact ⟨0, Nat.zero_le _, rfl, rfl⟩
  case round =>
    obtain ⟨j, hj, rfl, rfl⟩ := hrel
    have HS : Hid (∀ h : j < d.size, val (d.data.toList.take (j + 1)) = val (d.data.toList.take j) * 256 + d[j].toNat) := fun h => val_take d.data.toList j (by simpa using h)
    have HV : Hid (j < k → val (d.data.toList.take j) < 256 ^ 7) := fun h => by
      have h2 := val_lt (d.data.toList.take j)
      exact Nat.lt_of_lt_of_le h2 (Nat.pow_le_pow_right (by decide) (by simp; omega))
    clear hz' hk1 hk7 hne hd1 hd2
    go_wp2
    · have hlt : j < k := by assumption
      go_round
      case rel => exact ⟨j + 1, by omega, by go_num, by rw [HS.out (by omega), ← or_digit _ _ (HV.out hlt)]⟩
      case measure => simp [intOf]; omega
    · obtain rfl : j = k := by omega
      go_ret3
      exact ⟨rfl, rfl⟩
/-- ReadNum, whatever it is given. -/
theorem readnum_any (s : ByteArray) (hs : s.size ≤ 9223372036854775807) (w : World) :
    Calls Tryz.prog 89 #[.string s] w fun e w' => e = .returned (.tuple #[.int .u64 (rdn s.data.toList).1, .int .i64 (rdn s.data.toList).2.1, .int .i64 (rdn s.data.toList).2.2]) ∧ w = w' := by
  by_cases h0 : 0 < s.size
  · have hd : ∃ d, s.extract 1 s.size = d := ⟨_, rfl⟩
    obtain ⟨d, hd⟩ := hd
    have hdd : d.data.toList = s.data.toList.drop 1 := by
      rw [← hd]
      have := Lib.extract_data s 1 s.size
      rw [this]
      exact List.take_of_length_le (by simp)
    have hds : d.size = s.size - 1 := by
      have : d.data.toList.length = s.size - 1 := by rw [hdd]; simp
      simpa using this
    have hlist : s.data.toList = s[0] :: d.data.toList := by
      rw [hdd]
      have h1 : s.data.toList.length = s.size := by simp
      cases hl : s.data.toList with
      | nil => rw [hl] at h1; simp at h1; omega
      | cons a r =>
        have : s[0] = a := by
          have h2 : s.data.toList[0]'(by omega) = a := by simp [hl]
          exact h2
        simp [this]
    have hhd : ∀ h : 0 < d.size, d.data.toList.headD 0 = d[0] := by
      intro h
      have h1 : d.data.toList.length = d.size := by simp
      cases hl : d.data.toList with
      | nil => rw [hl] at h1; simp at h1; omega
      | cons a r =>
        have h2 : d.data.toList[0]'(by omega) = a := by simp [hl]
        exact h2.symm
    have hb2 : s[0].toNat < 256 := s[0].toNat_lt
    have hdl : d.data.toList.length = d.size := by simp
    rw [hlist]
    by_cases hb : s[0].toNat < 248
    · rw [rdn_small _ _ hb]
      exact readnum_small s h0 hb w
    · by_cases hk : d.size < s[0].toNat - 247
      · rw [rdn_end _ _ hb (by omega)]
        exact readnum_end s h0 (by omega) hb2 (by omega) w
      · have h1 : 0 < d.size := by omega
        have hh := hhd h1
        by_cases hz : d[0].toNat = 0
        · rw [rdn_form _ _ hb (by omega) (.inl (by rw [hh]; exact UInt8.toNat.inj (by simpa using hz)))]
          exact readnum_zero s d hd h0 (by omega) hb2 (by omega) h1 hz w
        · have hz' : ¬ d.data.toList.headD 0 = 0 := fun e => hz (by rw [← hh, e]; rfl)
          by_cases hone : s[0].toNat = 248
          · by_cases hz2 : d[0].toNat < 248
            · rw [rdn_form _ _ hb (by omega) (.inr ⟨hone, by rw [hh]; exact hz2⟩)]
              exact readnum_one s d hd h0 hone h1 hz hz2 w
            · rw [rdn_ok _ _ hb (by omega) (by
                intro h
                rcases h with h | ⟨_, h⟩
                · exact hz' h
                · rw [hh] at h; exact hz2 h), hone]
              have e1 : val (d.data.toList.take (248 - 247)) = d[0].toNat := by
                rw [← hh]
                cases hl : d.data.toList with
                | nil => rw [hl] at hdl; simp at hdl; omega
                | cons a r => simp [val]
              rw [e1]
              exact readnum_ok1 s d hd h0 hone h1 (by omega) w
          · have ⟨k, hk2⟩ : ∃ k, s[0].toNat = 247 + k := ⟨s[0].toNat - 247, by omega⟩
            rw [rdn_ok _ _ hb (by omega) (by
                intro h
                rcases h with h | ⟨h, _⟩
                · exact hz' h
                · exact hone h), hk2, Nat.add_sub_cancel_left]
            exact readnum_okk s d k hd h0 hk2 (by omega) (by omega) (by omega) h1 hz w
  · have : s = ⟨#[]⟩ := by
      cases s with
      | mk a =>
        have h2 : a.size = 0 := by simpa [ByteArray.size] using h0
        rw [Array.eq_empty_of_size_eq_zero h2]
    subst this
    exact readnum_nil w
end Go.Proofs.YtiehhlolhhjgpaaGreatDoor.Pl

namespace Go.Proofs.YtiehhlolhhjgpaaGreatDoor.Pl
open Go.RowKit

theorem clone_any (s : ByteArray) (w : World) (hs : s.size ≤ 281474976710656) :
    Calls Tryz.prog 88 #[.string s] w fun e w' => e = .returned (.string s) ∧ Below w.heap.size w w' := by
  go_enter Tryz.func88, Tryz.ntmps88
  go_wp2_with (go_at_call 107; refine (Tryz.stringslite_Clone _ _ hs).mono ?_; rintro e w' ⟨rfl, hb⟩)
  go_ret
  exact ⟨rfl, hb⟩

set_option maxRecDepth 100000 in
theorem text_any (s : ByteArray) (w : World) (hs : s.size ≤ 281474976710656) :
    Calls Tryz.prog 42 #[.string s] w fun e w' => e = .returned (.string (⟨(enc s.size).toArray⟩ ++ s)) ∧ Below w.heap.size w w' := by
  have h8 : s.size < 256 ^ 8 := by rw [two64]; omega
  have hl := (enc_len s.size).2
  have H8 := Lib.hid h8
  clear h8
  go_enter Tryz.func42, Tryz.ntmps42
  go_wp2_with (go_at_call 44; refine (num_any _ H8.out _).mono ?_; rintro e w' ⟨rfl, hb⟩)
  go_ret
  exact ⟨rfl, hb⟩
theorem text_list (s : ByteArray) : (⟨(enc s.size).toArray⟩ ++ s : ByteArray) = ⟨(txt s.data.toList).toArray⟩ := by
  apply ByteArray.ext
  simp [txt]

set_option maxRecDepth 100000 in
theorem readtext_any (s : ByteArray) (m : Int) (w : World) (hs : s.size ≤ 281474976710656) (m1 : -9223372036854775808 ≤ m) (m2 : m ≤ 9223372036854775807) :
    Calls Tryz.prog 57 #[.string s, .int .i64 m] w fun e w' =>
      e = .returned (.tuple #[.string ⟨(rdt s.data.toList m).1.toArray⟩, .int .i64 (rdt s.data.toList m).2.1, .int .i64 (rdt s.data.toList m).2.2]) ∧ Below w.heap.size w w' := by
  have ⟨v, n, e, hr⟩ : ∃ v n e, rdn s.data.toList = (v, n, e) := ⟨_, _, _, rfl⟩
  have hc : ∀ W, Calls Tryz.prog 89 #[.string s] W fun e' w' => e' = .returned (.tuple #[.int .u64 v, .int .i64 n, .int .i64 e]) ∧ W = w' := by
    intro W
    have h := readnum_any s (by omega) W
    rw [hr] at h
    exact h
  have hlen : s.data.toList.length = s.size := by simp
  have HC := Lib.hid hc
  clear hc
  by_cases he : e = 0
  · subst he
    obtain ⟨n1, n2, hn, hv⟩ := rdn_sound hr
    clear hn
    have hv' : v < 18446744073709551616 := by rw [two64] at hv; exact hv
    clear hv
    by_cases h1 : max m 0 < (v : Int)
    · have HR := Lib.hid (rdt_long hr h1)
      clear hr hlen
      go_enter Tryz.func57, Tryz.ntmps57
      go_wp2_with (go_at_call 89; refine (HC.out _).mono ?_; rintro e w' ⟨rfl, rfl⟩)
      go_ret3
      exact ⟨by rw [HR.out]; rfl, Below.refl _ _⟩
    · have hns : n ≤ s.size := by omega
      by_cases h2 : s.size - n < v
      · have HR := Lib.hid (rdt_end (m := m) hr h1 (by rw [hlen]; exact h2))
        clear hr hlen
        go_enter Tryz.func57, Tryz.ntmps57
        go_wp2_with (go_at_call 89; refine (HC.out _).mono ?_; rintro e w' ⟨rfl, rfl⟩)
        go_quiet (fail)
        go_wp2
        go_ret3
        exact ⟨by rw [HR.out]; rfl, below_drewN (Below.refl _ _) _⟩
      · have HR := Lib.hid (rdt_ok (m := m) hr h1 (by rw [hlen]; exact h2))
        have HE : Hid ((s.extract n s.size).extract 0 v = ⟨((s.data.toList.drop n).take v).toArray⟩) := by
          apply ByteArray.ext
          apply Array.toList_inj.1
          rw [Lib.extract_data, Lib.extract_data]
          simp only [List.drop_zero, Nat.sub_zero]
          congr 1
          exact List.take_of_length_le (by simp)
        clear hr hlen
        go_enter Tryz.func57, Tryz.ntmps57
        go_wp2_with (go_at_call 89; refine (HC.out _).mono ?_; rintro e w' ⟨rfl, rfl⟩)
        go_quiet (fail)
        go_wp2_with (go_at_call 88; refine (clone_any _ _ (by simp; omega)).mono ?_; rintro e w' ⟨rfl, hb⟩)
        go_ret3
        exact ⟨by rw [HR.out]; exact ret3s HE.out (by simp) rfl, (below_drewN (Below.refl _ _) _).trans hb⟩
  · have HR := Lib.hid (rdt_err (m := m) hr he)
    have he' : ((e : Int) != 0) = true := by rw [bne_iff_ne]; omega
    clear hr hlen
    go_enter Tryz.func57, Tryz.ntmps57
    go_wp2_with (go_at_call 89; refine (HC.out _).mono ?_; rintro e w' ⟨rfl, rfl⟩)
    go_ret3
    exact ⟨by rw [HR.out]; rfl, Below.refl _ _⟩
end Go.Proofs.YtiehhlolhhjgpaaGreatDoor.Pl

namespace Go.Proofs.YtiehhlolhhjgpaaGreatDoor.Pl

structure Pl6 where
  at_ : Nat
  dep : Nat
  head : Nat
  parts : Nat

/-- Of so many terms, one behind the other. -/
def visL (vs : Nat → List Pl6 × Nat × Nat) : Nat → Nat → List Pl6 × Nat × Nat
  | 0, a => ([], a, 0)
  | k + 1, a => if (vs a).2.2 = 0 then ((vs a).1 ++ (visL vs k (vs a).2.1).1, (visL vs k (vs a).2.1).2) else ((vs a).1, 0, (vs a).2.2)
/-- Of the term at a place, that is no deeper than d below. -/
def visP (s : List UInt8) : Nat → Nat → List Pl6 × Nat × Nat
  | 0, _ => ([], 0, 60)
  | d + 1, a =>
    if (headP (s.drop a)).2.2 = 0 then
      (⟨a, 16 - d, a + (headP (s.drop a)).1, (headP (s.drop a)).2.1⟩ :: (visL (visP s d) (headP (s.drop a)).2.1 (a + (headP (s.drop a)).1)).1, (visL (visP s d) (headP (s.drop a)).2.1 (a + (headP (s.drop a)).1)).2)
    else ([], 0, (headP (s.drop a)).2.2)

/-- Where the places end, and what is wrong, is what reading tells. -/
theorem vis_read (s : List UInt8) : ∀ (d a : Nat), (visP s d a).2 = if (readP d (s.drop a)).2 = 0 then (a + (readP d (s.drop a)).1, 0) else (0, (readP d (s.drop a)).2) := by
  intro d
  induction d with
  | zero => intro a; simp [visP, readP]
  | succ d ih =>
    have loop : ∀ (k a : Nat), (visL (visP s d) k a).2 = if (loopP (readP d) k (s.drop a)).2 = 0 then (a + (loopP (readP d) k (s.drop a)).1, 0) else (0, (loopP (readP d) k (s.drop a)).2) := by
      intro k
      induction k with
      | zero => intro a; simp [visL, loopP]
      | succ k ihk =>
        intro a
        have h := ih a
        by_cases h0 : (readP d (s.drop a)).2 = 0
        · rw [if_pos h0] at h
          have h1 : (visP s d a).2.2 = 0 := by rw [h]
          have h2 : (visP s d a).2.1 = a + (readP d (s.drop a)).1 := by rw [h]
          rw [visL, if_pos h1, loopP, if_pos h0]
          simp only
          rw [ihk, h2, ← List.drop_drop]
          by_cases h3 : (loopP (readP d) k ((s.drop a).drop (readP d (s.drop a)).1)).2 = 0
          · rw [if_pos h3, if_pos h3]; simp [Nat.add_assoc]
          · rw [if_neg h3, if_neg h3]; exact (if_neg h3).symm
        · rw [if_neg h0] at h
          have h1 : (visP s d a).2.2 ≠ 0 := by rw [h]; exact h0
          rw [visL, if_neg h1, loopP, if_neg h0]
          simp only
          rw [if_neg h0, h]
    intro a
    by_cases h0 : (headP (s.drop a)).2.2 = 0
    · rw [visP, if_pos h0, readP, if_pos h0]
      simp only
      rw [loop, ← List.drop_drop]
      by_cases h3 : (loopP (readP d) (headP (s.drop a)).2.1 ((s.drop a).drop (headP (s.drop a)).1)).2 = 0
      · rw [if_pos h3, if_pos h3]; simp [Nat.add_assoc]
      · rw [if_neg h3, if_neg h3]; exact (if_neg h3).symm
    · rw [visP, if_neg h0, readP, if_neg h0]
      simp [h0]

theorem head_le {s : List UInt8} (h : (headP s).2.2 = 0) : (headP s).1 ≤ s.length := (head_front (s := s) (n := (headP s).1) (p := (headP s).2.1) (by rw [← h])).1
theorem head_le32 {s : List UInt8} (h : (headP s).2.2 = 0) : (headP s).2.1 ≤ 32 := by
  obtain ⟨c, hk⟩ := head_kind (head_front (s := s) (n := (headP s).1) (p := (headP s).2.1) (by rw [← h])).2
  cases hk <;> omega
theorem head_pos {s : List UInt8} (h : (headP s).2.2 = 0) : 1 ≤ (headP s).1 := by
  have h1 := (head_front (s := s) (n := (headP s).1) (p := (headP s).2.1) (by rw [← h])).2.pos
  cases hh : (headP s).1 with
  | zero => rw [hh] at h1; simp at h1
  | succ k => omega

/-- What every place is. -/
def okPl (s : List UInt8) (p : Pl6) : Prop := p.at_ ≤ s.length ∧ p.head ≤ s.length ∧ 1 ≤ p.dep ∧ p.dep ≤ 16 ∧ p.parts ≤ 32
theorem vis_ok (s : List UInt8) : ∀ (d a : Nat), d ≤ 16 → a ≤ s.length → (∀ p ∈ (visP s d a).1, okPl s p) ∧ ((visP s d a).2.2 = 0 → (visP s d a).2.1 ≤ s.length) := by
  intro d
  induction d with
  | zero => intro a _ _; simp [visP]
  | succ d ih =>
    intro a hd ha
    have loop : ∀ (k a : Nat), a ≤ s.length → (∀ p ∈ (visL (visP s d) k a).1, okPl s p) ∧ ((visL (visP s d) k a).2.2 = 0 → (visL (visP s d) k a).2.1 ≤ s.length) := by
      intro k
      induction k with
      | zero => intro a ha; simp [visL, ha]
      | succ k ihk =>
        intro a ha
        obtain ⟨i1, i2⟩ := ih a (by omega) ha
        rw [visL]
        split
        · rename_i h0
          obtain ⟨j1, j2⟩ := ihk (visP s d a).2.1 (i2 h0)
          refine ⟨?_, j2⟩
          intro p hp
          rcases List.mem_append.1 hp with hp | hp
          · exact i1 p hp
          · exact j1 p hp
        · rename_i h0
          exact ⟨i1, fun h => absurd h h0⟩
    rw [visP]
    split
    · rename_i h0
      have h1 := head_le h0
      have h2 := head_le32 h0
      rw [List.length_drop] at h1
      obtain ⟨j1, j2⟩ := loop (headP (s.drop a)).2.1 (a + (headP (s.drop a)).1) (by omega)
      refine ⟨?_, j2⟩
      intro p hp
      rcases List.mem_cons.1 hp with rfl | hp
      · exact ⟨ha, by show a + _ ≤ _; omega, by show 1 ≤ 16 - d; omega, by show 16 - d ≤ 16; omega, h2⟩
      · exact j1 p hp
    · rename_i h0
      exact ⟨by simp, fun h => absurd h h0⟩

/-- The last place's head is where all ends. -/
theorem vis_last (s : List UInt8) : ∀ (d a : Nat), (visP s d a).2.2 = 0 → ∃ q p, (visP s d a).1 = q ++ [p] ∧ p.head = (visP s d a).2.1 := by
  intro d
  induction d with
  | zero => intro a h; simp [visP] at h
  | succ d ih =>
    have loop : ∀ (k a : Nat), (visL (visP s d) (k + 1) a).2.2 = 0 → ∃ q p, (visL (visP s d) (k + 1) a).1 = q ++ [p] ∧ p.head = (visL (visP s d) (k + 1) a).2.1 := by
      intro k
      induction k with
      | zero =>
        intro a h
        rw [visL] at h ⊢
        split at h
        · rename_i h0
          rw [if_pos h0]
          obtain ⟨q, p, e1, e2⟩ := ih a h0
          exact ⟨q, p, by simp [visL, e1], by simp [visL, e2]⟩
        · rename_i h0
          exact absurd h h0
      | succ k ihk =>
        intro a h
        rw [visL] at h ⊢
        split at h
        · rename_i h0
          rw [if_pos h0]
          obtain ⟨q, p, e1, e2⟩ := ihk _ h
          exact ⟨(visP s d a).1 ++ q, p, by simp [e1], e2⟩
        · rename_i h0
          exact absurd h h0
    intro a h
    rw [visP] at h ⊢
    split at h
    · rename_i h0
      rw [if_pos h0]
      cases hk : (headP (s.drop a)).2.1 with
      | zero => exact ⟨[], ⟨a, 16 - d, a + (headP (s.drop a)).1, 0⟩, by simp [visL], by simp [visL]⟩
      | succ k =>
        rw [hk] at h
        obtain ⟨q, p, e1, e2⟩ := loop k _ h
        exact ⟨_ :: q, p, by simp [e1]; rfl, e2⟩
    · rename_i h0
      exact absurd h h0

/- The places of a tree, each with what stands there. -/
mutual
def offT : Nat → Nat → Tm → List (Pl6 × Tm)
  | a, D, .node h l => (⟨a, D, a + h.length, l.length⟩, .node h l) :: offs (a + h.length) (D + 1) l
def offs : Nat → Nat → List Tm → List (Pl6 × Tm)
  | _, _, [] => []
  | a, D, t :: l => offT a D t ++ offs (a + t.enc.length) D l
end
theorem offs_snd : ∀ t : Tm, ∀ a D, (offT a D t).map Prod.snd = t.places := by
  refine Tm.ind ?_
  intro h l ih a D
  have loop : ∀ m : List Tm, (∀ t ∈ m, t ∈ l) → ∀ a D, (offs a D m).map Prod.snd = placess m := by
    intro m
    induction m with
    | nil => intro _ a D; rfl
    | cons t m ihm =>
      intro hm a D
      rw [offs, List.map_append, ih t (hm t (List.mem_cons_self ..)), ihm (fun u hu => hm u (List.mem_cons_of_mem _ hu)), placess]
  rw [offT, List.map_cons, loop l (fun _ h => h), Tm.places]
/-- What reading a tree's bytes goes over. -/
theorem vis_tree (s : List UInt8) : ∀ t : Tm, t.good → ∀ d, t.deep ≤ d → d ≤ 16 → ∀ a rest, s.drop a = t.enc ++ rest → visP s d a = ((offT a (17 - d) t).map Prod.fst, a + t.enc.length, 0) := by
  refine Tm.ind ?_
  intro h l ih hg d hd hd16 a rest e
  simp only [Tm.good] at hg
  simp only [Tm.deep] at hd
  obtain ⟨d, rfl⟩ : ∃ k, d = k + 1 := ⟨d - 1, by omega⟩
  have loop : ∀ m : List Tm, (∀ t ∈ m, t ∈ l) → ∀ a rest, s.drop a = encs m ++ rest → visL (visP s d) m.length a = ((offs a (17 - d) m).map Prod.fst, a + (encs m).length, 0) := by
    intro m
    induction m with
    | nil => intro _ a rest _; simp [visL, offs, encs]
    | cons t m ihm =>
      intro hm a rest e
      have ht := hm t (List.mem_cons_self ..)
      rw [encs, List.append_assoc] at e
      have h1 := ih t ht (goods_mem hg.2 t ht) d (by have := deeps_mem ht; omega) (by omega) a _ e
      have e2 : s.drop (a + t.enc.length) = encs m ++ rest := by rw [← List.drop_drop, e, List.drop_left]
      have h2 := ihm (fun u hu => hm u (List.mem_cons_of_mem _ hu)) _ _ e2
      rw [List.length_cons, visL, h1, if_pos rfl]
      simp only
      rw [h2, offs, encs, List.map_append]
      simp [Nat.add_assoc]
  rw [Tm.enc_node, List.append_assoc] at e
  have e1 := hg.1 (encs l ++ rest)
  have e2 : s.drop (a + h.length) = encs l ++ rest := by rw [← List.drop_drop, e, List.drop_left]
  rw [visP, e, e1, if_pos rfl]
  simp only
  rw [loop l (fun _ h => h) _ _ e2, offT, Tm.enc_node]
  have hD : 17 - (d + 1) = 16 - d := by omega
  have hD2 : 17 - (d + 1) + 1 = 17 - d := by omega
  rw [hD2, hD, List.map_cons]
  simp [Nat.add_assoc]
/-- What stands at a place. -/
theorem offs_at (s : List UInt8) : ∀ t : Tm, ∀ a D rest, s.drop a = t.enc ++ rest → ∀ x ∈ offT a D t, ∃ r, s.drop x.1.at_ = x.2.enc ++ r := by
  refine Tm.ind ?_
  intro h l ih a D rest e
  have loop : ∀ m : List Tm, (∀ t ∈ m, t ∈ l) → ∀ a D rest, s.drop a = encs m ++ rest → ∀ x ∈ offs a D m, ∃ r, s.drop x.1.at_ = x.2.enc ++ r := by
    intro m
    induction m with
    | nil => intro _ a D rest _ x hx; simp [offs] at hx
    | cons t m ihm =>
      intro hm a D rest e x hx
      rw [encs, List.append_assoc] at e
      rw [offs] at hx
      rcases List.mem_append.1 hx with hx | hx
      · exact ih t (hm t (List.mem_cons_self ..)) a D _ e x hx
      · exact ihm (fun u hu => hm u (List.mem_cons_of_mem _ hu)) (a + t.enc.length) D rest (by rw [← List.drop_drop, e, List.drop_left]) x hx
  intro x hx
  rw [offT] at hx
  rcases List.mem_cons.1 hx with rfl | hx
  · exact ⟨rest, e⟩
  · rw [Tm.enc_node, List.append_assoc] at e
    exact loop l (fun _ h => h) _ _ rest (by rw [← List.drop_drop, e, List.drop_left]) x hx
theorem offs_dep : ∀ t : Tm, ∀ a D, ∀ x ∈ offT a D t, D ≤ x.1.dep := by
  refine Tm.ind ?_
  intro h l ih a D
  have loop : ∀ m : List Tm, (∀ t ∈ m, t ∈ l) → ∀ a D, ∀ x ∈ offs a D m, D ≤ x.1.dep := by
    intro m
    induction m with
    | nil => intro _ a D x hx; simp [offs] at hx
    | cons t m ihm =>
      intro hm a D x hx
      rw [offs] at hx
      rcases List.mem_append.1 hx with hx | hx
      · exact ih t (hm t (List.mem_cons_self ..)) a D x hx
      · exact ihm (fun u hu => hm u (List.mem_cons_of_mem _ hu)) _ D x hx
  intro x hx
  rw [offT] at hx
  rcases List.mem_cons.1 hx with rfl | hx
  · exact Nat.le_refl _
  · have := loop l (fun _ h => h) _ _ x hx; omega
/-- The parts are what stands one deeper. -/
theorem offs_parts (h : List UInt8) (l : List Tm) (a D : Nat) : ((offT a D (.node h l)).filter fun x => x.1.dep == D + 1).map Prod.snd = l := by
  have loop : ∀ m : List Tm, ∀ a, ((offs a (D + 1) m).filter fun x => x.1.dep == D + 1).map Prod.snd = m := by
    intro m
    induction m with
    | nil => intro a; rfl
    | cons t m ihm =>
      intro a
      obtain ⟨h', l'⟩ := t
      rw [offs, List.filter_append, List.map_append, ihm]
      rw [offT, List.filter_cons, if_pos (by simp)]
      have hz : (offs (a + h'.length) (D + 1 + 1) l').filter (fun x => x.1.dep == D + 1) = [] := by
        rw [List.filter_eq_nil_iff]
        intro x hx
        have h1 : D + 1 + 1 ≤ x.1.dep := by
          have h2 := offs_dep (.node h' l') a (D + 1) x (by rw [offT]; exact List.mem_cons_of_mem _ hx)
          have : ∀ m : List Tm, ∀ a E, ∀ x ∈ offs a E m, E ≤ x.1.dep := by
            intro m
            induction m with
            | nil => intro a E x hx; simp [offs] at hx
            | cons t m ihm =>
              intro a E x hx
              rw [offs] at hx
              rcases List.mem_append.1 hx with hx | hx
              · exact offs_dep t a E x hx
              · exact ihm _ E x hx
          exact this l' _ _ x hx
        simp <;> omega
      rw [hz]; simp
  rw [offT, List.filter_cons, if_neg (by simp), loop]
theorem max_app (l m : List Nat) : (l ++ m).foldl max 0 = max (l.foldl max 0) (m.foldl max 0) := by
  have h : ∀ (m : List Nat) (x : Nat), m.foldl max x = max x (m.foldl max 0) := by
    intro m
    induction m with
    | nil => intro x; simp
    | cons y m ih => intro x; rw [List.foldl_cons, List.foldl_cons, ih (max x y), ih (max 0 y)]; omega
  rw [List.foldl_append, h]
theorem max_cons (x : Nat) (l : List Nat) : (x :: l).foldl max 0 = max x (l.foldl max 0) := by
  have := max_app [x] l
  simpa using this
/-- How deep it all is. -/
theorem offs_deep : ∀ t : Tm, ∀ a D, D ≠ 0 → ((offT a D t).map fun x => x.1.dep).foldl max 0 = D - 1 + t.deep := by
  refine Tm.ind ?_
  intro h l ih a D hD
  have loop : ∀ m : List Tm, (∀ t ∈ m, t ∈ l) → ∀ a, ((offs a (D + 1) m).map fun x => x.1.dep).foldl max 0 = if m = [] then 0 else D + deeps m := by
    intro m
    induction m with
    | nil => intro _ a; simp [offs]
    | cons t m ihm =>
      intro hm a
      rw [offs, List.map_append, max_app, ihm (fun u hu => hm u (List.mem_cons_of_mem _ hu))]
      have h1 := ih t (hm t (List.mem_cons_self ..)) a (D + 1) (by omega)
      rw [h1, if_neg (List.cons_ne_nil _ _), deeps]
      have : 1 ≤ t.deep := by obtain ⟨a, b⟩ := t; simp [Tm.deep]
      by_cases hm0 : m = []
      · subst hm0; simp [deeps]
      · rw [if_neg hm0]; omega
  rw [offT, List.map_cons, max_cons, loop l (fun _ h => h)]
  simp only [Tm.deep]
  by_cases hl : l = []
  · subst hl; rw [if_pos rfl, deeps]; omega
  · rw [if_neg hl]
    omega
end Go.Proofs.YtiehhlolhhjgpaaGreatDoor.Pl

namespace Go.Proofs.YtiehhlolhhjgpaaGreatDoor.Pl
open Go.RowKit

/-- What is thrown. -/
abbrev boom (e : Nat) : Ending := .panicked [{ v := .iface 24 (.int .i64 e), recovered := false }]

theorem need_ok (w : World) : Calls Tryz.prog 123 #[.int .i64 0] w fun x w' => x = .returned (.tuple #[]) ∧ w' = w := by
  go_enter Tryz.func123, Tryz.ntmps123
  go_wp2
  go_end0
  exact ⟨rfl, rfl⟩
theorem need_bad (e : Nat) (he : e ≠ 0) (w : World) : Calls Tryz.prog 123 #[.int .i64 e] w fun x w' => x = boom e ∧ w' = w := by
  have hz : ((e : Int) != 0) = true := by rw [bne_iff_ne]; omega
  go_enter Tryz.func123, Tryz.ntmps123
  go_wp2
  exact ⟨rfl, rfl, rfl⟩

/-- A text's size, or what is wrong. -/
def Size6 (r : Nat × Nat) (w : World) (x : Ending) (w' : World) : Prop := (if r.2 = 0 then x = .returned (.int .i64 r.1) else x = boom r.2) ∧ Below w.heap.size w w'
theorem Size6.ok {k : Nat} {w w' : World} (h : Below w.heap.size w w') : Size6 (k, 0) w (.returned (.int .i64 k)) w' := ⟨by rw [if_pos rfl], h⟩
theorem Size6.bad {k f : Nat} {w w' : World} (hf : f ≠ 0) (h : Below w.heap.size w w') : Size6 (k, f) w (boom f) w' := ⟨by rw [if_neg hf], h⟩

set_option maxHeartbeats 1000000 in
set_option maxRecDepth 100000 in
theorem textsize_any (s : ByteArray) (hs : s.size ≤ 281474976710656) (w : World) :
    Calls Tryz.prog 119 #[.string s] w (Size6 ((rdt (bl s) 1024).2.1, (rdt (bl s) 1024).2.2) w) := by
  have hT := fun V => readtext_any s 1024 V hs (by decide) (by decide)
  obtain ⟨r, hr⟩ : ∃ r, r = rdt (bl s) 1024 := ⟨_, rfl⟩
  have hbl : s.data.toList = bl s := rfl
  rw [hbl, ← hr] at hT
  rw [← hr]
  obtain ⟨t, k, f⟩ := r
  clear hr hs hbl
  have HT := Lib.hid hT
  clear hT
  by_cases hf : f = 0
  · subst hf
    go_enter Tryz.func119, Tryz.ntmps119
    go_wp2_with (first | (go_at_call 57; refine (HT.out _).mono ?_; rintro e w1 ⟨rfl, b1⟩) | (go_at_call 123; refine (need_ok _).mono ?_; rintro e w2 ⟨rfl, rfl⟩))
    go_ret
    exact Size6.ok b1
  · have HF := Lib.hid hf
    go_enter Tryz.func119, Tryz.ntmps119
    go_wp2_with (first | (go_at_call 57; refine (HT.out _).mono ?_; rintro e w1 ⟨rfl, b1⟩) | (go_at_call 123; refine (need_bad f HF.out _).mono ?_; rintro e w2 ⟨rfl, rfl⟩))
    exact ⟨by first | rfl | trivial, Size6.bad HF.out b1⟩

/-- A row's parts and its head's length, or what is wrong. -/
def Size62 (r : Nat × Nat × Nat) (w : World) (x : Ending) (w' : World) : Prop := (if r.2.2 = 0 then x = .returned (.tuple #[.int .i64 r.1, .int .i64 r.2.1]) else x = boom r.2.2) ∧ Below w.heap.size w w'
theorem Size62.ok {v k : Nat} {w w' : World} (h : Below w.heap.size w w') : Size62 (v, k, 0) w (.returned (.tuple #[.int .i64 v, .int .i64 k])) w' := ⟨by rw [if_pos rfl], h⟩
theorem Size62.bad {v k f : Nat} {w w' : World} (hf : f ≠ 0) (h : Below w.heap.size w w') : Size62 (v, k, f) w (boom f) w' := ⟨by rw [if_neg hf], h⟩
def rowP6 (s : List UInt8) : Nat × Nat × Nat := if (rdn s).2.2 = 0 ∧ 32 < (rdn s).1 then (0, 0, 5) else rdn s

set_option maxHeartbeats 1000000 in
set_option maxRecDepth 100000 in
theorem rowhead_any (s : ByteArray) (hs : s.size ≤ 281474976710656) (w : World) :
    Calls Tryz.prog 121 #[.string s] w (Size62 (rowP6 (bl s)) w) := by
  have hT := fun V => readnum_any s (by omega) V
  obtain ⟨r, hr⟩ : ∃ r, r = rdn (bl s) := ⟨_, rfl⟩
  have hbl : s.data.toList = bl s := rfl
  rw [hbl, ← hr] at hT
  obtain ⟨z, hz⟩ : ∃ z, z = rowP6 (bl s) := ⟨_, rfl⟩
  rw [← hz]
  unfold rowP6 at hz
  rw [← hr] at hz
  obtain ⟨v, k, f⟩ := r
  have HZ := Lib.hid hz
  clear hr hs hbl hz
  have HT := Lib.hid hT
  clear hT
  by_cases hf : f = 0
  · subst hf
    by_cases hv : 32 < v
    · have q1 : (32 : Int) < (v : Int) := by omega
      have HV := Lib.hid hv
      clear hv
      go_enter Tryz.func121, Tryz.ntmps121
      go_wp2_with (first | (go_at_call 89; refine (HT.out _).mono ?_; rintro e w1 ⟨rfl, rfl⟩) | (go_at_call 123; refine (need_ok _).mono ?_; rintro e w2 ⟨rfl, rfl⟩))
      have hz := HZ.out
      rw [if_pos (by first | exact ⟨rfl, HV.out⟩ | exact ⟨trivial, HV.out⟩)] at hz
      exact ⟨rfl, hz ▸ Size62.bad (f := 5) (by decide) (Below.refl _ _)⟩
    · have q1 : ¬ (32 : Int) < (v : Int) := by omega
      have q2 : (v : Int) ≤ 32 := by omega
      have HV := Lib.hid hv
      clear hv
      go_enter Tryz.func121, Tryz.ntmps121
      go_wp2_with (first | (go_at_call 89; refine (HT.out _).mono ?_; rintro e w1 ⟨rfl, rfl⟩) | (go_at_call 123; refine (need_ok _).mono ?_; rintro e w2 ⟨rfl, rfl⟩))
      go_ret2
      have hz := HZ.out
      rw [if_neg (by rintro ⟨_, h⟩; exact HV.out h)] at hz
      exact hz ▸ Size62.ok (Below.refl _ _)
  · have HF := Lib.hid hf
    go_enter Tryz.func121, Tryz.ntmps121
    go_wp2_with (first | (go_at_call 89; refine (HT.out _).mono ?_; rintro e w1 ⟨rfl, rfl⟩) | (go_at_call 123; refine (need_bad f HF.out _).mono ?_; rintro e w2 ⟨rfl, rfl⟩))
    have hz := HZ.out
    rw [if_neg (by rintro ⟨h, _⟩; exact HF.out h)] at hz
    exact ⟨rfl, hz ▸ Size62.bad HF.out (Below.refl _ _)⟩
end Go.Proofs.YtiehhlolhhjgpaaGreatDoor.Pl

namespace Go.Proofs.YtiehhlolhhjgpaaGreatDoor.Pl
open Go.RowKit

theorem bl_at (s : ByteArray) (p : Nat) (h : p < s.size) : (bl s).getD p 0 = s[p]'h := by
  unfold bl
  rw [List.getD_eq_getElem?_getD, List.getElem?_eq_getElem (by rw [Array.length_toList]; exact h)]
  simp
  rfl

set_option maxHeartbeats 4000000 in
set_option maxRecDepth 100000 in
theorem isname_any (s : ByteArray) (hs : s.size ≤ 281474976710656) (w : World) :
    Calls Tryz.prog 41 #[.string s] w fun e w' => e = .returned (.bool (nameOK (bl s))) ∧ Below w.heap.size w w' := by
  obtain ⟨z, hz⟩ : ∃ z, z = nameOK (bl s) := ⟨_, rfl⟩
  rw [← hz]
  by_cases h0 : s.size = 0
  · have HZ : Hid (z = false) := Lib.hid (by rw [hz, bl_nil h0]; rfl)
    obtain rfl : s = ⟨#[]⟩ := bl_inj (bl_nil h0)
    clear hz h0 hs
    go_enter Tryz.func41, Tryz.ntmps41
    go_wp2_with fail
    go_loopw [] (fun wr => Hid (wr.heap[w.heap.size]? = some (.stringIter ⟨#[]⟩ 0)) ∧ Hid (Below w.heap.size w wr)) (fun _ => 0)
    case atStart => exact ⟨Lib.hid (World.iter_heap w _ 0), Lib.hid ((Below.refl _ w).alloc (Nat.le_refl _) _)⟩
    case round =>
      obtain ⟨hit, hbw⟩ := hrel
      have hnx : ∀ ty, (Instr.next (.pointer (some ⟨w.heap.size, 0, none⟩)) true ty).run Tryz.prog wr = _ := fun ty => Lib.run_next_end_at wr w.heap.size ⟨#[]⟩ 0 ty hit.out (by decide)
      go_wp2_with fail
      go_ret
      exact ⟨ret6_bool HZ.out.symm, hbw.out⟩
  · have hne : s ≠ ⟨#[]⟩ := fun e => h0 (by rw [e]; rfl)
    obtain ⟨g1, g2⟩ := str6_ne hne
    have g3 : s.toList.isEmpty = false := by
      rw [Lib.toList_data, List.isEmpty_eq_false_iff]
      intro e
      exact h0 (by rw [size_bl]; unfold bl; rw [e]; rfl)
    have HB : Hid (∀ k, k < s.size → nameB ((bl s).getD k 0) = false → z = false) := Lib.hid (fun k hk hb => by
      rw [hz]
      cases e : nameOK (bl s) with
      | false => rfl
      | true => rw [((nameOK_iff _).1 e).2 k (by rw [bl_length]; exact hk)] at hb; exact absurd hb (by decide))
    have HE : Hid ((∀ j, j < s.size → nameB ((bl s).getD j 0) = true) → z = true) := Lib.hid (fun h => by
      rw [hz, nameOK_iff]
      refine ⟨fun e => h0 (by rw [size_bl, e]; rfl), fun j hj => h j (by rw [bl_length] at hj; exact hj)⟩)
    clear hz h0 hne
    go_enter Tryz.func41, Tryz.ntmps41
    go_wp2_with fail
    go_loopw [] (fun wr => ∃ pos : Nat, Hid (pos ≤ s.size) ∧ Hid (wr.heap[w.heap.size]? = some (.stringIter s pos)) ∧ Hid (∀ j, j < pos → nameB ((bl s).getD j 0) = true) ∧ Hid (Below w.heap.size w wr)) (fun wr => s.size - wr.iterPos w.heap.size)
    case atStart => exact ⟨0, Lib.hid (Nat.zero_le _), Lib.hid (World.iter_heap w s 0), Lib.hid (fun j hj => absurd hj (Nat.not_lt_zero j)), Lib.hid ((Below.refl _ w).alloc (Nat.le_refl _) _)⟩
    case round =>
      obtain ⟨pos, hps, hit, hch, hbw⟩ := hrel
      by_cases hp : pos < s.size
      · have hd : Hid (1 ≤ (Utf8.decode s pos).2 ∧ ((nameB ((bl s).getD pos 0) = true ∧ (Utf8.decode s pos).1 = ((bl s).getD pos 0).toNat ∧ (Utf8.decode s pos).2 = 1) ∨ (nameB ((bl s).getD pos 0) = false ∧ ((Utf8.decode s pos).1 = ((bl s).getD pos 0).toNat ∨ 128 ≤ (Utf8.decode s pos).1)))) := Lib.hid (by
          rw [bl_at s pos hp]
          by_cases ha : (s[pos]'hp).toNat < 128
          · rw [decode_ascii s pos hp ha]
            cases hnb : nameB (s[pos]'hp) with
            | true => exact ⟨Nat.le_refl _, .inl ⟨rfl, rfl, rfl⟩⟩
            | false => exact ⟨Nat.le_refl _, .inr ⟨rfl, .inl rfl⟩⟩
          · have hh := decode_high s pos hp (by omega)
            refine ⟨hh.2, .inr ⟨?_, .inr hh.1⟩⟩
            unfold nameB
            exact decide_eq_false (by omega))
        have hwd : Hid (1 ≤ (Utf8.decode s pos).2) := Lib.hid hd.out.1
        have hit2 := Lib.hid (Lib.iterAt_heap wr w.heap.size s pos (pos + (Utf8.decode s pos).2) hit.out)
        have hb2 := Lib.hid (Lib.below_iterAt hbw.out (k := w.heap.size) (Nat.le_refl _) s (pos + (Utf8.decode s pos).2))
        have hnx : ∀ ty, (Instr.next (.pointer (some ⟨w.heap.size, 0, none⟩)) true ty).run Tryz.prog wr = _ := fun ty => Lib.run_next_any_at wr w.heap.size s pos ty hit.out hp
        generalize wr.iterAt w.heap.size s (pos + (Utf8.decode s pos).2) = W1 at *
        obtain ⟨c, ec⟩ : ∃ c : UInt8, c = (bl s).getD pos 0 := ⟨_, rfl⟩
        have HBK : Hid (nameB c = false → z = false) := Lib.hid (by rw [ec]; exact HB.out pos hp)
        obtain ⟨n, hn⟩ : ∃ n, n = (Utf8.decode s pos).1 := ⟨_, rfl⟩
        obtain ⟨dw, hdw⟩ : ∃ dw, dw = (Utf8.decode s pos).2 := ⟨_, rfl⟩
        have hd' := hd.out
        rw [← hn, ← hdw, ← ec] at hd'
        have HNX : Hid (((97 ≤ n ∧ n ≤ 122) ∨ (48 ≤ n ∧ n ≤ 57) ∨ n = 47 ∨ n = 46 ∨ n = 45) → pos + dw ≤ s.size ∧ ∀ j, j < pos + dw → nameB ((bl s).getD j 0) = true) := Lib.hid (fun h => by
          rcases hd'.2 with ⟨h1, h2, h3⟩ | ⟨h1, h2 | h2⟩
          · refine ⟨by omega, fun j hj => ?_⟩
            by_cases e : j = pos
            · rw [e, ← ec]; exact h1
            · exact hch.out j (by omega)
          · exfalso
            unfold nameB at h1
            rw [← h2] at h1
            exact absurd h (of_decide_eq_false h1)
          · omega)
        have HW : Hid (¬ ((97 ≤ n ∧ n ≤ 122) ∨ (48 ≤ n ∧ n ≤ 57) ∨ n = 47 ∨ n = 46 ∨ n = 45) → z = false) := Lib.hid (fun h => by
          rcases hd'.2 with ⟨h1, h2, h3⟩ | ⟨h1, _⟩
          · exfalso
            unfold nameB at h1
            rw [← h2] at h1
            exact h (of_decide_eq_true h1)
          · exact HBK.out h1)
        rw [← hn] at hnx
        rw [← hdw] at hit2 hwd
        clear ec hn hdw hd hd' HBK
        have hcs : n < 45 ∨ n = 45 ∨ n = 46 ∨ n = 47 ∨ (48 ≤ n ∧ n ≤ 57) ∨ (57 < n ∧ n < 97) ∨ (97 ≤ n ∧ n ≤ 122) ∨ 122 < n := by omega
        have ef : ∀ m : Nat, n ≠ m → ((n : Int) == (m : Int)) = false := fun m h => by rw [beq_eq_false_iff_ne]; omega
        rcases hcs with h | h | h | h | ⟨h, h'⟩ | ⟨h, h'⟩ | ⟨h, h'⟩ | h
        · have HX := Lib.hid (HW.out (by omega))
          have q1 : ((n : Int) == 47) = false := ef 47 (by omega)
          have q2 : ((n : Int) == 46) = false := ef 46 (by omega)
          have q3 : ((n : Int) == 45) = false := ef 45 (by omega)
          clear ef
          go_wp2_with fail
          go_ret
          exact ⟨ret6_bool HX.out.symm, hb2.out⟩
        · subst h
          have HP := Lib.hid (HNX.out (by omega)).1
          have HX := Lib.hid (HNX.out (by omega)).2
          clear ef
          go_wp2_with fail
          go_roundw
          case rel => exact ⟨_, HP, hit2, HX, hb2⟩
          case measure => simp only [World.iterPos, hit2.out, hit.out]; have := hwd.out; omega
        · subst h
          have HP := Lib.hid (HNX.out (by omega)).1
          have HX := Lib.hid (HNX.out (by omega)).2
          clear ef
          go_wp2_with fail
          go_roundw
          case rel => exact ⟨_, HP, hit2, HX, hb2⟩
          case measure => simp only [World.iterPos, hit2.out, hit.out]; have := hwd.out; omega
        · subst h
          have HP := Lib.hid (HNX.out (by omega)).1
          have HX := Lib.hid (HNX.out (by omega)).2
          clear ef
          go_wp2_with fail
          go_roundw
          case rel => exact ⟨_, HP, hit2, HX, hb2⟩
          case measure => simp only [World.iterPos, hit2.out, hit.out]; have := hwd.out; omega
        · have HP := Lib.hid (HNX.out (by omega)).1
          have HX := Lib.hid (HNX.out (by omega)).2
          clear ef
          go_wp2_with fail
          go_roundw
          case rel => exact ⟨_, HP, hit2, HX, hb2⟩
          case measure => simp only [World.iterPos, hit2.out, hit.out]; have := hwd.out; omega
        · have HX := Lib.hid (HW.out (by omega))
          have q1 : ((n : Int) == 47) = false := ef 47 (by omega)
          have q2 : ((n : Int) == 46) = false := ef 46 (by omega)
          have q3 : ((n : Int) == 45) = false := ef 45 (by omega)
          have q4 : decide ((n : Int) ≤ 57) = false := decide_eq_false (by omega)
          clear ef
          go_wp2_with fail
          go_ret
          exact ⟨ret6_bool HX.out.symm, hb2.out⟩
        · have HP := Lib.hid (HNX.out (by omega)).1
          have HX := Lib.hid (HNX.out (by omega)).2
          clear ef
          go_wp2_with fail
          go_roundw
          case rel => exact ⟨_, HP, hit2, HX, hb2⟩
          case measure => simp only [World.iterPos, hit2.out, hit.out]; have := hwd.out; omega
        · have HX := Lib.hid (HW.out (by omega))
          have q1 : ((n : Int) == 47) = false := ef 47 (by omega)
          have q2 : ((n : Int) == 46) = false := ef 46 (by omega)
          have q3 : ((n : Int) == 45) = false := ef 45 (by omega)
          have q4 : decide ((n : Int) ≤ 57) = false := decide_eq_false (by omega)
          have q5 : decide ((n : Int) ≤ 122) = false := decide_eq_false (by omega)
          clear ef
          go_wp2_with fail
          go_ret
          exact ⟨ret6_bool HX.out.symm, hb2.out⟩
      · have hnx : ∀ ty, (Instr.next (.pointer (some ⟨w.heap.size, 0, none⟩)) true ty).run Tryz.prog wr = _ := fun ty => Lib.run_next_end_at wr w.heap.size s pos ty hit.out hp
        have HQ := Lib.hid (HE.out (fun j hj => hch.out j (by omega)))
        clear hp
        go_wp2_with fail
        go_ret
        exact ⟨ret6_bool HQ.out.symm, hbw.out⟩
end Go.Proofs.YtiehhlolhhjgpaaGreatDoor.Pl

namespace Go.Proofs.YtiehhlolhhjgpaaGreatDoor.Pl
open Go.RowKit

theorem conv_at (W : World) (b : Nat) (x : Int) (h : W.cell? ⟨b, 0, none⟩ = some (.int .u8 x)) :
    (convert 87 9 (.slice (some ⟨b, 0, none⟩) 1 1)).run Tryz.prog W = .ok (.string ⟨#[UInt8.ofNat x.toNat]⟩) W := by
  rw [run_convert_bytes_string W _ _ _ (some ⟨b, 0, none⟩) 1 1 Tryz.underlying87 Tryz.underlying5 Tryz.underlying9]
  have hl := run_loadCells_list (P := Tryz.prog) W ⟨b, 0, none⟩ ([x].map (Value.int .u8)) (fun j v hj => by
    have hj' := (List.getElem?_eq_some_iff.1 hj).1
    obtain rfl : j = 0 := by simp at hj'; omega
    simp at hj
    rw [← hj]
    exact h)
  rw [run_bytesToString W ⟨b, 0, none⟩ 1 1 [x] hl]
  rfl
theorem conv_new (W : World) (x : Int) (T : TypeId) :
    (convert 87 9 (.slice (some ⟨W.heap.size, 0, none⟩) 1 1)).run Tryz.prog (W.alloc (.cells #[.int .u8 x] T)) = .ok (.string ⟨#[UInt8.ofNat x.toNat]⟩) (W.alloc (.cells #[.int .u8 x] T)) :=
  conv_at _ _ x (by rw [World.cell?_alloc_mark]; rfl)
theorem conv_newd (W : World) (x : Int) (T : TypeId) :
    (convert 87 9 (.slice (some ⟨W.heap.size, 0, none⟩) 1 1)).run Tryz.prog (W.alloc (.cells #[.int .u8 x] T)).drew = .ok (.string ⟨#[UInt8.ofNat x.toNat]⟩) (W.alloc (.cells #[.int .u8 x] T)).drew :=
  conv_at _ _ x (by rw [show (W.alloc (.cells #[.int .u8 x] T)).drew.cell? ⟨W.heap.size, 0, none⟩ = (W.alloc (.cells #[.int .u8 x] T)).cell? ⟨W.heap.size, 0, none⟩ from rfl, World.cell?_alloc_mark]; rfl)
attribute [local go_sem] conv_new conv_newd
theorem conv_kept {a w1 : World} (hb : Below a.heap.size a w1) (x : Int) : ∀ b, a.cell? ⟨b, 0, none⟩ = some (.int .u8 x) →
    (convert 87 9 (.slice (some ⟨b, 0, none⟩) 1 1)).run Tryz.prog w1 = .ok (.string ⟨#[UInt8.ofNat x.toNat]⟩) w1 :=
  fun b h => conv_at w1 b x ((hb.cell (p := ⟨b, 0, none⟩) (World.block_lt_of_cell? _ _ h)).trans h)



set_option maxRecDepth 100000 in
theorem digits_any (f : Nat) : ∀ (v : Nat) (w : World), v < 256 ^ f → f ≤ 8 →
    Calls Tryz.prog 116 #[.int .u64 v] w fun e w' => e = .returned (.string ⟨(dig f v).toArray⟩) ∧ Below w.heap.size w w' := by
  induction f with
  | zero =>
    intro v w hv _
    obtain rfl : v = 0 := by simpa using hv
    go_enter Tryz.func116, Tryz.ntmps116
    go_wp2_with fail
    go_ret
    exact ⟨rfl, Below.refl _ _⟩
  | succ f ih =>
    intro v w hv hf
    by_cases h0 : v = 0
    · subst h0
      go_enter Tryz.func116, Tryz.ntmps116
      go_wp2_with fail
      go_ret
      exact ⟨rfl, Below.refl _ _⟩
    · have hz : ((v : Int) == 0) = false := by rw [beq_eq_false_iff_ne]; omega
      have h9 : v < 18446744073709551616 := by rw [← two64]; exact Nat.lt_of_lt_of_le hv (Nat.pow_le_pow_right (by decide) hf)
      have hl := dig_length_le f (v / 256)
      have ih' : ∀ W, Calls Tryz.prog 116 #[.int .u64 ((v : Int) / 256)] W fun e w' => e = .returned (.string ⟨(dig f (v / 256)).toArray⟩) ∧ Below W.heap.size W w' := fun W => by
        have h := ih (v / 256) W (by rw [Nat.pow_succ] at hv; omega) (by omega)
        have e : ((v / 256 : Nat) : Int) = (v : Int) / 256 := by omega
        rw [e] at h
        exact h
      have IH := Lib.hid ih'
      have HD := Lib.hid (dig_succ f v h0)
      clear ih ih' hv h0
      go_enter Tryz.func116, Tryz.ntmps116
      go_wp2_with fail

      have hw1 : IntKind.u64.wrap ((v : Int) / 256) = (v : Int) / 256 := IntWalk.u64_in _ (by omega)
      have hw2 : IntKind.u64.wrap ((v : Int) % 256) = (v : Int) % 256 := IntWalk.u64_in _ (by omega)
      have hw4 : (v : Int).tmod 256 = (v : Int) % 256 := Int.tmod_eq_emod_of_nonneg (by omega)
      have hw3 : IntKind.u8.wrap ((v : Int) % 256) = (v : Int) % 256 := IntWalk.u8_in _ (by omega)
      go_region_with (go_at_call 116; refine (IH.out _).mono ?_; rintro e w1 ⟨rfl, hb⟩; have hcv := conv_kept hb ((v : Int) % 256))
      all_goals go_wp2_with fail
      all_goals go_ret
      all_goals refine ⟨ret_str (by rw [HD.out]; exact ByteArray.mk_append_mk _ _), ?_⟩
      · exact (below_undrew hb).alloc (below_undrew hb).size _
      · exact below_step ((Below.refl _ _).alloc (Nat.le_refl _) _) (below_undrew hb)
      · exact below_step ((Below.refl _ _).alloc (Nat.le_refl _) _) (below_undrew hb)

set_option maxRecDepth 100000 in
theorem refnum_any (v : Nat) (h8 : v < 256 ^ 8) (w : World) :
    Calls Tryz.prog 101 #[.int .u64 v] w fun e w' => e = .returned (.string ⟨(enc v).toArray⟩) ∧ Below w.heap.size w w' := by
  by_cases hv : v < 248
  · go_enter Tryz.func101, Tryz.ntmps101
    go_wp2_with fail
    go_ret
    exact ⟨ret_str (by rw [enc_small hv]), (Below.refl _ _).alloc (Nat.le_refl _) _⟩
  · have hl := dig_length_le 8 v
    have HD := Lib.hid (fun W => digits_any 8 v W h8 (Nat.le_refl _))
    have HE := Lib.hid (enc_big hv)
    clear h8
    go_enter Tryz.func101, Tryz.ntmps101
    go_wp2_with fail
    refine (HD.out _).mono ?_; rintro e w1 ⟨rfl, hb⟩
    go_wp2_with fail
    go_ret
    refine ⟨ret_str ?_, hb.alloc hb.size _⟩
    rw [HE.out, ByteArray.mk_append_mk, UInt8.ofNat_add]
    rfl
end Go.Proofs.YtiehhlolhhjgpaaGreatDoor.Pl

namespace Go.Proofs.YtiehhlolhhjgpaaGreatDoor.Pl
open Go.RowKit

set_option maxRecDepth 100000 in
theorem refreadnum_nil (w : World) :
    Calls Tryz.prog 90 #[.string ⟨#[]⟩] w fun e w' => e = .returned (.tuple #[.int .u64 0, .int .i64 0, .int .i64 6]) ∧ w = w' := by
  go_enter Tryz.func90, Tryz.ntmps90
  go_wp2
  go_ret3
  exact ⟨rfl, rfl⟩
set_option maxRecDepth 100000 in
theorem refreadnum_small (s : ByteArray) (h0 : 0 < s.size) (hb : s[0].toNat < 248) (w : World) :
    Calls Tryz.prog 90 #[.string s] w fun e w' => e = .returned (.tuple #[.int .u64 s[0].toNat, .int .i64 1, .int .i64 0]) ∧ w = w' := by
  have hne : s.toList.isEmpty = false := isEmpty_no h0
  go_enter Tryz.func90, Tryz.ntmps90
  go_wp2
  go_ret3
  exact ⟨rfl, rfl⟩
set_option maxRecDepth 100000 in
theorem refreadnum_end (s : ByteArray) (h0 : 0 < s.size) (hb : 248 ≤ s[0].toNat) (hb2 : s[0].toNat < 256) (hk : s.size < 1 + s[0].toNat - 247) (w : World) :
    Calls Tryz.prog 90 #[.string s] w fun e w' => e = .returned (.tuple #[.int .u64 0, .int .i64 0, .int .i64 6]) ∧ w = w' := by
  have hne : s.toList.isEmpty = false := isEmpty_no h0
  go_enter Tryz.func90, Tryz.ntmps90
  go_wp2
  go_ret3
  exact ⟨rfl, rfl⟩
/-- The number that the first j bytes behind the first one are. -/
def pre (s : ByteArray) (j : Nat) : Nat := val ((s.data.toList.drop 1).take j)
theorem pre_lt (s : ByteArray) (j : Nat) : pre s j < 256 ^ j :=
  Nat.lt_of_lt_of_le (val_lt _) (Nat.pow_le_pow_right (by decide) (by simp; omega))
theorem pre_succ (s : ByteArray) (j : Nat) (h : 1 + j < s.size) : pre s (j + 1) = pre s j * 256 + s[1 + j].toNat := by
  unfold pre
  have hl : (s.data.toList.drop 1).length = s.size - 1 := by simp
  rw [val_take _ j (by omega), List.getElem_drop]
  rfl
set_option maxHeartbeats 400000 in
set_option maxRecDepth 100000 in
theorem refreadnum_ok (s : ByteArray) (k : Nat) (h0 : 0 < s.size) (hb : s[0].toNat = 247 + k) (hk1 : 1 ≤ k) (hk8 : k ≤ 8) (h1 : 1 + k ≤ s.size) (L : List UInt8) (hL : (s.extract 0 (1 + k)).toList = L) (hx : (enc (pre s k) == L) = true) (w : World) :
    Calls Tryz.prog 90 #[.string s] w fun e w' => e = .returned (.tuple #[.int .u64 (pre s k), .int .i64 (1 + k), .int .i64 0]) ∧ Below w.heap.size w w' := by
  have hne : s.toList.isEmpty = false := isEmpty_no h0
  have hk7 : (1 + (247 + (k : Int)) - 247) = 1 + k := by omega
  have hd2 : decide (247 + (k : Int) < 248) = false := by simp; omega
  have hd1 : decide ((s.size : Int) < 1 + k) = false := by simp; omega
  have hp : pre s k < 256 ^ 8 := Nat.lt_of_lt_of_le (pre_lt s k) (Nat.pow_le_pow_right (by decide) hk8)
  have HP := Lib.hid hp
  clear hp
  go_enter Tryz.func90, Tryz.ntmps90
  go_wp2
  go_loop [6, 7] (fun v i => ∃ j : Nat, j ≤ k ∧ i = .int .i64 (1 + j) ∧ v = .int .u64 (pre s j)) (fun _ i => 9 - (intOf i).toNat)
  case atStart => exact ⟨0, Nat.zero_le _, rfl, rfl⟩
  case round =>
    obtain ⟨j, hj, rfl, rfl⟩ := hrel
    have HS := Lib.hid (fun h => pre_succ s j h)
    have HV := Lib.hid (pre_lt s j)
    go_wp2
    · have hlt : j < k := by assumption
      refine ⟨⟨j + 1, by omega, by go_num, ?_⟩, by simp [intOf]; omega⟩
      have e7 : pre s j < 72057594037927936 := Nat.lt_of_lt_of_le HV.out (Nat.pow_le_pow_right (n := 256) (j := 7) (by decide) (by omega))
      have eb : s[1 + j].toNat < 256 := s[1 + j].toNat_lt
      have e1 := HS.out (by omega)
      rw [IntWalk.u64_in ((pre s j : Int) * 256) (by omega), IntWalk.u64_in (s[1 + j].toNat : Int) (by omega), IntWalk.u64_in _ (by omega)]
      exact congrArg (Value.int .u64) (by omega)
    · obtain rfl : j = k := by omega
      clear HS HV
      have hq3 : (1 + (j : Int)).toNat = 1 + j := by omega
      have hq1 : (0 : Int) ≤ 1 + (j : Int) := by omega
      have hq2 : 1 + (j : Int) ≤ (s.size : Int) := by omega
      go_region_held3 (fun _ => True) (trivial) (first | (go_at_call 101; refine (refnum_any _ HP.out _).mono ?_; rintro e w1 ⟨rfl, hbw⟩))
      go_wp2
      go_ret3
      exact ⟨rfl, below_undrew hbw⟩
set_option maxHeartbeats 400000 in
set_option maxRecDepth 100000 in
theorem refreadnum_bad (s : ByteArray) (k : Nat) (h0 : 0 < s.size) (hb : s[0].toNat = 247 + k) (hk1 : 1 ≤ k) (hk8 : k ≤ 8) (h1 : 1 + k ≤ s.size) (L : List UInt8) (hL : (s.extract 0 (1 + k)).toList = L) (hx : (enc (pre s k) == L) = false) (w : World) :
    Calls Tryz.prog 90 #[.string s] w fun e w' => e = .returned (.tuple #[.int .u64 0, .int .i64 0, .int .i64 7]) ∧ Below w.heap.size w w' := by
  have hne : s.toList.isEmpty = false := isEmpty_no h0
  have hk7 : (1 + (247 + (k : Int)) - 247) = 1 + k := by omega
  have hd2 : decide (247 + (k : Int) < 248) = false := by simp; omega
  have hd1 : decide ((s.size : Int) < 1 + k) = false := by simp; omega
  have hp : pre s k < 256 ^ 8 := Nat.lt_of_lt_of_le (pre_lt s k) (Nat.pow_le_pow_right (by decide) hk8)
  have HP := Lib.hid hp
  clear hp
  go_enter Tryz.func90, Tryz.ntmps90
  go_wp2
  go_loop [6, 7] (fun v i => ∃ j : Nat, j ≤ k ∧ i = .int .i64 (1 + j) ∧ v = .int .u64 (pre s j)) (fun _ i => 9 - (intOf i).toNat)
  case atStart => exact ⟨0, Nat.zero_le _, rfl, rfl⟩
  case round =>
    obtain ⟨j, hj, rfl, rfl⟩ := hrel
    have HS := Lib.hid (fun h => pre_succ s j h)
    have HV := Lib.hid (pre_lt s j)
    go_wp2
    · have hlt : j < k := by assumption
      refine ⟨⟨j + 1, by omega, by go_num, ?_⟩, by simp [intOf]; omega⟩
      have e7 : pre s j < 72057594037927936 := Nat.lt_of_lt_of_le HV.out (Nat.pow_le_pow_right (n := 256) (j := 7) (by decide) (by omega))
      have eb : s[1 + j].toNat < 256 := s[1 + j].toNat_lt
      have e1 := HS.out (by omega)
      rw [IntWalk.u64_in ((pre s j : Int) * 256) (by omega), IntWalk.u64_in (s[1 + j].toNat : Int) (by omega), IntWalk.u64_in _ (by omega)]
      exact congrArg (Value.int .u64) (by omega)
    · obtain rfl : j = k := by omega
      clear HS HV
      have hq3 : (1 + (j : Int)).toNat = 1 + j := by omega
      have hq1 : (0 : Int) ≤ 1 + (j : Int) := by omega
      have hq2 : 1 + (j : Int) ≤ (s.size : Int) := by omega
      go_region_held3 (fun _ => True) (trivial) (first | (go_at_call 101; refine (refnum_any _ HP.out _).mono ?_; rintro e w1 ⟨rfl, hbw⟩))
      go_wp2
      go_ret3
      exact ⟨rfl, below_undrew hbw⟩
/-- The document's ReadNum, whatever it is given. -/
theorem refreadnum_any (s : ByteArray) (hs : s.size ≤ 9223372036854775807) (w : World) :
    Calls Tryz.prog 90 #[.string s] w fun e w' => e = .returned (.tuple #[.int .u64 (rdn s.data.toList).1, .int .i64 (rdn s.data.toList).2.1, .int .i64 (rdn s.data.toList).2.2]) ∧ Below w.heap.size w w' := by
  by_cases h0 : 0 < s.size
  · have hl : s.data.toList.length = s.size := by simp
    have hb2 : s[0].toNat < 256 := s[0].toNat_lt
    have hlist : s.data.toList = s[0] :: s.data.toList.drop 1 := by
      cases hd : s.data.toList with
      | nil => rw [hd] at hl; simp at hl; omega
      | cons a r =>
        have h2 : s.data.toList[0]'(by omega) = a := by simp [hd]
        have h3 : s[0] = a := h2
        simp [h3]
    have hdl : (s.data.toList.drop 1).length = s.size - 1 := by simp
    by_cases hb : s[0].toNat < 248
    · rw [hlist, rdn_small _ _ hb]
      exact (refreadnum_small s h0 hb w).mono fun e w' ⟨he, hw⟩ => ⟨he, hw ▸ Below.refl _ _⟩
    · by_cases hk : s.size - 1 < s[0].toNat - 247
      · rw [hlist, rdn_end _ _ hb (by omega)]
        exact (refreadnum_end s h0 (by omega) hb2 (by omega) w).mono fun e w' ⟨he, hw⟩ => ⟨he, hw ▸ Below.refl _ _⟩
      · obtain ⟨k, hk2⟩ : ∃ k, s[0].toNat = 247 + k := ⟨s[0].toNat - 247, by omega⟩
        have hlk : ((s.data.toList.drop 1).take k).length = k := by simp; omega
        have hcut : (s.extract 0 (1 + k)).toList = s[0] :: (s.data.toList.drop 1).take k := by
          rw [ByteArray.toList_eq, Lib.extract_data]
          simp only [List.drop_zero, Nat.sub_zero]
          conv => lhs; rw [hlist]
          rw [Nat.add_comm 1 k, List.take_succ_cons]
        have hs0 : s[0] = UInt8.ofNat (247 + k) := UInt8.toNat.inj (by simp; omega)
        have hev := enc_val (d := (s.data.toList.drop 1).take k) (by omega) (by omega)
        rw [hlk, ← hs0, headD_take (by omega)] at hev
        by_cases hf : (s.data.toList.drop 1).headD 0 = 0 ∨ (s[0].toNat = 248 ∧ ((s.data.toList.drop 1).headD 0).toNat < 248)
        · rw [hlist, rdn_form _ _ hb (by omega) hf]
          refine refreadnum_bad s k h0 hk2 (by omega) (by omega) (by omega) _ hcut ?_ w
          rw [beq_eq_false_iff_ne]
          intro he
          refine hev.1 he ?_
          rcases hf with h | ⟨h, h'⟩
          · exact .inl h
          · exact .inr ⟨by omega, h'⟩
        · rw [hlist, rdn_ok _ _ hb (by omega) hf, hk2, Nat.add_sub_cancel_left]
          refine refreadnum_ok s k h0 hk2 (by omega) (by omega) (by omega) _ hcut ?_ w
          rw [beq_iff_eq]
          refine hev.2 ?_
          intro h
          apply hf
          rcases h with h | ⟨h, h'⟩
          · exact .inl h
          · exact .inr ⟨by omega, h'⟩
  · have : s = ⟨#[]⟩ := by
      cases s with
      | mk a =>
        have h2 : a.size = 0 := by simpa [ByteArray.size] using h0
        rw [Array.eq_empty_of_size_eq_zero h2]
    subst this
    exact (refreadnum_nil w).mono fun e w' ⟨he, hw⟩ => ⟨he, hw ▸ Below.refl _ _⟩
end Go.Proofs.YtiehhlolhhjgpaaGreatDoor.Pl

namespace Go.Proofs.YtiehhlolhhjgpaaGreatDoor.Pl
open Go.RowKit

set_option maxRecDepth 100000 in
theorem reftext_any (s : ByteArray) (w : World) (hs : s.size ≤ 281474976710656) :
    Calls Tryz.prog 115 #[.string s] w fun e w' => e = .returned (.string ⟨(txt s.data.toList).toArray⟩) ∧ Below w.heap.size w w' := by
  have h8 : s.size < 256 ^ 8 := by rw [two64]; omega
  have hl := (enc_len s.size).2
  have H8 := Lib.hid h8
  clear h8
  go_enter Tryz.func115, Tryz.ntmps115
  go_wp2_with (go_at_call 101; refine (refnum_any _ H8.out _).mono ?_; rintro e w' ⟨rfl, hb⟩)
  go_ret
  exact ⟨ret_str (text_list s), hb⟩

set_option maxRecDepth 100000 in
theorem refreadtext_any (s : ByteArray) (m : Int) (w : World) (hs : s.size ≤ 281474976710656) (m1 : -9223372036854775808 ≤ m) (m2 : m ≤ 9223372036854775807) :
    Calls Tryz.prog 60 #[.string s, .int .i64 m] w fun e w' =>
      e = .returned (.tuple #[.string ⟨(rdt s.data.toList m).1.toArray⟩, .int .i64 (rdt s.data.toList m).2.1, .int .i64 (rdt s.data.toList m).2.2]) ∧ Below w.heap.size w w' := by
  have ⟨v, n, e, hr⟩ : ∃ v n e, rdn s.data.toList = (v, n, e) := ⟨_, _, _, rfl⟩
  have hc : ∀ W, Calls Tryz.prog 90 #[.string s] W fun e' w' => e' = .returned (.tuple #[.int .u64 v, .int .i64 n, .int .i64 e]) ∧ Below W.heap.size W w' := by
    intro W
    have h := refreadnum_any s (by omega) W
    rw [hr] at h
    exact h
  have hlen : s.data.toList.length = s.size := by simp
  have HC := Lib.hid hc
  clear hc
  by_cases he : e = 0
  · subst he
    obtain ⟨n1, n2, hn, hv⟩ := rdn_sound hr
    clear hn
    have hv' : v < 18446744073709551616 := by rw [two64] at hv; exact hv
    clear hv
    have hns : n ≤ s.size := by omega
    by_cases h1 : max m 0 < (v : Int)
    · have HR := Lib.hid (rdt_long hr h1)
      clear hr hlen
      by_cases hm : m < 0
      · have hv1 : 0 < v := by omega
        clear h1
        go_enter Tryz.func60, Tryz.ntmps60
        go_wp2_with (go_at_call 90; refine (HC.out _).mono ?_; rintro e w' ⟨rfl, hb⟩)
        go_ret3
        exact ⟨by rw [HR.out]; rfl, hb⟩
      · obtain ⟨k, rfl⟩ : ∃ k : Nat, m = k := ⟨m.toNat, by omega⟩
        have hv1 : k < v := by omega
        clear h1
        go_enter Tryz.func60, Tryz.ntmps60
        go_wp2_with (go_at_call 90; refine (HC.out _).mono ?_; rintro e w' ⟨rfl, hb⟩)
        go_ret3
        exact ⟨by rw [HR.out]; rfl, hb⟩
    · by_cases h2 : s.size - n < v
      · have HR := Lib.hid (rdt_end (m := m) hr h1 (by rw [hlen]; exact h2))
        clear hr hlen
        by_cases hm : m < 0
        · have hv1 : v = 0 := by omega
          omega
        · obtain ⟨k, rfl⟩ : ∃ k : Nat, m = k := ⟨m.toNat, by omega⟩
          have hv1 : v ≤ k := by omega
          clear h1
          go_enter Tryz.func60, Tryz.ntmps60
          go_wp2_with (go_at_call 90; refine (HC.out _).mono ?_; rintro e w' ⟨rfl, hb⟩)
          go_ret3
          exact ⟨by rw [HR.out]; rfl, hb⟩
      · have HR := Lib.hid (rdt_ok (m := m) hr h1 (by rw [hlen]; exact h2))
        have HE : Hid (s.extract n (n + v) = ⟨((s.data.toList.drop n).take v).toArray⟩) := by
          apply ByteArray.ext
          apply Array.toList_inj.1
          rw [Lib.extract_data]
          simp
        clear hr hlen
        by_cases hm : m < 0
        · have hv1 : v = 0 := by omega
          subst hv1
          clear h1 h2
          go_enter Tryz.func60, Tryz.ntmps60
          go_wp2_with (go_at_call 90; refine (HC.out _).mono ?_; rintro e w' ⟨rfl, hb⟩)
          go_ret3
          exact ⟨by rw [HR.out]; exact ret3s (by simp; rfl) (by simp) rfl, hb⟩
        · obtain ⟨k, rfl⟩ : ∃ k : Nat, m = k := ⟨m.toNat, by omega⟩
          have hv1 : v ≤ k := by omega
          clear h1
          go_enter Tryz.func60, Tryz.ntmps60
          go_wp2_with (go_at_call 90; refine (HC.out _).mono ?_; rintro e w' ⟨rfl, hb⟩)
          go_ret3
          exact ⟨by rw [HR.out]; exact ret3s HE.out (by simp) rfl, hb⟩
  · have HR := Lib.hid (rdt_err (m := m) hr he)
    have he' : ((e : Int) != 0) = true := by rw [bne_iff_ne]; omega
    clear hr hlen
    go_enter Tryz.func60, Tryz.ntmps60
    go_wp2_with (go_at_call 90; refine (HC.out _).mono ?_; rintro e w' ⟨rfl, hb⟩)
    go_ret3
    exact ⟨by rw [HR.out]; rfl, hb⟩
end Go.Proofs.YtiehhlolhhjgpaaGreatDoor.Pl

namespace Go.Proofs.YtiehhlolhhjgpaaGreatDoor.Pl
open Go.RowKit

def hd3 (h : Nat × Nat × Nat) : Value := .tuple #[.int .i64 h.1, .int .i64 h.2.1, .int .i64 h.2.2]
theorem headP_nil : headP [] = (0, 0, 6) := rfl

set_option maxHeartbeats 2000000 in
set_option maxRecDepth 100000 in
theorem rhead_any (s : ByteArray) (hs : s.size ≤ 281474976710656) (w : World) :
    Calls Tryz.prog 105 #[.string s] w fun e w' => e = .returned (hd3 (headP (bl s))) ∧ Below w.heap.size w w' := by
  by_cases h0 : s.size = 0
  · have HZ : Hid (headP (bl s) = (0, 0, 6)) := Lib.hid (by rw [bl_nil h0]; rfl)
    obtain rfl : s = ⟨#[]⟩ := bl_inj (bl_nil h0)
    clear h0 hs
    go_enter Tryz.func105, Tryz.ntmps105
    go_wp2_with fail
    go_ret3
    exact ⟨by rw [HZ.out]; rfl, Below.refl _ _⟩
  · have hpos : 0 < s.size := by omega
    have q0 : ((s.size : Int) == 0) = false := by rw [beq_eq_false_iff_ne]; omega
    obtain ⟨b, hb⟩ : ∃ b : UInt8, b = (bl s).getD 0 0 := ⟨_, rfl⟩
    have i1 : ∀ V : World, (Instr.index 9 (.string s) (.int .i64 0)).run Tryz.prog V = .ok (.int .u8 (b.toNat : Int)) V := tstr_index s 0 b hpos hb
    have sl : ∀ V : World, (Instr.sliceAt 9 (.string s) (some (.int .i64 1)) none none).run Tryz.prog V = .ok (.string (s.extract 1 s.size)) V := tslice_from s 1 (by omega)
    have hc : bl s = b :: (bl s).drop 1 := by rw [hb]; exact bl_cons hpos
    have hx : bl (s.extract 1 s.size) = (bl s).drop 1 := bl_from s 1
    have hxs : (s.extract 1 s.size).size ≤ 281474976710656 := by rw [size_bl, hx, List.length_drop, bl_length]; omega
    rw [← hx] at hc
    obtain ⟨z, hz⟩ : ∃ z, z = headP (bl s) := ⟨_, rfl⟩
    rw [← hz]
    rw [hc] at hz
    generalize s.extract 1 s.size = x at *
    have HT := Lib.hid (fun (m : Int) (m1 : -9223372036854775808 ≤ m) (m2 : m ≤ 9223372036854775807) V => refreadtext_any x m V (by omega) m1 m2)
    have HR := Lib.hid (fun V => refreadnum_any x (by omega) V)
    have HXS := Lib.hid hxs
    obtain ⟨n, hn⟩ : ∃ n, n = b.toNat := ⟨_, rfl⟩
    have b_of : ∀ c : UInt8, b = c ↔ n = c.toNat := fun c => by rw [hn]; exact ⟨fun e => by rw [e], fun e => UInt8.toNat_inj.1 e⟩
    rw [← hn] at i1
    simp only [headP] at hz
    have hbl : x.data.toList = bl x := rfl
    have ef : ∀ m : Nat, n ≠ m → ((n : Int) == (m : Int)) = false := fun m h => by rw [beq_eq_false_iff_ne]; omega
    by_cases e100 : n = 100
    · rw [if_pos ((b_of 100).2 e100)] at hz
      obtain ⟨r, hr⟩ : ∃ r, r = rdt (bl x) 1024 := ⟨_, rfl⟩
      have hsz := rdt_size (bl x) 1024
      rw [← hr] at hz hsz
      have hT := HT.out 1024 (by decide) (by decide)
      rw [hbl, ← hr] at hT
      have HTT := Lib.hid hT
      have HZ := Lib.hid hz
      obtain ⟨t, k, f⟩ := r
      have hk : k ≤ 281474976710656 := by rw [bl_length] at hsz; have := HXS.out; simp only at hsz; omega
      subst e100
      clear hb hc hx hxs hz hr hsz hn b_of HT HR hT hs h0 ef
      go_enter Tryz.func105, Tryz.ntmps105
      go_wp2_with fail
      refine (HTT.out w).mono ?_; rintro e w1 ⟨rfl, b1⟩
      have B1 := Lib.hid b1
      clear b1
      go_wp2_with fail
      go_ret3
      exact ⟨by rw [HZ.out]; simp [hd3], B1.out⟩
    · rw [if_neg (fun e => e100 ((b_of 100).1 e))] at hz
      have q100 := ef 100 e100
      by_cases e97 : n = 97
      · rw [if_pos ((b_of 97).2 e97)] at hz
        obtain ⟨r, hr⟩ : ∃ r, r = rdt (bl x) 32 := ⟨_, rfl⟩
        have hsz := rdt_size (bl x) 32
        have hsd : ∀ t k, r = (t, k, 0) → t.length ≤ 32 := fun t k e => by have := (rdt_sound (hr.symm.trans e)).2.2.1; omega
        rw [← hr] at hz hsz
        have hT := HT.out 32 (by decide) (by decide)
        rw [hbl, ← hr] at hT
        have HTT := Lib.hid hT
        have HZ := Lib.hid hz
        obtain ⟨t, k, f⟩ := r
        have hk : k ≤ 281474976710656 := by rw [bl_length] at hsz; have := HXS.out; simp only at hsz; omega
        have HSD := Lib.hid (fun e : f = 0 => hsd t k (by rw [e]))
        subst e97
        clear hb hc hx hxs hz hr hsz hn b_of HT HR hT hs h0 ef hsd e100
        by_cases hf : f = 0
        · have HN := Lib.hid (fun V => rname_any ⟨t.toArray⟩ (by have := HSD.out hf; simp only [size_lit]; omega) V)
          rw [bl_mk] at HN
          subst hf
          cases hno : nameOK t with
          | true =>
            rw [hno] at HN
            have HQ : Hid (z = (1 + k, 0, 0)) := Lib.hid (by rw [HZ.out]; simp only [hno]; simp)
            clear hno
            go_enter Tryz.func105, Tryz.ntmps105
            go_wp2_with fail
            refine (HTT.out w).mono ?_; rintro e w1 ⟨rfl, b1⟩
            have B1 := Lib.hid b1
            clear b1
            go_wp2_with fail
            refine (HN.out _).mono ?_; rintro e w2 ⟨rfl, b2⟩
            have B2 := Lib.hid (below_step B1.out b2)
            clear b2
            go_wp2_with fail
            go_ret3
            exact ⟨by rw [HQ.out]; simp [hd3], B2.out⟩
          | false =>
            rw [hno] at HN
            have HQ : Hid (z = (0, 0, 7)) := Lib.hid (by rw [HZ.out]; simp only [hno]; simp)
            clear hno
            go_enter Tryz.func105, Tryz.ntmps105
            go_wp2_with fail
            refine (HTT.out w).mono ?_; rintro e w1 ⟨rfl, b1⟩
            have B1 := Lib.hid b1
            clear b1
            go_wp2_with fail
            refine (HN.out _).mono ?_; rintro e w2 ⟨rfl, b2⟩
            have B2 := Lib.hid (below_step B1.out b2)
            clear b2
            go_wp2_with fail
            go_ret3
            exact ⟨by rw [HQ.out]; simp [hd3], B2.out⟩
        · have qf : ((f : Int) == 0) = false := by rw [beq_eq_false_iff_ne]; omega
          have HQ : Hid (z = (1 + k, 0, f)) := Lib.hid (by rw [HZ.out, if_neg (fun h => hf h.1)])
          clear hf
          go_enter Tryz.func105, Tryz.ntmps105
          go_wp2_with fail
          refine (HTT.out w).mono ?_; rintro e w1 ⟨rfl, b1⟩
          have B1 := Lib.hid b1
          clear b1
          go_wp2_with fail
          go_ret3
          exact ⟨by rw [HQ.out]; simp [hd3], B1.out⟩
      · rw [if_neg (fun e => e97 ((b_of 97).1 e))] at hz
        have q97 := ef 97 e97
        by_cases e114 : n = 114
        · rw [if_pos ((b_of 114).2 e114)] at hz
          obtain ⟨r, hr⟩ : ∃ r, r = rdn (bl x) := ⟨_, rfl⟩
          have hT := HR.out
          rw [hbl, ← hr] at hT
          have HTT := Lib.hid hT
          rw [← hr] at hz
          have HZ := Lib.hid hz
          obtain ⟨v, k, f⟩ := r
          have hk : k ≤ 281474976710656 ∧ v < 18446744073709551616 := by
            rcases rdn_err hr.symm with e | ⟨e1, e2, _⟩
            · subst e
              have h1 := rdn_sound hr.symm
              have h2 := h1.2.1
              have h3 := h1.2.2.2
              rw [bl_length] at h2
              rw [two64] at h3
              have := HXS.out
              exact ⟨by omega, h3⟩
            · exact ⟨by omega, by omega⟩
          obtain ⟨hk, hv⟩ := hk
          have HVK : Hid (f ≠ 0 → v = 0 ∧ k = 0) := Lib.hid (fun h => (rdn_err hr.symm).elim (fun e => absurd e h) (fun e => ⟨e.1, e.2.1⟩))
          subst e114
          clear hb hc hx hxs hz hr hn b_of HT HR hT hs h0 ef e100 e97
          by_cases hf : f = 0
          · subst hf
            by_cases h32 : 32 < v
            · have HQ : Hid (z = (0, 0, 5)) := Lib.hid (by rw [HZ.out]; simp [h32])
              have h32' : (32 : Int) < (v : Int) := by omega
              clear h32
              go_enter Tryz.func105, Tryz.ntmps105
              go_wp2_with fail
              refine (HTT.out w).mono ?_; rintro e w1 ⟨rfl, b1⟩
              have B1 := Lib.hid b1
              clear b1
              go_wp2_with fail
              go_ret3
              exact ⟨by rw [HQ.out]; simp [hd3], B1.out⟩
            · have HQ : Hid (z = (1 + k, v, 0)) := Lib.hid (by rw [HZ.out]; simp [h32])
              have h32' : ¬ (32 : Int) < (v : Int) := by omega
              have hcv : ∀ V : World, (convert 55 3 (.int .u64 (v : Int))).run Tryz.prog V = .ok (.int .i64 (v : Int)) V := fun V => by
                have hw : IntKind.i64.wrap (v : Int) = (v : Int) := IntWalk.i64_in _ (by omega)
                go_simp
              clear h32
              go_enter Tryz.func105, Tryz.ntmps105
              go_wp2_with fail
              refine (HTT.out w).mono ?_; rintro e w1 ⟨rfl, b1⟩
              have B1 := Lib.hid b1
              clear b1
              go_wp2_with fail
              go_ret3
              exact ⟨by rw [HQ.out]; simp [hd3], B1.out⟩
          · have qf : ((f : Int) == 0) = false := by rw [beq_eq_false_iff_ne]; omega
            have HQ : Hid (z = (1 + k, v, f)) := Lib.hid (by rw [HZ.out, if_neg (fun h => hf h.1)])
            obtain ⟨rfl, rfl⟩ := HVK.out hf
            have hcv : ∀ V : World, (convert 55 3 (.int .u64 0)).run Tryz.prog V = .ok (.int .i64 0) V := fun V => by
              have hw : IntKind.i64.wrap 0 = 0 := by decide
              go_simp
            clear hf
            go_enter Tryz.func105, Tryz.ntmps105
            go_wp2_with fail
            refine (HTT.out w).mono ?_; rintro e w1 ⟨rfl, b1⟩
            have B1 := Lib.hid b1
            clear b1
            go_wp2_with fail
            go_ret3
            exact ⟨by rw [HQ.out]; simp [hd3], B1.out⟩
        · rw [if_neg (fun e => e114 ((b_of 114).1 e))] at hz
          have q114 := ef 114 e114
          by_cases e104 : n = 104
          · rw [if_pos ((b_of 104).2 e104)] at hz
            have HZ := Lib.hid hz
            subst e104
            clear hb hc hx hxs hz hn b_of HT HR hs h0 ef e100 e97 e114
            go_enter Tryz.func105, Tryz.ntmps105
            go_wp2_with fail
            go_ret3
            exact ⟨by rw [HZ.out]; rfl, Below.refl _ _⟩
          · rw [if_neg (fun e => e104 ((b_of 104).1 e))] at hz
            have q104 := ef 104 e104
            by_cases e109 : n = 109
            · rw [if_pos ((b_of 109).2 e109)] at hz
              have HZ := Lib.hid hz
              subst e109
              clear hb hc hx hxs hz hn b_of HT HR hs h0 ef e100 e97 e114 e104
              go_enter Tryz.func105, Tryz.ntmps105
              go_wp2_with fail
              go_ret3
              exact ⟨by rw [HZ.out]; rfl, Below.refl _ _⟩
            · rw [if_neg (fun e => e109 ((b_of 109).1 e))] at hz
              have q109 := ef 109 e109
              by_cases e115 : n = 115
              · rw [if_pos ((b_of 115).2 e115)] at hz
                have HZ := Lib.hid hz
                subst e115
                clear hb hc hx hxs hz hn b_of HT HR hs h0 ef e100 e97 e114 e104 e109
                go_enter Tryz.func105, Tryz.ntmps105
                go_wp2_with fail
                go_ret3
                exact ⟨by rw [HZ.out]; rfl, Below.refl _ _⟩
              · rw [if_neg (fun e => e115 ((b_of 115).1 e))] at hz
                have q115 := ef 115 e115
                have HZ := Lib.hid hz
                clear hb hc hx hxs hz hn b_of HT HR hs h0 ef e100 e97 e114 e104 e109 e115
                go_enter Tryz.func105, Tryz.ntmps105
                go_wp2_with fail
                go_ret3
                exact ⟨by rw [HZ.out]; rfl, Below.refl _ _⟩
def rd2 (h : Nat × Nat) : Value := .tuple #[.int .i64 h.1, .int .i64 h.2]
theorem readP_loop_zero (rd : List UInt8 → Nat × Nat) (s : List UInt8) : loopP rd 0 s = (0, 0) := rfl
/-- Of k terms and the rest: as far as the first goes, then the others. -/
theorem loopP_add (rd : List UInt8 → Nat × Nat) : ∀ (i k : Nat) (s : List UInt8) (m : Nat), loopP rd i s = (m, 0) → loopP rd (i + k) s = if (loopP rd k (s.drop m)).2 = 0 then (m + (loopP rd k (s.drop m)).1, 0) else (0, (loopP rd k (s.drop m)).2)
  | 0, k, s, m, h => by
    simp only [loopP, Prod.mk.injEq, and_true] at h
    subst h
    rw [Nat.zero_add, List.drop_zero, Nat.zero_add]
    split
    · rename_i h; exact Prod.ext rfl h
    · rename_i h
      -- what is wrong bears no length
      cases k with
      | zero => exact absurd rfl h
      | succ k =>
        simp only [loopP] at h ⊢
        split at h
        · rename_i h1
          split at h
          · exact absurd rfl h
          · rename_i h2
            rw [if_pos h1, if_neg h2]
        · rename_i h1
          rw [if_neg h1]
  | i + 1, k, s, m, h => by
    rw [loopP] at h
    split at h
    · rename_i h1
      split at h
      · rename_i h2
        simp only [Prod.mk.injEq, and_true] at h
        have ih := loopP_add rd i k (s.drop (rd s).1) (loopP rd i (s.drop (rd s).1)).1 (Prod.ext rfl h2)
        rw [List.drop_drop, h] at ih
        rw [show i + 1 + k = (i + k) + 1 by omega, loopP, if_pos h1, ih]
        split
        · rename_i h3
          rw [if_pos rfl, ← h, Nat.add_assoc]
        · rfl
      · rename_i h2
        simp only [Prod.mk.injEq] at h
        exact absurd h.2 h2
    · rename_i h1
      simp only [Prod.mk.injEq] at h
      exact absurd h.2 h1
theorem loopP_one (rd : List UInt8 → Nat × Nat) (s : List UInt8) : loopP rd 1 s = if (rd s).2 = 0 then ((rd s).1, 0) else (0, (rd s).2) := by
  simp [loopP]
end Go.Proofs.YtiehhlolhhjgpaaGreatDoor.Pl

namespace Go.Proofs.YtiehhlolhhjgpaaGreatDoor.Pl
open Go.RowKit

theorem head_err {s : List UInt8} (h : (headP s).2.2 ≠ 0) : (headP s).2.1 = 0 := by
  cases s with
  | nil => rfl
  | cons b r =>
    simp only [headP] at h ⊢
    split
    · rfl
    · rename_i h100
      rw [if_neg h100] at h
      split
      · rename_i h97
        rw [if_pos h97] at h
        split <;> rfl
      · rename_i h97
        rw [if_neg h97] at h
        split
        · rename_i h114
          rw [if_pos h114] at h
          split
          · rfl
          · rename_i hno
            rw [if_neg hno] at h
            simp only at h ⊢
            rcases rdn_err (l := r) (v := (rdn r).1) (n := (rdn r).2.1) (e := (rdn r).2.2) rfl with e | e
            · exact absurd e h
            · exact e.1
        · rename_i h114
          rw [if_neg h114] at h
          split
          · rename_i h104; rw [if_pos h104] at h; exact absurd rfl h
          · rename_i h104
            rw [if_neg h104] at h
            split
            · rename_i h109; rw [if_pos h109] at h; exact absurd rfl h
            · rename_i h109
              rw [if_neg h109] at h
              split
              · rename_i h115; rw [if_pos h115] at h; exact absurd rfl h
              · rfl
theorem head_parts {s : List UInt8} {n p : Nat} (h : headP s = (n, p, 0)) : p ≤ 32 := by
  obtain ⟨c, hk⟩ := head_kind (head_front h).2
  cases hk <;> omega
theorem loopP_len {rd : List UInt8 → Nat × Nat} (hrd : ∀ s n, rd s = (n, 0) → n ≤ s.length) : ∀ (i : Nat) (s : List UInt8) (m : Nat), loopP rd i s = (m, 0) → m ≤ s.length
  | 0, s, m, h => by
    simp only [loopP, Prod.mk.injEq, and_true] at h
    omega
  | i + 1, s, m, h => by
    rw [loopP] at h
    split at h
    · rename_i h1
      split at h
      · rename_i h2
        simp only [Prod.mk.injEq, and_true] at h
        have e1 := hrd s (rd s).1 (Prod.ext rfl h1)
        have e2 := loopP_len hrd i (s.drop (rd s).1) (loopP rd i (s.drop (rd s).1)).1 (Prod.ext rfl h2)
        rw [List.length_drop] at e2
        omega
      · rename_i h2
        simp only [Prod.mk.injEq] at h
        exact absurd h.2 h2
    · rename_i h1
      simp only [Prod.mk.injEq] at h
      exact absurd h.2 h1
theorem loopP_good {rd : List UInt8 → Nat × Nat} {i : Nat} {s : List UInt8} {m : Nat} (h : loopP rd i s = (m, 0)) (k : (rd (s.drop m)).2 = 0) : loopP rd (i + 1) s = (m + (rd (s.drop m)).1, 0) := by
  have e := loopP_add rd i 1 s m h
  rw [loopP_one, if_pos k] at e
  rw [e]; rfl
theorem loopP_bad {rd : List UInt8 → Nat × Nat} {i p : Nat} {s : List UInt8} {m : Nat} (h : loopP rd i s = (m, 0)) (hi : i < p) (k : (rd (s.drop m)).2 ≠ 0) : (loopP rd p s).2 = (rd (s.drop m)).2 := by
  obtain ⟨q, rfl⟩ : ∃ q, p = i + (q + 1) := ⟨p - i - 1, by omega⟩
  have e1 : loopP rd (q + 1) (s.drop m) = (0, (rd (s.drop m)).2) := by rw [loopP, if_neg k]
  have e := loopP_add rd i (q + 1) s m h
  rw [e1] at e
  rw [e, if_neg k]
theorem readP_len (d : Nat) (s : List UInt8) (n : Nat) (h : readP d s = (n, 0)) : n ≤ s.length := by
  obtain ⟨t, _, _, e1, e2⟩ := read_sound d s n h
  have := congrArg List.length e2
  rw [List.length_append, ← e1] at this
  omega
theorem readP_err (d : Nat) (s : List UInt8) (h : (readP d s).2 ≠ 0) : (readP d s).1 = 0 := by
  cases d with
  | zero => rfl
  | succ d =>
    simp only [readP] at h ⊢
    split
    · rename_i h1
      rw [if_pos h1] at h
      split
      · rename_i h2
        rw [if_pos h2] at h
        exact absurd rfl h
      · rfl
    · rfl

set_option maxHeartbeats 4000000 in
set_option maxRecDepth 100000 in
theorem rread_any (d : Nat) : ∀ (s : ByteArray) (w : World), d ≤ 16 → s.size ≤ 281474976710656 →
    Calls Tryz.prog 104 #[.string s, .int .i64 (17 - (d : Int))] w fun e w' => e = .returned (rd2 (readP d (bl s))) ∧ Below w.heap.size w w' := by
  induction d with
  | zero =>
    intro s w _ _
    obtain ⟨D, hD⟩ : ∃ D : Int, D = 17 - ((0 : Nat) : Int) := ⟨_, rfl⟩
    rw [← hD]
    have hD' : D = 17 := by omega
    subst hD'
    clear hD
    go_enter Tryz.func104, Tryz.ntmps104
    go_wp2_with fail
    go_ret2
    exact ⟨rfl, Below.refl _ _⟩
  | succ d ih =>
    intro s w hd hs
    obtain ⟨D, hD⟩ : ∃ D : Int, D = 17 - ((d + 1 : Nat) : Int) := ⟨_, rfl⟩
    have IH : Hid (∀ (x : ByteArray) (V : World), x.size ≤ 281474976710656 → Calls Tryz.prog 104 #[.string x, .int .i64 (D + 1)] V fun e w' => e = .returned (rd2 (readP d (bl x))) ∧ Below V.heap.size V w') := Lib.hid (fun x V hx => by
      have h := ih x V (by omega) hx
      rw [show (17 - (d : Int)) = D + 1 by omega] at h
      exact h)
    rw [← hD]
    have hD1 : D ≤ 16 := by omega
    have hD0 : 0 ≤ D := by omega
    have HH := Lib.hid (rhead_any s hs w)
    obtain ⟨z, hz⟩ : ∃ z, z = readP (d + 1) (bl s) := ⟨_, rfl⟩
    rw [← hz]
    simp only [readP] at hz
    have HE := Lib.hid (head_err (s := bl s))
    have HF := Lib.hid (fun n p (e : headP (bl s) = (n, p, 0)) => And.intro (head_front e).1 (head_parts e))
    generalize headP (bl s) = hd at *
    obtain ⟨h, p, e⟩ := hd
    simp only at hz HE HF
    have HSZ := Lib.hid hs
    clear ih hd hD hs
    by_cases he : e = 0
    · subst he
      rw [if_pos rfl] at hz
      have hle : h ≤ s.size := by rw [← bl_length]; exact (HF.out h p rfl).1
      have hp : p ≤ 32 := (HF.out h p rfl).2
      have HZ := Lib.hid hz
      have HLE := Lib.hid hle
      clear hz hle HE HF
      go_enter Tryz.func104, Tryz.ntmps104
      go_wp2_with fail
      refine HH.out.mono ?_; rintro e w1 ⟨rfl, b1⟩
      have B1 := Lib.hid b1
      clear b1
      unfold hd3
      go_wp2_with fail
      go_loopw [6, 8, 9] (fun nv ev iv wr => ∃ i n e : Nat, nv = .int .i64 n ∧ ev = .int .i64 e ∧ iv = .int .i64 i ∧ i ≤ p ∧ n ≤ 281474976710656 ∧ Hid (e = 0 → loopP (readP d) i ((bl s).drop h) = (n - h, 0) ∧ h ≤ n ∧ n ≤ s.size) ∧ Hid (e ≠ 0 → (loopP (readP d) p ((bl s).drop h)).2 = e) ∧ Hid (Below w.heap.size w wr)) (fun _ _ iv _ => p - (intOf iv).toNat)
      case atStart => exact ⟨0, h, 0, rfl, rfl, rfl, Nat.zero_le _, by have := HLE.out; have := HSZ.out; omega, Lib.hid (fun _ => ⟨by rw [Nat.sub_self]; rfl, Nat.le_refl _, HLE.out⟩), Lib.hid (fun h => absurd rfl h), B1⟩
      case round =>
        obtain ⟨i, n, e, rfl, rfl, rfl, hip, hn, hok, hbad, hb⟩ := hrel
        by_cases he : e = 0
        · subst he
          obtain ⟨l1, l2, l3⟩ := hok.out rfl
          by_cases hi : i < p
          · have hi' : (i : Int) < (p : Int) := by omega
            have sl : ∀ V : World, (Instr.sliceAt 9 (.string s) (some (.int .i64 (n : Int))) none none).run Tryz.prog V = .ok (.string (s.extract n s.size)) V := tslice_from s n l3
            have hx : bl (s.extract n s.size) = ((bl s).drop h).drop (n - h) := by rw [bl_from, List.drop_drop, show h + (n - h) = n by omega]
            have hxs : (s.extract n s.size).size ≤ 281474976710656 := by rw [size_bl, bl_from, List.length_drop, bl_length]; have := HSZ.out; omega
            have hC := IH.out (s.extract n s.size) wr hxs
            have hadd1 := loopP_good l1 (rd := readP d)
            have haddp := loopP_bad l1 hi (rd := readP d)
            rw [← hx] at hadd1 haddp
            have hlen := readP_len d (bl (s.extract n s.size)) (readP d (bl (s.extract n s.size))).1
            have herr := readP_err d (bl (s.extract n s.size))
            have hxl : (bl (s.extract n s.size)).length = s.size - n := by rw [bl_from, List.length_drop, bl_length]
            generalize s.extract n s.size = x at *
            obtain ⟨r, hr⟩ : ∃ r, r = readP d (bl x) := ⟨_, rfl⟩
            rw [← hr] at hadd1 haddp hC hlen herr
            obtain ⟨m, f⟩ := r
            simp only at hadd1 haddp hlen herr
            have hm : n + m ≤ 281474976710656 := by
              by_cases hf : f = 0
              · have := hlen (by rw [hf]); rw [hxl] at this; have := HSZ.out; omega
              · rw [herr hf]; omega
            have HNEW : Hid (f = 0 → loopP (readP d) (i + 1) ((bl s).drop h) = (n + m - h, 0) ∧ h ≤ n + m ∧ n + m ≤ s.size) := Lib.hid (fun hf => by
              have e1 := hlen (by rw [hf])
              rw [hxl] at e1
              exact ⟨by rw [hadd1 hf, show n + m - h = n - h + m by omega], by omega, by omega⟩)
            have HBAD : Hid (f ≠ 0 → (loopP (readP d) p ((bl s).drop h)).2 = f) := Lib.hid (fun hf => haddp hf)
            have HC := Lib.hid hC
            clear l1 l2 l3 hx hxs hC hadd1 haddp hlen herr hxl hok hbad hr
            go_wp2_with fail
            refine HC.out.mono ?_; rintro e w2 ⟨rfl, b2⟩
            have B2 := Lib.hid (below_step hb.out b2)
            clear b2
            unfold rd2
            go_wp2_with fail
            go_roundw
            case rel => exact ⟨i + 1, n + m, f, by go_num, rfl, by go_num, by omega, hm, HNEW, HBAD, B2⟩
            case measure => simp [intOf]; omega
          · obtain rfl : i = p := by omega
            have HQ : Hid (z = (n, 0)) := Lib.hid (by rw [HZ.out, l1, if_pos rfl]; simp only; rw [show h + (n - h) = n by omega])
            clear hi l1 l2 l3
            go_wp2_with fail
            go_ret2
            exact ⟨by rw [HQ.out]; rfl, hb.out⟩
        · have HQ : Hid (z = (0, e)) := Lib.hid (by
            have e1 := hbad.out he
            rw [HZ.out, if_neg (by rw [e1]; exact he), e1])
          have qe : ((e : Int) == 0) = false := by rw [beq_eq_false_iff_ne]; omega
          have qe2 : ((e : Int) != 0) = true := by rw [bne_iff_ne]; omega
          clear he
          by_cases hi : i < p
          · have hi' : (i : Int) < (p : Int) := by omega
            go_wp2_with fail
            go_ret2
            exact ⟨by rw [HQ.out]; rfl, hb.out⟩
          · have hi' : ¬ (i : Int) < (p : Int) := by omega
            go_wp2_with fail
            go_ret2
            exact ⟨by rw [HQ.out]; rfl, hb.out⟩
    · have hp : p = 0 := HE.out he
      subst hp
      rw [if_neg he] at hz
      have HZ := Lib.hid hz
      have qe : ((e : Int) == 0) = false := by rw [beq_eq_false_iff_ne]; omega
      have qe2 : ((e : Int) != 0) = true := by rw [bne_iff_ne]; omega
      clear hz HE HF he
      go_enter Tryz.func104, Tryz.ntmps104
      go_wp2_with fail
      refine HH.out.mono ?_; rintro e w1 ⟨rfl, b1⟩
      have B1 := Lib.hid b1
      clear b1
      unfold hd3
      go_wp2_with fail
      refine wp_loop_rounds 1 ?_; rw [rounds_succ]; go_wp2_with fail
      go_ret2
      exact ⟨by rw [HZ.out]; rfl, B1.out⟩

set_option maxRecDepth 100000 in
theorem rfront_any (s : ByteArray) (hs : s.size ≤ 281474976710656) (w : World) :
    Calls Tryz.prog 84 #[.string s] w fun e w' => e = .returned (rd2 (frontP (bl s))) ∧ Below w.heap.size w w' := by
  have HC := Lib.hid (rread_any 16 s w (Nat.le_refl _) hs)
  rw [show (17 - ((16 : Nat) : Int)) = 1 by decide] at HC
  obtain ⟨z, hz⟩ : ∃ z, z = frontP (bl s) := ⟨_, rfl⟩
  rw [← hz]
  unfold frontP at hz
  have HL := Lib.hid (fun n e => readP_len 16 (bl s) n e)
  generalize readP 16 (bl s) = r at *
  obtain ⟨m, f⟩ := r
  simp only at hz
  by_cases hf : f = 0
  · subst hf
    rw [if_pos rfl] at hz
    have hm := HL.out m rfl
    rw [bl_length] at hm
    by_cases h16 : 16384 < m
    · have HZ := Lib.hid (hz.trans (if_pos h16))
      have h16' : (16384 : Int) < (m : Int) := by omega
      clear hz h16 hs hm
      go_enter Tryz.func84, Tryz.ntmps84
      go_wp2_with fail
      refine HC.out.mono ?_; rintro e w1 ⟨rfl, b1⟩
      have B1 := Lib.hid b1
      clear b1
      unfold rd2
      go_wp2_with fail
      go_ret2
      exact ⟨by rw [HZ.out]; rfl, B1.out⟩
    · have HZ := Lib.hid (hz.trans (if_neg h16))
      have h16' : ¬ (16384 : Int) < (m : Int) := by omega
      clear hz h16 hs hm
      go_enter Tryz.func84, Tryz.ntmps84
      go_wp2_with fail
      refine HC.out.mono ?_; rintro e w1 ⟨rfl, b1⟩
      have B1 := Lib.hid b1
      clear b1
      unfold rd2
      go_wp2_with fail
      go_ret2
      exact ⟨by rw [HZ.out]; rfl, B1.out⟩
  · have HZ := Lib.hid (hz.trans (if_neg hf))
    have qf : ((f : Int) != 0) = true := by rw [bne_iff_ne]; omega
    clear hz hf hs
    go_enter Tryz.func84, Tryz.ntmps84
    go_wp2_with fail
    refine HC.out.mono ?_; rintro e w1 ⟨rfl, b1⟩
    have B1 := Lib.hid b1
    clear b1
    unfold rd2
    go_wp2_with fail
    go_ret2
    exact ⟨by rw [HZ.out]; rfl, B1.out⟩

set_option maxRecDepth 100000 in
theorem rcheck6_any (s : ByteArray) (hs : s.size ≤ 281474976710656) (w : World) :
    Calls Tryz.prog 50 #[.string s] w fun e w' => e = .returned (.int .i64 (checkP (bl s))) ∧ Below w.heap.size w w' := by
  have HC := Lib.hid (rfront_any s hs w)
  obtain ⟨z, hz⟩ : ∃ z, z = checkP (bl s) := ⟨_, rfl⟩
  rw [← hz]
  unfold checkP at hz
  rw [bl_length] at hz
  generalize frontP (bl s) = r at *
  obtain ⟨m, f⟩ := r
  simp only at hz
  by_cases hf : f = 0
  · subst hf
    rw [if_pos rfl] at hz
    by_cases hm : m = s.size
    · have HZ := Lib.hid (hz.trans (if_pos hm))
      have q : ((m : Int) != (s.size : Int)) = false := by rw [hm]; simp
      clear hz hm hs
      go_enter Tryz.func50, Tryz.ntmps50
      go_wp2_with fail
      refine HC.out.mono ?_; rintro e w1 ⟨rfl, b1⟩
      have B1 := Lib.hid b1
      clear b1
      unfold rd2
      go_wp2_with fail
      go_ret
      exact ⟨by rw [HZ.out]; rfl, B1.out⟩
    · have HZ := Lib.hid (hz.trans (if_neg hm))
      have q : ((m : Int) != (s.size : Int)) = true := by rw [bne_iff_ne]; omega
      clear hz hm hs
      go_enter Tryz.func50, Tryz.ntmps50
      go_wp2_with fail
      refine HC.out.mono ?_; rintro e w1 ⟨rfl, b1⟩
      have B1 := Lib.hid b1
      clear b1
      unfold rd2
      go_wp2_with fail
      go_ret
      exact ⟨by rw [HZ.out]; rfl, B1.out⟩
  · have HZ := Lib.hid (hz.trans (if_neg hf))
    have qf : ((f : Int) != 0) = true := by rw [bne_iff_ne]; omega
    clear hz hf hs
    go_enter Tryz.func50, Tryz.ntmps50
    go_wp2_with fail
    refine HC.out.mono ?_; rintro e w1 ⟨rfl, b1⟩
    have B1 := Lib.hid b1
    clear b1
    unfold rd2
    go_wp2_with fail
    go_ret
    exact ⟨by rw [HZ.out]; rfl, B1.out⟩
theorem rmay_any (s : ByteArray) (hs : s.size ≤ 281474976710656) (w : World) :
    Calls Tryz.prog 26 #[.string s] w fun e w' => e = .returned (.bool (checkP (bl s) == 0)) ∧ Below w.heap.size w w' := by
  have HC := Lib.hid (rcheck6_any s hs w)
  have q : (((checkP (bl s) : Nat) : Int) == 0) = (checkP (bl s) == 0) := by
    cases e : checkP (bl s) == 0 with
    | true => rw [beq_iff_eq] at e ⊢; omega
    | false => rw [beq_eq_false_iff_ne] at e ⊢; omega
  generalize checkP (bl s) = c at *
  go_enter Tryz.func26, Tryz.ntmps26
  go_wp2_with fail
  refine HC.out.mono ?_; rintro e w1 ⟨rfl, b1⟩
  have B1 := Lib.hid b1
  clear b1
  go_wp2_with fail
  go_ret
  exact ⟨rfl, B1.out⟩
end Go.Proofs.YtiehhlolhhjgpaaGreatDoor.Pl

namespace Go.Proofs.YtiehhlolhhjgpaaGreatDoor.Pl
open Go.RowKit

def st2 (h : List UInt8 × Nat) : Value := .tuple #[.string ⟨h.1.toArray⟩, .int .i64 h.2]
theorem cat_front (b : UInt8) (l : List UInt8) : (⟨#[b]⟩ ++ ⟨l.toArray⟩ : ByteArray) = ⟨(b :: l).toArray⟩ := by
  apply bl_inj
  unfold bl
  rw [ByteArray.data_append]
  simp
theorem txt_le (t : List UInt8) : (txt t).length ≤ 9 + t.length := by rw [txt_len]; have := enc_len t.length; omega

set_option maxRecDepth 100000 in
theorem rdata_any (s : ByteArray) (hs : s.size ≤ 281474976710656) (w : World) :
    Calls Tryz.prog 99 #[.string s] w fun e w' => e = .returned (st2 (dataP (bl s))) ∧ Below w.heap.size w w' := by
  have HT := Lib.hid (fun V => reftext_any s V (by omega))
  by_cases h : 1024 < s.size
  · have HZ : Hid (dataP (bl s) = ([], 5)) := Lib.hid (by unfold dataP; rw [bl_length]; exact if_pos h)
    have h' : (1024 : Int) < (s.size : Int) := by omega
    clear h hs
    go_enter Tryz.func99, Tryz.ntmps99
    go_wp2_with fail
    go_ret2
    exact ⟨by rw [HZ.out]; rfl, Below.refl _ _⟩
  · have HZ : Hid (dataP (bl s) = (100 :: txt (bl s), 0)) := Lib.hid (by unfold dataP; rw [bl_length]; exact if_neg h)
    have h' : ¬ (1024 : Int) < (s.size : Int) := by omega
    have hcat : (⟨#[100]⟩ : ByteArray).size + (⟨(txt s.data.toList).toArray⟩ : ByteArray).size ≤ 9223372036854775807 := by
      have h4 : (⟨(txt s.data.toList).toArray⟩ : ByteArray).size = (txt s.data.toList).length := size_lit _
      have := txt_le s.data.toList
      have h2 : s.data.toList.length = s.size := bl_length s
      have h3 : (⟨#[100]⟩ : ByteArray).size = 1 := rfl
      omega
    have HC : Hid ((⟨#[100]⟩ ++ ⟨(txt s.data.toList).toArray⟩ : ByteArray) = ⟨(100 :: txt (bl s)).toArray⟩) := Lib.hid (cat_front _ _)
    generalize (⟨(txt s.data.toList).toArray⟩ : ByteArray) = t at *
    clear h hs
    go_enter Tryz.func99, Tryz.ntmps99
    go_wp2_with fail
    refine (HT.out w).mono ?_; rintro e w1 ⟨rfl, b1⟩
    have B1 := Lib.hid b1
    clear b1
    go_wp2_with fail
    go_ret2
    exact ⟨by rw [HZ.out, st2, ← HC.out]; rfl, B1.out⟩

set_option maxRecDepth 100000 in
theorem ratom_any (s : ByteArray) (hs : s.size ≤ 281474976710656) (w : World) :
    Calls Tryz.prog 97 #[.string s] w fun e w' => e = .returned (st2 (atomP (bl s))) ∧ Below w.heap.size w w' := by
  have HT := Lib.hid (fun V => reftext_any s V (by omega))
  have HN := Lib.hid (fun V => rname_any s hs V)
  by_cases h : 32 < s.size
  · have HZ : Hid (atomP (bl s) = ([], 5)) := Lib.hid (by unfold atomP; rw [bl_length]; exact if_pos h)
    have h' : (32 : Int) < (s.size : Int) := by omega
    clear h hs
    go_enter Tryz.func97, Tryz.ntmps97
    go_wp2_with fail
    go_ret2
    exact ⟨by rw [HZ.out]; rfl, Below.refl _ _⟩
  · have h' : ¬ (32 : Int) < (s.size : Int) := by omega
    cases hno : nameOK (bl s) with
    | false =>
      have HZ : Hid (atomP (bl s) = ([], 7)) := Lib.hid (by unfold atomP; rw [bl_length, if_neg h, if_pos hno])
      rw [hno] at HN
      clear h hs hno
      go_enter Tryz.func97, Tryz.ntmps97
      go_wp2_with fail
      refine (HN.out w).mono ?_; rintro e w1 ⟨rfl, b1⟩
      have B1 := Lib.hid b1
      clear b1
      go_wp2_with fail
      go_ret2
      exact ⟨by rw [HZ.out]; rfl, B1.out⟩
    | true =>
      have HZ : Hid (atomP (bl s) = (97 :: txt (bl s), 0)) := Lib.hid (by unfold atomP; rw [bl_length, if_neg h, if_neg (by rw [hno]; decide)])
      rw [hno] at HN
      have hcat : (⟨#[97]⟩ : ByteArray).size + (⟨(txt s.data.toList).toArray⟩ : ByteArray).size ≤ 9223372036854775807 := by
        have h4 : (⟨(txt s.data.toList).toArray⟩ : ByteArray).size = (txt s.data.toList).length := size_lit _
        have := txt_le s.data.toList
        have h2 : s.data.toList.length = s.size := bl_length s
        have h3 : (⟨#[97]⟩ : ByteArray).size = 1 := rfl
        omega
      have HC : Hid ((⟨#[97]⟩ ++ ⟨(txt s.data.toList).toArray⟩ : ByteArray) = ⟨(97 :: txt (bl s)).toArray⟩) := Lib.hid (cat_front _ _)
      generalize (⟨(txt s.data.toList).toArray⟩ : ByteArray) = t at *
      clear h hs hno
      go_enter Tryz.func97, Tryz.ntmps97
      go_wp2_with fail
      refine (HN.out w).mono ?_; rintro e w1 ⟨rfl, b1⟩
      have B1 := Lib.hid b1
      clear b1
      go_wp2_with fail
      refine (HT.out w1).mono ?_; rintro e w2 ⟨rfl, b2⟩
      have B2 := Lib.hid (below_step B1.out b2)
      clear b2
      go_wp2_with fail
      go_ret2
      exact ⟨by rw [HZ.out, st2, ← HC.out]; rfl, B2.out⟩

/-- The term of a number. -/
def numP (v : Int) : List UInt8 × Nat := if 0 ≤ v ∧ v ≤ 2147483647 then (100 :: txt (enc v.toNat), 0) else ([], 2)
theorem dataP_enc (v : Nat) : dataP (enc v) = (100 :: txt (enc v), 0) := by
  unfold dataP
  exact if_neg (by have := enc_len v; omega)
set_option maxHeartbeats 1000000 in
set_option maxRecDepth 100000 in
theorem rkind_any (s : ByteArray) (hs : s.size ≤ 281474976710656) (w : World) :
    Calls Tryz.prog 32 #[.string s] w fun e w' => e = .returned (.int .u8 (kindP (bl s))) ∧ Below w.heap.size w w' := by
  have HM := Lib.hid (rmay_any s hs w)
  obtain ⟨z, hz⟩ : ∃ z, z = kindP (bl s) := ⟨_, rfl⟩
  rw [← hz]
  unfold kindP at hz
  by_cases hc : checkP (bl s) = 0
  · rw [if_pos hc] at hz
    rw [show (checkP (bl s) == 0) = true by rw [hc]; rfl] at HM
    have hpos : 0 < s.size := by
      rcases Nat.eq_zero_or_pos s.size with h | h
      · rw [bl_nil h] at hc; exact absurd hc (by decide)
      · exact h
    obtain ⟨b, hb⟩ : ∃ b : UInt8, b = (bl s).getD 0 0 := ⟨_, rfl⟩
    have i1 : ∀ V : World, (Instr.index 9 (.string s) (.int .i64 0)).run Tryz.prog V = .ok (.int .u8 (b.toNat : Int)) V := tstr_index s 0 b hpos hb
    have hq := bl_cons hpos
    rw [← hb] at hq
    rw [hq] at hz
    simp only at hz
    obtain ⟨n, hn⟩ : ∃ n, n = b.toNat := ⟨_, rfl⟩
    have b_of : ∀ c : UInt8, b = c ↔ n = c.toNat := fun c => by rw [hn]; exact ⟨fun e => by rw [e], fun e => UInt8.toNat_inj.1 e⟩
    rw [← hn] at i1
    have ef : ∀ m : Nat, n ≠ m → ((n : Int) == (m : Int)) = false := fun m h => by rw [beq_eq_false_iff_ne]; omega
    clear hq hb hn hc hs
    have hcs : n = 100 ∨ n = 97 ∨ n = 114 ∨ n = 104 ∨ n = 109 ∨ (n ≠ 100 ∧ n ≠ 97 ∧ n ≠ 114 ∧ n ≠ 104 ∧ n ≠ 109) := by omega
    have q1 : n ≠ 100 → ((n : Int) == 100) = false := ef 100
    have q2 : n ≠ 97 → ((n : Int) == 97) = false := ef 97
    have q3 : n ≠ 114 → ((n : Int) == 114) = false := ef 114
    have q4 : n ≠ 104 → ((n : Int) == 104) = false := ef 104
    have q5 : n ≠ 109 → ((n : Int) == 109) = false := ef 109
    simp only [b_of] at hz
    clear ef b_of
    rcases hcs with h | h | h | h | h | ⟨g1, g2, g3, g4, g5⟩
    · subst h
      have HZ : Hid (z = 1) := Lib.hid hz
      clear hz q1 q2 q3 q4 q5
      go_enter Tryz.func32, Tryz.ntmps32
      go_wp2_with fail
      refine HM.out.mono ?_; rintro e w1 ⟨rfl, b1⟩
      have B1 := Lib.hid b1
      clear b1
      go_wp2_with fail
      go_ret
      exact ⟨by rw [HZ.out]; rfl, B1.out⟩
    · subst h
      have HZ : Hid (z = 2) := Lib.hid hz
      clear hz q1 q2 q3 q4 q5
      go_enter Tryz.func32, Tryz.ntmps32
      go_wp2_with fail
      refine HM.out.mono ?_; rintro e w1 ⟨rfl, b1⟩
      have B1 := Lib.hid b1
      clear b1
      go_wp2_with fail
      go_ret
      exact ⟨by rw [HZ.out]; rfl, B1.out⟩
    · subst h
      have HZ : Hid (z = 3) := Lib.hid hz
      clear hz q1 q2 q3 q4 q5
      go_enter Tryz.func32, Tryz.ntmps32
      go_wp2_with fail
      refine HM.out.mono ?_; rintro e w1 ⟨rfl, b1⟩
      have B1 := Lib.hid b1
      clear b1
      go_wp2_with fail
      go_ret
      exact ⟨by rw [HZ.out]; rfl, B1.out⟩
    · subst h
      have HZ : Hid (z = 4) := Lib.hid hz
      clear hz q1 q2 q3 q4 q5
      go_enter Tryz.func32, Tryz.ntmps32
      go_wp2_with fail
      refine HM.out.mono ?_; rintro e w1 ⟨rfl, b1⟩
      have B1 := Lib.hid b1
      clear b1
      go_wp2_with fail
      go_ret
      exact ⟨by rw [HZ.out]; rfl, B1.out⟩
    · subst h
      have HZ : Hid (z = 5) := Lib.hid hz
      clear hz q1 q2 q3 q4 q5
      go_enter Tryz.func32, Tryz.ntmps32
      go_wp2_with fail
      refine HM.out.mono ?_; rintro e w1 ⟨rfl, b1⟩
      have B1 := Lib.hid b1
      clear b1
      go_wp2_with fail
      go_ret
      exact ⟨by rw [HZ.out]; rfl, B1.out⟩
    · have HZ : Hid (z = 6) := Lib.hid (by rw [hz, if_neg (show ¬ n = UInt8.toNat 100 from g1), if_neg (show ¬ n = UInt8.toNat 97 from g2), if_neg (show ¬ n = UInt8.toNat 114 from g3), if_neg (show ¬ n = UInt8.toNat 104 from g4), if_neg (show ¬ n = UInt8.toNat 109 from g5)])
      have p1 := q1 g1
      have p2 := q2 g2
      have p3 := q3 g3
      have p4 := q4 g4
      have p5 := q5 g5
      clear hz q1 q2 q3 q4 q5 g1 g2 g3 g4 g5
      go_enter Tryz.func32, Tryz.ntmps32
      go_wp2_with fail
      refine HM.out.mono ?_; rintro e w1 ⟨rfl, b1⟩
      have B1 := Lib.hid b1
      clear b1
      go_wp2_with fail
      go_ret
      exact ⟨by rw [HZ.out]; rfl, B1.out⟩
  · rw [if_neg hc] at hz
    rw [show (checkP (bl s) == 0) = false by rw [beq_eq_false_iff_ne]; exact hc] at HM
    have HZ := Lib.hid hz
    clear hz hc hs
    go_enter Tryz.func32, Tryz.ntmps32
    go_wp2_with fail
    refine HM.out.mono ?_; rintro e w1 ⟨rfl, b1⟩
    have B1 := Lib.hid b1
    clear b1
    go_wp2_with fail
    go_ret
    exact ⟨by rw [HZ.out]; rfl, B1.out⟩
end Go.Proofs.YtiehhlolhhjgpaaGreatDoor.Pl

namespace Go.Proofs.YtiehhlolhhjgpaaGreatDoor.Pl
open Go.RowKit

/-- A row of texts in memory, to read. -/
def TxtRow (w : World) (ao : Option Addr) (l : List ByteArray) : Prop := l = [] ∨ ∃ b off, ao = some ⟨b, off, none⟩ ∧ b < w.heap.size ∧ ∀ j, j < l.length → w.cell? ⟨b, off + j, none⟩ = some (.string (l.getD j ByteArray.empty))
theorem TxtRow.below {w w' : World} {ao : Option Addr} {l : List ByteArray} (h : TxtRow w ao l) (hb : Below w.heap.size w w') : TxtRow w' ao l := by
  rcases h with h | ⟨b, off, hg, hlt, hc⟩
  · exact .inl h
  · exact .inr ⟨b, off, hg, Nat.lt_of_lt_of_le hlt hb.size, fun j hj => (hb.cell (p := ⟨b, off + j, none⟩) hlt).trans (hc j hj)⟩
/-- The parts' bytes, one behind the other. -/
def catL (l : List ByteArray) (k : Nat) : List UInt8 := ((l.take k).map bl).flatten
theorem catL_zero (l : List ByteArray) : catL l 0 = [] := by simp [catL]
theorem catL_succ (l : List ByteArray) (k : Nat) (h : k < l.length) : catL l (k + 1) = catL l k ++ bl (l.getD k ByteArray.empty) := by
  unfold catL
  rw [List.take_succ_eq_append_getElem h, List.map_append, List.flatten_append]
  simp [List.getD_eq_getElem?_getD, h]
theorem catL_all (l : List ByteArray) (k : Nat) (h : l.length ≤ k) : catL l k = (l.map bl).flatten := by
  unfold catL; rw [List.take_of_length_le h]
theorem catL_le (l : List ByteArray) (k : Nat) : (catL l k).length ≤ ((l.map bl).flatten).length := by
  have e : (l.map bl).flatten = catL l k ++ ((l.drop k).map bl).flatten := by
    unfold catL
    rw [← List.flatten_append, ← List.map_append, List.take_append_drop]
  rw [e, List.length_append]; omega
theorem cat_bytes (a b : ByteArray) : bl (a ++ b) = bl a ++ bl b := by
  unfold bl
  rw [ByteArray.data_append, Array.toList_append]
theorem mem_getD6 {l : List ByteArray} {x : ByteArray} (h : x ∈ l) : ∃ k, k < l.length ∧ l.getD k ByteArray.empty = x := by
  obtain ⟨k, hk, rfl⟩ := List.getElem_of_mem h
  exact ⟨k, hk, by simp [List.getD_eq_getElem?_getD, hk]⟩
theorem getD_mem6 (l : List ByteArray) (k : Nat) (h : k < l.length) : l.getD k ByteArray.empty ∈ l := by
  rw [List.getD_eq_getElem?_getD, List.getElem?_eq_getElem h]; exact List.getElem_mem h

set_option maxHeartbeats 4000000 in
set_option maxRecDepth 100000 in
theorem made_any (front : ByteArray) (l : List ByteArray) (ao : Option Addr) (cap : Nat) (hf : front.size ≤ 100) (hl : l.length ≤ 1000) (hx : ∀ x ∈ l, x.size ≤ 100000) (w : World) (hrow : TxtRow w ao l) :
    Calls Tryz.prog 100 #[.string front, .slice ao l.length cap] w fun e w' => e = .returned (st2 (madeP (bl front) (l.map bl))) ∧ Below w.heap.size w w' := by
  have HROW := Lib.hid hrow
  obtain ⟨z, hz⟩ : ∃ z, z = madeP (bl front) (l.map bl) := ⟨_, rfl⟩
  rw [← hz]
  unfold madeP at hz
  have HBAD : Hid (∀ k, k < l.length → checkP (bl (l.getD k ByteArray.empty)) ≠ 0 → z = ([], 2)) := Lib.hid (fun k hk hc => by
    rw [hz, if_neg]
    intro h
    exact hc (h _ (List.mem_map.2 ⟨_, getD_mem6 l k hk, rfl⟩)))
  have HOK : Hid ((∀ k, k < l.length → checkP (bl (l.getD k ByteArray.empty)) = 0) → z = if checkP (bl front ++ (l.map bl).flatten) = 0 then (bl front ++ (l.map bl).flatten, 0) else ([], 5)) := Lib.hid (fun h => by
    rw [hz, if_pos]
    intro x hx
    obtain ⟨y, hy, rfl⟩ := List.mem_map.1 hx
    obtain ⟨k, hk, rfl⟩ := mem_getD6 hy
    exact h k hk)
  have HX : Hid (∀ k, k < l.length → (l.getD k ByteArray.empty).size ≤ 100000) := Lib.hid (fun k hk => hx _ (getD_mem6 l k hk))
  obtain ⟨n, hn⟩ : ∃ n, n = l.length := ⟨_, rfl⟩
  have HN := Lib.hid hn
  have HFR := Lib.hid hf
  rw [← hn] at hl ⊢
  clear hz hx hrow hn hf
  go_enter Tryz.func100, Tryz.ntmps100
  go_wp2_with fail
  go_loopw [7] (fun i wr => ∃ k : Nat, i = .int .i64 k ∧ k ≤ n ∧ Hid (∀ j, j < k → checkP (bl (l.getD j ByteArray.empty)) = 0) ∧ Hid (Below w.heap.size w wr)) (fun i _ => n - (intOf i).toNat)
  case atStart => exact ⟨0, rfl, Nat.zero_le _, Lib.hid (fun j hj => absurd hj (Nat.not_lt_zero j)), Lib.hid (Below.refl _ _)⟩
  case round =>
    obtain ⟨k, rfl, hkn, hch, hb⟩ := hrel
    by_cases hk : k < n
    · have hk' : (k : Int) < (n : Int) := by omega
      rcases HROW.out.below hb.out with e | ⟨b, off, rfl, hlt, hc⟩
      · exfalso; have := HN.out; rw [e] at this; simp at this; omega
      have ck := hc k (by have := HN.out; omega)
      have HM := Lib.hid (rmay_any (l.getD k ByteArray.empty) (Nat.le_trans (HX.out k (by have := HN.out; omega)) (by decide)) wr)
      have HBK := Lib.hid (HBAD.out k (by have := HN.out; omega))
      have HNX : Hid (checkP (bl (l.getD k ByteArray.empty)) = 0 → ∀ j, j < k + 1 → checkP (bl (l.getD j ByteArray.empty)) = 0) := Lib.hid (fun h j hj => by
        by_cases e : j = k
        · rw [e]; exact h
        · exact hch.out j (by omega))
      generalize l.getD k ByteArray.empty = t at *
      clear hc hlt
      cases hq : (checkP (bl t) == 0) with
      | true =>
        rw [hq] at HM
        have HNN := Lib.hid (HNX.out (by simpa using hq))
        clear hq
        go_wp2_with fail
        refine HM.out.mono ?_; rintro e w2 ⟨rfl, b2⟩
        have B2 := Lib.hid (below_step hb.out b2)
        clear b2
        go_wp2_with fail
        go_roundw
        case rel => exact ⟨k + 1, by go_num, by omega, HNN, B2⟩
        case measure => simp [intOf]; omega
      | false =>
        rw [hq] at HM
        have HQ := Lib.hid (HBK.out (by simpa using hq))
        clear hq
        go_wp2_with fail
        refine HM.out.mono ?_; rintro e w2 ⟨rfl, b2⟩
        have B2 := Lib.hid (below_step hb.out b2)
        clear b2
        go_wp2_with fail
        go_ret2
        exact ⟨by rw [HQ.out]; rfl, B2.out⟩
    · obtain rfl : k = n := by omega
      have HZ := Lib.hid (HOK.out (fun j hj => hch.out j (by have := HN.out; omega)))
      clear hk hkn
      go_wp2_with fail
      go_loopw [6, 8] (fun sv i wr => ∃ (j : Nat) (t : ByteArray), sv = .string t ∧ i = .int .i64 j ∧ j ≤ k ∧ t.size ≤ 200000 ∧ Hid (bl t = bl front ++ catL l j) ∧ Hid (Below w.heap.size w wr)) (fun _ i _ => k - (intOf i).toNat)
      case atStart => exact ⟨0, front, rfl, rfl, Nat.zero_le _, by have := HFR.out; omega, Lib.hid (by rw [catL_zero, List.append_nil]), hb⟩
      case round =>
        obtain ⟨j, t, rfl, rfl, hjk, hts, ht, hb2⟩ := hrel
        by_cases hj : j < k
        · have hj' : (j : Int) < (k : Int) := by omega
          by_cases hsz : t.size ≤ 16384
          · have hsz' : (t.size : Int) ≤ 16384 := by omega
            rcases HROW.out.below hb2.out with e | ⟨b, off, rfl, hlt, hc⟩
            · exfalso; have := HN.out; rw [e] at this; simp at this; omega
            have ck := hc j (by have := HN.out; omega)
            have hxs := HX.out j (by have := HN.out; omega)
            have HS : Hid (bl front ++ catL l (j + 1) = bl front ++ catL l j ++ bl (l.getD j ByteArray.empty)) := Lib.hid (by rw [catL_succ l j (by have := HN.out; omega), List.append_assoc])
            generalize l.getD j ByteArray.empty = y at *
            have hcat : t.size + y.size ≤ 9223372036854775807 := by omega
            have HC : Hid (bl (t ++ y) = bl front ++ catL l (j + 1) ∧ (t ++ y).size ≤ 200000) := Lib.hid ⟨by rw [cat_bytes, ht.out, HS.out], by rw [ByteArray.size_append]; omega⟩
            clear hc hlt
            go_wp2_with fail
            go_roundw
            case rel => exact ⟨j + 1, t ++ y, rfl, by go_num, by omega, HC.out.2, Lib.hid HC.out.1, hb2⟩
            case measure => simp [intOf]; omega
          · have hsz' : decide ((t.size : Int) ≤ 16384) = false := decide_eq_false (by omega)
            have HM := Lib.hid (rmay_any t (by omega) wr)
            rw [show (checkP (bl t) == 0) = false by
              rw [beq_eq_false_iff_ne]
              intro h
              have := check_len h
              rw [bl_length] at this
              omega] at HM
            have HQ : Hid (z = ([], 5)) := Lib.hid (by
              rw [HZ.out, if_neg]
              intro h
              have h1 := check_len h
              have h2 := catL_le l j
              have h3 := congrArg List.length ht.out
              rw [bl_length, List.length_append] at h3
              rw [List.length_append] at h1
              omega)
            clear hsz
            go_wp2_with fail
            refine HM.out.mono ?_; rintro e w2 ⟨rfl, b2⟩
            have B2 := Lib.hid (below_step hb2.out b2)
            clear b2
            go_wp2_with fail
            go_ret2
            exact ⟨by rw [HQ.out]; rfl, B2.out⟩
        · obtain rfl : j = k := by omega
          have HE : Hid (bl t = bl front ++ (l.map bl).flatten) := Lib.hid (by rw [ht.out, catL_all l j (by have := HN.out; omega)])
          have HM := Lib.hid (rmay_any t (by omega) wr)
          rw [← HE.out] at HZ
          clear hj hjk
          cases hq : (checkP (bl t) == 0) with
          | true =>
            rw [hq] at HM
            have HQ : Hid (z = (bl t, 0)) := Lib.hid (HZ.out.trans (if_pos (by simpa using hq)))
            clear hq
            go_wp2_with fail
            refine HM.out.mono ?_; rintro e w2 ⟨rfl, b2⟩
            have B2 := Lib.hid (below_step hb2.out b2)
            clear b2
            go_wp2_with fail
            go_ret2
            exact ⟨by rw [HQ.out, st2, ← bl_eq]; rfl, B2.out⟩
          | false =>
            rw [hq] at HM
            have HQ : Hid (z = ([], 5)) := Lib.hid (HZ.out.trans (if_neg (by simpa using hq)))
            clear hq
            go_wp2_with fail
            refine HM.out.mono ?_; rintro e w2 ⟨rfl, b2⟩
            have B2 := Lib.hid (below_step hb2.out b2)
            clear b2
            go_wp2_with fail
            go_ret2
            exact ⟨by rw [HQ.out]; rfl, B2.out⟩
end Go.Proofs.YtiehhlolhhjgpaaGreatDoor.Pl

namespace Go.Proofs.YtiehhlolhhjgpaaGreatDoor.Pl
open Go.RowKit

/-- The cells of an array that holds the numbers l. -/
def row (k : IntKind) (l : List Nat) : Array Value := (l.map fun (x : Nat) => Value.int k (x : Int)).toArray
theorem row_size (k : IntKind) (l : List Nat) : (row k l).size = l.length := by simp [row]
theorem row_at (k : IntKind) (l : List Nat) (i : Nat) (h : i < l.length) : (row k l)[i]? = some (.int k ((l.getD i 0 : Nat) : Int)) := by
  simp [row, List.getD_eq_getElem?_getD, h]
theorem row_set (k : IntKind) (l : List Nat) (i : Nat) (v : Nat) : (row k l).setIfInBounds i (.int k (v : Int)) = row k (l.set i v) := by
  simp [row, List.map_set]
theorem row_one (k : IntKind) (l : List Nat) : (row k l).all (·.oneCell') = true := by
  simp [row]; intro x _; rfl
theorem row_get (k : IntKind) (l : List Nat) (i : Nat) (h : i < l.length) : (row k l).getD i undef = .int k ((l.getD i 0 : Nat) : Int) := by
  have := row_at k l i h
  rw [Array.getD_eq_getD_getElem?, this]; rfl

/-- What the block of an array of numbers gives a walk. -/
theorem at_row {w : World} {b : Nat} {k : IntKind} {l : List Nat} {t : TypeId} (h : w.heap[b]? = some (.cells (row k l) t (0, 0))) (j : Nat) (hj : j < l.length) :
    w.cell? ⟨b, j, none⟩ = some (.int k ((l.getD j 0 : Nat) : Int)) ∧ w.frozen? ⟨b, j, none⟩ = false :=
  ⟨by rw [cell_of_row w b j _ t (0, 0) h, row_at k l j hj], frozen_of_row w b j _ t h⟩
theorem heap_step {w : World} {b j : Nat} {k : IntKind} {l : List Nat} {t : TypeId} (h : w.heap[b]? = some (.cells (row k l) t (0, 0))) (v : Nat) :
    (w.setCell ⟨b, j, none⟩ (.int k (v : Int))).heap[b]? = some (.cells (row k (l.set j v)) t (0, 0)) := by
  rw [heap_setCell_same w b j _ t _ h, row_set]
theorem heap_keep {w : World} {b c j : Nat} {v : Value} {o : Option Obj} (h : w.heap[c]? = o) (hc : c ≠ b) : (w.setCell ⟨b, j, none⟩ v).heap[c]? = o := by
  rw [heap_setCell_other _ _ _ _ hc]; exact h

theorem size_alloc' (w : World) (o : Obj) : (w.alloc o).heap.size = w.heap.size + 1 := by
  show (w.heap.push o).size = _
  simp

theorem below_setRow {B : Nat} {a w : World} (h : Below B a w) {g : Nat} (hg : B ≤ g) (cs : Array Value) : Below B a (w.setRow g cs) :=
  ⟨h.os, h.tape, h.output, by rw [setRow_size]; exact h.size, fun i hi => by rw [setRow_other _ _ _ _ (by omega)]; exact h.block i hi⟩

theorem heap3_0 (w : World) (A B C : Obj) : (((w.alloc A).alloc B).alloc C).heap[w.heap.size]? = some A := by
  rw [Go.heap_alloc_old _ _ (by simp; omega), Go.heap_alloc_old _ _ (by simp), Go.heap_alloc_new]
theorem heap3_1 (w : World) (A B C : Obj) : (((w.alloc A).alloc B).alloc C).heap[w.heap.size + 1]? = some B := by
  rw [Go.heap_alloc_old _ _ (by simp)]
  have := Go.heap_alloc_new (w.alloc A) B
  rw [size_alloc'] at this
  exact this
theorem heap3_2 (w : World) (A B C : Obj) : (((w.alloc A).alloc B).alloc C).heap[w.heap.size + 1 + 1]? = some C := by
  have := Go.heap_alloc_new ((w.alloc A).alloc B) C
  rw [size_alloc', size_alloc'] at this
  exact this
theorem below3 (w : World) (A B C : Obj) : Below w.heap.size w (((w.alloc A).alloc B).alloc C) := (((Below.refl _ _).alloc (Nat.le_refl _) _).alloc (by simp) _).alloc (by simp; omega) _
theorem heap_below {w w' : World} {b : Nat} {o : Obj} (hb : Below w.heap.size w w') (h : w.heap[b]? = some o) : w'.heap[b]? = some o := by
  rw [hb.block b (Array.getElem?_eq_some_iff.1 h).1]; exact h
theorem heap_alloc {w : World} {b : Nat} {o : Obj} (h : w.heap[b]? = some o) (p : Obj) : (w.alloc p).heap[b]? = some o := by
  rw [Go.heap_alloc_old _ _ (Array.getElem?_eq_some_iff.1 h).1]; exact h
theorem heap_setRow {w : World} {b : Nat} {o : Obj} (h : w.heap[b]? = some o) {g : Nat} (hg : b ≠ g) (cs : Array Value) : (w.setRow g cs).heap[b]? = some o := by
  rw [setRow_other _ _ _ _ hg]; exact h

theorem getD_set (l : List Nat) (j v i : Nat) (hj : j < l.length) : (l.set j v).getD i 0 = if i = j then v else l.getD i 0 := by
  rw [List.getD_eq_getElem?_getD, List.getElem?_set]
  by_cases e : j = i
  · subst e; simp [hj]
  · rw [if_neg e, if_neg (fun h => e h.symm), List.getD_eq_getElem?_getD]
theorem getD_ext {l m : List Nat} (hl : l.length = m.length) (h : ∀ i, i < l.length → l.getD i 0 = m.getD i 0) : l = m := by
  apply List.ext_getElem hl
  intro i h1 h2
  have := h i h1
  simpa [List.getD_eq_getElem?_getD, h1, h2] using this

/-- l agrees with f up to n. -/
def Agrees (l : List Nat) (f : Nat → Nat) (n : Nat) : Prop := ∀ j, j < n → l.getD j 0 = f j
theorem Agrees.zero (l : List Nat) (f : Nat → Nat) : Agrees l f 0 := fun _ h => absurd h (by omega)
theorem Agrees.next {l : List Nat} {f : Nat → Nat} {n : Nat} (h : Agrees l f n) (hn : n < l.length) : Agrees (l.set n (f n)) f (n + 1) := by
  intro j hj
  rw [List.getD_eq_getElem?_getD, List.getElem?_set]
  by_cases e : n = j
  · subst e; simp [hn]
  · rw [if_neg e, ← List.getD_eq_getElem?_getD]; exact h j (by omega)
theorem Agrees.ext {l m : List Nat} {n : Nat} (h : Agrees l (fun j => m.getD j 0) n) (hl : l.length = n) (hm : m.length = n) : l = m := by
  apply List.ext_getElem (by omega)
  intro i h1 h2
  have := h i (by omega)
  simpa [List.getD_eq_getElem?_getD, h1, h2] using this
end Go.Proofs.YtiehhlolhhjgpaaGreatDoor.Pl
