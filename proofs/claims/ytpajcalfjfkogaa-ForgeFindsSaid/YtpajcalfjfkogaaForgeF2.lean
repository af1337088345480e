/- A text's bytes, its places, its slices, as facts for the walk; what the document's name of layer 6 answers. What octet.ReadNum answers. What octet.Text and octet.ReadText answer. What the document's own Num and digits answer: the same encoding. What the document's own ReadNum answers: the same as octet.ReadNum. What the document's Text and ReadText answer. Rows of texts read: what comes, text by text, and what a reader of count of them answers; plain mathematics alone. What the document's head, read, Read, Check and May of layer 6 answer. What the document's read, Read, Check and May of layer 6 answer: read calls itself. What the document's Data, Atom, Num, Kind, Text, and what makes a term of parts, answer. What the document's made answers, of whatever parts; Row, Hash, Mac, Seal. What the document's parts of a term answers: a row of texts that the call owns. What the document's Places, Parts, Size, depth, Depth, In and Has of layer 6 answer: Places and depth call themselves. Rows of numbers as the cells of an array. -/
import Derived.Test.YtpajcalfjfkogaaForgeF1
import Derived.Test.YtpajcalfjfkogaaProg
import Derived.WalkKit
import Derived.Handy
import Derived.Lib.Hide
import Derived.Lib.Strings
import Derived.Laws.IdiomStrings
import Derived.WalkSpells
import Derived.Outline
import Derived.Test.YtpajcalfjfkogaaShelf
import Derived.BigQuiet
import Derived.Deep.QuietTactic
import Derived.Deep.RegionWith
import Derived.WalkLawsBesides
import Derived.Deep.RegionHeld3
import Derived.Laws.OwnMore
import Derived.OwnWalk
import Derived.Maps.AppendAt
import Derived.Deep.WholeRow
namespace Go.Proofs.Ytpajcalfjfkogaa.Pl
open Go.RowKit

/-- A text's bytes. -/
def bl (s : ByteArray) : List UInt8 := s.data.toList
theorem bl_length (s : ByteArray) : (bl s).length = s.size := by unfold bl; rw [Array.length_toList]; rfl
theorem bl_mk (l : List UInt8) : bl ⟨l.toArray⟩ = l := rfl
theorem bl_inj {a b : ByteArray} (h : bl a = bl b) : a = b := ByteArray.ext (Array.ext' h)
theorem bl_eq (s : ByteArray) : s = ⟨(bl s).toArray⟩ := bl_inj rfl
theorem tstr_index (s : ByteArray) (k : Nat) (c : UInt8) (hk : k < s.size) (hc : c = (bl s).getD k 0) (V : World) : (Instr.index 9 (.string s) (.int .i64 (k : Int))).run Try.prog V = .ok (.int .u8 (c.toNat : Int)) V := by
  rw [run_index_string V 9 s .i64 k Try.underlying9, dif_pos ⟨by omega, by omega⟩, hc]
  congr 2
  have hk' : k < s.data.toList.length := by simpa using hk
  simp only [bl, List.getD_eq_getElem?_getD, List.getElem?_eq_getElem hk', Option.getD_some, Int.toNat_natCast]
  rfl
theorem tslice_from (x : ByteArray) (m : Nat) (h : m ≤ x.size) (V : World) : (Instr.sliceAt 9 (.string x) (some (.int .i64 (m : Int))) none none).run Try.prog V = .ok (.string (x.extract m x.size)) V := by
  have h0 : (0 : Int) ≤ (m : Int) := by omega
  have h1 : (m : Int) ≤ (x.size : Int) := by omega
  go_simp
theorem tslice_mid (x : ByteArray) (a b : Nat) (h : a ≤ b) (h2 : b ≤ x.size) (V : World) : (Instr.sliceAt 9 (.string x) (some (.int .i64 (a : Int))) (some (.int .i64 (b : Int))) none).run Try.prog V = .ok (.string (x.extract a b)) V := by
  have h0 : (0 : Int) ≤ (a : Int) := by omega
  have h1 : (a : Int) ≤ (b : Int) := by omega
  have h3 : (b : Int) ≤ (x.size : Int) := by omega
  go_simp
theorem bl_extract (x : ByteArray) (a b : Nat) : bl (x.extract a b) = ((bl x).take b).drop a := by
  unfold bl
  rw [Lib.extract_data, List.take_drop]
  by_cases h : a ≤ b
  · rw [show a + (b - a) = b by omega]
  · have : (x.data.toList.take (a + (b - a))).drop a = [] := List.drop_eq_nil_of_le (by simp; omega)
    rw [this]
    exact (List.drop_eq_nil_of_le (by simp; omega)).symm
theorem bl_from (x : ByteArray) (m : Nat) : bl (x.extract m x.size) = (bl x).drop m := by
  rw [bl_extract, List.take_of_length_le (by rw [bl_length]; exact Nat.le_refl _)]
theorem size_bl (s : ByteArray) : s.size = (bl s).length := (bl_length s).symm
theorem bl_nil {s : ByteArray} (h : s.size = 0) : bl s = [] := List.length_eq_zero_iff.1 (by rw [bl_length]; exact h)
theorem bl_cons {s : ByteArray} (h : 0 < s.size) : bl s = (bl s).getD 0 0 :: (bl s).drop 1 := by
  have hl : 0 < (bl s).length := by rw [bl_length]; exact h
  cases e : bl s with
  | nil => rw [e] at hl; simp at hl
  | cons b r => rfl
theorem nameOK_iff (l : List UInt8) : nameOK l = true ↔ l ≠ [] ∧ ∀ j, j < l.length → nameB (l.getD j 0) = true := by
  unfold nameOK
  rw [Bool.and_eq_true, List.all_eq_true]
  constructor
  · rintro ⟨h, k⟩
    refine ⟨fun e => by rw [e] at h; simp at h, fun j hj => k _ ?_⟩
    rw [List.getD_eq_getElem?_getD, List.getElem?_eq_getElem hj]; exact List.getElem_mem hj
  · rintro ⟨h, k⟩
    refine ⟨by cases l with | nil => exact absurd rfl h | cons => rfl, fun x hx => ?_⟩
    obtain ⟨j, hj, rfl⟩ := List.getElem_of_mem hx
    have := k j hj
    simpa [List.getD_eq_getElem?_getD, hj] using this
theorem str6_ne {a b : ByteArray} (h : a ≠ b) : (a.toList == b.toList) = false ∧ (a.toList != b.toList) = true := by
  have h' : a.toList ≠ b.toList := fun e => h (by
    rw [Lib.toList_data, Lib.toList_data] at e
    exact ByteArray.ext (Array.ext' e))
  exact ⟨beq_eq_false_iff_ne.2 h', bne_iff_ne.2 h'⟩
theorem ret6_bool {a b : Bool} (h : a = b) : Ending.returned (.bool a) = .returned (.bool b) := by rw [h]
set_option maxHeartbeats 2000000 in
set_option maxRecDepth 100000 in
theorem rname_any (s : ByteArray) (hs : s.size ≤ 281474976710656) (w : World) :
    Calls Try.prog 109 #[.string s] w fun e w' => e = .returned (.bool (nameOK (bl s))) ∧ Below w.heap.size w w' := by
  obtain ⟨z, hz⟩ : ∃ z, z = nameOK (bl s) := ⟨_, rfl⟩
  rw [← hz]
  by_cases h0 : s.size = 0
  · have HZ : Hid (z = false) := Lib.hid (by rw [hz, bl_nil h0]; rfl)
    obtain rfl : s = ⟨#[]⟩ := bl_inj (bl_nil h0)
    clear hz h0 hs
    go_enter Try.func109, Try.ntmps109
    go_wp2_with fail
    refine wp_loop_rounds 1 ?_; rw [rounds_succ]; go_wp2_with fail
    go_ret
    exact ⟨ret6_bool HZ.out.symm, Below.refl _ _⟩
  · have hne : s ≠ ⟨#[]⟩ := fun e => h0 (by rw [e]; rfl)
    obtain ⟨g1, g2⟩ := str6_ne hne
    have g3 : s.toList.isEmpty = false := by
      rw [Lib.toList_data, List.isEmpty_eq_false_iff]
      intro e
      exact h0 (by rw [size_bl]; unfold bl; rw [e]; rfl)
    have HB : Hid (∀ k, k < s.size → nameB ((bl s).getD k 0) = false → z = false) := Lib.hid (fun k hk hb => by
      rw [hz]
      cases e : nameOK (bl s) with
      | false => rfl
      | true => rw [((nameOK_iff _).1 e).2 k (by rw [bl_length]; exact hk)] at hb; exact absurd hb (by decide))
    have HE : Hid ((∀ j, j < s.size → nameB ((bl s).getD j 0) = true) → z = true) := Lib.hid (fun h => by
      rw [hz, nameOK_iff]
      refine ⟨fun e => h0 (by rw [size_bl, e]; rfl), fun j hj => h j (by rw [bl_length] at hj; exact hj)⟩)
    clear hz h0 hne
    go_enter Try.func109, Try.ntmps109
    go_wp2_with fail
    go_loopw [3] (fun i wr => ∃ k : Nat, i = .int .i64 k ∧ k ≤ s.size ∧ Hid (∀ j, j < k → nameB ((bl s).getD j 0) = true) ∧ Hid (Below w.heap.size w wr)) (fun i _ => s.size - (intOf i).toNat)
    case atStart => exact ⟨0, rfl, Nat.zero_le _, Lib.hid (fun j hj => absurd hj (Nat.not_lt_zero j)), Lib.hid (Below.refl _ _)⟩
    case round =>
      obtain ⟨k, rfl, hks, hch, hbw⟩ := hrel
      by_cases hk : k < s.size
      · obtain ⟨c, ec⟩ : ∃ c : UInt8, c = (bl s).getD k 0 := ⟨_, rfl⟩
        have i1 : ∀ V : World, (Instr.index 9 (.string s) (.int .i64 (k : Int))).run Try.prog V = .ok (.int .u8 (c.toNat : Int)) V := tstr_index s k c hk ec
        have HBK : Hid (nameB c = false → z = false) := Lib.hid (by rw [ec]; exact HB.out k hk)
        have HNX : Hid (nameB c = true → ∀ j, j < k + 1 → nameB ((bl s).getD j 0) = true) := Lib.hid (fun h j hj => by
          by_cases e : j = k
          · rw [e, ← ec]; exact h
          · exact hch.out j (by omega))
        obtain ⟨n, hn⟩ : ∃ n, n = c.toNat := ⟨_, rfl⟩
        have HY : Hid (((97 ≤ n ∧ n ≤ 122) ∨ (48 ≤ n ∧ n ≤ 57) ∨ n = 47 ∨ n = 46 ∨ n = 45) → nameB c = true) := Lib.hid (fun h => by unfold nameB; rw [← hn]; exact decide_eq_true h)
        have HW : Hid (¬ ((97 ≤ n ∧ n ≤ 122) ∨ (48 ≤ n ∧ n ≤ 57) ∨ n = 47 ∨ n = 46 ∨ n = 45) → nameB c = false) := Lib.hid (fun h => by unfold nameB; rw [← hn]; exact decide_eq_false h)
        rw [← hn] at i1
        clear ec hn
        have hcs : n < 45 ∨ n = 45 ∨ n = 46 ∨ n = 47 ∨ (48 ≤ n ∧ n ≤ 57) ∨ (57 < n ∧ n < 97) ∨ (97 ≤ n ∧ n ≤ 122) ∨ 122 < n := by omega
        have ef : ∀ m : Nat, n ≠ m → ((n : Int) == (m : Int)) = false := fun m h => by rw [beq_eq_false_iff_ne]; omega
        rcases hcs with h | h | h | h | ⟨h, h'⟩ | ⟨h, h'⟩ | ⟨h, h'⟩ | h
        · have HX := Lib.hid (HBK.out (HW.out (by omega)))
          have q1 : ((n : Int) == 47) = false := ef 47 (by omega)
          have q2 : ((n : Int) == 46) = false := ef 46 (by omega)
          have q3 : ((n : Int) == 45) = false := ef 45 (by omega)
          clear ef
          go_wp2_with fail
          go_ret
          exact ⟨ret6_bool HX.out.symm, hbw.out⟩
        · subst h
          have HX := Lib.hid (HNX.out (HY.out (by omega)))
          clear ef
          go_wp2_with fail
          go_roundw
          case rel => exact ⟨k + 1, by go_num, by omega, HX, hbw⟩
          case measure => simp [intOf]; omega
        · subst h
          have HX := Lib.hid (HNX.out (HY.out (by omega)))
          clear ef
          go_wp2_with fail
          go_roundw
          case rel => exact ⟨k + 1, by go_num, by omega, HX, hbw⟩
          case measure => simp [intOf]; omega
        · subst h
          have HX := Lib.hid (HNX.out (HY.out (by omega)))
          clear ef
          go_wp2_with fail
          go_roundw
          case rel => exact ⟨k + 1, by go_num, by omega, HX, hbw⟩
          case measure => simp [intOf]; omega
        · have HX := Lib.hid (HNX.out (HY.out (by omega)))
          clear ef
          go_wp2_with fail
          go_roundw
          case rel => exact ⟨k + 1, by go_num, by omega, HX, hbw⟩
          case measure => simp [intOf]; omega
        · have HX := Lib.hid (HBK.out (HW.out (by omega)))
          have q1 : ((n : Int) == 47) = false := ef 47 (by omega)
          have q2 : ((n : Int) == 46) = false := ef 46 (by omega)
          have q3 : ((n : Int) == 45) = false := ef 45 (by omega)
          have q4 : decide ((n : Int) ≤ 57) = false := decide_eq_false (by omega)
          clear ef
          go_wp2_with fail
          go_ret
          exact ⟨ret6_bool HX.out.symm, hbw.out⟩
        · have HX := Lib.hid (HNX.out (HY.out (by omega)))
          clear ef
          go_wp2_with fail
          go_roundw
          case rel => exact ⟨k + 1, by go_num, by omega, HX, hbw⟩
          case measure => simp [intOf]; omega
        · have HX := Lib.hid (HBK.out (HW.out (by omega)))
          have q1 : ((n : Int) == 47) = false := ef 47 (by omega)
          have q2 : ((n : Int) == 46) = false := ef 46 (by omega)
          have q3 : ((n : Int) == 45) = false := ef 45 (by omega)
          have q4 : decide ((n : Int) ≤ 57) = false := decide_eq_false (by omega)
          have q5 : decide ((n : Int) ≤ 122) = false := decide_eq_false (by omega)
          clear ef
          go_wp2_with fail
          go_ret
          exact ⟨ret6_bool HX.out.symm, hbw.out⟩
      · obtain rfl : k = s.size := by omega
        have HQ := Lib.hid (HE.out hch.out)
        clear hk hks
        go_wp2_with fail
        go_ret
        exact ⟨ret6_bool HQ.out.symm, hbw.out⟩
end Go.Proofs.Ytpajcalfjfkogaa.Pl

namespace Go.Proofs.Ytpajcalfjfkogaa.Pl
open Go.RowKit

theorem isEmpty_no {s : ByteArray} (h0 : 0 < s.size) : s.toList.isEmpty = false := by
  rw [ByteArray.toList_eq]
  have : s.data.toList.length = s.size := by simp
  cases hd : s.data.toList with
  | nil => rw [hd] at this; simp at this; omega
  | cons a r => rfl

set_option maxRecDepth 100000 in
theorem readnum_nil (w : World) :
    Calls Try.prog 103 #[.string ⟨#[]⟩] w fun e w' => e = .returned (.tuple #[.int .u64 0, .int .i64 0, .int .i64 6]) ∧ w = w' := by
  go_enter Try.func103, Try.ntmps103
  go_wp2
  go_ret3
  exact ⟨rfl, rfl⟩
set_option maxRecDepth 100000 in
theorem readnum_small (s : ByteArray) (h0 : 0 < s.size) (hb : s[0].toNat < 248) (w : World) :
    Calls Try.prog 103 #[.string s] w fun e w' => e = .returned (.tuple #[.int .u64 s[0].toNat, .int .i64 1, .int .i64 0]) ∧ w = w' := by
  have hne : s.toList.isEmpty = false := isEmpty_no h0
  go_enter Try.func103, Try.ntmps103
  go_wp2
  go_ret3
  exact ⟨rfl, rfl⟩
set_option maxRecDepth 100000 in
theorem readnum_end (s : ByteArray) (h0 : 0 < s.size) (hb : 248 ≤ s[0].toNat) (hb2 : s[0].toNat < 256) (hk : s.size - 1 < s[0].toNat - 247) (w : World) :
    Calls Try.prog 103 #[.string s] w fun e w' => e = .returned (.tuple #[.int .u64 0, .int .i64 0, .int .i64 6]) ∧ w = w' := by
  have hne : s.toList.isEmpty = false := isEmpty_no h0
  go_enter Try.func103, Try.ntmps103
  go_wp2
  go_ret3
  exact ⟨rfl, rfl⟩
set_option maxRecDepth 100000 in
theorem readnum_zero (s d : ByteArray) (hd : s.extract 1 s.size = d) (h0 : 0 < s.size) (hb : 248 ≤ s[0].toNat) (hb2 : s[0].toNat < 256) (hk : s[0].toNat - 247 ≤ d.size) (h1 : 0 < d.size) (hz : d[0].toNat = 0) (w : World) :
    Calls Try.prog 103 #[.string s] w fun e w' => e = .returned (.tuple #[.int .u64 0, .int .i64 0, .int .i64 7]) ∧ w = w' := by
  have hne : s.toList.isEmpty = false := isEmpty_no h0
  have hz' : ((d[0].toNat : Int) == 0) = true := by rw [hz]; rfl
  clear hz
  go_enter Try.func103, Try.ntmps103
  go_wp2
  go_ret3
  exact ⟨rfl, rfl⟩
set_option maxRecDepth 100000 in
theorem readnum_one (s d : ByteArray) (hd : s.extract 1 s.size = d) (h0 : 0 < s.size) (hb : s[0].toNat = 248) (h1 : 0 < d.size) (hz : d[0].toNat ≠ 0) (hz2 : d[0].toNat < 248) (w : World) :
    Calls Try.prog 103 #[.string s] w fun e w' => e = .returned (.tuple #[.int .u64 0, .int .i64 0, .int .i64 7]) ∧ w = w' := by
  have hne : s.toList.isEmpty = false := isEmpty_no h0
  have hz' : ((d[0].toNat : Int) == 0) = false := by rw [beq_eq_false_iff_ne]; omega
  clear hz
  go_enter Try.func103, Try.ntmps103
  go_wp2
  go_ret3
  exact ⟨rfl, rfl⟩
/-- A number of fewer than eight digits, and one digit more. -/
theorem or_digit (V : Nat) (b : UInt8) (hV : V < 256 ^ 7) : bits .or .u64 (IntKind.u64.wrap ((V : Int) * 256)) (IntKind.u64.wrap (b.toNat : Int)) = ((V * 256 + b.toNat : Nat) : Int) := by
  have hb : b.toNat < 256 := b.toNat_lt
  have h7 : V < 72057594037927936 := hV
  have e1 : IntKind.u64.wrap ((V : Int) * 256) = ((V * 256 : Nat) : Int) := by rw [IntWalk.u64_in _ (by omega)]; omega
  have e2 : IntKind.u64.wrap (b.toNat : Int) = (b.toNat : Int) := IntWalk.u64_in _ (by omega)
  rw [e1, e2, bits_or_u64_nat _ _ (by omega) (by omega)]
  have h := Nat.two_pow_add_eq_or_of_lt (i := 8) (b := b.toNat) (by omega) V
  have h2 : 2 ^ 8 * V = V * 256 := by omega
  rw [h2] at h
  rw [← h]
theorem val_take (l : List UInt8) (j : Nat) (h : j < l.length) : val (l.take (j + 1)) = val (l.take j) * 256 + l[j].toNat := by
  rw [List.take_succ_eq_append_getElem h, val_snoc]
theorem or_zero64 (b : UInt8) : bits .or .u64 0 (IntKind.u64.wrap (b.toNat : Int)) = (b.toNat : Int) := by
  have h := or_digit 0 b (by decide)
  have e : IntKind.u64.wrap (((0 : Nat) : Int) * 256) = 0 := by rw [IntWalk.u64_in _ (by omega)]; omega
  rw [e] at h
  rw [h]; simp
set_option maxRecDepth 100000 in
theorem readnum_ok1 (s d : ByteArray) (hd : s.extract 1 s.size = d) (h0 : 0 < s.size) (hb : s[0].toNat = 248) (h1 : 0 < d.size) (hz2 : 248 ≤ d[0].toNat) (w : World) :
    Calls Try.prog 103 #[.string s] w fun e w' => e = .returned (.tuple #[.int .u64 d[0].toNat, .int .i64 2, .int .i64 0]) ∧ w = w' := by
  have hne : s.toList.isEmpty = false := isEmpty_no h0
  have hz' : ((d[0].toNat : Int) == 0) = false := by rw [beq_eq_false_iff_ne]; omega
  go_enter Try.func103, Try.ntmps103
  go_wp2
  go_rounds 2
  go_ret3
  exact ⟨ret3 (or_zero64 _), rfl⟩
set_option maxRecDepth 100000 in
theorem readnum_okk (s d : ByteArray) (k : Nat) (hd : s.extract 1 s.size = d) (h0 : 0 < s.size) (hb : s[0].toNat = 247 + k) (hk2 : 2 ≤ k) (hk8 : k ≤ 8) (h1 : k ≤ d.size) (h1' : 0 < d.size) (hz : d[0].toNat ≠ 0) (w : World) :
    Calls Try.prog 103 #[.string s] w fun e w' => e = .returned (.tuple #[.int .u64 (val (d.data.toList.take k)), .int .i64 (1 + k), .int .i64 0]) ∧ w = w' := by
  have hne : s.toList.isEmpty = false := isEmpty_no h0
  have hz' : ((d[0].toNat : Int) == 0) = false := by rw [beq_eq_false_iff_ne]; omega
  have hk1 : ((k : Int) == 1) = false := by rw [beq_eq_false_iff_ne]; omega
  have hk7 : (247 + (k : Int) - 247) = k := by omega
  have hd1 : decide (d.size < k) = false := by simp; omega
  have hd2 : decide (247 + (k : Int) < 248) = false := by simp; omega
  clear hz
  go_enter Try.func103, Try.ntmps103
  go_wp2
  go_loop [2, 39] (fun v i => ∃ j : Nat, j ≤ k ∧ i = .int .i64 j ∧ v = .int .u64 (val (d.data.toList.take j))) (fun _ i => k - (intOf i).toNat)
  case atStart => exact ⟨0, Nat.zero_le _, rfl, rfl⟩
  case round =>
    obtain ⟨j, hj, rfl, rfl⟩ := hrel
    have HS : Hid (∀ h : j < d.size, val (d.data.toList.take (j + 1)) = val (d.data.toList.take j) * 256 + d[j].toNat) := fun h => val_take d.data.toList j (by simpa using h)
    have HV : Hid (j < k → val (d.data.toList.take j) < 256 ^ 7) := fun h => by
      have h2 := val_lt (d.data.toList.take j)
      exact Nat.lt_of_lt_of_le h2 (Nat.pow_le_pow_right (by decide) (by simp; omega))
    clear hz' hk1 hk7 hne hd1 hd2
    go_wp2
    · have hlt : j < k := by assumption
      go_round
      case rel => exact ⟨j + 1, by omega, by go_num, by rw [HS.out (by omega), ← or_digit _ _ (HV.out hlt)]⟩
      case measure => simp [intOf]; omega
    · obtain rfl : j = k := by omega
      go_ret3
      exact ⟨rfl, rfl⟩
/-- ReadNum, whatever it is given. -/
theorem readnum_any (s : ByteArray) (hs : s.size ≤ 9223372036854775807) (w : World) :
    Calls Try.prog 103 #[.string s] w fun e w' => e = .returned (.tuple #[.int .u64 (rdn s.data.toList).1, .int .i64 (rdn s.data.toList).2.1, .int .i64 (rdn s.data.toList).2.2]) ∧ w = w' := by
  by_cases h0 : 0 < s.size
  · have hd : ∃ d, s.extract 1 s.size = d := ⟨_, rfl⟩
    obtain ⟨d, hd⟩ := hd
    have hdd : d.data.toList = s.data.toList.drop 1 := by
      rw [← hd]
      have := Lib.extract_data s 1 s.size
      rw [this]
      exact List.take_of_length_le (by simp)
    have hds : d.size = s.size - 1 := by
      have : d.data.toList.length = s.size - 1 := by rw [hdd]; simp
      simpa using this
    have hlist : s.data.toList = s[0] :: d.data.toList := by
      rw [hdd]
      have h1 : s.data.toList.length = s.size := by simp
      cases hl : s.data.toList with
      | nil => rw [hl] at h1; simp at h1; omega
      | cons a r =>
        have : s[0] = a := by
          have h2 : s.data.toList[0]'(by omega) = a := by simp [hl]
          exact h2
        simp [this]
    have hhd : ∀ h : 0 < d.size, d.data.toList.headD 0 = d[0] := by
      intro h
      have h1 : d.data.toList.length = d.size := by simp
      cases hl : d.data.toList with
      | nil => rw [hl] at h1; simp at h1; omega
      | cons a r =>
        have h2 : d.data.toList[0]'(by omega) = a := by simp [hl]
        exact h2.symm
    have hb2 : s[0].toNat < 256 := s[0].toNat_lt
    have hdl : d.data.toList.length = d.size := by simp
    rw [hlist]
    by_cases hb : s[0].toNat < 248
    · rw [rdn_small _ _ hb]
      exact readnum_small s h0 hb w
    · by_cases hk : d.size < s[0].toNat - 247
      · rw [rdn_end _ _ hb (by omega)]
        exact readnum_end s h0 (by omega) hb2 (by omega) w
      · have h1 : 0 < d.size := by omega
        have hh := hhd h1
        by_cases hz : d[0].toNat = 0
        · rw [rdn_form _ _ hb (by omega) (.inl (by rw [hh]; exact UInt8.toNat.inj (by simpa using hz)))]
          exact readnum_zero s d hd h0 (by omega) hb2 (by omega) h1 hz w
        · have hz' : ¬ d.data.toList.headD 0 = 0 := fun e => hz (by rw [← hh, e]; rfl)
          by_cases hone : s[0].toNat = 248
          · by_cases hz2 : d[0].toNat < 248
            · rw [rdn_form _ _ hb (by omega) (.inr ⟨hone, by rw [hh]; exact hz2⟩)]
              exact readnum_one s d hd h0 hone h1 hz hz2 w
            · rw [rdn_ok _ _ hb (by omega) (by
                intro h
                rcases h with h | ⟨_, h⟩
                · exact hz' h
                · rw [hh] at h; exact hz2 h), hone]
              have e1 : val (d.data.toList.take (248 - 247)) = d[0].toNat := by
                rw [← hh]
                cases hl : d.data.toList with
                | nil => rw [hl] at hdl; simp at hdl; omega
                | cons a r => simp [val]
              rw [e1]
              exact readnum_ok1 s d hd h0 hone h1 (by omega) w
          · have ⟨k, hk2⟩ : ∃ k, s[0].toNat = 247 + k := ⟨s[0].toNat - 247, by omega⟩
            rw [rdn_ok _ _ hb (by omega) (by
                intro h
                rcases h with h | ⟨h, _⟩
                · exact hz' h
                · exact hone h), hk2, Nat.add_sub_cancel_left]
            exact readnum_okk s d k hd h0 hk2 (by omega) (by omega) (by omega) h1 hz w
  · have : s = ⟨#[]⟩ := by
      cases s with
      | mk a =>
        have h2 : a.size = 0 := by simpa [ByteArray.size] using h0
        rw [Array.eq_empty_of_size_eq_zero h2]
    subst this
    exact readnum_nil w
end Go.Proofs.Ytpajcalfjfkogaa.Pl

namespace Go.Proofs.Ytpajcalfjfkogaa.Pl
open Go.RowKit

theorem clone_any (s : ByteArray) (w : World) (hs : s.size ≤ 281474976710656) :
    Calls Try.prog 53 #[.string s] w fun e w' => e = .returned (.string s) ∧ Below w.heap.size w w' := by
  go_enter Try.func53, Try.ntmps53
  go_wp2_with (go_at_call 81; refine (Try.stringslite_Clone _ _ hs).mono ?_; rintro e w' ⟨rfl, hb⟩)
  go_ret
  exact ⟨rfl, hb⟩

set_option maxRecDepth 100000 in
theorem text_any (s : ByteArray) (w : World) (hs : s.size ≤ 281474976710656) :
    Calls Try.prog 35 #[.string s] w fun e w' => e = .returned (.string (⟨(enc s.size).toArray⟩ ++ s)) ∧ Below w.heap.size w w' := by
  have h8 : s.size < 256 ^ 8 := by rw [two64]; omega
  have hl := (enc_len s.size).2
  have H8 := Lib.hid h8
  clear h8
  go_enter Try.func35, Try.ntmps35
  go_wp2_with (go_at_call 37; refine (num_any _ H8.out _).mono ?_; rintro e w' ⟨rfl, hb⟩)
  go_ret
  exact ⟨rfl, hb⟩
theorem text_list (s : ByteArray) : (⟨(enc s.size).toArray⟩ ++ s : ByteArray) = ⟨(txt s.data.toList).toArray⟩ := by
  apply ByteArray.ext
  simp [txt]

set_option maxRecDepth 100000 in
theorem readtext_any (s : ByteArray) (m : Int) (w : World) (hs : s.size ≤ 281474976710656) (m1 : -9223372036854775808 ≤ m) (m2 : m ≤ 9223372036854775807) :
    Calls Try.prog 86 #[.string s, .int .i64 m] w fun e w' =>
      e = .returned (.tuple #[.string ⟨(rdt s.data.toList m).1.toArray⟩, .int .i64 (rdt s.data.toList m).2.1, .int .i64 (rdt s.data.toList m).2.2]) ∧ Below w.heap.size w w' := by
  have ⟨v, n, e, hr⟩ : ∃ v n e, rdn s.data.toList = (v, n, e) := ⟨_, _, _, rfl⟩
  have hc : ∀ W, Calls Try.prog 103 #[.string s] W fun e' w' => e' = .returned (.tuple #[.int .u64 v, .int .i64 n, .int .i64 e]) ∧ W = w' := by
    intro W
    have h := readnum_any s (by omega) W
    rw [hr] at h
    exact h
  have hlen : s.data.toList.length = s.size := by simp
  have HC := Lib.hid hc
  clear hc
  by_cases he : e = 0
  · subst he
    obtain ⟨n1, n2, hn, hv⟩ := rdn_sound hr
    clear hn
    have hv' : v < 18446744073709551616 := by rw [two64] at hv; exact hv
    clear hv
    by_cases h1 : max m 0 < (v : Int)
    · have HR := Lib.hid (rdt_long hr h1)
      clear hr hlen
      go_enter Try.func86, Try.ntmps86
      go_wp2_with (go_at_call 103; refine (HC.out _).mono ?_; rintro e w' ⟨rfl, rfl⟩)
      go_ret3
      exact ⟨by rw [HR.out]; rfl, Below.refl _ _⟩
    · have hns : n ≤ s.size := by omega
      by_cases h2 : s.size - n < v
      · have HR := Lib.hid (rdt_end (m := m) hr h1 (by rw [hlen]; exact h2))
        clear hr hlen
        go_enter Try.func86, Try.ntmps86
        go_wp2_with (go_at_call 103; refine (HC.out _).mono ?_; rintro e w' ⟨rfl, rfl⟩)
        go_quiet (fail)
        go_wp2
        go_ret3
        exact ⟨by rw [HR.out]; rfl, below_drewN (Below.refl _ _) _⟩
      · have HR := Lib.hid (rdt_ok (m := m) hr h1 (by rw [hlen]; exact h2))
        have HE : Hid ((s.extract n s.size).extract 0 v = ⟨((s.data.toList.drop n).take v).toArray⟩) := by
          apply ByteArray.ext
          apply Array.toList_inj.1
          rw [Lib.extract_data, Lib.extract_data]
          simp only [List.drop_zero, Nat.sub_zero]
          congr 1
          exact List.take_of_length_le (by simp)
        clear hr hlen
        go_enter Try.func86, Try.ntmps86
        go_wp2_with (go_at_call 103; refine (HC.out _).mono ?_; rintro e w' ⟨rfl, rfl⟩)
        go_quiet (fail)
        go_wp2_with (go_at_call 53; refine (clone_any _ _ (by simp; omega)).mono ?_; rintro e w' ⟨rfl, hb⟩)
        go_ret3
        exact ⟨by rw [HR.out]; exact ret3s HE.out (by simp) rfl, (below_drewN (Below.refl _ _) _).trans hb⟩
  · have HR := Lib.hid (rdt_err (m := m) hr he)
    have he' : ((e : Int) != 0) = true := by rw [bne_iff_ne]; omega
    clear hr hlen
    go_enter Try.func86, Try.ntmps86
    go_wp2_with (go_at_call 103; refine (HC.out _).mono ?_; rintro e w' ⟨rfl, rfl⟩)
    go_ret3
    exact ⟨by rw [HR.out]; rfl, Below.refl _ _⟩
end Go.Proofs.Ytpajcalfjfkogaa.Pl

namespace Go.Proofs.Ytpajcalfjfkogaa.Pl
open Go.RowKit

theorem conv_at (W : World) (b : Nat) (x : Int) (h : W.cell? ⟨b, 0, none⟩ = some (.int .u8 x)) :
    (convert 108 9 (.slice (some ⟨b, 0, none⟩) 1 1)).run Try.prog W = .ok (.string ⟨#[UInt8.ofNat x.toNat]⟩) W := by
  rw [run_convert_bytes_string W _ _ _ (some ⟨b, 0, none⟩) 1 1 Try.underlying108 Try.underlying5 Try.underlying9]
  have hl := run_loadCells_list (P := Try.prog) W ⟨b, 0, none⟩ ([x].map (Value.int .u8)) (fun j v hj => by
    have hj' := (List.getElem?_eq_some_iff.1 hj).1
    obtain rfl : j = 0 := by simp at hj'; omega
    simp at hj
    rw [← hj]
    exact h)
  rw [run_bytesToString W ⟨b, 0, none⟩ 1 1 [x] hl]
  rfl
theorem conv_new (W : World) (x : Int) (T : TypeId) :
    (convert 108 9 (.slice (some ⟨W.heap.size, 0, none⟩) 1 1)).run Try.prog (W.alloc (.cells #[.int .u8 x] T)) = .ok (.string ⟨#[UInt8.ofNat x.toNat]⟩) (W.alloc (.cells #[.int .u8 x] T)) :=
  conv_at _ _ x (by rw [World.cell?_alloc_mark]; rfl)
theorem conv_newd (W : World) (x : Int) (T : TypeId) :
    (convert 108 9 (.slice (some ⟨W.heap.size, 0, none⟩) 1 1)).run Try.prog (W.alloc (.cells #[.int .u8 x] T)).drew = .ok (.string ⟨#[UInt8.ofNat x.toNat]⟩) (W.alloc (.cells #[.int .u8 x] T)).drew :=
  conv_at _ _ x (by rw [show (W.alloc (.cells #[.int .u8 x] T)).drew.cell? ⟨W.heap.size, 0, none⟩ = (W.alloc (.cells #[.int .u8 x] T)).cell? ⟨W.heap.size, 0, none⟩ from rfl, World.cell?_alloc_mark]; rfl)
attribute [local go_sem] conv_new conv_newd
theorem conv_kept {a w1 : World} (hb : Below a.heap.size a w1) (x : Int) : ∀ b, a.cell? ⟨b, 0, none⟩ = some (.int .u8 x) →
    (convert 108 9 (.slice (some ⟨b, 0, none⟩) 1 1)).run Try.prog w1 = .ok (.string ⟨#[UInt8.ofNat x.toNat]⟩) w1 :=
  fun b h => conv_at w1 b x ((hb.cell (p := ⟨b, 0, none⟩) (World.block_lt_of_cell? _ _ h)).trans h)



set_option maxRecDepth 100000 in
theorem digits_any (f : Nat) : ∀ (v : Nat) (w : World), v < 256 ^ f → f ≤ 8 →
    Calls Try.prog 107 #[.int .u64 v] w fun e w' => e = .returned (.string ⟨(dig f v).toArray⟩) ∧ Below w.heap.size w w' := by
  induction f with
  | zero =>
    intro v w hv _
    obtain rfl : v = 0 := by simpa using hv
    go_enter Try.func107, Try.ntmps107
    go_wp2_with fail
    go_ret
    exact ⟨rfl, Below.refl _ _⟩
  | succ f ih =>
    intro v w hv hf
    by_cases h0 : v = 0
    · subst h0
      go_enter Try.func107, Try.ntmps107
      go_wp2_with fail
      go_ret
      exact ⟨rfl, Below.refl _ _⟩
    · have hz : ((v : Int) == 0) = false := by rw [beq_eq_false_iff_ne]; omega
      have h9 : v < 18446744073709551616 := by rw [← two64]; exact Nat.lt_of_lt_of_le hv (Nat.pow_le_pow_right (by decide) hf)
      have hl := dig_length_le f (v / 256)
      have ih' : ∀ W, Calls Try.prog 107 #[.int .u64 ((v : Int) / 256)] W fun e w' => e = .returned (.string ⟨(dig f (v / 256)).toArray⟩) ∧ Below W.heap.size W w' := fun W => by
        have h := ih (v / 256) W (by rw [Nat.pow_succ] at hv; omega) (by omega)
        have e : ((v / 256 : Nat) : Int) = (v : Int) / 256 := by omega
        rw [e] at h
        exact h
      have IH := Lib.hid ih'
      have HD := Lib.hid (dig_succ f v h0)
      clear ih ih' hv h0
      go_enter Try.func107, Try.ntmps107
      go_wp2_with fail

      have hw1 : IntKind.u64.wrap ((v : Int) / 256) = (v : Int) / 256 := IntWalk.u64_in _ (by omega)
      have hw2 : IntKind.u64.wrap ((v : Int) % 256) = (v : Int) % 256 := IntWalk.u64_in _ (by omega)
      have hw4 : (v : Int).tmod 256 = (v : Int) % 256 := Int.tmod_eq_emod_of_nonneg (by omega)
      have hw3 : IntKind.u8.wrap ((v : Int) % 256) = (v : Int) % 256 := IntWalk.u8_in _ (by omega)
      go_region_with (go_at_call 107; refine (IH.out _).mono ?_; rintro e w1 ⟨rfl, hb⟩; have hcv := conv_kept hb ((v : Int) % 256))
      all_goals go_wp2_with fail
      all_goals go_ret
      all_goals refine ⟨ret_str (by rw [HD.out]; exact ByteArray.mk_append_mk _ _), ?_⟩
      · exact (below_undrew hb).alloc (below_undrew hb).size _
      · exact below_step ((Below.refl _ _).alloc (Nat.le_refl _) _) (below_undrew hb)
      · exact below_step ((Below.refl _ _).alloc (Nat.le_refl _) _) (below_undrew hb)

set_option maxRecDepth 100000 in
theorem refnum_any (v : Nat) (h8 : v < 256 ^ 8) (w : World) :
    Calls Try.prog 95 #[.int .u64 v] w fun e w' => e = .returned (.string ⟨(enc v).toArray⟩) ∧ Below w.heap.size w w' := by
  by_cases hv : v < 248
  · go_enter Try.func95, Try.ntmps95
    go_wp2_with fail
    go_ret
    exact ⟨ret_str (by rw [enc_small hv]), (Below.refl _ _).alloc (Nat.le_refl _) _⟩
  · have hl := dig_length_le 8 v
    have HD := Lib.hid (fun W => digits_any 8 v W h8 (Nat.le_refl _))
    have HE := Lib.hid (enc_big hv)
    clear h8
    go_enter Try.func95, Try.ntmps95
    go_wp2_with fail
    refine (HD.out _).mono ?_; rintro e w1 ⟨rfl, hb⟩
    go_wp2_with fail
    go_ret
    refine ⟨ret_str ?_, hb.alloc hb.size _⟩
    rw [HE.out, ByteArray.mk_append_mk, UInt8.ofNat_add]
    rfl
end Go.Proofs.Ytpajcalfjfkogaa.Pl

namespace Go.Proofs.Ytpajcalfjfkogaa.Pl
open Go.RowKit

set_option maxRecDepth 100000 in
theorem refreadnum_nil (w : World) :
    Calls Try.prog 110 #[.string ⟨#[]⟩] w fun e w' => e = .returned (.tuple #[.int .u64 0, .int .i64 0, .int .i64 6]) ∧ w = w' := by
  go_enter Try.func110, Try.ntmps110
  go_wp2
  go_ret3
  exact ⟨rfl, rfl⟩
set_option maxRecDepth 100000 in
theorem refreadnum_small (s : ByteArray) (h0 : 0 < s.size) (hb : s[0].toNat < 248) (w : World) :
    Calls Try.prog 110 #[.string s] w fun e w' => e = .returned (.tuple #[.int .u64 s[0].toNat, .int .i64 1, .int .i64 0]) ∧ w = w' := by
  have hne : s.toList.isEmpty = false := isEmpty_no h0
  go_enter Try.func110, Try.ntmps110
  go_wp2
  go_ret3
  exact ⟨rfl, rfl⟩
set_option maxRecDepth 100000 in
theorem refreadnum_end (s : ByteArray) (h0 : 0 < s.size) (hb : 248 ≤ s[0].toNat) (hb2 : s[0].toNat < 256) (hk : s.size < 1 + s[0].toNat - 247) (w : World) :
    Calls Try.prog 110 #[.string s] w fun e w' => e = .returned (.tuple #[.int .u64 0, .int .i64 0, .int .i64 6]) ∧ w = w' := by
  have hne : s.toList.isEmpty = false := isEmpty_no h0
  go_enter Try.func110, Try.ntmps110
  go_wp2
  go_ret3
  exact ⟨rfl, rfl⟩
/-- The number that the first j bytes behind the first one are. -/
def pre (s : ByteArray) (j : Nat) : Nat := val ((s.data.toList.drop 1).take j)
theorem pre_lt (s : ByteArray) (j : Nat) : pre s j < 256 ^ j :=
  Nat.lt_of_lt_of_le (val_lt _) (Nat.pow_le_pow_right (by decide) (by simp; omega))
theorem pre_succ (s : ByteArray) (j : Nat) (h : 1 + j < s.size) : pre s (j + 1) = pre s j * 256 + s[1 + j].toNat := by
  unfold pre
  have hl : (s.data.toList.drop 1).length = s.size - 1 := by simp
  rw [val_take _ j (by omega), List.getElem_drop]
  rfl
set_option maxHeartbeats 400000 in
set_option maxRecDepth 100000 in
theorem refreadnum_ok (s : ByteArray) (k : Nat) (h0 : 0 < s.size) (hb : s[0].toNat = 247 + k) (hk1 : 1 ≤ k) (hk8 : k ≤ 8) (h1 : 1 + k ≤ s.size) (L : List UInt8) (hL : (s.extract 0 (1 + k)).toList = L) (hx : (enc (pre s k) == L) = true) (w : World) :
    Calls Try.prog 110 #[.string s] w fun e w' => e = .returned (.tuple #[.int .u64 (pre s k), .int .i64 (1 + k), .int .i64 0]) ∧ Below w.heap.size w w' := by
  have hne : s.toList.isEmpty = false := isEmpty_no h0
  have hk7 : (1 + (247 + (k : Int)) - 247) = 1 + k := by omega
  have hd2 : decide (247 + (k : Int) < 248) = false := by simp; omega
  have hd1 : decide ((s.size : Int) < 1 + k) = false := by simp; omega
  have hp : pre s k < 256 ^ 8 := Nat.lt_of_lt_of_le (pre_lt s k) (Nat.pow_le_pow_right (by decide) hk8)
  have HP := Lib.hid hp
  clear hp
  go_enter Try.func110, Try.ntmps110
  go_wp2
  go_loop [6, 7] (fun v i => ∃ j : Nat, j ≤ k ∧ i = .int .i64 (1 + j) ∧ v = .int .u64 (pre s j)) (fun _ i => 9 - (intOf i).toNat)
  case atStart => exact ⟨0, Nat.zero_le _, rfl, rfl⟩
  case round =>
    obtain ⟨j, hj, rfl, rfl⟩ := hrel
    have HS := Lib.hid (fun h => pre_succ s j h)
    have HV := Lib.hid (pre_lt s j)
    go_wp2
    · have hlt : j < k := by assumption
      refine ⟨⟨j + 1, by omega, by go_num, ?_⟩, by simp [intOf]; omega⟩
      have e7 : pre s j < 72057594037927936 := Nat.lt_of_lt_of_le HV.out (Nat.pow_le_pow_right (n := 256) (j := 7) (by decide) (by omega))
      have eb : s[1 + j].toNat < 256 := s[1 + j].toNat_lt
      have e1 := HS.out (by omega)
      rw [IntWalk.u64_in ((pre s j : Int) * 256) (by omega), IntWalk.u64_in (s[1 + j].toNat : Int) (by omega), IntWalk.u64_in _ (by omega)]
      exact congrArg (Value.int .u64) (by omega)
    · obtain rfl : j = k := by omega
      clear HS HV
      have hq3 : (1 + (j : Int)).toNat = 1 + j := by omega
      have hq1 : (0 : Int) ≤ 1 + (j : Int) := by omega
      have hq2 : 1 + (j : Int) ≤ (s.size : Int) := by omega
      go_region_held3 (fun _ => True) (trivial) (first | (go_at_call 95; refine (refnum_any _ HP.out _).mono ?_; rintro e w1 ⟨rfl, hbw⟩))
      go_wp2
      go_ret3
      exact ⟨rfl, below_undrew hbw⟩
set_option maxHeartbeats 400000 in
set_option maxRecDepth 100000 in
theorem refreadnum_bad (s : ByteArray) (k : Nat) (h0 : 0 < s.size) (hb : s[0].toNat = 247 + k) (hk1 : 1 ≤ k) (hk8 : k ≤ 8) (h1 : 1 + k ≤ s.size) (L : List UInt8) (hL : (s.extract 0 (1 + k)).toList = L) (hx : (enc (pre s k) == L) = false) (w : World) :
    Calls Try.prog 110 #[.string s] w fun e w' => e = .returned (.tuple #[.int .u64 0, .int .i64 0, .int .i64 7]) ∧ Below w.heap.size w w' := by
  have hne : s.toList.isEmpty = false := isEmpty_no h0
  have hk7 : (1 + (247 + (k : Int)) - 247) = 1 + k := by omega
  have hd2 : decide (247 + (k : Int) < 248) = false := by simp; omega
  have hd1 : decide ((s.size : Int) < 1 + k) = false := by simp; omega
  have hp : pre s k < 256 ^ 8 := Nat.lt_of_lt_of_le (pre_lt s k) (Nat.pow_le_pow_right (by decide) hk8)
  have HP := Lib.hid hp
  clear hp
  go_enter Try.func110, Try.ntmps110
  go_wp2
  go_loop [6, 7] (fun v i => ∃ j : Nat, j ≤ k ∧ i = .int .i64 (1 + j) ∧ v = .int .u64 (pre s j)) (fun _ i => 9 - (intOf i).toNat)
  case atStart => exact ⟨0, Nat.zero_le _, rfl, rfl⟩
  case round =>
    obtain ⟨j, hj, rfl, rfl⟩ := hrel
    have HS := Lib.hid (fun h => pre_succ s j h)
    have HV := Lib.hid (pre_lt s j)
    go_wp2
    · have hlt : j < k := by assumption
      refine ⟨⟨j + 1, by omega, by go_num, ?_⟩, by simp [intOf]; omega⟩
      have e7 : pre s j < 72057594037927936 := Nat.lt_of_lt_of_le HV.out (Nat.pow_le_pow_right (n := 256) (j := 7) (by decide) (by omega))
      have eb : s[1 + j].toNat < 256 := s[1 + j].toNat_lt
      have e1 := HS.out (by omega)
      rw [IntWalk.u64_in ((pre s j : Int) * 256) (by omega), IntWalk.u64_in (s[1 + j].toNat : Int) (by omega), IntWalk.u64_in _ (by omega)]
      exact congrArg (Value.int .u64) (by omega)
    · obtain rfl : j = k := by omega
      clear HS HV
      have hq3 : (1 + (j : Int)).toNat = 1 + j := by omega
      have hq1 : (0 : Int) ≤ 1 + (j : Int) := by omega
      have hq2 : 1 + (j : Int) ≤ (s.size : Int) := by omega
      go_region_held3 (fun _ => True) (trivial) (first | (go_at_call 95; refine (refnum_any _ HP.out _).mono ?_; rintro e w1 ⟨rfl, hbw⟩))
      go_wp2
      go_ret3
      exact ⟨rfl, below_undrew hbw⟩
/-- The document's ReadNum, whatever it is given. -/
theorem refreadnum_any (s : ByteArray) (hs : s.size ≤ 9223372036854775807) (w : World) :
    Calls Try.prog 110 #[.string s] w fun e w' => e = .returned (.tuple #[.int .u64 (rdn s.data.toList).1, .int .i64 (rdn s.data.toList).2.1, .int .i64 (rdn s.data.toList).2.2]) ∧ Below w.heap.size w w' := by
  by_cases h0 : 0 < s.size
  · have hl : s.data.toList.length = s.size := by simp
    have hb2 : s[0].toNat < 256 := s[0].toNat_lt
    have hlist : s.data.toList = s[0] :: s.data.toList.drop 1 := by
      cases hd : s.data.toList with
      | nil => rw [hd] at hl; simp at hl; omega
      | cons a r =>
        have h2 : s.data.toList[0]'(by omega) = a := by simp [hd]
        have h3 : s[0] = a := h2
        simp [h3]
    have hdl : (s.data.toList.drop 1).length = s.size - 1 := by simp
    by_cases hb : s[0].toNat < 248
    · rw [hlist, rdn_small _ _ hb]
      exact (refreadnum_small s h0 hb w).mono fun e w' ⟨he, hw⟩ => ⟨he, hw ▸ Below.refl _ _⟩
    · by_cases hk : s.size - 1 < s[0].toNat - 247
      · rw [hlist, rdn_end _ _ hb (by omega)]
        exact (refreadnum_end s h0 (by omega) hb2 (by omega) w).mono fun e w' ⟨he, hw⟩ => ⟨he, hw ▸ Below.refl _ _⟩
      · obtain ⟨k, hk2⟩ : ∃ k, s[0].toNat = 247 + k := ⟨s[0].toNat - 247, by omega⟩
        have hlk : ((s.data.toList.drop 1).take k).length = k := by simp; omega
        have hcut : (s.extract 0 (1 + k)).toList = s[0] :: (s.data.toList.drop 1).take k := by
          rw [ByteArray.toList_eq, Lib.extract_data]
          simp only [List.drop_zero, Nat.sub_zero]
          conv => lhs; rw [hlist]
          rw [Nat.add_comm 1 k, List.take_succ_cons]
        have hs0 : s[0] = UInt8.ofNat (247 + k) := UInt8.toNat.inj (by simp; omega)
        have hev := enc_val (d := (s.data.toList.drop 1).take k) (by omega) (by omega)
        rw [hlk, ← hs0, headD_take (by omega)] at hev
        by_cases hf : (s.data.toList.drop 1).headD 0 = 0 ∨ (s[0].toNat = 248 ∧ ((s.data.toList.drop 1).headD 0).toNat < 248)
        · rw [hlist, rdn_form _ _ hb (by omega) hf]
          refine refreadnum_bad s k h0 hk2 (by omega) (by omega) (by omega) _ hcut ?_ w
          rw [beq_eq_false_iff_ne]
          intro he
          refine hev.1 he ?_
          rcases hf with h | ⟨h, h'⟩
          · exact .inl h
          · exact .inr ⟨by omega, h'⟩
        · rw [hlist, rdn_ok _ _ hb (by omega) hf, hk2, Nat.add_sub_cancel_left]
          refine refreadnum_ok s k h0 hk2 (by omega) (by omega) (by omega) _ hcut ?_ w
          rw [beq_iff_eq]
          refine hev.2 ?_
          intro h
          apply hf
          rcases h with h | ⟨h, h'⟩
          · exact .inl h
          · exact .inr ⟨by omega, h'⟩
  · have : s = ⟨#[]⟩ := by
      cases s with
      | mk a =>
        have h2 : a.size = 0 := by simpa [ByteArray.size] using h0
        rw [Array.eq_empty_of_size_eq_zero h2]
    subst this
    exact (refreadnum_nil w).mono fun e w' ⟨he, hw⟩ => ⟨he, hw ▸ Below.refl _ _⟩
end Go.Proofs.Ytpajcalfjfkogaa.Pl

namespace Go.Proofs.Ytpajcalfjfkogaa.Pl
open Go.RowKit

set_option maxRecDepth 100000 in
theorem reftext_any (s : ByteArray) (w : World) (hs : s.size ≤ 281474976710656) :
    Calls Try.prog 74 #[.string s] w fun e w' => e = .returned (.string ⟨(txt s.data.toList).toArray⟩) ∧ Below w.heap.size w w' := by
  have h8 : s.size < 256 ^ 8 := by rw [two64]; omega
  have hl := (enc_len s.size).2
  have H8 := Lib.hid h8
  clear h8
  go_enter Try.func74, Try.ntmps74
  go_wp2_with (go_at_call 95; refine (refnum_any _ H8.out _).mono ?_; rintro e w' ⟨rfl, hb⟩)
  go_ret
  exact ⟨ret_str (text_list s), hb⟩

set_option maxRecDepth 100000 in
theorem refreadtext_any (s : ByteArray) (m : Int) (w : World) (hs : s.size ≤ 281474976710656) (m1 : -9223372036854775808 ≤ m) (m2 : m ≤ 9223372036854775807) :
    Calls Try.prog 108 #[.string s, .int .i64 m] w fun e w' =>
      e = .returned (.tuple #[.string ⟨(rdt s.data.toList m).1.toArray⟩, .int .i64 (rdt s.data.toList m).2.1, .int .i64 (rdt s.data.toList m).2.2]) ∧ Below w.heap.size w w' := by
  have ⟨v, n, e, hr⟩ : ∃ v n e, rdn s.data.toList = (v, n, e) := ⟨_, _, _, rfl⟩
  have hc : ∀ W, Calls Try.prog 110 #[.string s] W fun e' w' => e' = .returned (.tuple #[.int .u64 v, .int .i64 n, .int .i64 e]) ∧ Below W.heap.size W w' := by
    intro W
    have h := refreadnum_any s (by omega) W
    rw [hr] at h
    exact h
  have hlen : s.data.toList.length = s.size := by simp
  have HC := Lib.hid hc
  clear hc
  by_cases he : e = 0
  · subst he
    obtain ⟨n1, n2, hn, hv⟩ := rdn_sound hr
    clear hn
    have hv' : v < 18446744073709551616 := by rw [two64] at hv; exact hv
    clear hv
    have hns : n ≤ s.size := by omega
    by_cases h1 : max m 0 < (v : Int)
    · have HR := Lib.hid (rdt_long hr h1)
      clear hr hlen
      by_cases hm : m < 0
      · have hv1 : 0 < v := by omega
        clear h1
        go_enter Try.func108, Try.ntmps108
        go_wp2_with (go_at_call 110; refine (HC.out _).mono ?_; rintro e w' ⟨rfl, hb⟩)
        go_ret3
        exact ⟨by rw [HR.out]; rfl, hb⟩
      · obtain ⟨k, rfl⟩ : ∃ k : Nat, m = k := ⟨m.toNat, by omega⟩
        have hv1 : k < v := by omega
        clear h1
        go_enter Try.func108, Try.ntmps108
        go_wp2_with (go_at_call 110; refine (HC.out _).mono ?_; rintro e w' ⟨rfl, hb⟩)
        go_ret3
        exact ⟨by rw [HR.out]; rfl, hb⟩
    · by_cases h2 : s.size - n < v
      · have HR := Lib.hid (rdt_end (m := m) hr h1 (by rw [hlen]; exact h2))
        clear hr hlen
        by_cases hm : m < 0
        · have hv1 : v = 0 := by omega
          omega
        · obtain ⟨k, rfl⟩ : ∃ k : Nat, m = k := ⟨m.toNat, by omega⟩
          have hv1 : v ≤ k := by omega
          clear h1
          go_enter Try.func108, Try.ntmps108
          go_wp2_with (go_at_call 110; refine (HC.out _).mono ?_; rintro e w' ⟨rfl, hb⟩)
          go_ret3
          exact ⟨by rw [HR.out]; rfl, hb⟩
      · have HR := Lib.hid (rdt_ok (m := m) hr h1 (by rw [hlen]; exact h2))
        have HE : Hid (s.extract n (n + v) = ⟨((s.data.toList.drop n).take v).toArray⟩) := by
          apply ByteArray.ext
          apply Array.toList_inj.1
          rw [Lib.extract_data]
          simp
        clear hr hlen
        by_cases hm : m < 0
        · have hv1 : v = 0 := by omega
          subst hv1
          clear h1 h2
          go_enter Try.func108, Try.ntmps108
          go_wp2_with (go_at_call 110; refine (HC.out _).mono ?_; rintro e w' ⟨rfl, hb⟩)
          go_ret3
          exact ⟨by rw [HR.out]; exact ret3s (by simp; rfl) (by simp) rfl, hb⟩
        · obtain ⟨k, rfl⟩ : ∃ k : Nat, m = k := ⟨m.toNat, by omega⟩
          have hv1 : v ≤ k := by omega
          clear h1
          go_enter Try.func108, Try.ntmps108
          go_wp2_with (go_at_call 110; refine (HC.out _).mono ?_; rintro e w' ⟨rfl, hb⟩)
          go_ret3
          exact ⟨by rw [HR.out]; exact ret3s HE.out (by simp) rfl, hb⟩
  · have HR := Lib.hid (rdt_err (m := m) hr he)
    have he' : ((e : Int) != 0) = true := by rw [bne_iff_ne]; omega
    clear hr hlen
    go_enter Try.func108, Try.ntmps108
    go_wp2_with (go_at_call 110; refine (HC.out _).mono ?_; rintro e w' ⟨rfl, hb⟩)
    go_ret3
    exact ⟨by rw [HR.out]; rfl, hb⟩
end Go.Proofs.Ytpajcalfjfkogaa.Pl

namespace Go.Proofs.Ytpajcalfjfkogaa.Pl

theorem rdt_step {l : List UInt8} {m : Int} (h : (rdt l m).2.2 = 0) : 1 ≤ (rdt l m).2.1 ∧ (rdt l m).2.1 ≤ l.length := by
  have e : rdt l m = ((rdt l m).1, (rdt l m).2.1, 0) := by rw [← h]
  obtain ⟨h1, h2, _⟩ := rdt_sound e
  exact ⟨h1, h2⟩
theorem rdt_size (l : List UInt8) (m : Int) : (rdt l m).2.1 ≤ l.length := by
  by_cases h : (rdt l m).2.2 = 0
  · exact (rdt_step h).2
  · have ⟨v, n, e, hr⟩ : ∃ v n e, rdn l = (v, n, e) := ⟨_, _, _, rfl⟩
    by_cases he : e = 0
    · subst he
      by_cases h1 : max m 0 < (v : Int)
      · rw [rdt_long hr h1]; simp
      · by_cases h2 : l.length - n < v
        · rw [rdt_end hr h1 h2]; simp
        · rw [rdt_ok hr h1 h2] at h; simp at h
    · rw [rdt_err hr he]; simp
end Go.Proofs.Ytpajcalfjfkogaa.Pl

namespace Go.Proofs.Ytpajcalfjfkogaa.Pl
open Go.RowKit

def hd3 (h : Nat × Nat × Nat) : Value := .tuple #[.int .i64 h.1, .int .i64 h.2.1, .int .i64 h.2.2]
set_option maxHeartbeats 2000000 in
set_option maxRecDepth 100000 in
theorem rhead_any (s : ByteArray) (hs : s.size ≤ 281474976710656) (w : World) :
    Calls Try.prog 96 #[.string s] w fun e w' => e = .returned (hd3 (headP (bl s))) ∧ Below w.heap.size w w' := by
  by_cases h0 : s.size = 0
  · have HZ : Hid (headP (bl s) = (0, 0, 6)) := Lib.hid (by rw [bl_nil h0]; rfl)
    obtain rfl : s = ⟨#[]⟩ := bl_inj (bl_nil h0)
    clear h0 hs
    go_enter Try.func96, Try.ntmps96
    go_wp2_with fail
    go_ret3
    exact ⟨by rw [HZ.out]; rfl, Below.refl _ _⟩
  · have hpos : 0 < s.size := by omega
    have q0 : ((s.size : Int) == 0) = false := by rw [beq_eq_false_iff_ne]; omega
    obtain ⟨b, hb⟩ : ∃ b : UInt8, b = (bl s).getD 0 0 := ⟨_, rfl⟩
    have i1 : ∀ V : World, (Instr.index 9 (.string s) (.int .i64 0)).run Try.prog V = .ok (.int .u8 (b.toNat : Int)) V := tstr_index s 0 b hpos hb
    have sl : ∀ V : World, (Instr.sliceAt 9 (.string s) (some (.int .i64 1)) none none).run Try.prog V = .ok (.string (s.extract 1 s.size)) V := tslice_from s 1 (by omega)
    have hc : bl s = b :: (bl s).drop 1 := by rw [hb]; exact bl_cons hpos
    have hx : bl (s.extract 1 s.size) = (bl s).drop 1 := bl_from s 1
    have hxs : (s.extract 1 s.size).size ≤ 281474976710656 := by rw [size_bl, hx, List.length_drop, bl_length]; omega
    rw [← hx] at hc
    obtain ⟨z, hz⟩ : ∃ z, z = headP (bl s) := ⟨_, rfl⟩
    rw [← hz]
    rw [hc] at hz
    generalize s.extract 1 s.size = x at *
    have HT := Lib.hid (fun (m : Int) (m1 : -9223372036854775808 ≤ m) (m2 : m ≤ 9223372036854775807) V => refreadtext_any x m V (by omega) m1 m2)
    have HR := Lib.hid (fun V => refreadnum_any x (by omega) V)
    have HXS := Lib.hid hxs
    obtain ⟨n, hn⟩ : ∃ n, n = b.toNat := ⟨_, rfl⟩
    have b_of : ∀ c : UInt8, b = c ↔ n = c.toNat := fun c => by rw [hn]; exact ⟨fun e => by rw [e], fun e => UInt8.toNat_inj.1 e⟩
    rw [← hn] at i1
    simp only [headP] at hz
    have hbl : x.data.toList = bl x := rfl
    have ef : ∀ m : Nat, n ≠ m → ((n : Int) == (m : Int)) = false := fun m h => by rw [beq_eq_false_iff_ne]; omega
    by_cases e100 : n = 100
    · rw [if_pos ((b_of 100).2 e100)] at hz
      obtain ⟨r, hr⟩ : ∃ r, r = rdt (bl x) 1024 := ⟨_, rfl⟩
      have hsz := rdt_size (bl x) 1024
      rw [← hr] at hz hsz
      have hT := HT.out 1024 (by decide) (by decide)
      rw [hbl, ← hr] at hT
      have HTT := Lib.hid hT
      have HZ := Lib.hid hz
      obtain ⟨t, k, f⟩ := r
      have hk : k ≤ 281474976710656 := by rw [bl_length] at hsz; have := HXS.out; simp only at hsz; omega
      subst e100
      clear hb hc hx hxs hz hr hsz hn b_of HT HR hT hs h0 ef
      go_enter Try.func96, Try.ntmps96
      go_wp2_with fail
      refine (HTT.out w).mono ?_; rintro e w1 ⟨rfl, b1⟩
      have B1 := Lib.hid b1
      clear b1
      go_wp2_with fail
      go_ret3
      exact ⟨by rw [HZ.out]; simp [hd3], B1.out⟩
    · rw [if_neg (fun e => e100 ((b_of 100).1 e))] at hz
      have q100 := ef 100 e100
      by_cases e97 : n = 97
      · rw [if_pos ((b_of 97).2 e97)] at hz
        obtain ⟨r, hr⟩ : ∃ r, r = rdt (bl x) 32 := ⟨_, rfl⟩
        have hsz := rdt_size (bl x) 32
        have hsd : ∀ t k, r = (t, k, 0) → t.length ≤ 32 := fun t k e => by have := (rdt_sound (hr.symm.trans e)).2.2.1; omega
        rw [← hr] at hz hsz
        have hT := HT.out 32 (by decide) (by decide)
        rw [hbl, ← hr] at hT
        have HTT := Lib.hid hT
        have HZ := Lib.hid hz
        obtain ⟨t, k, f⟩ := r
        have hk : k ≤ 281474976710656 := by rw [bl_length] at hsz; have := HXS.out; simp only at hsz; omega
        have HSD := Lib.hid (fun e : f = 0 => hsd t k (by rw [e]))
        subst e97
        clear hb hc hx hxs hz hr hsz hn b_of HT HR hT hs h0 ef hsd e100
        by_cases hf : f = 0
        · have HN := Lib.hid (fun V => rname_any ⟨t.toArray⟩ (by have := HSD.out hf; simp only [size_lit]; omega) V)
          rw [bl_mk] at HN
          subst hf
          cases hno : nameOK t with
          | true =>
            rw [hno] at HN
            have HQ : Hid (z = (1 + k, 0, 0)) := Lib.hid (by rw [HZ.out]; simp only [hno]; simp)
            clear hno
            go_enter Try.func96, Try.ntmps96
            go_wp2_with fail
            refine (HTT.out w).mono ?_; rintro e w1 ⟨rfl, b1⟩
            have B1 := Lib.hid b1
            clear b1
            go_wp2_with fail
            refine (HN.out _).mono ?_; rintro e w2 ⟨rfl, b2⟩
            have B2 := Lib.hid (below_step B1.out b2)
            clear b2
            go_wp2_with fail
            go_ret3
            exact ⟨by rw [HQ.out]; simp [hd3], B2.out⟩
          | false =>
            rw [hno] at HN
            have HQ : Hid (z = (0, 0, 7)) := Lib.hid (by rw [HZ.out]; simp only [hno]; simp)
            clear hno
            go_enter Try.func96, Try.ntmps96
            go_wp2_with fail
            refine (HTT.out w).mono ?_; rintro e w1 ⟨rfl, b1⟩
            have B1 := Lib.hid b1
            clear b1
            go_wp2_with fail
            refine (HN.out _).mono ?_; rintro e w2 ⟨rfl, b2⟩
            have B2 := Lib.hid (below_step B1.out b2)
            clear b2
            go_wp2_with fail
            go_ret3
            exact ⟨by rw [HQ.out]; simp [hd3], B2.out⟩
        · have qf : ((f : Int) == 0) = false := by rw [beq_eq_false_iff_ne]; omega
          have HQ : Hid (z = (1 + k, 0, f)) := Lib.hid (by rw [HZ.out, if_neg (fun h => hf h.1)])
          clear hf
          go_enter Try.func96, Try.ntmps96
          go_wp2_with fail
          refine (HTT.out w).mono ?_; rintro e w1 ⟨rfl, b1⟩
          have B1 := Lib.hid b1
          clear b1
          go_wp2_with fail
          go_ret3
          exact ⟨by rw [HQ.out]; simp [hd3], B1.out⟩
      · rw [if_neg (fun e => e97 ((b_of 97).1 e))] at hz
        have q97 := ef 97 e97
        by_cases e114 : n = 114
        · rw [if_pos ((b_of 114).2 e114)] at hz
          obtain ⟨r, hr⟩ : ∃ r, r = rdn (bl x) := ⟨_, rfl⟩
          have hT := HR.out
          rw [hbl, ← hr] at hT
          have HTT := Lib.hid hT
          rw [← hr] at hz
          have HZ := Lib.hid hz
          obtain ⟨v, k, f⟩ := r
          have hk : k ≤ 281474976710656 ∧ v < 18446744073709551616 := by
            rcases rdn_err hr.symm with e | ⟨e1, e2, _⟩
            · subst e
              have h1 := rdn_sound hr.symm
              have h2 := h1.2.1
              have h3 := h1.2.2.2
              rw [bl_length] at h2
              rw [two64] at h3
              have := HXS.out
              exact ⟨by omega, h3⟩
            · exact ⟨by omega, by omega⟩
          obtain ⟨hk, hv⟩ := hk
          have HVK : Hid (f ≠ 0 → v = 0 ∧ k = 0) := Lib.hid (fun h => (rdn_err hr.symm).elim (fun e => absurd e h) (fun e => ⟨e.1, e.2.1⟩))
          subst e114
          clear hb hc hx hxs hz hr hn b_of HT HR hT hs h0 ef e100 e97
          by_cases hf : f = 0
          · subst hf
            by_cases h32 : 32 < v
            · have HQ : Hid (z = (0, 0, 5)) := Lib.hid (by rw [HZ.out]; simp [h32])
              have h32' : (32 : Int) < (v : Int) := by omega
              clear h32
              go_enter Try.func96, Try.ntmps96
              go_wp2_with fail
              refine (HTT.out w).mono ?_; rintro e w1 ⟨rfl, b1⟩
              have B1 := Lib.hid b1
              clear b1
              go_wp2_with fail
              go_ret3
              exact ⟨by rw [HQ.out]; simp [hd3], B1.out⟩
            · have HQ : Hid (z = (1 + k, v, 0)) := Lib.hid (by rw [HZ.out]; simp [h32])
              have h32' : ¬ (32 : Int) < (v : Int) := by omega
              have hcv : ∀ V : World, (convert 66 3 (.int .u64 (v : Int))).run Try.prog V = .ok (.int .i64 (v : Int)) V := fun V => by
                have hw : IntKind.i64.wrap (v : Int) = (v : Int) := IntWalk.i64_in _ (by omega)
                go_simp
              clear h32
              go_enter Try.func96, Try.ntmps96
              go_wp2_with fail
              refine (HTT.out w).mono ?_; rintro e w1 ⟨rfl, b1⟩
              have B1 := Lib.hid b1
              clear b1
              go_wp2_with fail
              go_ret3
              exact ⟨by rw [HQ.out]; simp [hd3], B1.out⟩
          · have qf : ((f : Int) == 0) = false := by rw [beq_eq_false_iff_ne]; omega
            have HQ : Hid (z = (1 + k, v, f)) := Lib.hid (by rw [HZ.out, if_neg (fun h => hf h.1)])
            obtain ⟨rfl, rfl⟩ := HVK.out hf
            have hcv : ∀ V : World, (convert 66 3 (.int .u64 0)).run Try.prog V = .ok (.int .i64 0) V := fun V => by
              have hw : IntKind.i64.wrap 0 = 0 := by decide
              go_simp
            clear hf
            go_enter Try.func96, Try.ntmps96
            go_wp2_with fail
            refine (HTT.out w).mono ?_; rintro e w1 ⟨rfl, b1⟩
            have B1 := Lib.hid b1
            clear b1
            go_wp2_with fail
            go_ret3
            exact ⟨by rw [HQ.out]; simp [hd3], B1.out⟩
        · rw [if_neg (fun e => e114 ((b_of 114).1 e))] at hz
          have q114 := ef 114 e114
          by_cases e104 : n = 104
          · rw [if_pos ((b_of 104).2 e104)] at hz
            have HZ := Lib.hid hz
            subst e104
            clear hb hc hx hxs hz hn b_of HT HR hs h0 ef e100 e97 e114
            go_enter Try.func96, Try.ntmps96
            go_wp2_with fail
            go_ret3
            exact ⟨by rw [HZ.out]; rfl, Below.refl _ _⟩
          · rw [if_neg (fun e => e104 ((b_of 104).1 e))] at hz
            have q104 := ef 104 e104
            by_cases e109 : n = 109
            · rw [if_pos ((b_of 109).2 e109)] at hz
              have HZ := Lib.hid hz
              subst e109
              clear hb hc hx hxs hz hn b_of HT HR hs h0 ef e100 e97 e114 e104
              go_enter Try.func96, Try.ntmps96
              go_wp2_with fail
              go_ret3
              exact ⟨by rw [HZ.out]; rfl, Below.refl _ _⟩
            · rw [if_neg (fun e => e109 ((b_of 109).1 e))] at hz
              have q109 := ef 109 e109
              by_cases e115 : n = 115
              · rw [if_pos ((b_of 115).2 e115)] at hz
                have HZ := Lib.hid hz
                subst e115
                clear hb hc hx hxs hz hn b_of HT HR hs h0 ef e100 e97 e114 e104 e109
                go_enter Try.func96, Try.ntmps96
                go_wp2_with fail
                go_ret3
                exact ⟨by rw [HZ.out]; rfl, Below.refl _ _⟩
              · rw [if_neg (fun e => e115 ((b_of 115).1 e))] at hz
                have q115 := ef 115 e115
                have HZ := Lib.hid hz
                clear hb hc hx hxs hz hn b_of HT HR hs h0 ef e100 e97 e114 e104 e109 e115
                go_enter Try.func96, Try.ntmps96
                go_wp2_with fail
                go_ret3
                exact ⟨by rw [HZ.out]; rfl, Below.refl _ _⟩
def rd2 (h : Nat × Nat) : Value := .tuple #[.int .i64 h.1, .int .i64 h.2]
/-- Of k terms and the rest: as far as the first goes, then the others. -/
theorem loopP_add (rd : List UInt8 → Nat × Nat) : ∀ (i k : Nat) (s : List UInt8) (m : Nat), loopP rd i s = (m, 0) → loopP rd (i + k) s = if (loopP rd k (s.drop m)).2 = 0 then (m + (loopP rd k (s.drop m)).1, 0) else (0, (loopP rd k (s.drop m)).2)
  | 0, k, s, m, h => by
    simp only [loopP, Prod.mk.injEq, and_true] at h
    subst h
    rw [Nat.zero_add, List.drop_zero, Nat.zero_add]
    split
    · rename_i h; exact Prod.ext rfl h
    · rename_i h
      -- what is wrong bears no length
      cases k with
      | zero => exact absurd rfl h
      | succ k =>
        simp only [loopP] at h ⊢
        split at h
        · rename_i h1
          split at h
          · exact absurd rfl h
          · rename_i h2
            rw [if_pos h1, if_neg h2]
        · rename_i h1
          rw [if_neg h1]
  | i + 1, k, s, m, h => by
    rw [loopP] at h
    split at h
    · rename_i h1
      split at h
      · rename_i h2
        simp only [Prod.mk.injEq, and_true] at h
        have ih := loopP_add rd i k (s.drop (rd s).1) (loopP rd i (s.drop (rd s).1)).1 (Prod.ext rfl h2)
        rw [List.drop_drop, h] at ih
        rw [show i + 1 + k = (i + k) + 1 by omega, loopP, if_pos h1, ih]
        split
        · rename_i h3
          rw [if_pos rfl, ← h, Nat.add_assoc]
        · rfl
      · rename_i h2
        simp only [Prod.mk.injEq] at h
        exact absurd h.2 h2
    · rename_i h1
      simp only [Prod.mk.injEq] at h
      exact absurd h.2 h1
theorem loopP_one (rd : List UInt8 → Nat × Nat) (s : List UInt8) : loopP rd 1 s = if (rd s).2 = 0 then ((rd s).1, 0) else (0, (rd s).2) := by
  simp [loopP]
end Go.Proofs.Ytpajcalfjfkogaa.Pl

namespace Go.Proofs.Ytpajcalfjfkogaa.Pl
open Go.RowKit

theorem head_err {s : List UInt8} (h : (headP s).2.2 ≠ 0) : (headP s).2.1 = 0 := by
  cases s with
  | nil => rfl
  | cons b r =>
    simp only [headP] at h ⊢
    split
    · rfl
    · rename_i h100
      rw [if_neg h100] at h
      split
      · rename_i h97
        rw [if_pos h97] at h
        split <;> rfl
      · rename_i h97
        rw [if_neg h97] at h
        split
        · rename_i h114
          rw [if_pos h114] at h
          split
          · rfl
          · rename_i hno
            rw [if_neg hno] at h
            simp only at h ⊢
            rcases rdn_err (l := r) (v := (rdn r).1) (n := (rdn r).2.1) (e := (rdn r).2.2) rfl with e | e
            · exact absurd e h
            · exact e.1
        · rename_i h114
          rw [if_neg h114] at h
          split
          · rename_i h104; rw [if_pos h104] at h; exact absurd rfl h
          · rename_i h104
            rw [if_neg h104] at h
            split
            · rename_i h109; rw [if_pos h109] at h; exact absurd rfl h
            · rename_i h109
              rw [if_neg h109] at h
              split
              · rename_i h115; rw [if_pos h115] at h; exact absurd rfl h
              · rfl
theorem head_parts {s : List UInt8} {n p : Nat} (h : headP s = (n, p, 0)) : p ≤ 32 := by
  obtain ⟨c, hk⟩ := head_kind (head_front h).2
  cases hk <;> omega
theorem loopP_good {rd : List UInt8 → Nat × Nat} {i : Nat} {s : List UInt8} {m : Nat} (h : loopP rd i s = (m, 0)) (k : (rd (s.drop m)).2 = 0) : loopP rd (i + 1) s = (m + (rd (s.drop m)).1, 0) := by
  have e := loopP_add rd i 1 s m h
  rw [loopP_one, if_pos k] at e
  rw [e]; rfl
theorem loopP_bad {rd : List UInt8 → Nat × Nat} {i p : Nat} {s : List UInt8} {m : Nat} (h : loopP rd i s = (m, 0)) (hi : i < p) (k : (rd (s.drop m)).2 ≠ 0) : (loopP rd p s).2 = (rd (s.drop m)).2 := by
  obtain ⟨q, rfl⟩ : ∃ q, p = i + (q + 1) := ⟨p - i - 1, by omega⟩
  have e1 : loopP rd (q + 1) (s.drop m) = (0, (rd (s.drop m)).2) := by rw [loopP, if_neg k]
  have e := loopP_add rd i (q + 1) s m h
  rw [e1] at e
  rw [e, if_neg k]
theorem readP_len (d : Nat) (s : List UInt8) (n : Nat) (h : readP d s = (n, 0)) : n ≤ s.length := by
  obtain ⟨t, _, _, e1, e2⟩ := read_sound d s n h
  have := congrArg List.length e2
  rw [List.length_append, ← e1] at this
  omega
theorem readP_err (d : Nat) (s : List UInt8) (h : (readP d s).2 ≠ 0) : (readP d s).1 = 0 := by
  cases d with
  | zero => rfl
  | succ d =>
    simp only [readP] at h ⊢
    split
    · rename_i h1
      rw [if_pos h1] at h
      split
      · rename_i h2
        rw [if_pos h2] at h
        exact absurd rfl h
      · rfl
    · rfl

set_option maxHeartbeats 4000000 in
set_option maxRecDepth 100000 in
theorem rread_any (d : Nat) : ∀ (s : ByteArray) (w : World), d ≤ 16 → s.size ≤ 281474976710656 →
    Calls Try.prog 97 #[.string s, .int .i64 (17 - (d : Int))] w fun e w' => e = .returned (rd2 (readP d (bl s))) ∧ Below w.heap.size w w' := by
  induction d with
  | zero =>
    intro s w _ _
    obtain ⟨D, hD⟩ : ∃ D : Int, D = 17 - ((0 : Nat) : Int) := ⟨_, rfl⟩
    rw [← hD]
    have hD' : D = 17 := by omega
    subst hD'
    clear hD
    go_enter Try.func97, Try.ntmps97
    go_wp2_with fail
    go_ret2
    exact ⟨rfl, Below.refl _ _⟩
  | succ d ih =>
    intro s w hd hs
    obtain ⟨D, hD⟩ : ∃ D : Int, D = 17 - ((d + 1 : Nat) : Int) := ⟨_, rfl⟩
    have IH : Hid (∀ (x : ByteArray) (V : World), x.size ≤ 281474976710656 → Calls Try.prog 97 #[.string x, .int .i64 (D + 1)] V fun e w' => e = .returned (rd2 (readP d (bl x))) ∧ Below V.heap.size V w') := Lib.hid (fun x V hx => by
      have h := ih x V (by omega) hx
      rw [show (17 - (d : Int)) = D + 1 by omega] at h
      exact h)
    rw [← hD]
    have hD1 : D ≤ 16 := by omega
    have hD0 : 0 ≤ D := by omega
    have HH := Lib.hid (rhead_any s hs w)
    obtain ⟨z, hz⟩ : ∃ z, z = readP (d + 1) (bl s) := ⟨_, rfl⟩
    rw [← hz]
    simp only [readP] at hz
    have HE := Lib.hid (head_err (s := bl s))
    have HF := Lib.hid (fun n p (e : headP (bl s) = (n, p, 0)) => And.intro (head_front e).1 (head_parts e))
    generalize headP (bl s) = hd at *
    obtain ⟨h, p, e⟩ := hd
    simp only at hz HE HF
    have HSZ := Lib.hid hs
    clear ih hd hD hs
    by_cases he : e = 0
    · subst he
      rw [if_pos rfl] at hz
      have hle : h ≤ s.size := by rw [← bl_length]; exact (HF.out h p rfl).1
      have hp : p ≤ 32 := (HF.out h p rfl).2
      have HZ := Lib.hid hz
      have HLE := Lib.hid hle
      clear hz hle HE HF
      go_enter Try.func97, Try.ntmps97
      go_wp2_with fail
      refine HH.out.mono ?_; rintro e w1 ⟨rfl, b1⟩
      have B1 := Lib.hid b1
      clear b1
      unfold hd3
      go_wp2_with fail
      go_loopw [6, 8, 9] (fun nv ev iv wr => ∃ i n e : Nat, nv = .int .i64 n ∧ ev = .int .i64 e ∧ iv = .int .i64 i ∧ i ≤ p ∧ n ≤ 281474976710656 ∧ Hid (e = 0 → loopP (readP d) i ((bl s).drop h) = (n - h, 0) ∧ h ≤ n ∧ n ≤ s.size) ∧ Hid (e ≠ 0 → (loopP (readP d) p ((bl s).drop h)).2 = e) ∧ Hid (Below w.heap.size w wr)) (fun _ _ iv _ => p - (intOf iv).toNat)
      case atStart => exact ⟨0, h, 0, rfl, rfl, rfl, Nat.zero_le _, by have := HLE.out; have := HSZ.out; omega, Lib.hid (fun _ => ⟨by rw [Nat.sub_self]; rfl, Nat.le_refl _, HLE.out⟩), Lib.hid (fun h => absurd rfl h), B1⟩
      case round =>
        obtain ⟨i, n, e, rfl, rfl, rfl, hip, hn, hok, hbad, hb⟩ := hrel
        by_cases he : e = 0
        · subst he
          obtain ⟨l1, l2, l3⟩ := hok.out rfl
          by_cases hi : i < p
          · have hi' : (i : Int) < (p : Int) := by omega
            have sl : ∀ V : World, (Instr.sliceAt 9 (.string s) (some (.int .i64 (n : Int))) none none).run Try.prog V = .ok (.string (s.extract n s.size)) V := tslice_from s n l3
            have hx : bl (s.extract n s.size) = ((bl s).drop h).drop (n - h) := by rw [bl_from, List.drop_drop, show h + (n - h) = n by omega]
            have hxs : (s.extract n s.size).size ≤ 281474976710656 := by rw [size_bl, bl_from, List.length_drop, bl_length]; have := HSZ.out; omega
            have hC := IH.out (s.extract n s.size) wr hxs
            have hadd1 := loopP_good l1 (rd := readP d)
            have haddp := loopP_bad l1 hi (rd := readP d)
            rw [← hx] at hadd1 haddp
            have hlen := readP_len d (bl (s.extract n s.size)) (readP d (bl (s.extract n s.size))).1
            have herr := readP_err d (bl (s.extract n s.size))
            have hxl : (bl (s.extract n s.size)).length = s.size - n := by rw [bl_from, List.length_drop, bl_length]
            generalize s.extract n s.size = x at *
            obtain ⟨r, hr⟩ : ∃ r, r = readP d (bl x) := ⟨_, rfl⟩
            rw [← hr] at hadd1 haddp hC hlen herr
            obtain ⟨m, f⟩ := r
            simp only at hadd1 haddp hlen herr
            have hm : n + m ≤ 281474976710656 := by
              by_cases hf : f = 0
              · have := hlen (by rw [hf]); rw [hxl] at this; have := HSZ.out; omega
              · rw [herr hf]; omega
            have HNEW : Hid (f = 0 → loopP (readP d) (i + 1) ((bl s).drop h) = (n + m - h, 0) ∧ h ≤ n + m ∧ n + m ≤ s.size) := Lib.hid (fun hf => by
              have e1 := hlen (by rw [hf])
              rw [hxl] at e1
              exact ⟨by rw [hadd1 hf, show n + m - h = n - h + m by omega], by omega, by omega⟩)
            have HBAD : Hid (f ≠ 0 → (loopP (readP d) p ((bl s).drop h)).2 = f) := Lib.hid (fun hf => haddp hf)
            have HC := Lib.hid hC
            clear l1 l2 l3 hx hxs hC hadd1 haddp hlen herr hxl hok hbad hr
            go_wp2_with fail
            refine HC.out.mono ?_; rintro e w2 ⟨rfl, b2⟩
            have B2 := Lib.hid (below_step hb.out b2)
            clear b2
            unfold rd2
            go_wp2_with fail
            go_roundw
            case rel => exact ⟨i + 1, n + m, f, by go_num, rfl, by go_num, by omega, hm, HNEW, HBAD, B2⟩
            case measure => simp [intOf]; omega
          · obtain rfl : i = p := by omega
            have HQ : Hid (z = (n, 0)) := Lib.hid (by rw [HZ.out, l1, if_pos rfl]; simp only; rw [show h + (n - h) = n by omega])
            clear hi l1 l2 l3
            go_wp2_with fail
            go_ret2
            exact ⟨by rw [HQ.out]; rfl, hb.out⟩
        · have HQ : Hid (z = (0, e)) := Lib.hid (by
            have e1 := hbad.out he
            rw [HZ.out, if_neg (by rw [e1]; exact he), e1])
          have qe : ((e : Int) == 0) = false := by rw [beq_eq_false_iff_ne]; omega
          have qe2 : ((e : Int) != 0) = true := by rw [bne_iff_ne]; omega
          clear he
          by_cases hi : i < p
          · have hi' : (i : Int) < (p : Int) := by omega
            go_wp2_with fail
            go_ret2
            exact ⟨by rw [HQ.out]; rfl, hb.out⟩
          · have hi' : ¬ (i : Int) < (p : Int) := by omega
            go_wp2_with fail
            go_ret2
            exact ⟨by rw [HQ.out]; rfl, hb.out⟩
    · have hp : p = 0 := HE.out he
      subst hp
      rw [if_neg he] at hz
      have HZ := Lib.hid hz
      have qe : ((e : Int) == 0) = false := by rw [beq_eq_false_iff_ne]; omega
      have qe2 : ((e : Int) != 0) = true := by rw [bne_iff_ne]; omega
      clear hz HE HF he
      go_enter Try.func97, Try.ntmps97
      go_wp2_with fail
      refine HH.out.mono ?_; rintro e w1 ⟨rfl, b1⟩
      have B1 := Lib.hid b1
      clear b1
      unfold hd3
      go_wp2_with fail
      refine wp_loop_rounds 1 ?_; rw [rounds_succ]; go_wp2_with fail
      go_ret2
      exact ⟨by rw [HZ.out]; rfl, B1.out⟩

set_option maxRecDepth 100000 in
theorem rfront_any (s : ByteArray) (hs : s.size ≤ 281474976710656) (w : World) :
    Calls Try.prog 106 #[.string s] w fun e w' => e = .returned (rd2 (frontP (bl s))) ∧ Below w.heap.size w w' := by
  have HC := Lib.hid (rread_any 16 s w (Nat.le_refl _) hs)
  rw [show (17 - ((16 : Nat) : Int)) = 1 by decide] at HC
  obtain ⟨z, hz⟩ : ∃ z, z = frontP (bl s) := ⟨_, rfl⟩
  rw [← hz]
  unfold frontP at hz
  have HL := Lib.hid (fun n e => readP_len 16 (bl s) n e)
  generalize readP 16 (bl s) = r at *
  obtain ⟨m, f⟩ := r
  simp only at hz
  by_cases hf : f = 0
  · subst hf
    rw [if_pos rfl] at hz
    have hm := HL.out m rfl
    rw [bl_length] at hm
    by_cases h16 : 16384 < m
    · have HZ := Lib.hid (hz.trans (if_pos h16))
      have h16' : (16384 : Int) < (m : Int) := by omega
      clear hz h16 hs hm
      go_enter Try.func106, Try.ntmps106
      go_wp2_with fail
      refine HC.out.mono ?_; rintro e w1 ⟨rfl, b1⟩
      have B1 := Lib.hid b1
      clear b1
      unfold rd2
      go_wp2_with fail
      go_ret2
      exact ⟨by rw [HZ.out]; rfl, B1.out⟩
    · have HZ := Lib.hid (hz.trans (if_neg h16))
      have h16' : ¬ (16384 : Int) < (m : Int) := by omega
      clear hz h16 hs hm
      go_enter Try.func106, Try.ntmps106
      go_wp2_with fail
      refine HC.out.mono ?_; rintro e w1 ⟨rfl, b1⟩
      have B1 := Lib.hid b1
      clear b1
      unfold rd2
      go_wp2_with fail
      go_ret2
      exact ⟨by rw [HZ.out]; rfl, B1.out⟩
  · have HZ := Lib.hid (hz.trans (if_neg hf))
    have qf : ((f : Int) != 0) = true := by rw [bne_iff_ne]; omega
    clear hz hf hs
    go_enter Try.func106, Try.ntmps106
    go_wp2_with fail
    refine HC.out.mono ?_; rintro e w1 ⟨rfl, b1⟩
    have B1 := Lib.hid b1
    clear b1
    unfold rd2
    go_wp2_with fail
    go_ret2
    exact ⟨by rw [HZ.out]; rfl, B1.out⟩

set_option maxRecDepth 100000 in
theorem rcheck6_any (s : ByteArray) (hs : s.size ≤ 281474976710656) (w : World) :
    Calls Try.prog 94 #[.string s] w fun e w' => e = .returned (.int .i64 (checkP (bl s))) ∧ Below w.heap.size w w' := by
  have HC := Lib.hid (rfront_any s hs w)
  obtain ⟨z, hz⟩ : ∃ z, z = checkP (bl s) := ⟨_, rfl⟩
  rw [← hz]
  unfold checkP at hz
  rw [bl_length] at hz
  generalize frontP (bl s) = r at *
  obtain ⟨m, f⟩ := r
  simp only at hz
  by_cases hf : f = 0
  · subst hf
    rw [if_pos rfl] at hz
    by_cases hm : m = s.size
    · have HZ := Lib.hid (hz.trans (if_pos hm))
      have q : ((m : Int) != (s.size : Int)) = false := by rw [hm]; simp
      clear hz hm hs
      go_enter Try.func94, Try.ntmps94
      go_wp2_with fail
      refine HC.out.mono ?_; rintro e w1 ⟨rfl, b1⟩
      have B1 := Lib.hid b1
      clear b1
      unfold rd2
      go_wp2_with fail
      go_ret
      exact ⟨by rw [HZ.out]; rfl, B1.out⟩
    · have HZ := Lib.hid (hz.trans (if_neg hm))
      have q : ((m : Int) != (s.size : Int)) = true := by rw [bne_iff_ne]; omega
      clear hz hm hs
      go_enter Try.func94, Try.ntmps94
      go_wp2_with fail
      refine HC.out.mono ?_; rintro e w1 ⟨rfl, b1⟩
      have B1 := Lib.hid b1
      clear b1
      unfold rd2
      go_wp2_with fail
      go_ret
      exact ⟨by rw [HZ.out]; rfl, B1.out⟩
  · have HZ := Lib.hid (hz.trans (if_neg hf))
    have qf : ((f : Int) != 0) = true := by rw [bne_iff_ne]; omega
    clear hz hf hs
    go_enter Try.func94, Try.ntmps94
    go_wp2_with fail
    refine HC.out.mono ?_; rintro e w1 ⟨rfl, b1⟩
    have B1 := Lib.hid b1
    clear b1
    unfold rd2
    go_wp2_with fail
    go_ret
    exact ⟨by rw [HZ.out]; rfl, B1.out⟩
theorem rmay_any (s : ByteArray) (hs : s.size ≤ 281474976710656) (w : World) :
    Calls Try.prog 73 #[.string s] w fun e w' => e = .returned (.bool (checkP (bl s) == 0)) ∧ Below w.heap.size w w' := by
  have HC := Lib.hid (rcheck6_any s hs w)
  have q : (((checkP (bl s) : Nat) : Int) == 0) = (checkP (bl s) == 0) := by
    cases e : checkP (bl s) == 0 with
    | true => rw [beq_iff_eq] at e ⊢; omega
    | false => rw [beq_eq_false_iff_ne] at e ⊢; omega
  generalize checkP (bl s) = c at *
  go_enter Try.func73, Try.ntmps73
  go_wp2_with fail
  refine HC.out.mono ?_; rintro e w1 ⟨rfl, b1⟩
  have B1 := Lib.hid b1
  clear b1
  go_wp2_with fail
  go_ret
  exact ⟨rfl, B1.out⟩
end Go.Proofs.Ytpajcalfjfkogaa.Pl

namespace Go.Proofs.Ytpajcalfjfkogaa.Pl
open Go.RowKit

def st2 (h : List UInt8 × Nat) : Value := .tuple #[.string ⟨h.1.toArray⟩, .int .i64 h.2]
theorem cat_front (b : UInt8) (l : List UInt8) : (⟨#[b]⟩ ++ ⟨l.toArray⟩ : ByteArray) = ⟨(b :: l).toArray⟩ := by
  apply bl_inj
  unfold bl
  rw [ByteArray.data_append]
  simp
theorem txt_le (t : List UInt8) : (txt t).length ≤ 9 + t.length := by rw [txt_len]; have := enc_len t.length; omega

set_option maxRecDepth 100000 in
theorem rdata_any (s : ByteArray) (hs : s.size ≤ 281474976710656) (w : World) :
    Calls Try.prog 45 #[.string s] w fun e w' => e = .returned (st2 (dataP (bl s))) ∧ Below w.heap.size w w' := by
  have HT := Lib.hid (fun V => reftext_any s V (by omega))
  by_cases h : 1024 < s.size
  · have HZ : Hid (dataP (bl s) = ([], 5)) := Lib.hid (by unfold dataP; rw [bl_length]; exact if_pos h)
    have h' : (1024 : Int) < (s.size : Int) := by omega
    clear h hs
    go_enter Try.func45, Try.ntmps45
    go_wp2_with fail
    go_ret2
    exact ⟨by rw [HZ.out]; rfl, Below.refl _ _⟩
  · have HZ : Hid (dataP (bl s) = (100 :: txt (bl s), 0)) := Lib.hid (by unfold dataP; rw [bl_length]; exact if_neg h)
    have h' : ¬ (1024 : Int) < (s.size : Int) := by omega
    have hcat : (⟨#[100]⟩ : ByteArray).size + (⟨(txt s.data.toList).toArray⟩ : ByteArray).size ≤ 9223372036854775807 := by
      have h4 : (⟨(txt s.data.toList).toArray⟩ : ByteArray).size = (txt s.data.toList).length := size_lit _
      have := txt_le s.data.toList
      have h2 : s.data.toList.length = s.size := bl_length s
      have h3 : (⟨#[100]⟩ : ByteArray).size = 1 := rfl
      omega
    have HC : Hid ((⟨#[100]⟩ ++ ⟨(txt s.data.toList).toArray⟩ : ByteArray) = ⟨(100 :: txt (bl s)).toArray⟩) := Lib.hid (cat_front _ _)
    generalize (⟨(txt s.data.toList).toArray⟩ : ByteArray) = t at *
    clear h hs
    go_enter Try.func45, Try.ntmps45
    go_wp2_with fail
    refine (HT.out w).mono ?_; rintro e w1 ⟨rfl, b1⟩
    have B1 := Lib.hid b1
    clear b1
    go_wp2_with fail
    go_ret2
    exact ⟨by rw [HZ.out, st2, ← HC.out]; rfl, B1.out⟩

set_option maxHeartbeats 1000000 in
set_option maxRecDepth 100000 in
theorem rkind_any (s : ByteArray) (hs : s.size ≤ 281474976710656) (w : World) :
    Calls Try.prog 50 #[.string s] w fun e w' => e = .returned (.int .u8 (kindP (bl s))) ∧ Below w.heap.size w w' := by
  have HM := Lib.hid (rmay_any s hs w)
  obtain ⟨z, hz⟩ : ∃ z, z = kindP (bl s) := ⟨_, rfl⟩
  rw [← hz]
  unfold kindP at hz
  by_cases hc : checkP (bl s) = 0
  · rw [if_pos hc] at hz
    rw [show (checkP (bl s) == 0) = true by rw [hc]; rfl] at HM
    have hpos : 0 < s.size := by
      rcases Nat.eq_zero_or_pos s.size with h | h
      · rw [bl_nil h] at hc; exact absurd hc (by decide)
      · exact h
    obtain ⟨b, hb⟩ : ∃ b : UInt8, b = (bl s).getD 0 0 := ⟨_, rfl⟩
    have i1 : ∀ V : World, (Instr.index 9 (.string s) (.int .i64 0)).run Try.prog V = .ok (.int .u8 (b.toNat : Int)) V := tstr_index s 0 b hpos hb
    have hq := bl_cons hpos
    rw [← hb] at hq
    rw [hq] at hz
    simp only at hz
    obtain ⟨n, hn⟩ : ∃ n, n = b.toNat := ⟨_, rfl⟩
    have b_of : ∀ c : UInt8, b = c ↔ n = c.toNat := fun c => by rw [hn]; exact ⟨fun e => by rw [e], fun e => UInt8.toNat_inj.1 e⟩
    rw [← hn] at i1
    have ef : ∀ m : Nat, n ≠ m → ((n : Int) == (m : Int)) = false := fun m h => by rw [beq_eq_false_iff_ne]; omega
    clear hq hb hn hc hs
    have hcs : n = 100 ∨ n = 97 ∨ n = 114 ∨ n = 104 ∨ n = 109 ∨ (n ≠ 100 ∧ n ≠ 97 ∧ n ≠ 114 ∧ n ≠ 104 ∧ n ≠ 109) := by omega
    have q1 : n ≠ 100 → ((n : Int) == 100) = false := ef 100
    have q2 : n ≠ 97 → ((n : Int) == 97) = false := ef 97
    have q3 : n ≠ 114 → ((n : Int) == 114) = false := ef 114
    have q4 : n ≠ 104 → ((n : Int) == 104) = false := ef 104
    have q5 : n ≠ 109 → ((n : Int) == 109) = false := ef 109
    simp only [b_of] at hz
    clear ef b_of
    rcases hcs with h | h | h | h | h | ⟨g1, g2, g3, g4, g5⟩
    · subst h
      have HZ : Hid (z = 1) := Lib.hid hz
      clear hz q1 q2 q3 q4 q5
      go_enter Try.func50, Try.ntmps50
      go_wp2_with fail
      refine HM.out.mono ?_; rintro e w1 ⟨rfl, b1⟩
      have B1 := Lib.hid b1
      clear b1
      go_wp2_with fail
      go_ret
      exact ⟨by rw [HZ.out]; rfl, B1.out⟩
    · subst h
      have HZ : Hid (z = 2) := Lib.hid hz
      clear hz q1 q2 q3 q4 q5
      go_enter Try.func50, Try.ntmps50
      go_wp2_with fail
      refine HM.out.mono ?_; rintro e w1 ⟨rfl, b1⟩
      have B1 := Lib.hid b1
      clear b1
      go_wp2_with fail
      go_ret
      exact ⟨by rw [HZ.out]; rfl, B1.out⟩
    · subst h
      have HZ : Hid (z = 3) := Lib.hid hz
      clear hz q1 q2 q3 q4 q5
      go_enter Try.func50, Try.ntmps50
      go_wp2_with fail
      refine HM.out.mono ?_; rintro e w1 ⟨rfl, b1⟩
      have B1 := Lib.hid b1
      clear b1
      go_wp2_with fail
      go_ret
      exact ⟨by rw [HZ.out]; rfl, B1.out⟩
    · subst h
      have HZ : Hid (z = 4) := Lib.hid hz
      clear hz q1 q2 q3 q4 q5
      go_enter Try.func50, Try.ntmps50
      go_wp2_with fail
      refine HM.out.mono ?_; rintro e w1 ⟨rfl, b1⟩
      have B1 := Lib.hid b1
      clear b1
      go_wp2_with fail
      go_ret
      exact ⟨by rw [HZ.out]; rfl, B1.out⟩
    · subst h
      have HZ : Hid (z = 5) := Lib.hid hz
      clear hz q1 q2 q3 q4 q5
      go_enter Try.func50, Try.ntmps50
      go_wp2_with fail
      refine HM.out.mono ?_; rintro e w1 ⟨rfl, b1⟩
      have B1 := Lib.hid b1
      clear b1
      go_wp2_with fail
      go_ret
      exact ⟨by rw [HZ.out]; rfl, B1.out⟩
    · have HZ : Hid (z = 6) := Lib.hid (by rw [hz, if_neg (show ¬ n = UInt8.toNat 100 from g1), if_neg (show ¬ n = UInt8.toNat 97 from g2), if_neg (show ¬ n = UInt8.toNat 114 from g3), if_neg (show ¬ n = UInt8.toNat 104 from g4), if_neg (show ¬ n = UInt8.toNat 109 from g5)])
      have p1 := q1 g1
      have p2 := q2 g2
      have p3 := q3 g3
      have p4 := q4 g4
      have p5 := q5 g5
      clear hz q1 q2 q3 q4 q5 g1 g2 g3 g4 g5
      go_enter Try.func50, Try.ntmps50
      go_wp2_with fail
      refine HM.out.mono ?_; rintro e w1 ⟨rfl, b1⟩
      have B1 := Lib.hid b1
      clear b1
      go_wp2_with fail
      go_ret
      exact ⟨by rw [HZ.out]; rfl, B1.out⟩
  · rw [if_neg hc] at hz
    rw [show (checkP (bl s) == 0) = false by rw [beq_eq_false_iff_ne]; exact hc] at HM
    have HZ := Lib.hid hz
    clear hz hc hs
    go_enter Try.func50, Try.ntmps50
    go_wp2_with fail
    refine HM.out.mono ?_; rintro e w1 ⟨rfl, b1⟩
    have B1 := Lib.hid b1
    clear b1
    go_wp2_with fail
    go_ret
    exact ⟨by rw [HZ.out]; rfl, B1.out⟩
end Go.Proofs.Ytpajcalfjfkogaa.Pl

namespace Go.Proofs.Ytpajcalfjfkogaa.Pl
open Go.RowKit

/-- A row of texts in memory, to read. -/
def TxtRow (w : World) (ao : Option Addr) (l : List ByteArray) : Prop := l = [] ∨ ∃ b off, ao = some ⟨b, off, none⟩ ∧ b < w.heap.size ∧ ∀ j, j < l.length → w.cell? ⟨b, off + j, none⟩ = some (.string (l.getD j ByteArray.empty))
theorem TxtRow.below {w w' : World} {ao : Option Addr} {l : List ByteArray} (h : TxtRow w ao l) (hb : Below w.heap.size w w') : TxtRow w' ao l := by
  rcases h with h | ⟨b, off, hg, hlt, hc⟩
  · exact .inl h
  · exact .inr ⟨b, off, hg, Nat.lt_of_lt_of_le hlt hb.size, fun j hj => (hb.cell (p := ⟨b, off + j, none⟩) hlt).trans (hc j hj)⟩
/-- The parts' bytes, one behind the other. -/
def catL (l : List ByteArray) (k : Nat) : List UInt8 := ((l.take k).map bl).flatten
theorem catL_zero (l : List ByteArray) : catL l 0 = [] := by simp [catL]
theorem catL_succ (l : List ByteArray) (k : Nat) (h : k < l.length) : catL l (k + 1) = catL l k ++ bl (l.getD k ByteArray.empty) := by
  unfold catL
  rw [List.take_succ_eq_append_getElem h, List.map_append, List.flatten_append]
  simp [List.getD_eq_getElem?_getD, h]
theorem catL_all (l : List ByteArray) (k : Nat) (h : l.length ≤ k) : catL l k = (l.map bl).flatten := by
  unfold catL; rw [List.take_of_length_le h]
theorem catL_le (l : List ByteArray) (k : Nat) : (catL l k).length ≤ ((l.map bl).flatten).length := by
  have e : (l.map bl).flatten = catL l k ++ ((l.drop k).map bl).flatten := by
    unfold catL
    rw [← List.flatten_append, ← List.map_append, List.take_append_drop]
  rw [e, List.length_append]; omega
theorem cat_bytes (a b : ByteArray) : bl (a ++ b) = bl a ++ bl b := by
  unfold bl
  rw [ByteArray.data_append, Array.toList_append]
theorem mem_getD6 {l : List ByteArray} {x : ByteArray} (h : x ∈ l) : ∃ k, k < l.length ∧ l.getD k ByteArray.empty = x := by
  obtain ⟨k, hk, rfl⟩ := List.getElem_of_mem h
  exact ⟨k, hk, by simp [List.getD_eq_getElem?_getD, hk]⟩
theorem getD_mem6 (l : List ByteArray) (k : Nat) (h : k < l.length) : l.getD k ByteArray.empty ∈ l := by
  rw [List.getD_eq_getElem?_getD, List.getElem?_eq_getElem h]; exact List.getElem_mem h

set_option maxHeartbeats 4000000 in
set_option maxRecDepth 100000 in
theorem made_any (front : ByteArray) (l : List ByteArray) (ao : Option Addr) (cap : Nat) (hf : front.size ≤ 100) (hl : l.length ≤ 1000) (hx : ∀ x ∈ l, x.size ≤ 100000) (w : World) (hrow : TxtRow w ao l) :
    Calls Try.prog 76 #[.string front, .slice ao l.length cap] w fun e w' => e = .returned (st2 (madeP (bl front) (l.map bl))) ∧ Below w.heap.size w w' := by
  have HROW := Lib.hid hrow
  obtain ⟨z, hz⟩ : ∃ z, z = madeP (bl front) (l.map bl) := ⟨_, rfl⟩
  rw [← hz]
  unfold madeP at hz
  have HBAD : Hid (∀ k, k < l.length → checkP (bl (l.getD k ByteArray.empty)) ≠ 0 → z = ([], 2)) := Lib.hid (fun k hk hc => by
    rw [hz, if_neg]
    intro h
    exact hc (h _ (List.mem_map.2 ⟨_, getD_mem6 l k hk, rfl⟩)))
  have HOK : Hid ((∀ k, k < l.length → checkP (bl (l.getD k ByteArray.empty)) = 0) → z = if checkP (bl front ++ (l.map bl).flatten) = 0 then (bl front ++ (l.map bl).flatten, 0) else ([], 5)) := Lib.hid (fun h => by
    rw [hz, if_pos]
    intro x hx
    obtain ⟨y, hy, rfl⟩ := List.mem_map.1 hx
    obtain ⟨k, hk, rfl⟩ := mem_getD6 hy
    exact h k hk)
  have HX : Hid (∀ k, k < l.length → (l.getD k ByteArray.empty).size ≤ 100000) := Lib.hid (fun k hk => hx _ (getD_mem6 l k hk))
  obtain ⟨n, hn⟩ : ∃ n, n = l.length := ⟨_, rfl⟩
  have HN := Lib.hid hn
  have HFR := Lib.hid hf
  rw [← hn] at hl ⊢
  clear hz hx hrow hn hf
  go_enter Try.func76, Try.ntmps76
  go_wp2_with fail
  go_loopw [7] (fun i wr => ∃ k : Nat, i = .int .i64 k ∧ k ≤ n ∧ Hid (∀ j, j < k → checkP (bl (l.getD j ByteArray.empty)) = 0) ∧ Hid (Below w.heap.size w wr)) (fun i _ => n - (intOf i).toNat)
  case atStart => exact ⟨0, rfl, Nat.zero_le _, Lib.hid (fun j hj => absurd hj (Nat.not_lt_zero j)), Lib.hid (Below.refl _ _)⟩
  case round =>
    obtain ⟨k, rfl, hkn, hch, hb⟩ := hrel
    by_cases hk : k < n
    · have hk' : (k : Int) < (n : Int) := by omega
      rcases HROW.out.below hb.out with e | ⟨b, off, rfl, hlt, hc⟩
      · exfalso; have := HN.out; rw [e] at this; simp at this; omega
      have ck := hc k (by have := HN.out; omega)
      have HM := Lib.hid (rmay_any (l.getD k ByteArray.empty) (Nat.le_trans (HX.out k (by have := HN.out; omega)) (by decide)) wr)
      have HBK := Lib.hid (HBAD.out k (by have := HN.out; omega))
      have HNX : Hid (checkP (bl (l.getD k ByteArray.empty)) = 0 → ∀ j, j < k + 1 → checkP (bl (l.getD j ByteArray.empty)) = 0) := Lib.hid (fun h j hj => by
        by_cases e : j = k
        · rw [e]; exact h
        · exact hch.out j (by omega))
      generalize l.getD k ByteArray.empty = t at *
      clear hc hlt
      cases hq : (checkP (bl t) == 0) with
      | true =>
        rw [hq] at HM
        have HNN := Lib.hid (HNX.out (by simpa using hq))
        clear hq
        go_wp2_with fail
        refine HM.out.mono ?_; rintro e w2 ⟨rfl, b2⟩
        have B2 := Lib.hid (below_step hb.out b2)
        clear b2
        go_wp2_with fail
        go_roundw
        case rel => exact ⟨k + 1, by go_num, by omega, HNN, B2⟩
        case measure => simp [intOf]; omega
      | false =>
        rw [hq] at HM
        have HQ := Lib.hid (HBK.out (by simpa using hq))
        clear hq
        go_wp2_with fail
        refine HM.out.mono ?_; rintro e w2 ⟨rfl, b2⟩
        have B2 := Lib.hid (below_step hb.out b2)
        clear b2
        go_wp2_with fail
        go_ret2
        exact ⟨by rw [HQ.out]; rfl, B2.out⟩
    · obtain rfl : k = n := by omega
      have HZ := Lib.hid (HOK.out (fun j hj => hch.out j (by have := HN.out; omega)))
      clear hk hkn
      go_wp2_with fail
      go_loopw [6, 8] (fun sv i wr => ∃ (j : Nat) (t : ByteArray), sv = .string t ∧ i = .int .i64 j ∧ j ≤ k ∧ t.size ≤ 200000 ∧ Hid (bl t = bl front ++ catL l j) ∧ Hid (Below w.heap.size w wr)) (fun _ i _ => k - (intOf i).toNat)
      case atStart => exact ⟨0, front, rfl, rfl, Nat.zero_le _, by have := HFR.out; omega, Lib.hid (by rw [catL_zero, List.append_nil]), hb⟩
      case round =>
        obtain ⟨j, t, rfl, rfl, hjk, hts, ht, hb2⟩ := hrel
        by_cases hj : j < k
        · have hj' : (j : Int) < (k : Int) := by omega
          by_cases hsz : t.size ≤ 16384
          · have hsz' : (t.size : Int) ≤ 16384 := by omega
            rcases HROW.out.below hb2.out with e | ⟨b, off, rfl, hlt, hc⟩
            · exfalso; have := HN.out; rw [e] at this; simp at this; omega
            have ck := hc j (by have := HN.out; omega)
            have hxs := HX.out j (by have := HN.out; omega)
            have HS : Hid (bl front ++ catL l (j + 1) = bl front ++ catL l j ++ bl (l.getD j ByteArray.empty)) := Lib.hid (by rw [catL_succ l j (by have := HN.out; omega), List.append_assoc])
            generalize l.getD j ByteArray.empty = y at *
            have hcat : t.size + y.size ≤ 9223372036854775807 := by omega
            have HC : Hid (bl (t ++ y) = bl front ++ catL l (j + 1) ∧ (t ++ y).size ≤ 200000) := Lib.hid ⟨by rw [cat_bytes, ht.out, HS.out], by rw [ByteArray.size_append]; omega⟩
            clear hc hlt
            go_wp2_with fail
            go_roundw
            case rel => exact ⟨j + 1, t ++ y, rfl, by go_num, by omega, HC.out.2, Lib.hid HC.out.1, hb2⟩
            case measure => simp [intOf]; omega
          · have hsz' : decide ((t.size : Int) ≤ 16384) = false := decide_eq_false (by omega)
            have HM := Lib.hid (rmay_any t (by omega) wr)
            rw [show (checkP (bl t) == 0) = false by
              rw [beq_eq_false_iff_ne]
              intro h
              have := check_len h
              rw [bl_length] at this
              omega] at HM
            have HQ : Hid (z = ([], 5)) := Lib.hid (by
              rw [HZ.out, if_neg]
              intro h
              have h1 := check_len h
              have h2 := catL_le l j
              have h3 := congrArg List.length ht.out
              rw [bl_length, List.length_append] at h3
              rw [List.length_append] at h1
              omega)
            clear hsz
            go_wp2_with fail
            refine HM.out.mono ?_; rintro e w2 ⟨rfl, b2⟩
            have B2 := Lib.hid (below_step hb2.out b2)
            clear b2
            go_wp2_with fail
            go_ret2
            exact ⟨by rw [HQ.out]; rfl, B2.out⟩
        · obtain rfl : j = k := by omega
          have HE : Hid (bl t = bl front ++ (l.map bl).flatten) := Lib.hid (by rw [ht.out, catL_all l j (by have := HN.out; omega)])
          have HM := Lib.hid (rmay_any t (by omega) wr)
          rw [← HE.out] at HZ
          clear hj hjk
          cases hq : (checkP (bl t) == 0) with
          | true =>
            rw [hq] at HM
            have HQ : Hid (z = (bl t, 0)) := Lib.hid (HZ.out.trans (if_pos (by simpa using hq)))
            clear hq
            go_wp2_with fail
            refine HM.out.mono ?_; rintro e w2 ⟨rfl, b2⟩
            have B2 := Lib.hid (below_step hb2.out b2)
            clear b2
            go_wp2_with fail
            go_ret2
            exact ⟨by rw [HQ.out, st2, ← bl_eq]; rfl, B2.out⟩
          | false =>
            rw [hq] at HM
            have HQ : Hid (z = ([], 5)) := Lib.hid (HZ.out.trans (if_neg (by simpa using hq)))
            clear hq
            go_wp2_with fail
            refine HM.out.mono ?_; rintro e w2 ⟨rfl, b2⟩
            have B2 := Lib.hid (below_step hb2.out b2)
            clear b2
            go_wp2_with fail
            go_ret2
            exact ⟨by rw [HQ.out]; rfl, B2.out⟩
end Go.Proofs.Ytpajcalfjfkogaa.Pl

namespace Go.Proofs.Ytpajcalfjfkogaa.Pl
open Go.RowKit

theorem encs_append (a b : List Tm) : encs (a ++ b) = encs a ++ encs b := by
  rw [encs_flat, encs_flat, encs_flat, List.map_append, List.flatten_append]
theorem encs_one (t : Tm) : encs [t] = t.enc := by simp [encs]
theorem encs_at (l : List Tm) (k : Nat) (hk : k < l.length) : encs l = encs (l.take k) ++ (l[k].enc ++ encs (l.drop (k + 1))) := by
  have e : l = l.take k ++ (l[k] :: l.drop (k + 1)) := by rw [← List.drop_eq_getElem_cons hk, List.take_append_drop]
  have e2 : encs (l.take k ++ (l[k] :: l.drop (k + 1))) = encs (l.take k) ++ (l[k].enc ++ encs (l.drop (k + 1))) := by rw [encs_append]; simp [encs]
  rw [← e2, ← e]
theorem encs_take (l : List Tm) (k : Nat) (hk : k < l.length) : (encs (l.take (k + 1))).length = (encs (l.take k)).length + l[k].enc.length := by
  rw [List.take_succ_eq_append_getElem hk, encs_append, encs_one, List.length_append]
def txts (l : List ByteArray) : List Value := l.map Value.string
theorem txts_length (l : List ByteArray) : (txts l).length = l.length := by simp [txts]
theorem txts_at (l : List ByteArray) (j : Nat) (h : j < l.length) : (txts l)[j]? = some (.string (l.getD j ByteArray.empty)) := by
  simp [txts, List.getD_eq_getElem?_getD, h]
/-- v is a row of these texts that the call owns, from block B on. -/
def OwnT (w : World) (B : Nat) (v : Value) (l : List ByteArray) : Prop := w.ownsRow B 9 1 v l.length (txts l)
theorem ownT_nil (w : World) (B : Nat) : OwnT w B (.slice none 0 0) [] := World.ownsRow_nil _ _ _ _
theorem ownT_below {w w' : World} {B : Nat} {v : Value} {l : List ByteArray} (h : OwnT w B v l) (hb : Below w.heap.size w w') : OwnT w' B v l := by
  refine ⟨h.1, ?_⟩
  rcases h.2 with hn | ⟨g, cap, cur, hv, hbg, hg, rest⟩
  · exact .inl hn
  · exact .inr ⟨g, cap, cur, hv, hbg, (hb.block g (Array.getElem?_eq_some_iff.1 hg).1).trans hg, rest⟩
theorem ownT_row {w : World} {B : Nat} {v : Value} {l : List ByteArray} (h : OwnT w B v l) : ∃ ao cap, v = .slice ao l.length cap ∧ TxtRow w ao l := by
  rcases h.2 with ⟨hv, h0⟩ | ⟨g, cap, cur, hv, hbg, hg, rest⟩
  · exact ⟨none, 0, by rw [hv, h0], .inl (List.length_eq_zero_iff.1 h0)⟩
  · have h' := h
    unfold OwnT at h'
    rw [hv] at h'
    exact ⟨_, cap, hv, .inr ⟨g, 0, rfl, (Array.getElem?_eq_some_iff.1 hg).1, fun j hj => by rw [Nat.zero_add, h'.cellAt j (by omega), txts_at l j hj]⟩⟩
theorem ownT_row2 {w : World} {B : Nat} {v : Value} {l : List ByteArray} (h : OwnT w B v l) : ∃ ao cap, v = .slice ao l.length cap ∧ TxtRow w ao l ∧ ∀ b off, ao = some ⟨b, off, none⟩ → B ≤ b := by
  rcases h.2 with ⟨hv, h0⟩ | ⟨g, cap, cur, hv, hbg, hg, rest⟩
  · exact ⟨none, 0, by rw [hv, h0], .inl (List.length_eq_zero_iff.1 h0), fun b off e => by cases e⟩
  · have h' := h
    unfold OwnT at h'
    rw [hv] at h'
    exact ⟨_, cap, hv, .inr ⟨g, 0, rfl, (Array.getElem?_eq_some_iff.1 hg).1, fun j hj => by rw [Nat.zero_add, h'.cellAt j (by omega), txts_at l j hj]⟩, fun b off e => by cases e; exact hbg⟩
theorem TxtRow.grown {w w' : World} {ao : Option Addr} {l : List ByteArray} {row : Option Nat} (h : TxtRow w ao l) (hg : w.grownBy w' row) (hne : ∀ b off, ao = some ⟨b, off, none⟩ → row ≠ some b) : TxtRow w' ao l := by
  rcases h with h | ⟨b, off, e, hlt, hc⟩
  · exact .inl h
  · exact .inr ⟨b, off, e, Nat.lt_of_lt_of_le hlt hg.size, fun j hj => hg.cell (hc j hj) (fun e2 => hne b off e e2.symm)⟩
theorem infoStr : (Try.prog.info? 9).map (fun i => (i.zero, i.size, i.bytes)) = some (some (.string ⟨#[]⟩), 1, 16) := by kernel_rfl
/-- A tree's parts as texts. -/
def tx (t : Tm) : ByteArray := ⟨t.enc.toArray⟩
theorem bl_tx (t : Tm) : bl (tx t) = t.enc := rfl
set_option maxHeartbeats 4000000 in
set_option maxRecDepth 100000 in
theorem parts_any (h : List UInt8) (l : List Tm) (hv : (Tm.node h l).valid) (s : ByteArray) (hs : bl s = (Tm.node h l).enc) (w : World) :
    Calls Try.prog 77 #[.string s] w fun e w' => ∃ v, e = .returned v ∧ OwnT w' w.heap.size v (l.map tx) ∧ Below w.heap.size w w' := by
  obtain ⟨i0, hi, hz0, hz1, hz2⟩ := info_parts infoStr
  have HI := Lib.hid hi
  have hg := hv.1
  simp only [Tm.good] at hg
  obtain ⟨c, hkd⟩ := head_kind hg.1
  have hl32 : l.length ≤ 32 := by cases hkd <;> omega
  have hsz : s.size = (Tm.node h l).enc.length := by rw [size_bl, hs]
  have hsz2 : s.size ≤ 16384 := by rw [hsz]; exact hv.2.2
  have hbl : bl s = h ++ encs l := by rw [hs, Tm.enc_node]
  have hhead : headP (bl s) = (h.length, l.length, 0) := by rw [hbl]; exact hg.1 _
  have HH := Lib.hid (rhead_any s (by omega) w)
  rw [hhead] at HH
  -- where the k-th part lies
  have HP : Hid (∀ k, k < l.length → ∃ t : Tm, l[k]? = some t ∧ t.valid ∧ (bl s).drop (h.length + (encs (l.take k)).length) = t.enc ++ encs (l.drop (k + 1)) ∧ (encs (l.take (k + 1))).length = (encs (l.take k)).length + t.enc.length ∧ h.length + (encs (l.take (k + 1))).length ≤ s.size) := Lib.hid (fun k hk => by
    refine ⟨l[k], List.getElem?_eq_getElem hk, node_valid_parts hv _ (List.getElem_mem hk), ?_, ?_, ?_⟩
    · rw [hbl, encs_at l k hk, ← List.append_assoc, ← List.length_append, List.drop_left]
    · exact encs_take l k hk
    · have e : encs l = encs (l.take (k + 1)) ++ encs (l.drop (k + 1)) := by
        rw [encs_flat, encs_flat, encs_flat, ← List.flatten_append, ← List.map_append, List.take_append_drop]
      have h2 := congrArg List.length hbl
      rw [bl_length, List.length_append, e, List.length_append] at h2
      omega)
  have HALL : Hid (h.length ≤ s.size) := Lib.hid (by
    have h2 := congrArg List.length hbl
    rw [bl_length, List.length_append] at h2
    omega)
  obtain ⟨n, hn⟩ : ∃ n, n = l.length := ⟨_, rfl⟩
  rw [← hn] at HH HP hl32
  have HN := Lib.hid hn
  clear hv hg hkd hsz hbl hhead hs hn hi
  obtain ⟨hl, hhl⟩ : ∃ q, q = h.length := ⟨_, rfl⟩
  rw [← hhl] at HH HP HALL
  clear hhl
  go_enter Try.func77, Try.ntmps77
  go_wp2_with fail
  refine HH.out.mono ?_; rintro e w1 ⟨rfl, b1⟩
  have B1 := Lib.hid b1
  clear b1
  unfold hd3
  go_wp2_with fail
  go_loopw [3, 6, 7] (fun nv v iv wr => ∃ k m : Nat, iv = .int .i64 k ∧ nv = .int .i64 m ∧ k ≤ n ∧ m ≤ 16384 ∧ Hid (m = hl + (encs (l.take k)).length) ∧ Hid (m ≤ s.size) ∧ Hid (OwnT wr w.heap.size v ((l.take k).map tx)) ∧ Hid (Below w.heap.size w wr)) (fun _ _ iv _ => n - (intOf iv).toNat)
  case atStart => exact ⟨0, hl, rfl, rfl, Nat.zero_le _, by have := HALL.out; omega, Lib.hid (by simp [encs]), HALL, Lib.hid (ownT_nil _ _), B1⟩
  case round =>
    obtain ⟨k, m, rfl, rfl, hkn, hm, hme, hms, hown, hb⟩ := hrel
    by_cases hk : k < n
    · have hk' : (k : Int) < (n : Int) := by omega
      obtain ⟨t, ht, tv, td, tl, te⟩ := HP.out k hk
      have sl : ∀ V : World, (Instr.sliceAt 9 (.string s) (some (.int .i64 (m : Int))) none none).run Try.prog V = .ok (.string (s.extract m s.size)) V := tslice_from s m hms.out
      have hx : bl (s.extract m s.size) = t.enc ++ encs (l.drop (k + 1)) := by rw [bl_from, hme.out, td]
      have hxs : (s.extract m s.size).size ≤ 281474976710656 := by rw [size_bl, bl_from, List.length_drop, bl_length]; omega
      have hC := rread_any 16 (s.extract m s.size) wr (Nat.le_refl _) hxs
      rw [hx, read_enc t tv.1 16 tv.2.1, show (17 - ((16 : Nat) : Int)) = 1 by decide] at hC
      have HC := Lib.hid hC
      generalize s.extract m s.size = x at *
      obtain ⟨q, hq⟩ : ∃ q, q = t.enc.length := ⟨_, rfl⟩
      rw [← hq] at HC tl
      have hq1 : m + q ≤ s.size := by rw [hme.out, Nat.add_assoc, ← tl]; exact te
      have sm : ∀ V : World, (Instr.sliceAt 9 (.string s) (some (.int .i64 (m : Int))) (some (.int .i64 (((m + q : Nat)) : Int))) none).run Try.prog V = .ok (.string (s.extract m (m + q))) V := tslice_mid s m (m + q) (by omega) hq1
      have hpart : s.extract m (m + q) = tx t := by
        apply bl_inj
        rw [bl_extract, bl_tx, List.drop_take, hme.out, td, show hl + (encs (l.take k)).length + q - (hl + (encs (l.take k)).length) = q by omega, hq, List.take_left]
      rw [hpart] at sm
      have sm' : ∀ V : World, (Instr.sliceAt 9 (.string s) (some (.int .i64 (m : Int))) (some (.int .i64 ((m : Int) + (q : Int)))) none).run Try.prog V = .ok (.string (tx t)) V := fun V => by
        have h := sm V
        rw [show (((m + q : Nat)) : Int) = (m : Int) + (q : Int) by omega] at h
        exact h
      have HTK : Hid ((l.take (k + 1)).map tx = (l.take k).map tx ++ [tx t]) := Lib.hid (by
        have hkl : k < l.length := by rw [← HN.out]; exact hk
        rw [List.take_succ_eq_append_getElem hkl, List.map_append]
        have : l[k] = t := by rw [List.getElem?_eq_getElem hkl] at ht; exact Option.some.inj ht
        rw [this]; rfl)
      have HME : Hid (m + q = hl + (encs (l.take (k + 1))).length) := Lib.hid (by rw [tl, hme.out]; omega)
      have HLN : Hid (((l.take k).map tx).length ≤ 32) := Lib.hid (by rw [List.length_map, List.length_take]; omega)
      obtain ⟨L, hL⟩ : ∃ L, L = (l.take k).map tx := ⟨_, rfl⟩
      rw [← hL] at HTK HLN hown
      clear hL
      have HQ1 := Lib.hid hq1
      have hq2 : m + q ≤ 16384 := by omega
      clear ht tv td tl te hx hxs hC hq sm hpart hme hms
      generalize tx t = y at *
      go_wp2_with fail
      refine HC.out.mono ?_; rintro e w2 ⟨rfl, b2⟩
      have B2 := Lib.hid (below_step hb.out b2)
      have O2 := Lib.hid (ownT_below hown.out b2)
      have HSZ := Lib.hid (Nat.le_trans hb.out.size b2.size)
      clear b2
      unfold rd2
      go_wp2_with (at_builtin; refine wpList_append_own _ rfl _ _ 22 rfl w.heap.size 9 i0 (.string ⟨#[]⟩) 1 16 Try.underlying22 HI.out hz0 hz1 hz2 rfl (by decide) _ _ _ rfl (World.ownsRow.alloc O2.out _) ⟨w2.heap.size, 0, none⟩ 1 1 [.string y] rfl rfl ?c1 ?c2 ?c3 ?c4 ?c5 ?_)
      case c1 =>
        intro j u hj
        match j, hj with
        | 0, hj => simp at hj; subst hj; simp [Addr.add]
        | (j + 1), hj => simp at hj
      case c2 => intro u hu; simp at hu; subst hu; rfl
      case c3 => have := HLN.out; unfold maxLen; omega
      case c4 => have := HLN.out; omega
      case c5 => have := HSZ.out; simp; omega
      intro v' w3 hown' hgrow _
      have HO : Hid (OwnT w3 w.heap.size v' ((l.take (k + 1)).map tx)) := Lib.hid (by
        rw [HTK.out]
        have h := hown'
        unfold OwnT
        rw [show txts (L ++ [y]) = txts L ++ [.string y] by simp [txts], List.length_append, List.length_singleton]
        exact h)
      have B3 : Hid (Below w.heap.size w w3) := Lib.hid ((B2.out.alloc (by have := HSZ.out; omega) _).grown hgrow (by have := HSZ.out; simp; omega) (fun j hj => (O2.out.lt _ hj).1))
      clear hown' hgrow
      go_wp2_with fail
      go_roundw
      case rel => exact ⟨k + 1, m + q, by go_num, by go_num, by omega, hq2, HME, HQ1, HO, B3⟩
      case measure => simp [intOf]; omega
    · obtain rfl : k = n := by omega
      have HE : Hid ((l.take k).map tx = l.map tx) := Lib.hid (by rw [List.take_of_length_le (by have := HN.out; omega)])
      obtain ⟨ao, cap, rfl, _⟩ := ownT_row hown.out
      clear hk hkn
      go_wp2_with fail
      go_ret
      exact ⟨_, rfl, by rw [← HE.out]; exact hown.out, hb.out⟩
end Go.Proofs.Ytpajcalfjfkogaa.Pl

namespace Go.Proofs.Ytpajcalfjfkogaa.Pl
open Go.RowKit

theorem placess_len {l : List Tm} (h : ∀ t ∈ l, t.places.length ≤ t.enc.length) : (placess l).length ≤ (encs l).length := by
  induction l with
  | nil => simp [placess]
  | cons t l ih =>
    simp only [placess, encs, List.length_append]
    have h1 := h t (List.mem_cons_self ..)
    have h2 := ih (fun u hu => h u (List.mem_cons_of_mem _ hu))
    omega
theorem places_count : ∀ t : Tm, t.good → t.places.length ≤ t.enc.length := by
  refine Tm.ind ?_
  intro h l ih hg
  simp only [Tm.good] at hg
  have h1 := List.length_pos_iff.2 hg.1.pos
  have h2 := placess_len (l := l) (fun t ht => ih t ht (goods_mem hg.2 t ht))
  simp only [Tm.places, Tm.enc, List.length_cons, List.length_append]
  omega
theorem ownT_one (w : World) (s : ByteArray) : OwnT (w.alloc (.cells #[.string s] 9)) w.heap.size (.slice (some ⟨w.heap.size, 0, none⟩) 1 1) [s] :=
  World.ownsRow_lit w #[.string s] 1 (Nat.le_refl _) (by decide) rfl

end Go.Proofs.Ytpajcalfjfkogaa.Pl

namespace Go.Proofs.Ytpajcalfjfkogaa.Pl
open Go.RowKit

/-- The cells of an array that holds the numbers l. -/
def row (k : IntKind) (l : List Nat) : Array Value := (l.map fun (x : Nat) => Value.int k (x : Int)).toArray
theorem below_setRow {B : Nat} {a w : World} (h : Below B a w) {g : Nat} (hg : B ≤ g) (cs : Array Value) : Below B a (w.setRow g cs) :=
  ⟨h.os, h.tape, h.output, by rw [setRow_size]; exact h.size, fun i hi => by rw [setRow_other _ _ _ _ (by omega)]; exact h.block i hi⟩

theorem heap_below {w w' : World} {b : Nat} {o : Obj} (hb : Below w.heap.size w w') (h : w.heap[b]? = some o) : w'.heap[b]? = some o := by
  rw [hb.block b (Array.getElem?_eq_some_iff.1 h).1]; exact h
theorem heap_alloc {w : World} {b : Nat} {o : Obj} (h : w.heap[b]? = some o) (p : Obj) : (w.alloc p).heap[b]? = some o := by
  rw [Go.heap_alloc_old _ _ (Array.getElem?_eq_some_iff.1 h).1]; exact h
/-- l agrees with f up to n. -/
def Agrees (l : List Nat) (f : Nat → Nat) (n : Nat) : Prop := ∀ j, j < n → l.getD j 0 = f j
theorem Agrees.zero (l : List Nat) (f : Nat → Nat) : Agrees l f 0 := fun _ h => absurd h (by omega)
theorem Agrees.next {l : List Nat} {f : Nat → Nat} {n : Nat} (h : Agrees l f n) (hn : n < l.length) : Agrees (l.set n (f n)) f (n + 1) := by
  intro j hj
  rw [List.getD_eq_getElem?_getD, List.getElem?_set]
  by_cases e : n = j
  · subst e; simp [hn]
  · rw [if_neg e, ← List.getD_eq_getElem?_getD]; exact h j (by omega)
theorem Agrees.ext {l m : List Nat} {n : Nat} (h : Agrees l (fun j => m.getD j 0) n) (hl : l.length = n) (hm : m.length = n) : l = m := by
  apply List.ext_getElem (by omega)
  intro i h1 h2
  have := h i (by omega)
  simpa [List.getD_eq_getElem?_getD, h1, h2] using this
end Go.Proofs.Ytpajcalfjfkogaa.Pl
