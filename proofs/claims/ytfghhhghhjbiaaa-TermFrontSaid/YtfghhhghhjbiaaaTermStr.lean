/- A text's bytes, its places, its slices, as facts for the walk; what the document's name of layer 6 answers. -/
import Derived.Test.YtfghhhghhjbiaaaTermKind
import Derived.Test.YtfghhhghhjbiaaaCommon
import Derived.Test.YtfghhhghhjbiaaaProg
import Derived.WalkKit
import Derived.Handy
import Derived.Lib.Hide
import Derived.Lib.Strings
import Derived.Laws.IdiomStrings
import Derived.WalkSpells
namespace Go.Proofs.Ytfghhhghhjbiaaa.Pl
open Go.RowKit

/-- A text's bytes. -/
def bl (s : ByteArray) : List UInt8 := s.data.toList
theorem bl_length (s : ByteArray) : (bl s).length = s.size := by unfold bl; rw [Array.length_toList]; rfl
theorem bl_mk (l : List UInt8) : bl ⟨l.toArray⟩ = l := rfl
theorem bl_inj {a b : ByteArray} (h : bl a = bl b) : a = b := ByteArray.ext (Array.ext' h)
theorem bl_eq (s : ByteArray) : s = ⟨(bl s).toArray⟩ := bl_inj rfl
theorem tstr_index (s : ByteArray) (k : Nat) (c : UInt8) (hk : k < s.size) (hc : c = (bl s).getD k 0) (V : World) : (Instr.index 9 (.string s) (.int .i64 (k : Int))).run Try.prog V = .ok (.int .u8 (c.toNat : Int)) V := by
  rw [run_index_string V 9 s .i64 k Try.underlying9, dif_pos ⟨by omega, by omega⟩, hc]
  congr 2
  have hk' : k < s.data.toList.length := by simpa using hk
  simp only [bl, List.getD_eq_getElem?_getD, List.getElem?_eq_getElem hk', Option.getD_some, Int.toNat_natCast]
  rfl
theorem tslice_from (x : ByteArray) (m : Nat) (h : m ≤ x.size) (V : World) : (Instr.sliceAt 9 (.string x) (some (.int .i64 (m : Int))) none none).run Try.prog V = .ok (.string (x.extract m x.size)) V := by
  have h0 : (0 : Int) ≤ (m : Int) := by omega
  have h1 : (m : Int) ≤ (x.size : Int) := by omega
  go_simp
theorem tslice_mid (x : ByteArray) (a b : Nat) (h : a ≤ b) (h2 : b ≤ x.size) (V : World) : (Instr.sliceAt 9 (.string x) (some (.int .i64 (a : Int))) (some (.int .i64 (b : Int))) none).run Try.prog V = .ok (.string (x.extract a b)) V := by
  have h0 : (0 : Int) ≤ (a : Int) := by omega
  have h1 : (a : Int) ≤ (b : Int) := by omega
  have h3 : (b : Int) ≤ (x.size : Int) := by omega
  go_simp
theorem bl_extract (x : ByteArray) (a b : Nat) : bl (x.extract a b) = ((bl x).take b).drop a := by
  unfold bl
  rw [Lib.extract_data, List.take_drop]
  by_cases h : a ≤ b
  · rw [show a + (b - a) = b by omega]
  · have : (x.data.toList.take (a + (b - a))).drop a = [] := List.drop_eq_nil_of_le (by simp; omega)
    rw [this]
    exact (List.drop_eq_nil_of_le (by simp; omega)).symm
theorem bl_from (x : ByteArray) (m : Nat) : bl (x.extract m x.size) = (bl x).drop m := by
  rw [bl_extract, List.take_of_length_le (by rw [bl_length]; exact Nat.le_refl _)]
theorem size_bl (s : ByteArray) : s.size = (bl s).length := (bl_length s).symm
theorem bl_nil {s : ByteArray} (h : s.size = 0) : bl s = [] := List.length_eq_zero_iff.1 (by rw [bl_length]; exact h)
theorem bl_cons {s : ByteArray} (h : 0 < s.size) : bl s = (bl s).getD 0 0 :: (bl s).drop 1 := by
  have hl : 0 < (bl s).length := by rw [bl_length]; exact h
  cases e : bl s with
  | nil => rw [e] at hl; simp at hl
  | cons b r => rfl
theorem nameOK_iff (l : List UInt8) : nameOK l = true ↔ l ≠ [] ∧ ∀ j, j < l.length → nameB (l.getD j 0) = true := by
  unfold nameOK
  rw [Bool.and_eq_true, List.all_eq_true]
  constructor
  · rintro ⟨h, k⟩
    refine ⟨fun e => by rw [e] at h; simp at h, fun j hj => k _ ?_⟩
    rw [List.getD_eq_getElem?_getD, List.getElem?_eq_getElem hj]; exact List.getElem_mem hj
  · rintro ⟨h, k⟩
    refine ⟨by cases l with | nil => exact absurd rfl h | cons => rfl, fun x hx => ?_⟩
    obtain ⟨j, hj, rfl⟩ := List.getElem_of_mem hx
    have := k j hj
    simpa [List.getD_eq_getElem?_getD, hj] using this
theorem str6_ne {a b : ByteArray} (h : a ≠ b) : (a.toList == b.toList) = false ∧ (a.toList != b.toList) = true := by
  have h' : a.toList ≠ b.toList := fun e => h (by
    rw [Lib.toList_data, Lib.toList_data] at e
    exact ByteArray.ext (Array.ext' e))
  exact ⟨beq_eq_false_iff_ne.2 h', bne_iff_ne.2 h'⟩
theorem ret6_bool {a b : Bool} (h : a = b) : Ending.returned (.bool a) = .returned (.bool b) := by rw [h]
theorem ret6_i64 {a b : Int} (h : a = b) : Ending.returned (.int .i64 a) = .returned (.int .i64 b) := by rw [h]

set_option maxHeartbeats 2000000 in
set_option maxRecDepth 100000 in
theorem rname_any (s : ByteArray) (hs : s.size ≤ 281474976710656) (w : World) :
    Calls Try.prog 69 #[.string s] w fun e w' => e = .returned (.bool (nameOK (bl s))) ∧ Below w.heap.size w w' := by
  obtain ⟨z, hz⟩ : ∃ z, z = nameOK (bl s) := ⟨_, rfl⟩
  rw [← hz]
  by_cases h0 : s.size = 0
  · have HZ : Hid (z = false) := Lib.hid (by rw [hz, bl_nil h0]; rfl)
    obtain rfl : s = ⟨#[]⟩ := bl_inj (bl_nil h0)
    clear hz h0 hs
    go_enter Try.func69, Try.ntmps69
    go_wp2_with fail
    refine wp_loop_rounds 1 ?_; rw [rounds_succ]; go_wp2_with fail
    go_ret
    exact ⟨ret6_bool HZ.out.symm, Below.refl _ _⟩
  · have hne : s ≠ ⟨#[]⟩ := fun e => h0 (by rw [e]; rfl)
    obtain ⟨g1, g2⟩ := str6_ne hne
    have g3 : s.toList.isEmpty = false := by
      rw [Lib.toList_data, List.isEmpty_eq_false_iff]
      intro e
      exact h0 (by rw [size_bl]; unfold bl; rw [e]; rfl)
    have HB : Hid (∀ k, k < s.size → nameB ((bl s).getD k 0) = false → z = false) := Lib.hid (fun k hk hb => by
      rw [hz]
      cases e : nameOK (bl s) with
      | false => rfl
      | true => rw [((nameOK_iff _).1 e).2 k (by rw [bl_length]; exact hk)] at hb; exact absurd hb (by decide))
    have HE : Hid ((∀ j, j < s.size → nameB ((bl s).getD j 0) = true) → z = true) := Lib.hid (fun h => by
      rw [hz, nameOK_iff]
      refine ⟨fun e => h0 (by rw [size_bl, e]; rfl), fun j hj => h j (by rw [bl_length] at hj; exact hj)⟩)
    clear hz h0 hne
    go_enter Try.func69, Try.ntmps69
    go_wp2_with fail
    go_loopw [3] (fun i wr => ∃ k : Nat, i = .int .i64 k ∧ k ≤ s.size ∧ Hid (∀ j, j < k → nameB ((bl s).getD j 0) = true) ∧ Hid (Below w.heap.size w wr)) (fun i _ => s.size - (intOf i).toNat)
    case atStart => exact ⟨0, rfl, Nat.zero_le _, Lib.hid (fun j hj => absurd hj (Nat.not_lt_zero j)), Lib.hid (Below.refl _ _)⟩
    case round =>
      obtain ⟨k, rfl, hks, hch, hbw⟩ := hrel
      by_cases hk : k < s.size
      · obtain ⟨c, ec⟩ : ∃ c : UInt8, c = (bl s).getD k 0 := ⟨_, rfl⟩
        have i1 : ∀ V : World, (Instr.index 9 (.string s) (.int .i64 (k : Int))).run Try.prog V = .ok (.int .u8 (c.toNat : Int)) V := tstr_index s k c hk ec
        have HBK : Hid (nameB c = false → z = false) := Lib.hid (by rw [ec]; exact HB.out k hk)
        have HNX : Hid (nameB c = true → ∀ j, j < k + 1 → nameB ((bl s).getD j 0) = true) := Lib.hid (fun h j hj => by
          by_cases e : j = k
          · rw [e, ← ec]; exact h
          · exact hch.out j (by omega))
        obtain ⟨n, hn⟩ : ∃ n, n = c.toNat := ⟨_, rfl⟩
        have HY : Hid (((97 ≤ n ∧ n ≤ 122) ∨ (48 ≤ n ∧ n ≤ 57) ∨ n = 47 ∨ n = 46 ∨ n = 45) → nameB c = true) := Lib.hid (fun h => by unfold nameB; rw [← hn]; exact decide_eq_true h)
        have HW : Hid (¬ ((97 ≤ n ∧ n ≤ 122) ∨ (48 ≤ n ∧ n ≤ 57) ∨ n = 47 ∨ n = 46 ∨ n = 45) → nameB c = false) := Lib.hid (fun h => by unfold nameB; rw [← hn]; exact decide_eq_false h)
        rw [← hn] at i1
        clear ec hn
        have hcs : n < 45 ∨ n = 45 ∨ n = 46 ∨ n = 47 ∨ (48 ≤ n ∧ n ≤ 57) ∨ (57 < n ∧ n < 97) ∨ (97 ≤ n ∧ n ≤ 122) ∨ 122 < n := by omega
        have ef : ∀ m : Nat, n ≠ m → ((n : Int) == (m : Int)) = false := fun m h => by rw [beq_eq_false_iff_ne]; omega
        rcases hcs with h | h | h | h | ⟨h, h'⟩ | ⟨h, h'⟩ | ⟨h, h'⟩ | h
        · have HX := Lib.hid (HBK.out (HW.out (by omega)))
          have q1 : ((n : Int) == 47) = false := ef 47 (by omega)
          have q2 : ((n : Int) == 46) = false := ef 46 (by omega)
          have q3 : ((n : Int) == 45) = false := ef 45 (by omega)
          clear ef
          go_wp2_with fail
          go_ret
          exact ⟨ret6_bool HX.out.symm, hbw.out⟩
        · subst h
          have HX := Lib.hid (HNX.out (HY.out (by omega)))
          clear ef
          go_wp2_with fail
          go_roundw
          case rel => exact ⟨k + 1, by go_num, by omega, HX, hbw⟩
          case measure => simp [intOf]; omega
        · subst h
          have HX := Lib.hid (HNX.out (HY.out (by omega)))
          clear ef
          go_wp2_with fail
          go_roundw
          case rel => exact ⟨k + 1, by go_num, by omega, HX, hbw⟩
          case measure => simp [intOf]; omega
        · subst h
          have HX := Lib.hid (HNX.out (HY.out (by omega)))
          clear ef
          go_wp2_with fail
          go_roundw
          case rel => exact ⟨k + 1, by go_num, by omega, HX, hbw⟩
          case measure => simp [intOf]; omega
        · have HX := Lib.hid (HNX.out (HY.out (by omega)))
          clear ef
          go_wp2_with fail
          go_roundw
          case rel => exact ⟨k + 1, by go_num, by omega, HX, hbw⟩
          case measure => simp [intOf]; omega
        · have HX := Lib.hid (HBK.out (HW.out (by omega)))
          have q1 : ((n : Int) == 47) = false := ef 47 (by omega)
          have q2 : ((n : Int) == 46) = false := ef 46 (by omega)
          have q3 : ((n : Int) == 45) = false := ef 45 (by omega)
          have q4 : decide ((n : Int) ≤ 57) = false := decide_eq_false (by omega)
          clear ef
          go_wp2_with fail
          go_ret
          exact ⟨ret6_bool HX.out.symm, hbw.out⟩
        · have HX := Lib.hid (HNX.out (HY.out (by omega)))
          clear ef
          go_wp2_with fail
          go_roundw
          case rel => exact ⟨k + 1, by go_num, by omega, HX, hbw⟩
          case measure => simp [intOf]; omega
        · have HX := Lib.hid (HBK.out (HW.out (by omega)))
          have q1 : ((n : Int) == 47) = false := ef 47 (by omega)
          have q2 : ((n : Int) == 46) = false := ef 46 (by omega)
          have q3 : ((n : Int) == 45) = false := ef 45 (by omega)
          have q4 : decide ((n : Int) ≤ 57) = false := decide_eq_false (by omega)
          have q5 : decide ((n : Int) ≤ 122) = false := decide_eq_false (by omega)
          clear ef
          go_wp2_with fail
          go_ret
          exact ⟨ret6_bool HX.out.symm, hbw.out⟩
      · obtain rfl : k = s.size := by omega
        have HQ := Lib.hid (HE.out hch.out)
        clear hk hks
        go_wp2_with fail
        go_ret
        exact ⟨ret6_bool HQ.out.symm, hbw.out⟩
end Go.Proofs.Ytfghhhghhjbiaaa.Pl
