/- What the document's own ReadNum answers: the same as octet.ReadNum. -/
import Derived.Test.YtfghhhghhjbiaaaRefNum
import Derived.Test.YtfghhhghhjbiaaaReadNum
import Derived.Deep.RegionHeld3
namespace Go.Proofs.Ytfghhhghhjbiaaa.Pl
open Go.RowKit

set_option maxRecDepth 100000 in
theorem refreadnum_nil (w : World) :
    Calls Try.prog 58 #[.string ⟨#[]⟩] w fun e w' => e = .returned (.tuple #[.int .u64 0, .int .i64 0, .int .i64 6]) ∧ w = w' := by
  go_enter Try.func58, Try.ntmps58
  go_wp2
  go_ret3
  exact ⟨rfl, rfl⟩
set_option maxRecDepth 100000 in
theorem refreadnum_small (s : ByteArray) (h0 : 0 < s.size) (hb : s[0].toNat < 248) (w : World) :
    Calls Try.prog 58 #[.string s] w fun e w' => e = .returned (.tuple #[.int .u64 s[0].toNat, .int .i64 1, .int .i64 0]) ∧ w = w' := by
  have hne : s.toList.isEmpty = false := isEmpty_no h0
  go_enter Try.func58, Try.ntmps58
  go_wp2
  go_ret3
  exact ⟨rfl, rfl⟩
set_option maxRecDepth 100000 in
theorem refreadnum_end (s : ByteArray) (h0 : 0 < s.size) (hb : 248 ≤ s[0].toNat) (hb2 : s[0].toNat < 256) (hk : s.size < 1 + s[0].toNat - 247) (w : World) :
    Calls Try.prog 58 #[.string s] w fun e w' => e = .returned (.tuple #[.int .u64 0, .int .i64 0, .int .i64 6]) ∧ w = w' := by
  have hne : s.toList.isEmpty = false := isEmpty_no h0
  go_enter Try.func58, Try.ntmps58
  go_wp2
  go_ret3
  exact ⟨rfl, rfl⟩
/-- The number that the first j bytes behind the first one are. -/
def pre (s : ByteArray) (j : Nat) : Nat := val ((s.data.toList.drop 1).take j)
theorem pre_lt (s : ByteArray) (j : Nat) : pre s j < 256 ^ j :=
  Nat.lt_of_lt_of_le (val_lt _) (Nat.pow_le_pow_right (by decide) (by simp; omega))
theorem pre_succ (s : ByteArray) (j : Nat) (h : 1 + j < s.size) : pre s (j + 1) = pre s j * 256 + s[1 + j].toNat := by
  unfold pre
  have hl : (s.data.toList.drop 1).length = s.size - 1 := by simp
  rw [val_take _ j (by omega), List.getElem_drop]
  rfl
set_option maxHeartbeats 400000 in
set_option maxRecDepth 100000 in
theorem refreadnum_ok (s : ByteArray) (k : Nat) (h0 : 0 < s.size) (hb : s[0].toNat = 247 + k) (hk1 : 1 ≤ k) (hk8 : k ≤ 8) (h1 : 1 + k ≤ s.size) (L : List UInt8) (hL : (s.extract 0 (1 + k)).toList = L) (hx : (enc (pre s k) == L) = true) (w : World) :
    Calls Try.prog 58 #[.string s] w fun e w' => e = .returned (.tuple #[.int .u64 (pre s k), .int .i64 (1 + k), .int .i64 0]) ∧ Below w.heap.size w w' := by
  have hne : s.toList.isEmpty = false := isEmpty_no h0
  have hk7 : (1 + (247 + (k : Int)) - 247) = 1 + k := by omega
  have hd2 : decide (247 + (k : Int) < 248) = false := by simp; omega
  have hd1 : decide ((s.size : Int) < 1 + k) = false := by simp; omega
  have hp : pre s k < 256 ^ 8 := Nat.lt_of_lt_of_le (pre_lt s k) (Nat.pow_le_pow_right (by decide) hk8)
  have HP := Lib.hid hp
  clear hp
  go_enter Try.func58, Try.ntmps58
  go_wp2
  go_loop [6, 7] (fun v i => ∃ j : Nat, j ≤ k ∧ i = .int .i64 (1 + j) ∧ v = .int .u64 (pre s j)) (fun _ i => 9 - (intOf i).toNat)
  case atStart => exact ⟨0, Nat.zero_le _, rfl, rfl⟩
  case round =>
    obtain ⟨j, hj, rfl, rfl⟩ := hrel
    have HS := Lib.hid (fun h => pre_succ s j h)
    have HV := Lib.hid (pre_lt s j)
    go_wp2
    · have hlt : j < k := by assumption
      refine ⟨⟨j + 1, by omega, by go_num, ?_⟩, by simp [intOf]; omega⟩
      have e7 : pre s j < 72057594037927936 := Nat.lt_of_lt_of_le HV.out (Nat.pow_le_pow_right (n := 256) (j := 7) (by decide) (by omega))
      have eb : s[1 + j].toNat < 256 := s[1 + j].toNat_lt
      have e1 := HS.out (by omega)
      rw [IntWalk.u64_in ((pre s j : Int) * 256) (by omega), IntWalk.u64_in (s[1 + j].toNat : Int) (by omega), IntWalk.u64_in _ (by omega)]
      exact congrArg (Value.int .u64) (by omega)
    · obtain rfl : j = k := by omega
      clear HS HV
      have hq3 : (1 + (j : Int)).toNat = 1 + j := by omega
      have hq1 : (0 : Int) ≤ 1 + (j : Int) := by omega
      have hq2 : 1 + (j : Int) ≤ (s.size : Int) := by omega
      go_region_held3 (fun _ => True) (trivial) (first | (go_at_call 65; refine (refnum_any _ HP.out _).mono ?_; rintro e w1 ⟨rfl, hbw⟩))
      go_wp2
      go_ret3
      exact ⟨rfl, below_undrew hbw⟩
set_option maxHeartbeats 400000 in
set_option maxRecDepth 100000 in
theorem refreadnum_bad (s : ByteArray) (k : Nat) (h0 : 0 < s.size) (hb : s[0].toNat = 247 + k) (hk1 : 1 ≤ k) (hk8 : k ≤ 8) (h1 : 1 + k ≤ s.size) (L : List UInt8) (hL : (s.extract 0 (1 + k)).toList = L) (hx : (enc (pre s k) == L) = false) (w : World) :
    Calls Try.prog 58 #[.string s] w fun e w' => e = .returned (.tuple #[.int .u64 0, .int .i64 0, .int .i64 7]) ∧ Below w.heap.size w w' := by
  have hne : s.toList.isEmpty = false := isEmpty_no h0
  have hk7 : (1 + (247 + (k : Int)) - 247) = 1 + k := by omega
  have hd2 : decide (247 + (k : Int) < 248) = false := by simp; omega
  have hd1 : decide ((s.size : Int) < 1 + k) = false := by simp; omega
  have hp : pre s k < 256 ^ 8 := Nat.lt_of_lt_of_le (pre_lt s k) (Nat.pow_le_pow_right (by decide) hk8)
  have HP := Lib.hid hp
  clear hp
  go_enter Try.func58, Try.ntmps58
  go_wp2
  go_loop [6, 7] (fun v i => ∃ j : Nat, j ≤ k ∧ i = .int .i64 (1 + j) ∧ v = .int .u64 (pre s j)) (fun _ i => 9 - (intOf i).toNat)
  case atStart => exact ⟨0, Nat.zero_le _, rfl, rfl⟩
  case round =>
    obtain ⟨j, hj, rfl, rfl⟩ := hrel
    have HS := Lib.hid (fun h => pre_succ s j h)
    have HV := Lib.hid (pre_lt s j)
    go_wp2
    · have hlt : j < k := by assumption
      refine ⟨⟨j + 1, by omega, by go_num, ?_⟩, by simp [intOf]; omega⟩
      have e7 : pre s j < 72057594037927936 := Nat.lt_of_lt_of_le HV.out (Nat.pow_le_pow_right (n := 256) (j := 7) (by decide) (by omega))
      have eb : s[1 + j].toNat < 256 := s[1 + j].toNat_lt
      have e1 := HS.out (by omega)
      rw [IntWalk.u64_in ((pre s j : Int) * 256) (by omega), IntWalk.u64_in (s[1 + j].toNat : Int) (by omega), IntWalk.u64_in _ (by omega)]
      exact congrArg (Value.int .u64) (by omega)
    · obtain rfl : j = k := by omega
      clear HS HV
      have hq3 : (1 + (j : Int)).toNat = 1 + j := by omega
      have hq1 : (0 : Int) ≤ 1 + (j : Int) := by omega
      have hq2 : 1 + (j : Int) ≤ (s.size : Int) := by omega
      go_region_held3 (fun _ => True) (trivial) (first | (go_at_call 65; refine (refnum_any _ HP.out _).mono ?_; rintro e w1 ⟨rfl, hbw⟩))
      go_wp2
      go_ret3
      exact ⟨rfl, below_undrew hbw⟩
/-- The document's ReadNum, whatever it is given. -/
theorem refreadnum_any (s : ByteArray) (hs : s.size ≤ 9223372036854775807) (w : World) :
    Calls Try.prog 58 #[.string s] w fun e w' => e = .returned (.tuple #[.int .u64 (rdn s.data.toList).1, .int .i64 (rdn s.data.toList).2.1, .int .i64 (rdn s.data.toList).2.2]) ∧ Below w.heap.size w w' := by
  by_cases h0 : 0 < s.size
  · have hl : s.data.toList.length = s.size := by simp
    have hb2 : s[0].toNat < 256 := s[0].toNat_lt
    have hlist : s.data.toList = s[0] :: s.data.toList.drop 1 := by
      cases hd : s.data.toList with
      | nil => rw [hd] at hl; simp at hl; omega
      | cons a r =>
        have h2 : s.data.toList[0]'(by omega) = a := by simp [hd]
        have h3 : s[0] = a := h2
        simp [h3]
    have hdl : (s.data.toList.drop 1).length = s.size - 1 := by simp
    by_cases hb : s[0].toNat < 248
    · rw [hlist, rdn_small _ _ hb]
      exact (refreadnum_small s h0 hb w).mono fun e w' ⟨he, hw⟩ => ⟨he, hw ▸ Below.refl _ _⟩
    · by_cases hk : s.size - 1 < s[0].toNat - 247
      · rw [hlist, rdn_end _ _ hb (by omega)]
        exact (refreadnum_end s h0 (by omega) hb2 (by omega) w).mono fun e w' ⟨he, hw⟩ => ⟨he, hw ▸ Below.refl _ _⟩
      · obtain ⟨k, hk2⟩ : ∃ k, s[0].toNat = 247 + k := ⟨s[0].toNat - 247, by omega⟩
        have hlk : ((s.data.toList.drop 1).take k).length = k := by simp; omega
        have hcut : (s.extract 0 (1 + k)).toList = s[0] :: (s.data.toList.drop 1).take k := by
          rw [ByteArray.toList_eq, Lib.extract_data]
          simp only [List.drop_zero, Nat.sub_zero]
          conv => lhs; rw [hlist]
          rw [Nat.add_comm 1 k, List.take_succ_cons]
        have hs0 : s[0] = UInt8.ofNat (247 + k) := UInt8.toNat.inj (by simp; omega)
        have hev := enc_val (d := (s.data.toList.drop 1).take k) (by omega) (by omega)
        rw [hlk, ← hs0, headD_take (by omega)] at hev
        by_cases hf : (s.data.toList.drop 1).headD 0 = 0 ∨ (s[0].toNat = 248 ∧ ((s.data.toList.drop 1).headD 0).toNat < 248)
        · rw [hlist, rdn_form _ _ hb (by omega) hf]
          refine refreadnum_bad s k h0 hk2 (by omega) (by omega) (by omega) _ hcut ?_ w
          rw [beq_eq_false_iff_ne]
          intro he
          refine hev.1 he ?_
          rcases hf with h | ⟨h, h'⟩
          · exact .inl h
          · exact .inr ⟨by omega, h'⟩
        · rw [hlist, rdn_ok _ _ hb (by omega) hf, hk2, Nat.add_sub_cancel_left]
          refine refreadnum_ok s k h0 hk2 (by omega) (by omega) (by omega) _ hcut ?_ w
          rw [beq_iff_eq]
          refine hev.2 ?_
          intro h
          apply hf
          rcases h with h | ⟨h, h'⟩
          · exact .inl h
          · exact .inr ⟨by omega, h'⟩
  · have : s = ⟨#[]⟩ := by
      cases s with
      | mk a =>
        have h2 : a.size = 0 := by simpa [ByteArray.size] using h0
        rw [Array.eq_empty_of_size_eq_zero h2]
    subst this
    exact (refreadnum_nil w).mono fun e w' ⟨he, hw⟩ => ⟨he, hw ▸ Below.refl _ _⟩
end Go.Proofs.Ytfghhhghhjbiaaa.Pl
