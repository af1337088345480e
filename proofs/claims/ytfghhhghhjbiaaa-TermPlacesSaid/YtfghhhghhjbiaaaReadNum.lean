/- What octet.ReadNum answers. -/
import Derived.Test.YtfghhhghhjbiaaaPlain
import Derived.Test.YtfghhhghhjbiaaaCommon
import Derived.Test.YtfghhhghhjbiaaaProg
import Derived.WalkKit
import Derived.WalkSpells
import Derived.Outline
import Derived.Handy
import Derived.Lib.Hide
import Derived.Lib.Strings
namespace Go.Proofs.Ytfghhhghhjbiaaa.Pl
open Go.RowKit

theorem isEmpty_no {s : ByteArray} (h0 : 0 < s.size) : s.toList.isEmpty = false := by
  rw [ByteArray.toList_eq]
  have : s.data.toList.length = s.size := by simp
  cases hd : s.data.toList with
  | nil => rw [hd] at this; simp at this; omega
  | cons a r => rfl

set_option maxRecDepth 100000 in
theorem readnum_nil (w : World) :
    Calls Try.prog 57 #[.string ⟨#[]⟩] w fun e w' => e = .returned (.tuple #[.int .u64 0, .int .i64 0, .int .i64 6]) ∧ w = w' := by
  go_enter Try.func57, Try.ntmps57
  go_wp2
  go_ret3
  exact ⟨rfl, rfl⟩
set_option maxRecDepth 100000 in
theorem readnum_small (s : ByteArray) (h0 : 0 < s.size) (hb : s[0].toNat < 248) (w : World) :
    Calls Try.prog 57 #[.string s] w fun e w' => e = .returned (.tuple #[.int .u64 s[0].toNat, .int .i64 1, .int .i64 0]) ∧ w = w' := by
  have hne : s.toList.isEmpty = false := isEmpty_no h0
  go_enter Try.func57, Try.ntmps57
  go_wp2
  go_ret3
  exact ⟨rfl, rfl⟩
set_option maxRecDepth 100000 in
theorem readnum_end (s : ByteArray) (h0 : 0 < s.size) (hb : 248 ≤ s[0].toNat) (hb2 : s[0].toNat < 256) (hk : s.size - 1 < s[0].toNat - 247) (w : World) :
    Calls Try.prog 57 #[.string s] w fun e w' => e = .returned (.tuple #[.int .u64 0, .int .i64 0, .int .i64 6]) ∧ w = w' := by
  have hne : s.toList.isEmpty = false := isEmpty_no h0
  go_enter Try.func57, Try.ntmps57
  go_wp2
  go_ret3
  exact ⟨rfl, rfl⟩
set_option maxRecDepth 100000 in
theorem readnum_zero (s d : ByteArray) (hd : s.extract 1 s.size = d) (h0 : 0 < s.size) (hb : 248 ≤ s[0].toNat) (hb2 : s[0].toNat < 256) (hk : s[0].toNat - 247 ≤ d.size) (h1 : 0 < d.size) (hz : d[0].toNat = 0) (w : World) :
    Calls Try.prog 57 #[.string s] w fun e w' => e = .returned (.tuple #[.int .u64 0, .int .i64 0, .int .i64 7]) ∧ w = w' := by
  have hne : s.toList.isEmpty = false := isEmpty_no h0
  have hz' : ((d[0].toNat : Int) == 0) = true := by rw [hz]; rfl
  clear hz
  go_enter Try.func57, Try.ntmps57
  go_wp2
  go_ret3
  exact ⟨rfl, rfl⟩
set_option maxRecDepth 100000 in
theorem readnum_one (s d : ByteArray) (hd : s.extract 1 s.size = d) (h0 : 0 < s.size) (hb : s[0].toNat = 248) (h1 : 0 < d.size) (hz : d[0].toNat ≠ 0) (hz2 : d[0].toNat < 248) (w : World) :
    Calls Try.prog 57 #[.string s] w fun e w' => e = .returned (.tuple #[.int .u64 0, .int .i64 0, .int .i64 7]) ∧ w = w' := by
  have hne : s.toList.isEmpty = false := isEmpty_no h0
  have hz' : ((d[0].toNat : Int) == 0) = false := by rw [beq_eq_false_iff_ne]; omega
  clear hz
  go_enter Try.func57, Try.ntmps57
  go_wp2
  go_ret3
  exact ⟨rfl, rfl⟩
/-- A number of fewer than eight digits, and one digit more. -/
theorem or_digit (V : Nat) (b : UInt8) (hV : V < 256 ^ 7) : bits .or .u64 (IntKind.u64.wrap ((V : Int) * 256)) (IntKind.u64.wrap (b.toNat : Int)) = ((V * 256 + b.toNat : Nat) : Int) := by
  have hb : b.toNat < 256 := b.toNat_lt
  have h7 : V < 72057594037927936 := hV
  have e1 : IntKind.u64.wrap ((V : Int) * 256) = ((V * 256 : Nat) : Int) := by rw [IntWalk.u64_in _ (by omega)]; omega
  have e2 : IntKind.u64.wrap (b.toNat : Int) = (b.toNat : Int) := IntWalk.u64_in _ (by omega)
  rw [e1, e2, bits_or_u64_nat _ _ (by omega) (by omega)]
  have h := Nat.two_pow_add_eq_or_of_lt (i := 8) (b := b.toNat) (by omega) V
  have h2 : 2 ^ 8 * V = V * 256 := by omega
  rw [h2] at h
  rw [← h]
theorem val_take (l : List UInt8) (j : Nat) (h : j < l.length) : val (l.take (j + 1)) = val (l.take j) * 256 + l[j].toNat := by
  rw [List.take_succ_eq_append_getElem h, val_snoc]
theorem or_zero (b : UInt8) : bits .or .u64 0 (IntKind.u64.wrap (b.toNat : Int)) = (b.toNat : Int) := by
  have h := or_digit 0 b (by decide)
  have e : IntKind.u64.wrap (((0 : Nat) : Int) * 256) = 0 := by rw [IntWalk.u64_in _ (by omega)]; omega
  rw [e] at h
  rw [h]; simp
set_option maxRecDepth 100000 in
theorem readnum_ok1 (s d : ByteArray) (hd : s.extract 1 s.size = d) (h0 : 0 < s.size) (hb : s[0].toNat = 248) (h1 : 0 < d.size) (hz2 : 248 ≤ d[0].toNat) (w : World) :
    Calls Try.prog 57 #[.string s] w fun e w' => e = .returned (.tuple #[.int .u64 d[0].toNat, .int .i64 2, .int .i64 0]) ∧ w = w' := by
  have hne : s.toList.isEmpty = false := isEmpty_no h0
  have hz' : ((d[0].toNat : Int) == 0) = false := by rw [beq_eq_false_iff_ne]; omega
  go_enter Try.func57, Try.ntmps57
  go_wp2
  go_rounds 2
  go_ret3
  exact ⟨ret3 (or_zero _), rfl⟩
set_option maxRecDepth 100000 in
theorem readnum_okk (s d : ByteArray) (k : Nat) (hd : s.extract 1 s.size = d) (h0 : 0 < s.size) (hb : s[0].toNat = 247 + k) (hk2 : 2 ≤ k) (hk8 : k ≤ 8) (h1 : k ≤ d.size) (h1' : 0 < d.size) (hz : d[0].toNat ≠ 0) (w : World) :
    Calls Try.prog 57 #[.string s] w fun e w' => e = .returned (.tuple #[.int .u64 (val (d.data.toList.take k)), .int .i64 (1 + k), .int .i64 0]) ∧ w = w' := by
  have hne : s.toList.isEmpty = false := isEmpty_no h0
  have hz' : ((d[0].toNat : Int) == 0) = false := by rw [beq_eq_false_iff_ne]; omega
  have hk1 : ((k : Int) == 1) = false := by rw [beq_eq_false_iff_ne]; omega
  have hk7 : (247 + (k : Int) - 247) = k := by omega
  have hd1 : decide (d.size < k) = false := by simp; omega
  have hd2 : decide (247 + (k : Int) < 248) = false := by simp; omega
  clear hz
  go_enter Try.func57, Try.ntmps57
  go_wp2
  go_loop [2, 39] (fun v i => ∃ j : Nat, j ≤ k ∧ i = .int .i64 j ∧ v = .int .u64 (val (d.data.toList.take j))) (fun _ i => k - (intOf i).toNat)
  case atStart => exact ⟨0, Nat.zero_le _, rfl, rfl⟩
  case round =>
    obtain ⟨j, hj, rfl, rfl⟩ := hrel
    have HS : Hid (∀ h : j < d.size, val (d.data.toList.take (j + 1)) = val (d.data.toList.take j) * 256 + d[j].toNat) := fun h => val_take d.data.toList j (by simpa using h)
    have HV : Hid (j < k → val (d.data.toList.take j) < 256 ^ 7) := fun h => by
      have h2 := val_lt (d.data.toList.take j)
      exact Nat.lt_of_lt_of_le h2 (Nat.pow_le_pow_right (by decide) (by simp; omega))
    clear hz' hk1 hk7 hne hd1 hd2
    go_wp2
    · have hlt : j < k := by assumption
      go_round
      case rel => exact ⟨j + 1, by omega, by go_num, by rw [HS.out (by omega), ← or_digit _ _ (HV.out hlt)]⟩
      case measure => simp [intOf]; omega
    · obtain rfl : j = k := by omega
      go_ret3
      exact ⟨rfl, rfl⟩
/-- ReadNum, whatever it is given. -/
theorem readnum_any (s : ByteArray) (hs : s.size ≤ 9223372036854775807) (w : World) :
    Calls Try.prog 57 #[.string s] w fun e w' => e = .returned (.tuple #[.int .u64 (rdn s.data.toList).1, .int .i64 (rdn s.data.toList).2.1, .int .i64 (rdn s.data.toList).2.2]) ∧ w = w' := by
  by_cases h0 : 0 < s.size
  · have hd : ∃ d, s.extract 1 s.size = d := ⟨_, rfl⟩
    obtain ⟨d, hd⟩ := hd
    have hdd : d.data.toList = s.data.toList.drop 1 := by
      rw [← hd]
      have := Lib.extract_data s 1 s.size
      rw [this]
      exact List.take_of_length_le (by simp)
    have hds : d.size = s.size - 1 := by
      have : d.data.toList.length = s.size - 1 := by rw [hdd]; simp
      simpa using this
    have hlist : s.data.toList = s[0] :: d.data.toList := by
      rw [hdd]
      have h1 : s.data.toList.length = s.size := by simp
      cases hl : s.data.toList with
      | nil => rw [hl] at h1; simp at h1; omega
      | cons a r =>
        have : s[0] = a := by
          have h2 : s.data.toList[0]'(by omega) = a := by simp [hl]
          exact h2
        simp [this]
    have hhd : ∀ h : 0 < d.size, d.data.toList.headD 0 = d[0] := by
      intro h
      have h1 : d.data.toList.length = d.size := by simp
      cases hl : d.data.toList with
      | nil => rw [hl] at h1; simp at h1; omega
      | cons a r =>
        have h2 : d.data.toList[0]'(by omega) = a := by simp [hl]
        exact h2.symm
    have hb2 : s[0].toNat < 256 := s[0].toNat_lt
    have hdl : d.data.toList.length = d.size := by simp
    rw [hlist]
    by_cases hb : s[0].toNat < 248
    · rw [rdn_small _ _ hb]
      exact readnum_small s h0 hb w
    · by_cases hk : d.size < s[0].toNat - 247
      · rw [rdn_end _ _ hb (by omega)]
        exact readnum_end s h0 (by omega) hb2 (by omega) w
      · have h1 : 0 < d.size := by omega
        have hh := hhd h1
        by_cases hz : d[0].toNat = 0
        · rw [rdn_form _ _ hb (by omega) (.inl (by rw [hh]; exact UInt8.toNat.inj (by simpa using hz)))]
          exact readnum_zero s d hd h0 (by omega) hb2 (by omega) h1 hz w
        · have hz' : ¬ d.data.toList.headD 0 = 0 := fun e => hz (by rw [← hh, e]; rfl)
          by_cases hone : s[0].toNat = 248
          · by_cases hz2 : d[0].toNat < 248
            · rw [rdn_form _ _ hb (by omega) (.inr ⟨hone, by rw [hh]; exact hz2⟩)]
              exact readnum_one s d hd h0 hone h1 hz hz2 w
            · rw [rdn_ok _ _ hb (by omega) (by
                intro h
                rcases h with h | ⟨_, h⟩
                · exact hz' h
                · rw [hh] at h; exact hz2 h), hone]
              have e1 : val (d.data.toList.take (248 - 247)) = d[0].toNat := by
                rw [← hh]
                cases hl : d.data.toList with
                | nil => rw [hl] at hdl; simp at hdl; omega
                | cons a r => simp [val]
              rw [e1]
              exact readnum_ok1 s d hd h0 hone h1 (by omega) w
          · have ⟨k, hk2⟩ : ∃ k, s[0].toNat = 247 + k := ⟨s[0].toNat - 247, by omega⟩
            rw [rdn_ok _ _ hb (by omega) (by
                intro h
                rcases h with h | ⟨h, _⟩
                · exact hz' h
                · exact hone h), hk2, Nat.add_sub_cancel_left]
            exact readnum_okk s d k hd h0 hk2 (by omega) (by omega) (by omega) h1 hz w
  · have : s = ⟨#[]⟩ := by
      cases s with
      | mk a =>
        have h2 : a.size = 0 := by simpa [ByteArray.size] using h0
        rw [Array.eq_empty_of_size_eq_zero h2]
    subst this
    exact readnum_nil w
end Go.Proofs.Ytfghhhghhjbiaaa.Pl
