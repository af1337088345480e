/- What the document's own Num and digits answer: the same encoding. What the document's own ReadNum answers: the same as octet.ReadNum. What the document's Text and ReadText answer. What the document's head, read, Read, Check and May of layer 6 answer. What the document's read, Read, Check and May of layer 6 answer: read calls itself. What the document's Data, Atom, Num, Kind, Text, and what makes a term of parts, answer. What the document's made answers, of whatever parts; Row, Hash, Mac, Seal. What the document's Row, Hash, Mac, Seal, Text and ReadNum of layer 6 answer. What the stage's theorems about suites come down to: images of keys, what was sealed is opened, with no other key, unlike results of unlike texts; plain mathematics alone. Which keys organisations share, over plain numbers and bytes; plain mathematics alone. What the document's names of keys are, and who is in a set. -/
import Derived.Test.YtbdlegjklfkdmaaGreatDoorBallA1
import Derived.Deep.RegionWith
import Derived.WalkLawsBesides
import Derived.Deep.RegionHeld3
namespace Go.Proofs.YtbdlegjklfkdmaaGreatDoor.Pl
open Go.RowKit

theorem conv_at (W : World) (b : Nat) (x : Int) (h : W.cell? ⟨b, 0, none⟩ = some (.int .u8 x)) :
    (convert 121 9 (.slice (some ⟨b, 0, none⟩) 1 1)).run Tryz.prog W = .ok (.string ⟨#[UInt8.ofNat x.toNat]⟩) W := by
  rw [run_convert_bytes_string W _ _ _ (some ⟨b, 0, none⟩) 1 1 Tryz.underlying121 Tryz.underlying5 Tryz.underlying9]
  have hl := run_loadCells_list (P := Tryz.prog) W ⟨b, 0, none⟩ ([x].map (Value.int .u8)) (fun j v hj => by
    have hj' := (List.getElem?_eq_some_iff.1 hj).1
    obtain rfl : j = 0 := by simp at hj'; omega
    simp at hj
    rw [← hj]
    exact h)
  rw [run_bytesToString W ⟨b, 0, none⟩ 1 1 [x] hl]
  rfl
theorem conv_new (W : World) (x : Int) (T : TypeId) :
    (convert 121 9 (.slice (some ⟨W.heap.size, 0, none⟩) 1 1)).run Tryz.prog (W.alloc (.cells #[.int .u8 x] T)) = .ok (.string ⟨#[UInt8.ofNat x.toNat]⟩) (W.alloc (.cells #[.int .u8 x] T)) :=
  conv_at _ _ x (by rw [World.cell?_alloc_mark]; rfl)
theorem conv_newd (W : World) (x : Int) (T : TypeId) :
    (convert 121 9 (.slice (some ⟨W.heap.size, 0, none⟩) 1 1)).run Tryz.prog (W.alloc (.cells #[.int .u8 x] T)).drew = .ok (.string ⟨#[UInt8.ofNat x.toNat]⟩) (W.alloc (.cells #[.int .u8 x] T)).drew :=
  conv_at _ _ x (by rw [show (W.alloc (.cells #[.int .u8 x] T)).drew.cell? ⟨W.heap.size, 0, none⟩ = (W.alloc (.cells #[.int .u8 x] T)).cell? ⟨W.heap.size, 0, none⟩ from rfl, World.cell?_alloc_mark]; rfl)
attribute [local go_sem] conv_new conv_newd
theorem conv_kept {a w1 : World} (hb : Below a.heap.size a w1) (x : Int) : ∀ b, a.cell? ⟨b, 0, none⟩ = some (.int .u8 x) →
    (convert 121 9 (.slice (some ⟨b, 0, none⟩) 1 1)).run Tryz.prog w1 = .ok (.string ⟨#[UInt8.ofNat x.toNat]⟩) w1 :=
  fun b h => conv_at w1 b x ((hb.cell (p := ⟨b, 0, none⟩) (World.block_lt_of_cell? _ _ h)).trans h)



set_option maxRecDepth 100000 in
theorem digits_any (f : Nat) : ∀ (v : Nat) (w : World), v < 256 ^ f → f ≤ 8 →
    Calls Tryz.prog 113 #[.int .u64 v] w fun e w' => e = .returned (.string ⟨(dig f v).toArray⟩) ∧ Below w.heap.size w w' := by
  induction f with
  | zero =>
    intro v w hv _
    obtain rfl : v = 0 := by simpa using hv
    go_enter Tryz.func113, Tryz.ntmps113
    go_wp2_with fail
    go_ret
    exact ⟨rfl, Below.refl _ _⟩
  | succ f ih =>
    intro v w hv hf
    by_cases h0 : v = 0
    · subst h0
      go_enter Tryz.func113, Tryz.ntmps113
      go_wp2_with fail
      go_ret
      exact ⟨rfl, Below.refl _ _⟩
    · have hz : ((v : Int) == 0) = false := by rw [beq_eq_false_iff_ne]; omega
      have h9 : v < 18446744073709551616 := by rw [← two64]; exact Nat.lt_of_lt_of_le hv (Nat.pow_le_pow_right (by decide) hf)
      have hl := dig_length_le f (v / 256)
      have ih' : ∀ W, Calls Tryz.prog 113 #[.int .u64 ((v : Int) / 256)] W fun e w' => e = .returned (.string ⟨(dig f (v / 256)).toArray⟩) ∧ Below W.heap.size W w' := fun W => by
        have h := ih (v / 256) W (by rw [Nat.pow_succ] at hv; omega) (by omega)
        have e : ((v / 256 : Nat) : Int) = (v : Int) / 256 := by omega
        rw [e] at h
        exact h
      have IH := Lib.hid ih'
      have HD := Lib.hid (dig_succ f v h0)
      clear ih ih' hv h0
      go_enter Tryz.func113, Tryz.ntmps113
      go_wp2_with fail

      have hw1 : IntKind.u64.wrap ((v : Int) / 256) = (v : Int) / 256 := IntWalk.u64_in _ (by omega)
      have hw2 : IntKind.u64.wrap ((v : Int) % 256) = (v : Int) % 256 := IntWalk.u64_in _ (by omega)
      have hw4 : (v : Int).tmod 256 = (v : Int) % 256 := Int.tmod_eq_emod_of_nonneg (by omega)
      have hw3 : IntKind.u8.wrap ((v : Int) % 256) = (v : Int) % 256 := IntWalk.u8_in _ (by omega)
      go_region_with (go_at_call 113; refine (IH.out _).mono ?_; rintro e w1 ⟨rfl, hb⟩; have hcv := conv_kept hb ((v : Int) % 256))
      all_goals go_wp2_with fail
      all_goals go_ret
      all_goals refine ⟨ret_str (by rw [HD.out]; exact ByteArray.mk_append_mk _ _), ?_⟩
      · exact (below_undrew hb).alloc (below_undrew hb).size _
      · exact below_step ((Below.refl _ _).alloc (Nat.le_refl _) _) (below_undrew hb)
      · exact below_step ((Below.refl _ _).alloc (Nat.le_refl _) _) (below_undrew hb)

set_option maxRecDepth 100000 in
theorem refnum_any (v : Nat) (h8 : v < 256 ^ 8) (w : World) :
    Calls Tryz.prog 78 #[.int .u64 v] w fun e w' => e = .returned (.string ⟨(enc v).toArray⟩) ∧ Below w.heap.size w w' := by
  by_cases hv : v < 248
  · go_enter Tryz.func78, Tryz.ntmps78
    go_wp2_with fail
    go_ret
    exact ⟨ret_str (by rw [enc_small hv]), (Below.refl _ _).alloc (Nat.le_refl _) _⟩
  · have hl := dig_length_le 8 v
    have HD := Lib.hid (fun W => digits_any 8 v W h8 (Nat.le_refl _))
    have HE := Lib.hid (enc_big hv)
    clear h8
    go_enter Tryz.func78, Tryz.ntmps78
    go_wp2_with fail
    refine (HD.out _).mono ?_; rintro e w1 ⟨rfl, hb⟩
    go_wp2_with fail
    go_ret
    refine ⟨ret_str ?_, hb.alloc hb.size _⟩
    rw [HE.out, ByteArray.mk_append_mk, UInt8.ofNat_add]
    rfl
end Go.Proofs.YtbdlegjklfkdmaaGreatDoor.Pl

namespace Go.Proofs.YtbdlegjklfkdmaaGreatDoor.Pl
open Go.RowKit

set_option maxRecDepth 100000 in
theorem refreadnum_nil (w : World) :
    Calls Tryz.prog 92 #[.string ⟨#[]⟩] w fun e w' => e = .returned (.tuple #[.int .u64 0, .int .i64 0, .int .i64 6]) ∧ w = w' := by
  go_enter Tryz.func92, Tryz.ntmps92
  go_wp2
  go_ret3
  exact ⟨rfl, rfl⟩
set_option maxRecDepth 100000 in
theorem refreadnum_small (s : ByteArray) (h0 : 0 < s.size) (hb : s[0].toNat < 248) (w : World) :
    Calls Tryz.prog 92 #[.string s] w fun e w' => e = .returned (.tuple #[.int .u64 s[0].toNat, .int .i64 1, .int .i64 0]) ∧ w = w' := by
  have hne : s.toList.isEmpty = false := isEmpty_no h0
  go_enter Tryz.func92, Tryz.ntmps92
  go_wp2
  go_ret3
  exact ⟨rfl, rfl⟩
set_option maxRecDepth 100000 in
theorem refreadnum_end (s : ByteArray) (h0 : 0 < s.size) (hb : 248 ≤ s[0].toNat) (hb2 : s[0].toNat < 256) (hk : s.size < 1 + s[0].toNat - 247) (w : World) :
    Calls Tryz.prog 92 #[.string s] w fun e w' => e = .returned (.tuple #[.int .u64 0, .int .i64 0, .int .i64 6]) ∧ w = w' := by
  have hne : s.toList.isEmpty = false := isEmpty_no h0
  go_enter Tryz.func92, Tryz.ntmps92
  go_wp2
  go_ret3
  exact ⟨rfl, rfl⟩
/-- The number that the first j bytes behind the first one are. -/
def pre (s : ByteArray) (j : Nat) : Nat := val ((s.data.toList.drop 1).take j)
theorem pre_lt (s : ByteArray) (j : Nat) : pre s j < 256 ^ j :=
  Nat.lt_of_lt_of_le (val_lt _) (Nat.pow_le_pow_right (by decide) (by simp; omega))
theorem pre_succ (s : ByteArray) (j : Nat) (h : 1 + j < s.size) : pre s (j + 1) = pre s j * 256 + s[1 + j].toNat := by
  unfold pre
  have hl : (s.data.toList.drop 1).length = s.size - 1 := by simp
  rw [val_take _ j (by omega), List.getElem_drop]
  rfl
set_option maxHeartbeats 400000 in
set_option maxRecDepth 100000 in
theorem refreadnum_ok (s : ByteArray) (k : Nat) (h0 : 0 < s.size) (hb : s[0].toNat = 247 + k) (hk1 : 1 ≤ k) (hk8 : k ≤ 8) (h1 : 1 + k ≤ s.size) (L : List UInt8) (hL : (s.extract 0 (1 + k)).toList = L) (hx : (enc (pre s k) == L) = true) (w : World) :
    Calls Tryz.prog 92 #[.string s] w fun e w' => e = .returned (.tuple #[.int .u64 (pre s k), .int .i64 (1 + k), .int .i64 0]) ∧ Below w.heap.size w w' := by
  have hne : s.toList.isEmpty = false := isEmpty_no h0
  have hk7 : (1 + (247 + (k : Int)) - 247) = 1 + k := by omega
  have hd2 : decide (247 + (k : Int) < 248) = false := by simp; omega
  have hd1 : decide ((s.size : Int) < 1 + k) = false := by simp; omega
  have hp : pre s k < 256 ^ 8 := Nat.lt_of_lt_of_le (pre_lt s k) (Nat.pow_le_pow_right (by decide) hk8)
  have HP := Lib.hid hp
  clear hp
  go_enter Tryz.func92, Tryz.ntmps92
  go_wp2
  go_loop [6, 7] (fun v i => ∃ j : Nat, j ≤ k ∧ i = .int .i64 (1 + j) ∧ v = .int .u64 (pre s j)) (fun _ i => 9 - (intOf i).toNat)
  case atStart => exact ⟨0, Nat.zero_le _, rfl, rfl⟩
  case round =>
    obtain ⟨j, hj, rfl, rfl⟩ := hrel
    have HS := Lib.hid (fun h => pre_succ s j h)
    have HV := Lib.hid (pre_lt s j)
    go_wp2
    · have hlt : j < k := by assumption
      refine ⟨⟨j + 1, by omega, by go_num, ?_⟩, by simp [intOf]; omega⟩
      have e7 : pre s j < 72057594037927936 := Nat.lt_of_lt_of_le HV.out (Nat.pow_le_pow_right (n := 256) (j := 7) (by decide) (by omega))
      have eb : s[1 + j].toNat < 256 := s[1 + j].toNat_lt
      have e1 := HS.out (by omega)
      rw [IntWalk.u64_in ((pre s j : Int) * 256) (by omega), IntWalk.u64_in (s[1 + j].toNat : Int) (by omega), IntWalk.u64_in _ (by omega)]
      exact congrArg (Value.int .u64) (by omega)
    · obtain rfl : j = k := by omega
      clear HS HV
      have hq3 : (1 + (j : Int)).toNat = 1 + j := by omega
      have hq1 : (0 : Int) ≤ 1 + (j : Int) := by omega
      have hq2 : 1 + (j : Int) ≤ (s.size : Int) := by omega
      go_region_held3 (fun _ => True) (trivial) (first | (go_at_call 78; refine (refnum_any _ HP.out _).mono ?_; rintro e w1 ⟨rfl, hbw⟩))
      go_wp2
      go_ret3
      exact ⟨rfl, below_undrew hbw⟩
set_option maxHeartbeats 400000 in
set_option maxRecDepth 100000 in
theorem refreadnum_bad (s : ByteArray) (k : Nat) (h0 : 0 < s.size) (hb : s[0].toNat = 247 + k) (hk1 : 1 ≤ k) (hk8 : k ≤ 8) (h1 : 1 + k ≤ s.size) (L : List UInt8) (hL : (s.extract 0 (1 + k)).toList = L) (hx : (enc (pre s k) == L) = false) (w : World) :
    Calls Tryz.prog 92 #[.string s] w fun e w' => e = .returned (.tuple #[.int .u64 0, .int .i64 0, .int .i64 7]) ∧ Below w.heap.size w w' := by
  have hne : s.toList.isEmpty = false := isEmpty_no h0
  have hk7 : (1 + (247 + (k : Int)) - 247) = 1 + k := by omega
  have hd2 : decide (247 + (k : Int) < 248) = false := by simp; omega
  have hd1 : decide ((s.size : Int) < 1 + k) = false := by simp; omega
  have hp : pre s k < 256 ^ 8 := Nat.lt_of_lt_of_le (pre_lt s k) (Nat.pow_le_pow_right (by decide) hk8)
  have HP := Lib.hid hp
  clear hp
  go_enter Tryz.func92, Tryz.ntmps92
  go_wp2
  go_loop [6, 7] (fun v i => ∃ j : Nat, j ≤ k ∧ i = .int .i64 (1 + j) ∧ v = .int .u64 (pre s j)) (fun _ i => 9 - (intOf i).toNat)
  case atStart => exact ⟨0, Nat.zero_le _, rfl, rfl⟩
  case round =>
    obtain ⟨j, hj, rfl, rfl⟩ := hrel
    have HS := Lib.hid (fun h => pre_succ s j h)
    have HV := Lib.hid (pre_lt s j)
    go_wp2
    · have hlt : j < k := by assumption
      refine ⟨⟨j + 1, by omega, by go_num, ?_⟩, by simp [intOf]; omega⟩
      have e7 : pre s j < 72057594037927936 := Nat.lt_of_lt_of_le HV.out (Nat.pow_le_pow_right (n := 256) (j := 7) (by decide) (by omega))
      have eb : s[1 + j].toNat < 256 := s[1 + j].toNat_lt
      have e1 := HS.out (by omega)
      rw [IntWalk.u64_in ((pre s j : Int) * 256) (by omega), IntWalk.u64_in (s[1 + j].toNat : Int) (by omega), IntWalk.u64_in _ (by omega)]
      exact congrArg (Value.int .u64) (by omega)
    · obtain rfl : j = k := by omega
      clear HS HV
      have hq3 : (1 + (j : Int)).toNat = 1 + j := by omega
      have hq1 : (0 : Int) ≤ 1 + (j : Int) := by omega
      have hq2 : 1 + (j : Int) ≤ (s.size : Int) := by omega
      go_region_held3 (fun _ => True) (trivial) (first | (go_at_call 78; refine (refnum_any _ HP.out _).mono ?_; rintro e w1 ⟨rfl, hbw⟩))
      go_wp2
      go_ret3
      exact ⟨rfl, below_undrew hbw⟩
/-- The document's ReadNum, whatever it is given. -/
theorem refreadnum_any (s : ByteArray) (hs : s.size ≤ 9223372036854775807) (w : World) :
    Calls Tryz.prog 92 #[.string s] w fun e w' => e = .returned (.tuple #[.int .u64 (rdn s.data.toList).1, .int .i64 (rdn s.data.toList).2.1, .int .i64 (rdn s.data.toList).2.2]) ∧ Below w.heap.size w w' := by
  by_cases h0 : 0 < s.size
  · have hl : s.data.toList.length = s.size := by simp
    have hb2 : s[0].toNat < 256 := s[0].toNat_lt
    have hlist : s.data.toList = s[0] :: s.data.toList.drop 1 := by
      cases hd : s.data.toList with
      | nil => rw [hd] at hl; simp at hl; omega
      | cons a r =>
        have h2 : s.data.toList[0]'(by omega) = a := by simp [hd]
        have h3 : s[0] = a := h2
        simp [h3]
    have hdl : (s.data.toList.drop 1).length = s.size - 1 := by simp
    by_cases hb : s[0].toNat < 248
    · rw [hlist, rdn_small _ _ hb]
      exact (refreadnum_small s h0 hb w).mono fun e w' ⟨he, hw⟩ => ⟨he, hw ▸ Below.refl _ _⟩
    · by_cases hk : s.size - 1 < s[0].toNat - 247
      · rw [hlist, rdn_end _ _ hb (by omega)]
        exact (refreadnum_end s h0 (by omega) hb2 (by omega) w).mono fun e w' ⟨he, hw⟩ => ⟨he, hw ▸ Below.refl _ _⟩
      · obtain ⟨k, hk2⟩ : ∃ k, s[0].toNat = 247 + k := ⟨s[0].toNat - 247, by omega⟩
        have hlk : ((s.data.toList.drop 1).take k).length = k := by simp; omega
        have hcut : (s.extract 0 (1 + k)).toList = s[0] :: (s.data.toList.drop 1).take k := by
          rw [ByteArray.toList_eq, Lib.extract_data]
          simp only [List.drop_zero, Nat.sub_zero]
          conv => lhs; rw [hlist]
          rw [Nat.add_comm 1 k, List.take_succ_cons]
        have hs0 : s[0] = UInt8.ofNat (247 + k) := UInt8.toNat.inj (by simp; omega)
        have hev := enc_val (d := (s.data.toList.drop 1).take k) (by omega) (by omega)
        rw [hlk, ← hs0, headD_take (by omega)] at hev
        by_cases hf : (s.data.toList.drop 1).headD 0 = 0 ∨ (s[0].toNat = 248 ∧ ((s.data.toList.drop 1).headD 0).toNat < 248)
        · rw [hlist, rdn_form _ _ hb (by omega) hf]
          refine refreadnum_bad s k h0 hk2 (by omega) (by omega) (by omega) _ hcut ?_ w
          rw [beq_eq_false_iff_ne]
          intro he
          refine hev.1 he ?_
          rcases hf with h | ⟨h, h'⟩
          · exact .inl h
          · exact .inr ⟨by omega, h'⟩
        · rw [hlist, rdn_ok _ _ hb (by omega) hf, hk2, Nat.add_sub_cancel_left]
          refine refreadnum_ok s k h0 hk2 (by omega) (by omega) (by omega) _ hcut ?_ w
          rw [beq_iff_eq]
          refine hev.2 ?_
          intro h
          apply hf
          rcases h with h | ⟨h, h'⟩
          · exact .inl h
          · exact .inr ⟨by omega, h'⟩
  · have : s = ⟨#[]⟩ := by
      cases s with
      | mk a =>
        have h2 : a.size = 0 := by simpa [ByteArray.size] using h0
        rw [Array.eq_empty_of_size_eq_zero h2]
    subst this
    exact (refreadnum_nil w).mono fun e w' ⟨he, hw⟩ => ⟨he, hw ▸ Below.refl _ _⟩
end Go.Proofs.YtbdlegjklfkdmaaGreatDoor.Pl

namespace Go.Proofs.YtbdlegjklfkdmaaGreatDoor.Pl
open Go.RowKit

set_option maxRecDepth 100000 in
theorem reftext_any (s : ByteArray) (w : World) (hs : s.size ≤ 281474976710656) :
    Calls Tryz.prog 75 #[.string s] w fun e w' => e = .returned (.string ⟨(txt s.data.toList).toArray⟩) ∧ Below w.heap.size w w' := by
  have h8 : s.size < 256 ^ 8 := by rw [two64]; omega
  have hl := (enc_len s.size).2
  have H8 := Lib.hid h8
  clear h8
  go_enter Tryz.func75, Tryz.ntmps75
  go_wp2_with (go_at_call 78; refine (refnum_any _ H8.out _).mono ?_; rintro e w' ⟨rfl, hb⟩)
  go_ret
  exact ⟨ret_str (text_list s), hb⟩

set_option maxRecDepth 100000 in
theorem refreadtext_any (s : ByteArray) (m : Int) (w : World) (hs : s.size ≤ 281474976710656) (m1 : -9223372036854775808 ≤ m) (m2 : m ≤ 9223372036854775807) :
    Calls Tryz.prog 125 #[.string s, .int .i64 m] w fun e w' =>
      e = .returned (.tuple #[.string ⟨(rdt s.data.toList m).1.toArray⟩, .int .i64 (rdt s.data.toList m).2.1, .int .i64 (rdt s.data.toList m).2.2]) ∧ Below w.heap.size w w' := by
  have ⟨v, n, e, hr⟩ : ∃ v n e, rdn s.data.toList = (v, n, e) := ⟨_, _, _, rfl⟩
  have hc : ∀ W, Calls Tryz.prog 92 #[.string s] W fun e' w' => e' = .returned (.tuple #[.int .u64 v, .int .i64 n, .int .i64 e]) ∧ Below W.heap.size W w' := by
    intro W
    have h := refreadnum_any s (by omega) W
    rw [hr] at h
    exact h
  have hlen : s.data.toList.length = s.size := by simp
  have HC := Lib.hid hc
  clear hc
  by_cases he : e = 0
  · subst he
    obtain ⟨n1, n2, hn, hv⟩ := rdn_sound hr
    clear hn
    have hv' : v < 18446744073709551616 := by rw [two64] at hv; exact hv
    clear hv
    have hns : n ≤ s.size := by omega
    by_cases h1 : max m 0 < (v : Int)
    · have HR := Lib.hid (rdt_long hr h1)
      clear hr hlen
      by_cases hm : m < 0
      · have hv1 : 0 < v := by omega
        clear h1
        go_enter Tryz.func125, Tryz.ntmps125
        go_wp2_with (go_at_call 92; refine (HC.out _).mono ?_; rintro e w' ⟨rfl, hb⟩)
        go_ret3
        exact ⟨by rw [HR.out]; rfl, hb⟩
      · obtain ⟨k, rfl⟩ : ∃ k : Nat, m = k := ⟨m.toNat, by omega⟩
        have hv1 : k < v := by omega
        clear h1
        go_enter Tryz.func125, Tryz.ntmps125
        go_wp2_with (go_at_call 92; refine (HC.out _).mono ?_; rintro e w' ⟨rfl, hb⟩)
        go_ret3
        exact ⟨by rw [HR.out]; rfl, hb⟩
    · by_cases h2 : s.size - n < v
      · have HR := Lib.hid (rdt_end (m := m) hr h1 (by rw [hlen]; exact h2))
        clear hr hlen
        by_cases hm : m < 0
        · have hv1 : v = 0 := by omega
          omega
        · obtain ⟨k, rfl⟩ : ∃ k : Nat, m = k := ⟨m.toNat, by omega⟩
          have hv1 : v ≤ k := by omega
          clear h1
          go_enter Tryz.func125, Tryz.ntmps125
          go_wp2_with (go_at_call 92; refine (HC.out _).mono ?_; rintro e w' ⟨rfl, hb⟩)
          go_ret3
          exact ⟨by rw [HR.out]; rfl, hb⟩
      · have HR := Lib.hid (rdt_ok (m := m) hr h1 (by rw [hlen]; exact h2))
        have HE : Hid (s.extract n (n + v) = ⟨((s.data.toList.drop n).take v).toArray⟩) := by
          apply ByteArray.ext
          apply Array.toList_inj.1
          rw [Lib.extract_data]
          simp
        clear hr hlen
        by_cases hm : m < 0
        · have hv1 : v = 0 := by omega
          subst hv1
          clear h1 h2
          go_enter Tryz.func125, Tryz.ntmps125
          go_wp2_with (go_at_call 92; refine (HC.out _).mono ?_; rintro e w' ⟨rfl, hb⟩)
          go_ret3
          exact ⟨by rw [HR.out]; exact ret3s (by simp; rfl) (by simp) rfl, hb⟩
        · obtain ⟨k, rfl⟩ : ∃ k : Nat, m = k := ⟨m.toNat, by omega⟩
          have hv1 : v ≤ k := by omega
          clear h1
          go_enter Tryz.func125, Tryz.ntmps125
          go_wp2_with (go_at_call 92; refine (HC.out _).mono ?_; rintro e w' ⟨rfl, hb⟩)
          go_ret3
          exact ⟨by rw [HR.out]; exact ret3s HE.out (by simp) rfl, hb⟩
  · have HR := Lib.hid (rdt_err (m := m) hr he)
    have he' : ((e : Int) != 0) = true := by rw [bne_iff_ne]; omega
    clear hr hlen
    go_enter Tryz.func125, Tryz.ntmps125
    go_wp2_with (go_at_call 92; refine (HC.out _).mono ?_; rintro e w' ⟨rfl, hb⟩)
    go_ret3
    exact ⟨by rw [HR.out]; rfl, hb⟩
end Go.Proofs.YtbdlegjklfkdmaaGreatDoor.Pl

namespace Go.Proofs.YtbdlegjklfkdmaaGreatDoor.Pl
open Go.RowKit

def hd3 (h : Nat × Nat × Nat) : Value := .tuple #[.int .i64 h.1, .int .i64 h.2.1, .int .i64 h.2.2]
set_option maxHeartbeats 2000000 in
set_option maxRecDepth 100000 in
theorem rhead_any (s : ByteArray) (hs : s.size ≤ 281474976710656) (w : World) :
    Calls Tryz.prog 123 #[.string s] w fun e w' => e = .returned (hd3 (headP (bl s))) ∧ Below w.heap.size w w' := by
  by_cases h0 : s.size = 0
  · have HZ : Hid (headP (bl s) = (0, 0, 6)) := Lib.hid (by rw [bl_nil h0]; rfl)
    obtain rfl : s = ⟨#[]⟩ := bl_inj (bl_nil h0)
    clear h0 hs
    go_enter Tryz.func123, Tryz.ntmps123
    go_wp2_with fail
    go_ret3
    exact ⟨by rw [HZ.out]; rfl, Below.refl _ _⟩
  · have hpos : 0 < s.size := by omega
    have q0 : ((s.size : Int) == 0) = false := by rw [beq_eq_false_iff_ne]; omega
    obtain ⟨b, hb⟩ : ∃ b : UInt8, b = (bl s).getD 0 0 := ⟨_, rfl⟩
    have i1 : ∀ V : World, (Instr.index 9 (.string s) (.int .i64 0)).run Tryz.prog V = .ok (.int .u8 (b.toNat : Int)) V := tstr_index s 0 b hpos hb
    have sl : ∀ V : World, (Instr.sliceAt 9 (.string s) (some (.int .i64 1)) none none).run Tryz.prog V = .ok (.string (s.extract 1 s.size)) V := tslice_from s 1 (by omega)
    have hc : bl s = b :: (bl s).drop 1 := by rw [hb]; exact bl_cons hpos
    have hx : bl (s.extract 1 s.size) = (bl s).drop 1 := bl_from s 1
    have hxs : (s.extract 1 s.size).size ≤ 281474976710656 := by rw [size_bl, hx, List.length_drop, bl_length]; omega
    rw [← hx] at hc
    obtain ⟨z, hz⟩ : ∃ z, z = headP (bl s) := ⟨_, rfl⟩
    rw [← hz]
    rw [hc] at hz
    generalize s.extract 1 s.size = x at *
    have HT := Lib.hid (fun (m : Int) (m1 : -9223372036854775808 ≤ m) (m2 : m ≤ 9223372036854775807) V => refreadtext_any x m V (by omega) m1 m2)
    have HR := Lib.hid (fun V => refreadnum_any x (by omega) V)
    have HXS := Lib.hid hxs
    obtain ⟨n, hn⟩ : ∃ n, n = b.toNat := ⟨_, rfl⟩
    have b_of : ∀ c : UInt8, b = c ↔ n = c.toNat := fun c => by rw [hn]; exact ⟨fun e => by rw [e], fun e => UInt8.toNat_inj.1 e⟩
    rw [← hn] at i1
    simp only [headP] at hz
    have hbl : x.data.toList = bl x := rfl
    have ef : ∀ m : Nat, n ≠ m → ((n : Int) == (m : Int)) = false := fun m h => by rw [beq_eq_false_iff_ne]; omega
    by_cases e100 : n = 100
    · rw [if_pos ((b_of 100).2 e100)] at hz
      obtain ⟨r, hr⟩ : ∃ r, r = rdt (bl x) 1024 := ⟨_, rfl⟩
      have hsz := rdt_size (bl x) 1024
      rw [← hr] at hz hsz
      have hT := HT.out 1024 (by decide) (by decide)
      rw [hbl, ← hr] at hT
      have HTT := Lib.hid hT
      have HZ := Lib.hid hz
      obtain ⟨t, k, f⟩ := r
      have hk : k ≤ 281474976710656 := by rw [bl_length] at hsz; have := HXS.out; simp only at hsz; omega
      subst e100
      clear hb hc hx hxs hz hr hsz hn b_of HT HR hT hs h0 ef
      go_enter Tryz.func123, Tryz.ntmps123
      go_wp2_with fail
      refine (HTT.out w).mono ?_; rintro e w1 ⟨rfl, b1⟩
      have B1 := Lib.hid b1
      clear b1
      go_wp2_with fail
      go_ret3
      exact ⟨by rw [HZ.out]; simp [hd3], B1.out⟩
    · rw [if_neg (fun e => e100 ((b_of 100).1 e))] at hz
      have q100 := ef 100 e100
      by_cases e97 : n = 97
      · rw [if_pos ((b_of 97).2 e97)] at hz
        obtain ⟨r, hr⟩ : ∃ r, r = rdt (bl x) 32 := ⟨_, rfl⟩
        have hsz := rdt_size (bl x) 32
        have hsd : ∀ t k, r = (t, k, 0) → t.length ≤ 32 := fun t k e => by have := (rdt_sound (hr.symm.trans e)).2.2.1; omega
        rw [← hr] at hz hsz
        have hT := HT.out 32 (by decide) (by decide)
        rw [hbl, ← hr] at hT
        have HTT := Lib.hid hT
        have HZ := Lib.hid hz
        obtain ⟨t, k, f⟩ := r
        have hk : k ≤ 281474976710656 := by rw [bl_length] at hsz; have := HXS.out; simp only at hsz; omega
        have HSD := Lib.hid (fun e : f = 0 => hsd t k (by rw [e]))
        subst e97
        clear hb hc hx hxs hz hr hsz hn b_of HT HR hT hs h0 ef hsd e100
        by_cases hf : f = 0
        · have HN := Lib.hid (fun V => rname_any ⟨t.toArray⟩ (by have := HSD.out hf; simp only [size_lit]; omega) V)
          rw [bl_mk] at HN
          subst hf
          cases hno : nameOK t with
          | true =>
            rw [hno] at HN
            have HQ : Hid (z = (1 + k, 0, 0)) := Lib.hid (by rw [HZ.out]; simp only [hno]; simp)
            clear hno
            go_enter Tryz.func123, Tryz.ntmps123
            go_wp2_with fail
            refine (HTT.out w).mono ?_; rintro e w1 ⟨rfl, b1⟩
            have B1 := Lib.hid b1
            clear b1
            go_wp2_with fail
            refine (HN.out _).mono ?_; rintro e w2 ⟨rfl, b2⟩
            have B2 := Lib.hid (below_step B1.out b2)
            clear b2
            go_wp2_with fail
            go_ret3
            exact ⟨by rw [HQ.out]; simp [hd3], B2.out⟩
          | false =>
            rw [hno] at HN
            have HQ : Hid (z = (0, 0, 7)) := Lib.hid (by rw [HZ.out]; simp only [hno]; simp)
            clear hno
            go_enter Tryz.func123, Tryz.ntmps123
            go_wp2_with fail
            refine (HTT.out w).mono ?_; rintro e w1 ⟨rfl, b1⟩
            have B1 := Lib.hid b1
            clear b1
            go_wp2_with fail
            refine (HN.out _).mono ?_; rintro e w2 ⟨rfl, b2⟩
            have B2 := Lib.hid (below_step B1.out b2)
            clear b2
            go_wp2_with fail
            go_ret3
            exact ⟨by rw [HQ.out]; simp [hd3], B2.out⟩
        · have qf : ((f : Int) == 0) = false := by rw [beq_eq_false_iff_ne]; omega
          have HQ : Hid (z = (1 + k, 0, f)) := Lib.hid (by rw [HZ.out, if_neg (fun h => hf h.1)])
          clear hf
          go_enter Tryz.func123, Tryz.ntmps123
          go_wp2_with fail
          refine (HTT.out w).mono ?_; rintro e w1 ⟨rfl, b1⟩
          have B1 := Lib.hid b1
          clear b1
          go_wp2_with fail
          go_ret3
          exact ⟨by rw [HQ.out]; simp [hd3], B1.out⟩
      · rw [if_neg (fun e => e97 ((b_of 97).1 e))] at hz
        have q97 := ef 97 e97
        by_cases e114 : n = 114
        · rw [if_pos ((b_of 114).2 e114)] at hz
          obtain ⟨r, hr⟩ : ∃ r, r = rdn (bl x) := ⟨_, rfl⟩
          have hT := HR.out
          rw [hbl, ← hr] at hT
          have HTT := Lib.hid hT
          rw [← hr] at hz
          have HZ := Lib.hid hz
          obtain ⟨v, k, f⟩ := r
          have hk : k ≤ 281474976710656 ∧ v < 18446744073709551616 := by
            rcases rdn_err hr.symm with e | ⟨e1, e2, _⟩
            · subst e
              have h1 := rdn_sound hr.symm
              have h2 := h1.2.1
              have h3 := h1.2.2.2
              rw [bl_length] at h2
              rw [two64] at h3
              have := HXS.out
              exact ⟨by omega, h3⟩
            · exact ⟨by omega, by omega⟩
          obtain ⟨hk, hv⟩ := hk
          have HVK : Hid (f ≠ 0 → v = 0 ∧ k = 0) := Lib.hid (fun h => (rdn_err hr.symm).elim (fun e => absurd e h) (fun e => ⟨e.1, e.2.1⟩))
          subst e114
          clear hb hc hx hxs hz hr hn b_of HT HR hT hs h0 ef e100 e97
          by_cases hf : f = 0
          · subst hf
            by_cases h32 : 32 < v
            · have HQ : Hid (z = (0, 0, 5)) := Lib.hid (by rw [HZ.out]; simp [h32])
              have h32' : (32 : Int) < (v : Int) := by omega
              clear h32
              go_enter Tryz.func123, Tryz.ntmps123
              go_wp2_with fail
              refine (HTT.out w).mono ?_; rintro e w1 ⟨rfl, b1⟩
              have B1 := Lib.hid b1
              clear b1
              go_wp2_with fail
              go_ret3
              exact ⟨by rw [HQ.out]; simp [hd3], B1.out⟩
            · have HQ : Hid (z = (1 + k, v, 0)) := Lib.hid (by rw [HZ.out]; simp [h32])
              have h32' : ¬ (32 : Int) < (v : Int) := by omega
              have hcv : ∀ V : World, (convert 108 3 (.int .u64 (v : Int))).run Tryz.prog V = .ok (.int .i64 (v : Int)) V := fun V => by
                have hw : IntKind.i64.wrap (v : Int) = (v : Int) := IntWalk.i64_in _ (by omega)
                go_simp
              clear h32
              go_enter Tryz.func123, Tryz.ntmps123
              go_wp2_with fail
              refine (HTT.out w).mono ?_; rintro e w1 ⟨rfl, b1⟩
              have B1 := Lib.hid b1
              clear b1
              go_wp2_with fail
              go_ret3
              exact ⟨by rw [HQ.out]; simp [hd3], B1.out⟩
          · have qf : ((f : Int) == 0) = false := by rw [beq_eq_false_iff_ne]; omega
            have HQ : Hid (z = (1 + k, v, f)) := Lib.hid (by rw [HZ.out, if_neg (fun h => hf h.1)])
            obtain ⟨rfl, rfl⟩ := HVK.out hf
            have hcv : ∀ V : World, (convert 108 3 (.int .u64 0)).run Tryz.prog V = .ok (.int .i64 0) V := fun V => by
              have hw : IntKind.i64.wrap 0 = 0 := by decide
              go_simp
            clear hf
            go_enter Tryz.func123, Tryz.ntmps123
            go_wp2_with fail
            refine (HTT.out w).mono ?_; rintro e w1 ⟨rfl, b1⟩
            have B1 := Lib.hid b1
            clear b1
            go_wp2_with fail
            go_ret3
            exact ⟨by rw [HQ.out]; simp [hd3], B1.out⟩
        · rw [if_neg (fun e => e114 ((b_of 114).1 e))] at hz
          have q114 := ef 114 e114
          by_cases e104 : n = 104
          · rw [if_pos ((b_of 104).2 e104)] at hz
            have HZ := Lib.hid hz
            subst e104
            clear hb hc hx hxs hz hn b_of HT HR hs h0 ef e100 e97 e114
            go_enter Tryz.func123, Tryz.ntmps123
            go_wp2_with fail
            go_ret3
            exact ⟨by rw [HZ.out]; rfl, Below.refl _ _⟩
          · rw [if_neg (fun e => e104 ((b_of 104).1 e))] at hz
            have q104 := ef 104 e104
            by_cases e109 : n = 109
            · rw [if_pos ((b_of 109).2 e109)] at hz
              have HZ := Lib.hid hz
              subst e109
              clear hb hc hx hxs hz hn b_of HT HR hs h0 ef e100 e97 e114 e104
              go_enter Tryz.func123, Tryz.ntmps123
              go_wp2_with fail
              go_ret3
              exact ⟨by rw [HZ.out]; rfl, Below.refl _ _⟩
            · rw [if_neg (fun e => e109 ((b_of 109).1 e))] at hz
              have q109 := ef 109 e109
              by_cases e115 : n = 115
              · rw [if_pos ((b_of 115).2 e115)] at hz
                have HZ := Lib.hid hz
                subst e115
                clear hb hc hx hxs hz hn b_of HT HR hs h0 ef e100 e97 e114 e104 e109
                go_enter Tryz.func123, Tryz.ntmps123
                go_wp2_with fail
                go_ret3
                exact ⟨by rw [HZ.out]; rfl, Below.refl _ _⟩
              · rw [if_neg (fun e => e115 ((b_of 115).1 e))] at hz
                have q115 := ef 115 e115
                have HZ := Lib.hid hz
                clear hb hc hx hxs hz hn b_of HT HR hs h0 ef e100 e97 e114 e104 e109 e115
                go_enter Tryz.func123, Tryz.ntmps123
                go_wp2_with fail
                go_ret3
                exact ⟨by rw [HZ.out]; rfl, Below.refl _ _⟩
def rd2 (h : Nat × Nat) : Value := .tuple #[.int .i64 h.1, .int .i64 h.2]
/-- Of k terms and the rest: as far as the first goes, then the others. -/
theorem loopP_add (rd : List UInt8 → Nat × Nat) : ∀ (i k : Nat) (s : List UInt8) (m : Nat), loopP rd i s = (m, 0) → loopP rd (i + k) s = if (loopP rd k (s.drop m)).2 = 0 then (m + (loopP rd k (s.drop m)).1, 0) else (0, (loopP rd k (s.drop m)).2)
  | 0, k, s, m, h => by
    simp only [loopP, Prod.mk.injEq, and_true] at h
    subst h
    rw [Nat.zero_add, List.drop_zero, Nat.zero_add]
    split
    · rename_i h; exact Prod.ext rfl h
    · rename_i h
      -- what is wrong bears no length
      cases k with
      | zero => exact absurd rfl h
      | succ k =>
        simp only [loopP] at h ⊢
        split at h
        · rename_i h1
          split at h
          · exact absurd rfl h
          · rename_i h2
            rw [if_pos h1, if_neg h2]
        · rename_i h1
          rw [if_neg h1]
  | i + 1, k, s, m, h => by
    rw [loopP] at h
    split at h
    · rename_i h1
      split at h
      · rename_i h2
        simp only [Prod.mk.injEq, and_true] at h
        have ih := loopP_add rd i k (s.drop (rd s).1) (loopP rd i (s.drop (rd s).1)).1 (Prod.ext rfl h2)
        rw [List.drop_drop, h] at ih
        rw [show i + 1 + k = (i + k) + 1 by omega, loopP, if_pos h1, ih]
        split
        · rename_i h3
          rw [if_pos rfl, ← h, Nat.add_assoc]
        · rfl
      · rename_i h2
        simp only [Prod.mk.injEq] at h
        exact absurd h.2 h2
    · rename_i h1
      simp only [Prod.mk.injEq] at h
      exact absurd h.2 h1
theorem loopP_one (rd : List UInt8 → Nat × Nat) (s : List UInt8) : loopP rd 1 s = if (rd s).2 = 0 then ((rd s).1, 0) else (0, (rd s).2) := by
  simp [loopP]
end Go.Proofs.YtbdlegjklfkdmaaGreatDoor.Pl

namespace Go.Proofs.YtbdlegjklfkdmaaGreatDoor.Pl
open Go.RowKit

theorem head_err {s : List UInt8} (h : (headP s).2.2 ≠ 0) : (headP s).2.1 = 0 := by
  cases s with
  | nil => rfl
  | cons b r =>
    simp only [headP] at h ⊢
    split
    · rfl
    · rename_i h100
      rw [if_neg h100] at h
      split
      · rename_i h97
        rw [if_pos h97] at h
        split <;> rfl
      · rename_i h97
        rw [if_neg h97] at h
        split
        · rename_i h114
          rw [if_pos h114] at h
          split
          · rfl
          · rename_i hno
            rw [if_neg hno] at h
            simp only at h ⊢
            rcases rdn_err (l := r) (v := (rdn r).1) (n := (rdn r).2.1) (e := (rdn r).2.2) rfl with e | e
            · exact absurd e h
            · exact e.1
        · rename_i h114
          rw [if_neg h114] at h
          split
          · rename_i h104; rw [if_pos h104] at h; exact absurd rfl h
          · rename_i h104
            rw [if_neg h104] at h
            split
            · rename_i h109; rw [if_pos h109] at h; exact absurd rfl h
            · rename_i h109
              rw [if_neg h109] at h
              split
              · rename_i h115; rw [if_pos h115] at h; exact absurd rfl h
              · rfl
theorem head_parts {s : List UInt8} {n p : Nat} (h : headP s = (n, p, 0)) : p ≤ 32 := by
  obtain ⟨c, hk⟩ := head_kind (head_front h).2
  cases hk <;> omega
theorem loopP_good {rd : List UInt8 → Nat × Nat} {i : Nat} {s : List UInt8} {m : Nat} (h : loopP rd i s = (m, 0)) (k : (rd (s.drop m)).2 = 0) : loopP rd (i + 1) s = (m + (rd (s.drop m)).1, 0) := by
  have e := loopP_add rd i 1 s m h
  rw [loopP_one, if_pos k] at e
  rw [e]; rfl
theorem loopP_bad {rd : List UInt8 → Nat × Nat} {i p : Nat} {s : List UInt8} {m : Nat} (h : loopP rd i s = (m, 0)) (hi : i < p) (k : (rd (s.drop m)).2 ≠ 0) : (loopP rd p s).2 = (rd (s.drop m)).2 := by
  obtain ⟨q, rfl⟩ : ∃ q, p = i + (q + 1) := ⟨p - i - 1, by omega⟩
  have e1 : loopP rd (q + 1) (s.drop m) = (0, (rd (s.drop m)).2) := by rw [loopP, if_neg k]
  have e := loopP_add rd i (q + 1) s m h
  rw [e1] at e
  rw [e, if_neg k]
theorem readP_len (d : Nat) (s : List UInt8) (n : Nat) (h : readP d s = (n, 0)) : n ≤ s.length := by
  obtain ⟨t, _, _, e1, e2⟩ := read_sound d s n h
  have := congrArg List.length e2
  rw [List.length_append, ← e1] at this
  omega
theorem readP_err (d : Nat) (s : List UInt8) (h : (readP d s).2 ≠ 0) : (readP d s).1 = 0 := by
  cases d with
  | zero => rfl
  | succ d =>
    simp only [readP] at h ⊢
    split
    · rename_i h1
      rw [if_pos h1] at h
      split
      · rename_i h2
        rw [if_pos h2] at h
        exact absurd rfl h
      · rfl
    · rfl

set_option maxHeartbeats 4000000 in
set_option maxRecDepth 100000 in
theorem rread_any (d : Nat) : ∀ (s : ByteArray) (w : World), d ≤ 16 → s.size ≤ 281474976710656 →
    Calls Tryz.prog 124 #[.string s, .int .i64 (17 - (d : Int))] w fun e w' => e = .returned (rd2 (readP d (bl s))) ∧ Below w.heap.size w w' := by
  induction d with
  | zero =>
    intro s w _ _
    obtain ⟨D, hD⟩ : ∃ D : Int, D = 17 - ((0 : Nat) : Int) := ⟨_, rfl⟩
    rw [← hD]
    have hD' : D = 17 := by omega
    subst hD'
    clear hD
    go_enter Tryz.func124, Tryz.ntmps124
    go_wp2_with fail
    go_ret2
    exact ⟨rfl, Below.refl _ _⟩
  | succ d ih =>
    intro s w hd hs
    obtain ⟨D, hD⟩ : ∃ D : Int, D = 17 - ((d + 1 : Nat) : Int) := ⟨_, rfl⟩
    have IH : Hid (∀ (x : ByteArray) (V : World), x.size ≤ 281474976710656 → Calls Tryz.prog 124 #[.string x, .int .i64 (D + 1)] V fun e w' => e = .returned (rd2 (readP d (bl x))) ∧ Below V.heap.size V w') := Lib.hid (fun x V hx => by
      have h := ih x V (by omega) hx
      rw [show (17 - (d : Int)) = D + 1 by omega] at h
      exact h)
    rw [← hD]
    have hD1 : D ≤ 16 := by omega
    have hD0 : 0 ≤ D := by omega
    have HH := Lib.hid (rhead_any s hs w)
    obtain ⟨z, hz⟩ : ∃ z, z = readP (d + 1) (bl s) := ⟨_, rfl⟩
    rw [← hz]
    simp only [readP] at hz
    have HE := Lib.hid (head_err (s := bl s))
    have HF := Lib.hid (fun n p (e : headP (bl s) = (n, p, 0)) => And.intro (head_front e).1 (head_parts e))
    generalize headP (bl s) = hd at *
    obtain ⟨h, p, e⟩ := hd
    simp only at hz HE HF
    have HSZ := Lib.hid hs
    clear ih hd hD hs
    by_cases he : e = 0
    · subst he
      rw [if_pos rfl] at hz
      have hle : h ≤ s.size := by rw [← bl_length]; exact (HF.out h p rfl).1
      have hp : p ≤ 32 := (HF.out h p rfl).2
      have HZ := Lib.hid hz
      have HLE := Lib.hid hle
      clear hz hle HE HF
      go_enter Tryz.func124, Tryz.ntmps124
      go_wp2_with fail
      refine HH.out.mono ?_; rintro e w1 ⟨rfl, b1⟩
      have B1 := Lib.hid b1
      clear b1
      unfold hd3
      go_wp2_with fail
      go_loopw [6, 8, 9] (fun nv ev iv wr => ∃ i n e : Nat, nv = .int .i64 n ∧ ev = .int .i64 e ∧ iv = .int .i64 i ∧ i ≤ p ∧ n ≤ 281474976710656 ∧ Hid (e = 0 → loopP (readP d) i ((bl s).drop h) = (n - h, 0) ∧ h ≤ n ∧ n ≤ s.size) ∧ Hid (e ≠ 0 → (loopP (readP d) p ((bl s).drop h)).2 = e) ∧ Hid (Below w.heap.size w wr)) (fun _ _ iv _ => p - (intOf iv).toNat)
      case atStart => exact ⟨0, h, 0, rfl, rfl, rfl, Nat.zero_le _, by have := HLE.out; have := HSZ.out; omega, Lib.hid (fun _ => ⟨by rw [Nat.sub_self]; rfl, Nat.le_refl _, HLE.out⟩), Lib.hid (fun h => absurd rfl h), B1⟩
      case round =>
        obtain ⟨i, n, e, rfl, rfl, rfl, hip, hn, hok, hbad, hb⟩ := hrel
        by_cases he : e = 0
        · subst he
          obtain ⟨l1, l2, l3⟩ := hok.out rfl
          by_cases hi : i < p
          · have hi' : (i : Int) < (p : Int) := by omega
            have sl : ∀ V : World, (Instr.sliceAt 9 (.string s) (some (.int .i64 (n : Int))) none none).run Tryz.prog V = .ok (.string (s.extract n s.size)) V := tslice_from s n l3
            have hx : bl (s.extract n s.size) = ((bl s).drop h).drop (n - h) := by rw [bl_from, List.drop_drop, show h + (n - h) = n by omega]
            have hxs : (s.extract n s.size).size ≤ 281474976710656 := by rw [size_bl, bl_from, List.length_drop, bl_length]; have := HSZ.out; omega
            have hC := IH.out (s.extract n s.size) wr hxs
            have hadd1 := loopP_good l1 (rd := readP d)
            have haddp := loopP_bad l1 hi (rd := readP d)
            rw [← hx] at hadd1 haddp
            have hlen := readP_len d (bl (s.extract n s.size)) (readP d (bl (s.extract n s.size))).1
            have herr := readP_err d (bl (s.extract n s.size))
            have hxl : (bl (s.extract n s.size)).length = s.size - n := by rw [bl_from, List.length_drop, bl_length]
            generalize s.extract n s.size = x at *
            obtain ⟨r, hr⟩ : ∃ r, r = readP d (bl x) := ⟨_, rfl⟩
            rw [← hr] at hadd1 haddp hC hlen herr
            obtain ⟨m, f⟩ := r
            simp only at hadd1 haddp hlen herr
            have hm : n + m ≤ 281474976710656 := by
              by_cases hf : f = 0
              · have := hlen (by rw [hf]); rw [hxl] at this; have := HSZ.out; omega
              · rw [herr hf]; omega
            have HNEW : Hid (f = 0 → loopP (readP d) (i + 1) ((bl s).drop h) = (n + m - h, 0) ∧ h ≤ n + m ∧ n + m ≤ s.size) := Lib.hid (fun hf => by
              have e1 := hlen (by rw [hf])
              rw [hxl] at e1
              exact ⟨by rw [hadd1 hf, show n + m - h = n - h + m by omega], by omega, by omega⟩)
            have HBAD : Hid (f ≠ 0 → (loopP (readP d) p ((bl s).drop h)).2 = f) := Lib.hid (fun hf => haddp hf)
            have HC := Lib.hid hC
            clear l1 l2 l3 hx hxs hC hadd1 haddp hlen herr hxl hok hbad hr
            go_wp2_with fail
            refine HC.out.mono ?_; rintro e w2 ⟨rfl, b2⟩
            have B2 := Lib.hid (below_step hb.out b2)
            clear b2
            unfold rd2
            go_wp2_with fail
            go_roundw
            case rel => exact ⟨i + 1, n + m, f, by go_num, rfl, by go_num, by omega, hm, HNEW, HBAD, B2⟩
            case measure => simp [intOf]; omega
          · obtain rfl : i = p := by omega
            have HQ : Hid (z = (n, 0)) := Lib.hid (by rw [HZ.out, l1, if_pos rfl]; simp only; rw [show h + (n - h) = n by omega])
            clear hi l1 l2 l3
            go_wp2_with fail
            go_ret2
            exact ⟨by rw [HQ.out]; rfl, hb.out⟩
        · have HQ : Hid (z = (0, e)) := Lib.hid (by
            have e1 := hbad.out he
            rw [HZ.out, if_neg (by rw [e1]; exact he), e1])
          have qe : ((e : Int) == 0) = false := by rw [beq_eq_false_iff_ne]; omega
          have qe2 : ((e : Int) != 0) = true := by rw [bne_iff_ne]; omega
          clear he
          by_cases hi : i < p
          · have hi' : (i : Int) < (p : Int) := by omega
            go_wp2_with fail
            go_ret2
            exact ⟨by rw [HQ.out]; rfl, hb.out⟩
          · have hi' : ¬ (i : Int) < (p : Int) := by omega
            go_wp2_with fail
            go_ret2
            exact ⟨by rw [HQ.out]; rfl, hb.out⟩
    · have hp : p = 0 := HE.out he
      subst hp
      rw [if_neg he] at hz
      have HZ := Lib.hid hz
      have qe : ((e : Int) == 0) = false := by rw [beq_eq_false_iff_ne]; omega
      have qe2 : ((e : Int) != 0) = true := by rw [bne_iff_ne]; omega
      clear hz HE HF he
      go_enter Tryz.func124, Tryz.ntmps124
      go_wp2_with fail
      refine HH.out.mono ?_; rintro e w1 ⟨rfl, b1⟩
      have B1 := Lib.hid b1
      clear b1
      unfold hd3
      go_wp2_with fail
      refine wp_loop_rounds 1 ?_; rw [rounds_succ]; go_wp2_with fail
      go_ret2
      exact ⟨by rw [HZ.out]; rfl, B1.out⟩

set_option maxRecDepth 100000 in
theorem rfront_any (s : ByteArray) (hs : s.size ≤ 281474976710656) (w : World) :
    Calls Tryz.prog 140 #[.string s] w fun e w' => e = .returned (rd2 (frontP (bl s))) ∧ Below w.heap.size w w' := by
  have HC := Lib.hid (rread_any 16 s w (Nat.le_refl _) hs)
  rw [show (17 - ((16 : Nat) : Int)) = 1 by decide] at HC
  obtain ⟨z, hz⟩ : ∃ z, z = frontP (bl s) := ⟨_, rfl⟩
  rw [← hz]
  unfold frontP at hz
  have HL := Lib.hid (fun n e => readP_len 16 (bl s) n e)
  generalize readP 16 (bl s) = r at *
  obtain ⟨m, f⟩ := r
  simp only at hz
  by_cases hf : f = 0
  · subst hf
    rw [if_pos rfl] at hz
    have hm := HL.out m rfl
    rw [bl_length] at hm
    by_cases h16 : 16384 < m
    · have HZ := Lib.hid (hz.trans (if_pos h16))
      have h16' : (16384 : Int) < (m : Int) := by omega
      clear hz h16 hs hm
      go_enter Tryz.func140, Tryz.ntmps140
      go_wp2_with fail
      refine HC.out.mono ?_; rintro e w1 ⟨rfl, b1⟩
      have B1 := Lib.hid b1
      clear b1
      unfold rd2
      go_wp2_with fail
      go_ret2
      exact ⟨by rw [HZ.out]; rfl, B1.out⟩
    · have HZ := Lib.hid (hz.trans (if_neg h16))
      have h16' : ¬ (16384 : Int) < (m : Int) := by omega
      clear hz h16 hs hm
      go_enter Tryz.func140, Tryz.ntmps140
      go_wp2_with fail
      refine HC.out.mono ?_; rintro e w1 ⟨rfl, b1⟩
      have B1 := Lib.hid b1
      clear b1
      unfold rd2
      go_wp2_with fail
      go_ret2
      exact ⟨by rw [HZ.out]; rfl, B1.out⟩
  · have HZ := Lib.hid (hz.trans (if_neg hf))
    have qf : ((f : Int) != 0) = true := by rw [bne_iff_ne]; omega
    clear hz hf hs
    go_enter Tryz.func140, Tryz.ntmps140
    go_wp2_with fail
    refine HC.out.mono ?_; rintro e w1 ⟨rfl, b1⟩
    have B1 := Lib.hid b1
    clear b1
    unfold rd2
    go_wp2_with fail
    go_ret2
    exact ⟨by rw [HZ.out]; rfl, B1.out⟩

set_option maxRecDepth 100000 in
theorem rcheck6_any (s : ByteArray) (hs : s.size ≤ 281474976710656) (w : World) :
    Calls Tryz.prog 116 #[.string s] w fun e w' => e = .returned (.int .i64 (checkP (bl s))) ∧ Below w.heap.size w w' := by
  have HC := Lib.hid (rfront_any s hs w)
  obtain ⟨z, hz⟩ : ∃ z, z = checkP (bl s) := ⟨_, rfl⟩
  rw [← hz]
  unfold checkP at hz
  rw [bl_length] at hz
  generalize frontP (bl s) = r at *
  obtain ⟨m, f⟩ := r
  simp only at hz
  by_cases hf : f = 0
  · subst hf
    rw [if_pos rfl] at hz
    by_cases hm : m = s.size
    · have HZ := Lib.hid (hz.trans (if_pos hm))
      have q : ((m : Int) != (s.size : Int)) = false := by rw [hm]; simp
      clear hz hm hs
      go_enter Tryz.func116, Tryz.ntmps116
      go_wp2_with fail
      refine HC.out.mono ?_; rintro e w1 ⟨rfl, b1⟩
      have B1 := Lib.hid b1
      clear b1
      unfold rd2
      go_wp2_with fail
      go_ret
      exact ⟨by rw [HZ.out]; rfl, B1.out⟩
    · have HZ := Lib.hid (hz.trans (if_neg hm))
      have q : ((m : Int) != (s.size : Int)) = true := by rw [bne_iff_ne]; omega
      clear hz hm hs
      go_enter Tryz.func116, Tryz.ntmps116
      go_wp2_with fail
      refine HC.out.mono ?_; rintro e w1 ⟨rfl, b1⟩
      have B1 := Lib.hid b1
      clear b1
      unfold rd2
      go_wp2_with fail
      go_ret
      exact ⟨by rw [HZ.out]; rfl, B1.out⟩
  · have HZ := Lib.hid (hz.trans (if_neg hf))
    have qf : ((f : Int) != 0) = true := by rw [bne_iff_ne]; omega
    clear hz hf hs
    go_enter Tryz.func116, Tryz.ntmps116
    go_wp2_with fail
    refine HC.out.mono ?_; rintro e w1 ⟨rfl, b1⟩
    have B1 := Lib.hid b1
    clear b1
    unfold rd2
    go_wp2_with fail
    go_ret
    exact ⟨by rw [HZ.out]; rfl, B1.out⟩
theorem rmay_any (s : ByteArray) (hs : s.size ≤ 281474976710656) (w : World) :
    Calls Tryz.prog 82 #[.string s] w fun e w' => e = .returned (.bool (checkP (bl s) == 0)) ∧ Below w.heap.size w w' := by
  have HC := Lib.hid (rcheck6_any s hs w)
  have q : (((checkP (bl s) : Nat) : Int) == 0) = (checkP (bl s) == 0) := by
    cases e : checkP (bl s) == 0 with
    | true => rw [beq_iff_eq] at e ⊢; omega
    | false => rw [beq_eq_false_iff_ne] at e ⊢; omega
  generalize checkP (bl s) = c at *
  go_enter Tryz.func82, Tryz.ntmps82
  go_wp2_with fail
  refine HC.out.mono ?_; rintro e w1 ⟨rfl, b1⟩
  have B1 := Lib.hid b1
  clear b1
  go_wp2_with fail
  go_ret
  exact ⟨rfl, B1.out⟩
end Go.Proofs.YtbdlegjklfkdmaaGreatDoor.Pl

namespace Go.Proofs.YtbdlegjklfkdmaaGreatDoor.Pl
open Go.RowKit

def st2 (h : List UInt8 × Nat) : Value := .tuple #[.string ⟨h.1.toArray⟩, .int .i64 h.2]
theorem cat_front (b : UInt8) (l : List UInt8) : (⟨#[b]⟩ ++ ⟨l.toArray⟩ : ByteArray) = ⟨(b :: l).toArray⟩ := by
  apply bl_inj
  unfold bl
  rw [ByteArray.data_append]
  simp
theorem txt_le (t : List UInt8) : (txt t).length ≤ 9 + t.length := by rw [txt_len]; have := enc_len t.length; omega

set_option maxRecDepth 100000 in
theorem rdata_any (s : ByteArray) (hs : s.size ≤ 281474976710656) (w : World) :
    Calls Tryz.prog 29 #[.string s] w fun e w' => e = .returned (st2 (dataP (bl s))) ∧ Below w.heap.size w w' := by
  have HT := Lib.hid (fun V => reftext_any s V (by omega))
  by_cases h : 1024 < s.size
  · have HZ : Hid (dataP (bl s) = ([], 5)) := Lib.hid (by unfold dataP; rw [bl_length]; exact if_pos h)
    have h' : (1024 : Int) < (s.size : Int) := by omega
    clear h hs
    go_enter Tryz.func29, Tryz.ntmps29
    go_wp2_with fail
    go_ret2
    exact ⟨by rw [HZ.out]; rfl, Below.refl _ _⟩
  · have HZ : Hid (dataP (bl s) = (100 :: txt (bl s), 0)) := Lib.hid (by unfold dataP; rw [bl_length]; exact if_neg h)
    have h' : ¬ (1024 : Int) < (s.size : Int) := by omega
    have hcat : (⟨#[100]⟩ : ByteArray).size + (⟨(txt s.data.toList).toArray⟩ : ByteArray).size ≤ 9223372036854775807 := by
      have h4 : (⟨(txt s.data.toList).toArray⟩ : ByteArray).size = (txt s.data.toList).length := size_lit _
      have := txt_le s.data.toList
      have h2 : s.data.toList.length = s.size := bl_length s
      have h3 : (⟨#[100]⟩ : ByteArray).size = 1 := rfl
      omega
    have HC : Hid ((⟨#[100]⟩ ++ ⟨(txt s.data.toList).toArray⟩ : ByteArray) = ⟨(100 :: txt (bl s)).toArray⟩) := Lib.hid (cat_front _ _)
    generalize (⟨(txt s.data.toList).toArray⟩ : ByteArray) = t at *
    clear h hs
    go_enter Tryz.func29, Tryz.ntmps29
    go_wp2_with fail
    refine (HT.out w).mono ?_; rintro e w1 ⟨rfl, b1⟩
    have B1 := Lib.hid b1
    clear b1
    go_wp2_with fail
    go_ret2
    exact ⟨by rw [HZ.out, st2, ← HC.out]; rfl, B1.out⟩

/-- The term of a number. -/
def numP (v : Int) : List UInt8 × Nat := if 0 ≤ v ∧ v ≤ 2147483647 then (100 :: txt (enc v.toNat), 0) else ([], 2)
theorem dataP_enc (v : Nat) : dataP (enc v) = (100 :: txt (enc v), 0) := by
  unfold dataP
  exact if_neg (by have := enc_len v; omega)
set_option maxRecDepth 100000 in
theorem rnum6_any (v : Int) (h0 : -9223372036854775808 ≤ v) (h1 : v ≤ 9223372036854775807) (w : World) :
    Calls Tryz.prog 79 #[.int .i64 v] w fun e w' => e = .returned (st2 (numP v)) ∧ Below w.heap.size w w' := by
  by_cases hn : v < 0
  · have HZ : Hid (numP v = ([], 2)) := Lib.hid (if_neg (by omega))
    go_enter Tryz.func79, Tryz.ntmps79
    go_wp2_with fail
    go_ret2
    exact ⟨by rw [HZ.out]; rfl, Below.refl _ _⟩
  · by_cases hm : 2147483647 < v
    · have HZ : Hid (numP v = ([], 2)) := Lib.hid (if_neg (by omega))
      go_enter Tryz.func79, Tryz.ntmps79
      go_wp2_with fail
      go_ret2
      exact ⟨by rw [HZ.out]; rfl, Below.refl _ _⟩
    · obtain ⟨n, rfl⟩ := Int.eq_ofNat_of_zero_le (show 0 ≤ v by omega)
      have HZ : Hid (numP (n : Int) = dataP (enc n)) := Lib.hid (by rw [dataP_enc]; exact if_pos ⟨by omega, by omega⟩)
      have hcv : ∀ V : World, (convert 3 108 (.int .i64 (n : Int))).run Tryz.prog V = .ok (.int .u64 (n : Int)) V := fun V => by
        have hw : IntKind.u64.wrap (n : Int) = (n : Int) := IntWalk.u64_in _ (by omega)
        go_simp
      have HN := Lib.hid (fun V => refnum_any n (by rw [two64]; omega) V)
      have HD := Lib.hid (fun V => rdata_any ⟨(enc n).toArray⟩ (by rw [size_lit]; have := enc_len n; omega) V)
      rw [bl_mk] at HD
      generalize (⟨(enc n).toArray⟩ : ByteArray) = t at *
      clear h0 h1
      go_enter Tryz.func79, Tryz.ntmps79
      go_wp2_with fail
      refine (HN.out w).mono ?_; rintro e w1 ⟨rfl, b1⟩
      have B1 := Lib.hid b1
      clear b1
      go_wp2_with fail
      refine (HD.out w1).mono ?_; rintro e w2 ⟨rfl, b2⟩
      have B2 := Lib.hid (below_step B1.out b2)
      clear b2
      unfold st2
      go_wp2_with fail
      go_ret2
      exact ⟨by rw [HZ.out]; rfl, B2.out⟩

set_option maxHeartbeats 1000000 in
set_option maxRecDepth 100000 in
theorem rkind_any (s : ByteArray) (hs : s.size ≤ 281474976710656) (w : World) :
    Calls Tryz.prog 52 #[.string s] w fun e w' => e = .returned (.int .u8 (kindP (bl s))) ∧ Below w.heap.size w w' := by
  have HM := Lib.hid (rmay_any s hs w)
  obtain ⟨z, hz⟩ : ∃ z, z = kindP (bl s) := ⟨_, rfl⟩
  rw [← hz]
  unfold kindP at hz
  by_cases hc : checkP (bl s) = 0
  · rw [if_pos hc] at hz
    rw [show (checkP (bl s) == 0) = true by rw [hc]; rfl] at HM
    have hpos : 0 < s.size := by
      rcases Nat.eq_zero_or_pos s.size with h | h
      · rw [bl_nil h] at hc; exact absurd hc (by decide)
      · exact h
    obtain ⟨b, hb⟩ : ∃ b : UInt8, b = (bl s).getD 0 0 := ⟨_, rfl⟩
    have i1 : ∀ V : World, (Instr.index 9 (.string s) (.int .i64 0)).run Tryz.prog V = .ok (.int .u8 (b.toNat : Int)) V := tstr_index s 0 b hpos hb
    have hq := bl_cons hpos
    rw [← hb] at hq
    rw [hq] at hz
    simp only at hz
    obtain ⟨n, hn⟩ : ∃ n, n = b.toNat := ⟨_, rfl⟩
    have b_of : ∀ c : UInt8, b = c ↔ n = c.toNat := fun c => by rw [hn]; exact ⟨fun e => by rw [e], fun e => UInt8.toNat_inj.1 e⟩
    rw [← hn] at i1
    have ef : ∀ m : Nat, n ≠ m → ((n : Int) == (m : Int)) = false := fun m h => by rw [beq_eq_false_iff_ne]; omega
    clear hq hb hn hc hs
    have hcs : n = 100 ∨ n = 97 ∨ n = 114 ∨ n = 104 ∨ n = 109 ∨ (n ≠ 100 ∧ n ≠ 97 ∧ n ≠ 114 ∧ n ≠ 104 ∧ n ≠ 109) := by omega
    have q1 : n ≠ 100 → ((n : Int) == 100) = false := ef 100
    have q2 : n ≠ 97 → ((n : Int) == 97) = false := ef 97
    have q3 : n ≠ 114 → ((n : Int) == 114) = false := ef 114
    have q4 : n ≠ 104 → ((n : Int) == 104) = false := ef 104
    have q5 : n ≠ 109 → ((n : Int) == 109) = false := ef 109
    simp only [b_of] at hz
    clear ef b_of
    rcases hcs with h | h | h | h | h | ⟨g1, g2, g3, g4, g5⟩
    · subst h
      have HZ : Hid (z = 1) := Lib.hid hz
      clear hz q1 q2 q3 q4 q5
      go_enter Tryz.func52, Tryz.ntmps52
      go_wp2_with fail
      refine HM.out.mono ?_; rintro e w1 ⟨rfl, b1⟩
      have B1 := Lib.hid b1
      clear b1
      go_wp2_with fail
      go_ret
      exact ⟨by rw [HZ.out]; rfl, B1.out⟩
    · subst h
      have HZ : Hid (z = 2) := Lib.hid hz
      clear hz q1 q2 q3 q4 q5
      go_enter Tryz.func52, Tryz.ntmps52
      go_wp2_with fail
      refine HM.out.mono ?_; rintro e w1 ⟨rfl, b1⟩
      have B1 := Lib.hid b1
      clear b1
      go_wp2_with fail
      go_ret
      exact ⟨by rw [HZ.out]; rfl, B1.out⟩
    · subst h
      have HZ : Hid (z = 3) := Lib.hid hz
      clear hz q1 q2 q3 q4 q5
      go_enter Tryz.func52, Tryz.ntmps52
      go_wp2_with fail
      refine HM.out.mono ?_; rintro e w1 ⟨rfl, b1⟩
      have B1 := Lib.hid b1
      clear b1
      go_wp2_with fail
      go_ret
      exact ⟨by rw [HZ.out]; rfl, B1.out⟩
    · subst h
      have HZ : Hid (z = 4) := Lib.hid hz
      clear hz q1 q2 q3 q4 q5
      go_enter Tryz.func52, Tryz.ntmps52
      go_wp2_with fail
      refine HM.out.mono ?_; rintro e w1 ⟨rfl, b1⟩
      have B1 := Lib.hid b1
      clear b1
      go_wp2_with fail
      go_ret
      exact ⟨by rw [HZ.out]; rfl, B1.out⟩
    · subst h
      have HZ : Hid (z = 5) := Lib.hid hz
      clear hz q1 q2 q3 q4 q5
      go_enter Tryz.func52, Tryz.ntmps52
      go_wp2_with fail
      refine HM.out.mono ?_; rintro e w1 ⟨rfl, b1⟩
      have B1 := Lib.hid b1
      clear b1
      go_wp2_with fail
      go_ret
      exact ⟨by rw [HZ.out]; rfl, B1.out⟩
    · have HZ : Hid (z = 6) := Lib.hid (by rw [hz, if_neg (show ¬ n = UInt8.toNat 100 from g1), if_neg (show ¬ n = UInt8.toNat 97 from g2), if_neg (show ¬ n = UInt8.toNat 114 from g3), if_neg (show ¬ n = UInt8.toNat 104 from g4), if_neg (show ¬ n = UInt8.toNat 109 from g5)])
      have p1 := q1 g1
      have p2 := q2 g2
      have p3 := q3 g3
      have p4 := q4 g4
      have p5 := q5 g5
      clear hz q1 q2 q3 q4 q5 g1 g2 g3 g4 g5
      go_enter Tryz.func52, Tryz.ntmps52
      go_wp2_with fail
      refine HM.out.mono ?_; rintro e w1 ⟨rfl, b1⟩
      have B1 := Lib.hid b1
      clear b1
      go_wp2_with fail
      go_ret
      exact ⟨by rw [HZ.out]; rfl, B1.out⟩
  · rw [if_neg hc] at hz
    rw [show (checkP (bl s) == 0) = false by rw [beq_eq_false_iff_ne]; exact hc] at HM
    have HZ := Lib.hid hz
    clear hz hc hs
    go_enter Tryz.func52, Tryz.ntmps52
    go_wp2_with fail
    refine HM.out.mono ?_; rintro e w1 ⟨rfl, b1⟩
    have B1 := Lib.hid b1
    clear b1
    go_wp2_with fail
    go_ret
    exact ⟨by rw [HZ.out]; rfl, B1.out⟩
end Go.Proofs.YtbdlegjklfkdmaaGreatDoor.Pl

namespace Go.Proofs.YtbdlegjklfkdmaaGreatDoor.Pl
open Go.RowKit

/-- A row of texts in memory, to read. -/
def TxtRow (w : World) (ao : Option Addr) (l : List ByteArray) : Prop := l = [] ∨ ∃ b off, ao = some ⟨b, off, none⟩ ∧ b < w.heap.size ∧ ∀ j, j < l.length → w.cell? ⟨b, off + j, none⟩ = some (.string (l.getD j ByteArray.empty))
theorem TxtRow.below {w w' : World} {ao : Option Addr} {l : List ByteArray} (h : TxtRow w ao l) (hb : Below w.heap.size w w') : TxtRow w' ao l := by
  rcases h with h | ⟨b, off, hg, hlt, hc⟩
  · exact .inl h
  · exact .inr ⟨b, off, hg, Nat.lt_of_lt_of_le hlt hb.size, fun j hj => (hb.cell (p := ⟨b, off + j, none⟩) hlt).trans (hc j hj)⟩
/-- The parts' bytes, one behind the other. -/
def catL (l : List ByteArray) (k : Nat) : List UInt8 := ((l.take k).map bl).flatten
theorem catL_zero (l : List ByteArray) : catL l 0 = [] := by simp [catL]
theorem catL_succ (l : List ByteArray) (k : Nat) (h : k < l.length) : catL l (k + 1) = catL l k ++ bl (l.getD k ByteArray.empty) := by
  unfold catL
  rw [List.take_succ_eq_append_getElem h, List.map_append, List.flatten_append]
  simp [List.getD_eq_getElem?_getD, h]
theorem catL_all (l : List ByteArray) (k : Nat) (h : l.length ≤ k) : catL l k = (l.map bl).flatten := by
  unfold catL; rw [List.take_of_length_le h]
theorem catL_le (l : List ByteArray) (k : Nat) : (catL l k).length ≤ ((l.map bl).flatten).length := by
  have e : (l.map bl).flatten = catL l k ++ ((l.drop k).map bl).flatten := by
    unfold catL
    rw [← List.flatten_append, ← List.map_append, List.take_append_drop]
  rw [e, List.length_append]; omega
theorem cat_bytes (a b : ByteArray) : bl (a ++ b) = bl a ++ bl b := by
  unfold bl
  rw [ByteArray.data_append, Array.toList_append]
theorem mem_getD6 {l : List ByteArray} {x : ByteArray} (h : x ∈ l) : ∃ k, k < l.length ∧ l.getD k ByteArray.empty = x := by
  obtain ⟨k, hk, rfl⟩ := List.getElem_of_mem h
  exact ⟨k, hk, by simp [List.getD_eq_getElem?_getD, hk]⟩
theorem getD_mem6 (l : List ByteArray) (k : Nat) (h : k < l.length) : l.getD k ByteArray.empty ∈ l := by
  rw [List.getD_eq_getElem?_getD, List.getElem?_eq_getElem h]; exact List.getElem_mem h

set_option maxHeartbeats 4000000 in
set_option maxRecDepth 100000 in
theorem made_any (front : ByteArray) (l : List ByteArray) (ao : Option Addr) (cap : Nat) (hf : front.size ≤ 100) (hl : l.length ≤ 1000) (hx : ∀ x ∈ l, x.size ≤ 100000) (w : World) (hrow : TxtRow w ao l) :
    Calls Tryz.prog 77 #[.string front, .slice ao l.length cap] w fun e w' => e = .returned (st2 (madeP (bl front) (l.map bl))) ∧ Below w.heap.size w w' := by
  have HROW := Lib.hid hrow
  obtain ⟨z, hz⟩ : ∃ z, z = madeP (bl front) (l.map bl) := ⟨_, rfl⟩
  rw [← hz]
  unfold madeP at hz
  have HBAD : Hid (∀ k, k < l.length → checkP (bl (l.getD k ByteArray.empty)) ≠ 0 → z = ([], 2)) := Lib.hid (fun k hk hc => by
    rw [hz, if_neg]
    intro h
    exact hc (h _ (List.mem_map.2 ⟨_, getD_mem6 l k hk, rfl⟩)))
  have HOK : Hid ((∀ k, k < l.length → checkP (bl (l.getD k ByteArray.empty)) = 0) → z = if checkP (bl front ++ (l.map bl).flatten) = 0 then (bl front ++ (l.map bl).flatten, 0) else ([], 5)) := Lib.hid (fun h => by
    rw [hz, if_pos]
    intro x hx
    obtain ⟨y, hy, rfl⟩ := List.mem_map.1 hx
    obtain ⟨k, hk, rfl⟩ := mem_getD6 hy
    exact h k hk)
  have HX : Hid (∀ k, k < l.length → (l.getD k ByteArray.empty).size ≤ 100000) := Lib.hid (fun k hk => hx _ (getD_mem6 l k hk))
  obtain ⟨n, hn⟩ : ∃ n, n = l.length := ⟨_, rfl⟩
  have HN := Lib.hid hn
  have HFR := Lib.hid hf
  rw [← hn] at hl ⊢
  clear hz hx hrow hn hf
  go_enter Tryz.func77, Tryz.ntmps77
  go_wp2_with fail
  go_loopw [7] (fun i wr => ∃ k : Nat, i = .int .i64 k ∧ k ≤ n ∧ Hid (∀ j, j < k → checkP (bl (l.getD j ByteArray.empty)) = 0) ∧ Hid (Below w.heap.size w wr)) (fun i _ => n - (intOf i).toNat)
  case atStart => exact ⟨0, rfl, Nat.zero_le _, Lib.hid (fun j hj => absurd hj (Nat.not_lt_zero j)), Lib.hid (Below.refl _ _)⟩
  case round =>
    obtain ⟨k, rfl, hkn, hch, hb⟩ := hrel
    by_cases hk : k < n
    · have hk' : (k : Int) < (n : Int) := by omega
      rcases HROW.out.below hb.out with e | ⟨b, off, rfl, hlt, hc⟩
      · exfalso; have := HN.out; rw [e] at this; simp at this; omega
      have ck := hc k (by have := HN.out; omega)
      have HM := Lib.hid (rmay_any (l.getD k ByteArray.empty) (Nat.le_trans (HX.out k (by have := HN.out; omega)) (by decide)) wr)
      have HBK := Lib.hid (HBAD.out k (by have := HN.out; omega))
      have HNX : Hid (checkP (bl (l.getD k ByteArray.empty)) = 0 → ∀ j, j < k + 1 → checkP (bl (l.getD j ByteArray.empty)) = 0) := Lib.hid (fun h j hj => by
        by_cases e : j = k
        · rw [e]; exact h
        · exact hch.out j (by omega))
      generalize l.getD k ByteArray.empty = t at *
      clear hc hlt
      cases hq : (checkP (bl t) == 0) with
      | true =>
        rw [hq] at HM
        have HNN := Lib.hid (HNX.out (by simpa using hq))
        clear hq
        go_wp2_with fail
        refine HM.out.mono ?_; rintro e w2 ⟨rfl, b2⟩
        have B2 := Lib.hid (below_step hb.out b2)
        clear b2
        go_wp2_with fail
        go_roundw
        case rel => exact ⟨k + 1, by go_num, by omega, HNN, B2⟩
        case measure => simp [intOf]; omega
      | false =>
        rw [hq] at HM
        have HQ := Lib.hid (HBK.out (by simpa using hq))
        clear hq
        go_wp2_with fail
        refine HM.out.mono ?_; rintro e w2 ⟨rfl, b2⟩
        have B2 := Lib.hid (below_step hb.out b2)
        clear b2
        go_wp2_with fail
        go_ret2
        exact ⟨by rw [HQ.out]; rfl, B2.out⟩
    · obtain rfl : k = n := by omega
      have HZ := Lib.hid (HOK.out (fun j hj => hch.out j (by have := HN.out; omega)))
      clear hk hkn
      go_wp2_with fail
      go_loopw [6, 8] (fun sv i wr => ∃ (j : Nat) (t : ByteArray), sv = .string t ∧ i = .int .i64 j ∧ j ≤ k ∧ t.size ≤ 200000 ∧ Hid (bl t = bl front ++ catL l j) ∧ Hid (Below w.heap.size w wr)) (fun _ i _ => k - (intOf i).toNat)
      case atStart => exact ⟨0, front, rfl, rfl, Nat.zero_le _, by have := HFR.out; omega, Lib.hid (by rw [catL_zero, List.append_nil]), hb⟩
      case round =>
        obtain ⟨j, t, rfl, rfl, hjk, hts, ht, hb2⟩ := hrel
        by_cases hj : j < k
        · have hj' : (j : Int) < (k : Int) := by omega
          by_cases hsz : t.size ≤ 16384
          · have hsz' : (t.size : Int) ≤ 16384 := by omega
            rcases HROW.out.below hb2.out with e | ⟨b, off, rfl, hlt, hc⟩
            · exfalso; have := HN.out; rw [e] at this; simp at this; omega
            have ck := hc j (by have := HN.out; omega)
            have hxs := HX.out j (by have := HN.out; omega)
            have HS : Hid (bl front ++ catL l (j + 1) = bl front ++ catL l j ++ bl (l.getD j ByteArray.empty)) := Lib.hid (by rw [catL_succ l j (by have := HN.out; omega), List.append_assoc])
            generalize l.getD j ByteArray.empty = y at *
            have hcat : t.size + y.size ≤ 9223372036854775807 := by omega
            have HC : Hid (bl (t ++ y) = bl front ++ catL l (j + 1) ∧ (t ++ y).size ≤ 200000) := Lib.hid ⟨by rw [cat_bytes, ht.out, HS.out], by rw [ByteArray.size_append]; omega⟩
            clear hc hlt
            go_wp2_with fail
            go_roundw
            case rel => exact ⟨j + 1, t ++ y, rfl, by go_num, by omega, HC.out.2, Lib.hid HC.out.1, hb2⟩
            case measure => simp [intOf]; omega
          · have hsz' : decide ((t.size : Int) ≤ 16384) = false := decide_eq_false (by omega)
            have HM := Lib.hid (rmay_any t (by omega) wr)
            rw [show (checkP (bl t) == 0) = false by
              rw [beq_eq_false_iff_ne]
              intro h
              have := check_len h
              rw [bl_length] at this
              omega] at HM
            have HQ : Hid (z = ([], 5)) := Lib.hid (by
              rw [HZ.out, if_neg]
              intro h
              have h1 := check_len h
              have h2 := catL_le l j
              have h3 := congrArg List.length ht.out
              rw [bl_length, List.length_append] at h3
              rw [List.length_append] at h1
              omega)
            clear hsz
            go_wp2_with fail
            refine HM.out.mono ?_; rintro e w2 ⟨rfl, b2⟩
            have B2 := Lib.hid (below_step hb2.out b2)
            clear b2
            go_wp2_with fail
            go_ret2
            exact ⟨by rw [HQ.out]; rfl, B2.out⟩
        · obtain rfl : j = k := by omega
          have HE : Hid (bl t = bl front ++ (l.map bl).flatten) := Lib.hid (by rw [ht.out, catL_all l j (by have := HN.out; omega)])
          have HM := Lib.hid (rmay_any t (by omega) wr)
          rw [← HE.out] at HZ
          clear hj hjk
          cases hq : (checkP (bl t) == 0) with
          | true =>
            rw [hq] at HM
            have HQ : Hid (z = (bl t, 0)) := Lib.hid (HZ.out.trans (if_pos (by simpa using hq)))
            clear hq
            go_wp2_with fail
            refine HM.out.mono ?_; rintro e w2 ⟨rfl, b2⟩
            have B2 := Lib.hid (below_step hb2.out b2)
            clear b2
            go_wp2_with fail
            go_ret2
            exact ⟨by rw [HQ.out, st2, ← bl_eq]; rfl, B2.out⟩
          | false =>
            rw [hq] at HM
            have HQ : Hid (z = ([], 5)) := Lib.hid (HZ.out.trans (if_neg (by simpa using hq)))
            clear hq
            go_wp2_with fail
            refine HM.out.mono ?_; rintro e w2 ⟨rfl, b2⟩
            have B2 := Lib.hid (below_step hb2.out b2)
            clear b2
            go_wp2_with fail
            go_ret2
            exact ⟨by rw [HQ.out]; rfl, B2.out⟩
end Go.Proofs.YtbdlegjklfkdmaaGreatDoor.Pl

namespace Go.Proofs.YtbdlegjklfkdmaaGreatDoor.Pl
open Go.RowKit

theorem row1 (w : World) (a : ByteArray) : TxtRow (w.alloc (.cells #[.string a] 9)) (some ⟨w.heap.size, 0, none⟩) [a] :=
  .inr ⟨w.heap.size, 0, rfl, by simp, fun j hj => by
    obtain rfl : j = 0 := by simp at hj; omega
    simp⟩
theorem row2 (w : World) (a b : ByteArray) : TxtRow (w.alloc (.cells #[.string a, .string b] 9)) (some ⟨w.heap.size, 0, none⟩) [a, b] :=
  .inr ⟨w.heap.size, 0, rfl, by simp, fun j hj => by
    match j, hj with
    | 0, _ => simp
    | 1, _ => simp⟩
set_option maxRecDepth 100000 in
theorem rrow6_any (l : List ByteArray) (ao : Option Addr) (cap : Nat) (hl : l.length ≤ 1000) (hx : ∀ x ∈ l, x.size ≤ 100000) (w : World) (hrow : TxtRow w ao l) :
    Calls Tryz.prog 32 #[.slice ao l.length cap] w fun e w' => e = .returned (st2 (rowP (l.map bl))) ∧ Below w.heap.size w w' := by
  have HN := Lib.hid (fun V => refnum_any l.length (by rw [two64]; omega) V)
  have hs : (⟨(enc l.length).toArray⟩ : ByteArray).size ≤ 9 := by rw [size_lit]; exact (enc_len _).2
  have hcat : (⟨#[114]⟩ : ByteArray).size + (⟨(enc l.length).toArray⟩ : ByteArray).size ≤ 9223372036854775807 := by
    have h3 : (⟨#[114]⟩ : ByteArray).size = 1 := rfl
    omega
  have hf : (⟨#[114]⟩ ++ ⟨(enc l.length).toArray⟩ : ByteArray).size ≤ 100 := by
    rw [ByteArray.size_append]
    have h3 : (⟨#[114]⟩ : ByteArray).size = 1 := rfl
    omega
  have HE : Hid (bl (⟨#[114]⟩ ++ ⟨(enc l.length).toArray⟩ : ByteArray) = 114 :: enc (l.map bl).length) := Lib.hid (by rw [cat_front, bl_mk, List.length_map])
  have HM := Lib.hid (fun V hV => made_any (⟨#[114]⟩ ++ ⟨(enc l.length).toArray⟩) l ao cap hf hl hx V hV)
  rw [HE.out] at HM
  have HROW := Lib.hid hrow
  have hcv : ∀ V : World, (convert 3 108 (.int .i64 ((l.length : Nat) : Int))).run Tryz.prog V = .ok (.int .u64 ((l.length : Nat) : Int)) V := fun V => by
    have hw : IntKind.u64.wrap ((l.length : Nat) : Int) = ((l.length : Nat) : Int) := IntWalk.u64_in _ (by omega)
    go_simp
  generalize (⟨(enc l.length).toArray⟩ : ByteArray) = t at *
  have HP : Hid (rowP (l.map bl) = madeP (114 :: enc (l.map bl).length) (l.map bl)) := Lib.hid rfl
  obtain ⟨n, hn⟩ : ∃ n, n = l.length := ⟨_, rfl⟩
  rw [← hn] at HN hcv HM ⊢
  clear hs hf hx hrow hn hl
  go_enter Tryz.func32, Tryz.ntmps32
  go_wp2_with fail
  refine (HN.out w).mono ?_; rintro e w1 ⟨rfl, b1⟩
  have R1 := Lib.hid (HROW.out.below b1)
  have B1 := Lib.hid b1
  clear b1
  go_wp2_with fail
  refine (HM.out w1 R1.out).mono ?_; rintro e w2 ⟨rfl, b2⟩
  have B2 := Lib.hid (below_step B1.out b2)
  clear b2
  unfold st2
  go_wp2_with fail
  go_ret2
  exact ⟨by rw [HP.out, List.length_map]; rfl, B2.out⟩

def tb2 (h : List UInt8 × Bool) : Value := .tuple #[.string ⟨h.1.toArray⟩, .bool h.2]
set_option maxHeartbeats 1000000 in
set_option maxRecDepth 100000 in
theorem rtext6_any (s : ByteArray) (hs : s.size ≤ 281474976710656) (w : World) :
    Calls Tryz.prog 91 #[.string s] w fun e w' => e = .returned (tb2 (textP (bl s))) ∧ Below w.heap.size w w' := by
  have HM := Lib.hid (rmay_any s hs w)
  obtain ⟨z, hz⟩ : ∃ z, z = textP (bl s) := ⟨_, rfl⟩
  rw [← hz]
  unfold textP at hz
  by_cases hc : checkP (bl s) = 0
  · rw [show (checkP (bl s) == 0) = true by rw [hc]; rfl] at HM
    have hpos : 0 < s.size := by
      rcases Nat.eq_zero_or_pos s.size with h | h
      · rw [bl_nil h] at hc; exact absurd hc (by decide)
      · exact h
    obtain ⟨b, hb⟩ : ∃ b : UInt8, b = (bl s).getD 0 0 := ⟨_, rfl⟩
    have i1 : ∀ V : World, (Instr.index 9 (.string s) (.int .i64 0)).run Tryz.prog V = .ok (.int .u8 (b.toNat : Int)) V := tstr_index s 0 b hpos hb
    have hq := bl_cons hpos
    rw [← hb] at hq
    have hh : (bl s).head? = some b := by rw [hq]; rfl
    obtain ⟨n, hn⟩ : ∃ n, n = b.toNat := ⟨_, rfl⟩
    have b_of : ∀ c : UInt8, b = c ↔ n = c.toNat := fun c => by rw [hn]; exact ⟨fun e => by rw [e], fun e => UInt8.toNat_inj.1 e⟩
    rw [← hn] at i1
    have sl : ∀ V : World, (Instr.sliceAt 9 (.string s) (some (.int .i64 1)) none none).run Tryz.prog V = .ok (.string (s.extract 1 s.size)) V := tslice_from s 1 (by omega)
    have hx : bl (s.extract 1 s.size) = (bl s).drop 1 := bl_from s 1
    have hxs : (s.extract 1 s.size).size ≤ 281474976710656 := by rw [size_bl, hx, List.length_drop, bl_length]; omega
    rw [← hx] at hz
    generalize s.extract 1 s.size = x at *
    have HT := Lib.hid (fun V => refreadtext_any x 1024 V (by omega) (by decide) (by decide))
    rw [show x.data.toList = bl x from rfl] at HT
    have e1 : (bl s).head? = some 100 ↔ n = 100 := by rw [hh]; exact ⟨fun e => (b_of 100).1 (Option.some.inj e), fun e => by rw [(b_of 100).2 e]⟩
    have e2 : (bl s).head? = some 97 ↔ n = 97 := by rw [hh]; exact ⟨fun e => (b_of 97).1 (Option.some.inj e), fun e => by rw [(b_of 97).2 e]⟩
    simp only [e1, e2] at hz
    by_cases h100 : n = 100
    · have HZ := Lib.hid (hz.trans (if_pos ⟨hc, .inl h100⟩))
      subst h100
      clear hz hb hq hh hn b_of hx hxs e1 e2 hc hs
      go_enter Tryz.func91, Tryz.ntmps91
      go_wp2_with fail
      refine HM.out.mono ?_; rintro e w1 ⟨rfl, b1⟩
      have B1 := Lib.hid b1
      clear b1
      go_wp2_with fail
      refine (HT.out w1).mono ?_; rintro e w2 ⟨rfl, b2⟩
      have B2 := Lib.hid (below_step B1.out b2)
      clear b2
      go_wp2_with fail
      go_ret2
      exact ⟨by rw [HZ.out]; rfl, B2.out⟩
    · have q1 : ((n : Int) != 100) = true := by rw [bne_iff_ne]; omega
      by_cases h97 : n = 97
      · have HZ := Lib.hid (hz.trans (if_pos ⟨hc, .inr h97⟩))
        subst h97
        clear hz hb hq hh hn b_of hx hxs e1 e2 hc hs h100
        go_enter Tryz.func91, Tryz.ntmps91
        go_wp2_with fail
        refine HM.out.mono ?_; rintro e w1 ⟨rfl, b1⟩
        have B1 := Lib.hid b1
        clear b1
        go_wp2_with fail
        refine (HT.out w1).mono ?_; rintro e w2 ⟨rfl, b2⟩
        have B2 := Lib.hid (below_step B1.out b2)
        clear b2
        go_wp2_with fail
        go_ret2
        exact ⟨by rw [HZ.out]; rfl, B2.out⟩
      · have q2 : ((n : Int) != 97) = true := by rw [bne_iff_ne]; omega
        have HZ := Lib.hid (hz.trans (if_neg (fun h => h.2.elim h100 h97)))
        clear hz hb hq hh hn b_of hx hxs e1 e2 hc hs h100 h97
        go_enter Tryz.func91, Tryz.ntmps91
        go_wp2_with fail
        refine HM.out.mono ?_; rintro e w1 ⟨rfl, b1⟩
        have B1 := Lib.hid b1
        clear b1
        go_wp2_with fail
        go_ret2
        exact ⟨by rw [HZ.out]; rfl, B1.out⟩
  · rw [show (checkP (bl s) == 0) = false by rw [beq_eq_false_iff_ne]; exact hc] at HM
    have HZ := Lib.hid (hz.trans (if_neg (fun h => hc h.1)))
    clear hz hc hs
    go_enter Tryz.func91, Tryz.ntmps91
    go_wp2_with fail
    refine HM.out.mono ?_; rintro e w1 ⟨rfl, b1⟩
    have B1 := Lib.hid b1
    clear b1
    go_wp2_with fail
    go_ret2
    exact ⟨by rw [HZ.out]; rfl, B1.out⟩
end Go.Proofs.YtbdlegjklfkdmaaGreatDoor.Pl

namespace Go.Proofs.YtbdlegjklfkdmaaGreatDoor.Pl

theorem txt_most {t : List UInt8} (h : t.length ≤ 1024) : (txt t).length ≤ 1033 := by
  rw [txt_len]
  have := enc_len t.length
  omega
end Go.Proofs.YtbdlegjklfkdmaaGreatDoor.Pl

namespace Go.Proofs.YtbdlegjklfkdmaaGreatDoor.Pl

/-- An organisation. -/
def inO (a : Int) : Prop := 0 ≤ a ∧ a < 8
instance (a : Int) : Decidable (inO a) := inferInstanceAs (Decidable (_ ∧ _))
/-- The name of a key of two: its letter, the lower number, the higher one. -/
def nm (c : UInt8) (x y : Nat) : List UInt8 := [c, 47, UInt8.ofNat (48 + min x y), 47, UInt8.ofNat (48 + max x y)]
def nameK (c : UInt8) (a b : Int) : List UInt8 × Nat := if inO a ∧ inO b then (nm c a.toNat b.toNat, 0) else ([], 2)
/-- Whether an organisation is in a set. -/
def setB (s : Nat) (a : Int) : Bool := decide (inO a) && (s / 2 ^ a.toNat % 2 == 1)
end Go.Proofs.YtbdlegjklfkdmaaGreatDoor.Pl

namespace Go.Proofs.YtbdlegjklfkdmaaGreatDoor.Pl
open Go.RowKit

/-- A key's name as a text. -/
def nmT (c : UInt8) (x y : Nat) : ByteArray := ⟨(nm c x y).toArray⟩
theorem nameK_ok (c : UInt8) {x y : Nat} (hx : x < 8) (hy : y < 8) : st2 (nameK c x y) = .tuple #[.string (nmT c x y), .int .i64 0] := by
  unfold nameK
  rw [if_pos ⟨⟨by omega, by omega⟩, by omega, by omega⟩]
  rfl
end Go.Proofs.YtbdlegjklfkdmaaGreatDoor.Pl
