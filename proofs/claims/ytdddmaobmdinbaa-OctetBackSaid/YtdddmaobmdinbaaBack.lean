/- OctetBack answers true, whatever it is given. -/
import Derived.Test.YtdddmaobmdinbaaAlive
import Derived.WalkLawsBesides
import Derived.Deep.RegionHeld3
import Derived.BigQuiet
namespace Go.Proofs.Ytdddmaobmdinbaa.Pl
open Go.RowKit

set_option maxRecDepth 100000 in
theorem back_large (v : Int) (s t : ByteArray) (m : Int) (w : World) (h : 8192 < t.size) : Calls Try.prog 5 #[.int .u64 v, .string t, .string s, .int .i64 m] w fun e w' => e = .returned (.bool true) ∧ Below w.heap.size w w' := by
  go_enter Try.func5, Try.ntmps5
  go_wp2_with fail
  refine (alive_any _).mono ?_; rintro e w' ⟨rfl, hb⟩
  go_wp2_with fail
  go_ret
  exact ⟨rfl, hb⟩
set_option maxRecDepth 100000 in
theorem back_large2 (v : Int) (s t : ByteArray) (m : Int) (w : World) (h : ¬ 8192 < t.size) (h2 : 8192 < s.size) : Calls Try.prog 5 #[.int .u64 v, .string t, .string s, .int .i64 m] w fun e w' => e = .returned (.bool true) ∧ Below w.heap.size w w' := by
  go_enter Try.func5, Try.ntmps5
  go_wp2_with fail
  refine (alive_any _).mono ?_; rintro e w' ⟨rfl, hb⟩
  go_wp2_with fail
  go_ret
  exact ⟨rfl, hb⟩

theorem readnum_back (v : Nat) (s : ByteArray) (w : World) (hv : v < 256 ^ 8) (hs : s.size ≤ 8192) :
    Calls Try.prog 9 #[.string (⟨(enc v).toArray⟩ ++ s)] w fun e w' => e = .returned (.tuple #[.int .u64 v, .int .i64 (enc v).length, .int .i64 0]) ∧ w = w' := by
  have h9 := (enc_len v).2
  have h := readnum_any (⟨(enc v).toArray⟩ ++ s) (by simp [size_lit]; omega) w
  have e : ((⟨(enc v).toArray⟩ : ByteArray) ++ s).data.toList = enc v ++ s.data.toList := by simp
  rw [e, rdn_enc hv] at h
  exact h
theorem readtext_back (t s : ByteArray) (w : World) (ht : t.size ≤ 8192) (hs : s.size ≤ 8192) :
    Calls Try.prog 16 #[.string ((⟨(enc t.size).toArray⟩ ++ t) ++ s), .int .i64 t.size] w fun e w' => e = .returned (.tuple #[.string t, .int .i64 ((enc t.size).length + t.size), .int .i64 0]) ∧ Below w.heap.size w w' := by
  have h9 := (enc_len t.size).2
  have h := readtext_any ((⟨(enc t.size).toArray⟩ ++ t) ++ s) t.size w (by simp [size_lit]; omega) (by omega) (by omega)
  have hl : t.data.toList.length = t.size := by simp
  have e : (((⟨(enc t.size).toArray⟩ : ByteArray) ++ t) ++ s).data.toList = txt t.data.toList ++ s.data.toList := by simp [txt]
  rw [e, rdt_txt (by rw [hl, two64]; omega) _ _ (by rw [hl]; omega), txt_len, hl] at h
  simpa using h
theorem text_lit (d : List UInt8) (w : World) (hd : d.length ≤ 281474976710656) :
    Calls Try.prog 14 #[.string ⟨d.toArray⟩] w fun e w' => e = .returned (.string ⟨(txt d).toArray⟩) ∧ Below w.heap.size w w' := by
  have h := text_any ⟨d.toArray⟩ w (by rw [size_lit]; exact hd)
  rw [text_list] at h
  simpa using h
theorem cut_list (s : ByteArray) (k : Nat) : (s.extract 0 k).toList = s.data.toList.take k := by
  rw [ByteArray.toList_eq, Lib.extract_data]; simp

set_option maxHeartbeats 1000000 in
set_option maxRecDepth 100000 in
theorem back_oo (v : Nat) (s t : ByteArray) (m : Int) (w : World) (h : ¬ 8192 < t.size) (h2 : ¬ 8192 < s.size) (hv : v < 256 ^ 8) (m1 : -9223372036854775808 ≤ m) (m2 : m ≤ 9223372036854775807)
    (c k : Nat) (hr : rdn s.data.toList = (c, k, 0)) (d : List UInt8) (j : Nat) (hq : rdt s.data.toList m = (d, j, 0)) :
    Calls Try.prog 5 #[.int .u64 v, .string t, .string s, .int .i64 m] w fun e w' => e = .returned (.bool true) ∧ Below w.heap.size w w' := by
  have l1 := (enc_len v).2
  have l2 := (enc_len t.size).2
  have HV := Lib.hid hv
  have hc1 : ∀ W, Calls Try.prog 9 #[.string s] W fun e' w' => e' = .returned (.tuple #[.int .u64 c, .int .i64 k, .int .i64 0]) ∧ W = w' := fun W => by
    have h := readnum_any s (by omega) W
    rw [hr] at h
    exact h
  have HC1 := Lib.hid hc1
  have hc2 : ∀ W, Calls Try.prog 16 #[.string s, .int .i64 m] W fun e' w' => e' = .returned (.tuple #[.string ⟨d.toArray⟩, .int .i64 j, .int .i64 0]) ∧ Below W.heap.size W w' := fun W => by
    have h := readtext_any s m W (by omega) m1 m2
    rw [hq] at h
    exact h
  have HC2 := Lib.hid hc2
  obtain ⟨k1, k2, ck, c8⟩ := rdn_sound hr
  have HC8 := Lib.hid c8
  have hk2 : k ≤ s.size := by simpa using k2
  have f1 : decide ((k : Int) < 1) = false := by simp; omega
  have f2 : decide (s.size < k) = false := by simp; omega
  have f3 : (s.extract 0 k).toList = enc c := by rw [cut_list, ck]
  clear c8 k2 ck
  obtain ⟨j1, j2, hdm, dj⟩ := rdt_sound hq
  have hj2 : j ≤ s.size := by simpa using j2
  have hd2 : d.length ≤ 281474976710656 := by
    have := congrArg List.length dj
    rw [txt_len] at this
    simp at this
    omega
  have g1 : decide ((j : Int) < 1) = false := by simp; omega
  have g2 : decide (s.size < j) = false := by simp; omega
  have g3 : (s.extract 0 j).toList = txt d := by rw [cut_list, dj]
  have g4 : decide (max m 0 < (d.length : Int)) = false := by simp; omega
  clear j2 dj
  clear hv hc1 hc2 hr hq
  go_enter Try.func5, Try.ntmps5
  go_wp2_with fail
  refine (num_any _ HV.out _).mono ?_; rintro e w1 ⟨rfl, hb1⟩
  go_wp2_with fail
  refine (readnum_back v s _ HV.out (by omega)).mono ?_; rintro e w' ⟨rfl, rfl⟩
  go_wp2_with fail
  refine (text_any t _ (by omega)).mono ?_; rintro e w2 ⟨rfl, hb2⟩
  go_wp2_with fail
  refine (readtext_back t s _ (by omega) (by omega)).mono ?_; rintro e w3 ⟨rfl, hb3⟩
  go_wp2_with fail
  refine (num_any _ HV.out _).mono ?_; rintro e w4 ⟨rfl, hb4⟩
  go_wp2_with fail
  refine (text_any t _ (by omega)).mono ?_; rintro e w5 ⟨rfl, hb5⟩
  go_wp2_with fail
  refine (HC1.out _).mono ?_; rintro e w' ⟨rfl, rfl⟩
  go_wp2_with fail
  go_region_held3 (fun _ => True) (trivial) (first | (go_at_call 11; refine (num_any _ HC8.out _).mono ?_; rintro e w6 ⟨rfl, hb6⟩))
  go_wp2_with fail
  refine (HC2.out _).mono ?_; rintro e w7 ⟨rfl, hb7⟩
  go_wp2_with fail
  go_region_held3 (fun _ => True) (trivial) (first | (go_at_call 14; refine (text_lit d _ hd2).mono ?_; rintro e w8 ⟨rfl, hb8⟩))
  go_wp2_with fail
  refine (alive_any _).mono ?_; rintro e w9 ⟨rfl, hb9⟩
  go_wp2_with fail
  go_ret
  exact ⟨rfl, below_step (below_step (below_step (below_step (below_step (below_step (below_step (below_step hb1 hb2) hb3) hb4) hb5) (below_undrew hb6)) hb7) (below_undrew hb8)) hb9⟩
set_option maxHeartbeats 1000000 in
set_option maxRecDepth 100000 in
theorem back_oe (v : Nat) (s t : ByteArray) (m : Int) (w : World) (h : ¬ 8192 < t.size) (h2 : ¬ 8192 < s.size) (hv : v < 256 ^ 8) (m1 : -9223372036854775808 ≤ m) (m2 : m ≤ 9223372036854775807)
    (c k : Nat) (hr : rdn s.data.toList = (c, k, 0)) (d : List UInt8) (j z : Nat) (hq : rdt s.data.toList m = (d, j, z)) (hz : z ≠ 0) :
    Calls Try.prog 5 #[.int .u64 v, .string t, .string s, .int .i64 m] w fun e w' => e = .returned (.bool true) ∧ Below w.heap.size w w' := by
  have l1 := (enc_len v).2
  have l2 := (enc_len t.size).2
  have HV := Lib.hid hv
  have hc1 : ∀ W, Calls Try.prog 9 #[.string s] W fun e' w' => e' = .returned (.tuple #[.int .u64 c, .int .i64 k, .int .i64 0]) ∧ W = w' := fun W => by
    have h := readnum_any s (by omega) W
    rw [hr] at h
    exact h
  have HC1 := Lib.hid hc1
  have hc2 : ∀ W, Calls Try.prog 16 #[.string s, .int .i64 m] W fun e' w' => e' = .returned (.tuple #[.string ⟨d.toArray⟩, .int .i64 j, .int .i64 z]) ∧ Below W.heap.size W w' := fun W => by
    have h := readtext_any s m W (by omega) m1 m2
    rw [hq] at h
    exact h
  have HC2 := Lib.hid hc2
  obtain ⟨k1, k2, ck, c8⟩ := rdn_sound hr
  have HC8 := Lib.hid c8
  have hk2 : k ≤ s.size := by simpa using k2
  have f1 : decide ((k : Int) < 1) = false := by simp; omega
  have f2 : decide (s.size < k) = false := by simp; omega
  have f3 : (s.extract 0 k).toList = enc c := by rw [cut_list, ck]
  clear c8 k2 ck
  have g1 : ((z : Int) == 0) = false := by rw [beq_eq_false_iff_ne]; omega
  clear hv hc1 hc2 hr hq
  go_enter Try.func5, Try.ntmps5
  go_wp2_with fail
  refine (num_any _ HV.out _).mono ?_; rintro e w1 ⟨rfl, hb1⟩
  go_wp2_with fail
  refine (readnum_back v s _ HV.out (by omega)).mono ?_; rintro e w' ⟨rfl, rfl⟩
  go_wp2_with fail
  refine (text_any t _ (by omega)).mono ?_; rintro e w2 ⟨rfl, hb2⟩
  go_wp2_with fail
  refine (readtext_back t s _ (by omega) (by omega)).mono ?_; rintro e w3 ⟨rfl, hb3⟩
  go_wp2_with fail
  refine (num_any _ HV.out _).mono ?_; rintro e w4 ⟨rfl, hb4⟩
  go_wp2_with fail
  refine (text_any t _ (by omega)).mono ?_; rintro e w5 ⟨rfl, hb5⟩
  go_wp2_with fail
  refine (HC1.out _).mono ?_; rintro e w' ⟨rfl, rfl⟩
  go_wp2_with fail
  go_region_held3 (fun _ => True) (trivial) (first | (go_at_call 11; refine (num_any _ HC8.out _).mono ?_; rintro e w6 ⟨rfl, hb6⟩))
  go_wp2_with fail
  refine (HC2.out _).mono ?_; rintro e w7 ⟨rfl, hb7⟩
  go_wp2_with fail
  go_quiet (fail)
  go_wp2_with fail
  refine (alive_any _).mono ?_; rintro e w9 ⟨rfl, hb9⟩
  go_wp2_with fail
  go_ret
  exact ⟨rfl, below_step (below_step (below_step (below_step (below_step (below_step (below_step hb1 hb2) hb3) hb4) hb5) (below_undrew hb6)) hb7) (below_undrewN hb9)⟩
set_option maxHeartbeats 1000000 in
set_option maxRecDepth 100000 in
theorem back_ee (v : Nat) (s t : ByteArray) (m : Int) (w : World) (h : ¬ 8192 < t.size) (h2 : ¬ 8192 < s.size) (hv : v < 256 ^ 8) (m1 : -9223372036854775808 ≤ m) (m2 : m ≤ 9223372036854775807)
    (c k y : Nat) (hr : rdn s.data.toList = (c, k, y)) (hy : y ≠ 0) (d : List UInt8) (j z : Nat) (hq : rdt s.data.toList m = (d, j, z)) (hz : z ≠ 0) :
    Calls Try.prog 5 #[.int .u64 v, .string t, .string s, .int .i64 m] w fun e w' => e = .returned (.bool true) ∧ Below w.heap.size w w' := by
  have l1 := (enc_len v).2
  have l2 := (enc_len t.size).2
  have HV := Lib.hid hv
  have hc1 : ∀ W, Calls Try.prog 9 #[.string s] W fun e' w' => e' = .returned (.tuple #[.int .u64 c, .int .i64 k, .int .i64 y]) ∧ W = w' := fun W => by
    have h := readnum_any s (by omega) W
    rw [hr] at h
    exact h
  have HC1 := Lib.hid hc1
  have hc2 : ∀ W, Calls Try.prog 16 #[.string s, .int .i64 m] W fun e' w' => e' = .returned (.tuple #[.string ⟨d.toArray⟩, .int .i64 j, .int .i64 z]) ∧ Below W.heap.size W w' := fun W => by
    have h := readtext_any s m W (by omega) m1 m2
    rw [hq] at h
    exact h
  have HC2 := Lib.hid hc2
  have f1 : ((y : Int) == 0) = false := by rw [beq_eq_false_iff_ne]; omega
  have g1 : ((z : Int) == 0) = false := by rw [beq_eq_false_iff_ne]; omega
  clear hv hc1 hc2 hr hq
  go_enter Try.func5, Try.ntmps5
  go_wp2_with fail
  refine (num_any _ HV.out _).mono ?_; rintro e w1 ⟨rfl, hb1⟩
  go_wp2_with fail
  refine (readnum_back v s _ HV.out (by omega)).mono ?_; rintro e w' ⟨rfl, rfl⟩
  go_wp2_with fail
  refine (text_any t _ (by omega)).mono ?_; rintro e w2 ⟨rfl, hb2⟩
  go_wp2_with fail
  refine (readtext_back t s _ (by omega) (by omega)).mono ?_; rintro e w3 ⟨rfl, hb3⟩
  go_wp2_with fail
  refine (num_any _ HV.out _).mono ?_; rintro e w4 ⟨rfl, hb4⟩
  go_wp2_with fail
  refine (text_any t _ (by omega)).mono ?_; rintro e w5 ⟨rfl, hb5⟩
  go_wp2_with fail
  refine (HC1.out _).mono ?_; rintro e w' ⟨rfl, rfl⟩
  go_wp2_with fail
  go_quiet (fail)
  go_wp2_with fail
  refine (HC2.out _).mono ?_; rintro e w7 ⟨rfl, hb7⟩
  go_wp2_with fail
  go_quiet (fail)
  go_wp2_with fail
  refine (alive_any _).mono ?_; rintro e w9 ⟨rfl, hb9⟩
  go_wp2_with fail
  go_ret
  exact ⟨rfl, below_step (below_step (below_step (below_step (below_step (below_step hb1 hb2) hb3) hb4) hb5) (below_undrewN hb7)) (below_undrewN hb9)⟩
theorem back_any (v : Nat) (s t : ByteArray) (m : Int) (w : World) (hv : v < 256 ^ 8) (m1 : -9223372036854775808 ≤ m) (m2 : m ≤ 9223372036854775807) :
    Calls Try.prog 5 #[.int .u64 v, .string t, .string s, .int .i64 m] w fun e w' => e = .returned (.bool true) ∧ Below w.heap.size w w' := by
  by_cases h : 8192 < t.size
  · exact back_large v s t m w h
  · by_cases h2 : 8192 < s.size
    · exact back_large2 v s t m w h h2
    · have ⟨c, k, y, hr⟩ : ∃ c k y, rdn s.data.toList = (c, k, y) := ⟨_, _, _, rfl⟩
      have ⟨d, j, z, hq⟩ : ∃ d j z, rdt s.data.toList m = (d, j, z) := ⟨_, _, _, rfl⟩
      by_cases hy : y = 0
      · subst hy
        by_cases hz : z = 0
        · subst hz
          exact back_oo v s t m w h h2 hv m1 m2 c k hr d j hq
        · exact back_oe v s t m w h h2 hv m1 m2 c k hr d j z hq hz
      · have hq2 := rdt_err (m := m) hr hy
        rw [hq] at hq2
        exact back_ee v s t m w h h2 hv m1 m2 c k y hr hy d j z hq (by
          have := congrArg (fun x => x.2.2) hq2
          simp at this
          omega)
end Go.Proofs.Ytdddmaobmdinbaa.Pl
