/- SuiteBack answers true, whatever it is given. -/
import Derived.Test.YtedidoeoomijjaaDoorSuiteAlive
namespace Go.Proofs.YtedidoeoomijjaaDoor.Pl
open Go.RowKit

theorem st2_bl (t : ByteArray) (c : Nat) : st2 (bl t, c) = .tuple #[.string t, .int .i64 c] := by
  show Value.tuple #[.string ⟨(bl t).toArray⟩, _] = _
  rw [show (⟨(bl t).toArray⟩ : ByteArray) = t from bl_inj (bl_mk _)]
theorem dataP_err {s : List UInt8} (h : (dataP s).2 ≠ 0) : (dataP s).1 = [] := by
  unfold dataP at h ⊢
  split
  · rfl
  · rename_i h1
    rw [if_neg h1] at h
    exact absurd rfl h
theorem madeP_err {f : List UInt8} {l : List (List UInt8)} (h : (madeP f l).2 ≠ 0) : (madeP f l).1 = [] := by
  unfold madeP at h ⊢
  split
  · rename_i h1
    rw [if_pos h1] at h
    split
    · rename_i h2
      rw [if_pos h2] at h
      exact absurd rfl h
    · rfl
  · rfl
theorem seal_err8 {c : Cry} {b : Bool} {k n t : List UInt8} (h : (seal8P c b k n t).2 ≠ 0) : (seal8P c b k n t).1 = [] := by
  unfold seal8P at h ⊢
  split
  · rfl
  · rename_i h1
    rw [if_neg h1] at h
    split
    · rename_i h2
      rw [if_pos h2] at h
      exact madeP_err h
    · rename_i h2
      rw [if_neg h2] at h
      exact dataP_err h
theorem seal_args {c : Cry} {b : Bool} {k n t x : List UInt8} (h : seal8P c b k n t = (x, 0)) : checkP k = 0 ∧ checkP n = 0 ∧ checkP t = 0 := by
  unfold seal8P at h
  split at h
  · simp at h
  · rename_i h1
    simp only [not_or, ne_eq, Classical.not_not] at h1
    exact ⟨h1.1, h1.2.1, h1.2.2.1⟩
theorem back8 {b : Bool} {k n t x : List UInt8} (h : seal8P cryP b k n t = (x, 0)) : open8P cryP b k x = (t, 0) ∧ x ≠ t := by
  cases b with
  | true => exact back_terms h
  | false => exact back_bytes h
theorem ba_size20 {l : List UInt8} (h : l.length ≤ 16384) : (⟨l.toArray⟩ : ByteArray).size ≤ 20000 := by rw [size_lit]; omega
theorem kind_size (m : ByteArray) (h : m.size ≤ 64) : m.size ≤ 20000 := by omega

set_option maxRecDepth 100000 in
theorem back_none (c : Nat) (m k j n t : ByteArray) (h1 : c ≠ 1) (h2 : ¬ (c = 2 ∧ 1 ≤ m.size ∧ m.size ≤ 64)) (w : World) (hT : Tab w) :
    Calls Tryd.prog 4 #[.int .u8 c, .string m, .string k, .string j, .string n, .string t] w fun e w' => e = .returned (.bool true) ∧ Below w.heap.size w w' := by
  have T0 := Lib.hid hT
  have HN := Lib.hid (new_none c m h1 h2 w)
  have HA := Lib.hid (fun V h => alive8_any V h)
  clear hT h1 h2
  go_enter Tryd.func4, Tryd.ntmps4
  go_wp2_with fail
  refine (HN.out).mono ?_; rintro e w1 ⟨rfl, rfl⟩
  go_wp2_with fail
  refine (HA.out _ T0.out).mono ?_; rintro e w2 ⟨rfl, b2⟩
  have B2 := Lib.hid b2
  have T2 := Lib.hid (T0.out.below b2)
  clear b2
  go_wp2_with fail
  go_ret
  exact ⟨rfl, B2.out⟩

set_option maxHeartbeats 4000000 in
set_option maxRecDepth 100000 in
theorem back_terms8 (m k j n t : ByteArray) (w : World) (hT : Tab w) :
    Calls Tryd.prog 4 #[.int .u8 1, .string m, .string k, .string j, .string n, .string t] w fun e w' => e = .returned (.bool true) ∧ Below w.heap.size w w' := by
  have T0 := Lib.hid hT
  have HN := Lib.hid (fun V h => new_terms m V h)
  have HA := Lib.hid (fun V h => alive8_any V h)
  have HL := Lib.hid (fun V => long8_any k j n t V)
  cases hl : longB k j n t with
  | true =>
    rw [hl] at HL
    clear hT hl
    go_enter Tryd.func4, Tryd.ntmps4
    go_wp2_with fail
    refine (HN.out _ T0.out).mono ?_; rintro e w1 ⟨⟨p, rfl, s1⟩, b1⟩
    have B1 := Lib.hid b1
    have T1 := Lib.hid (T0.out.below b1)
    have S1 := Lib.hid s1
    clear b1 s1
    go_wp2_with fail
    refine (HL.out _).mono ?_; rintro e w2 ⟨rfl, rfl⟩
    go_wp2_with fail
    refine (HA.out _ T1.out).mono ?_; rintro e w3 ⟨rfl, b3⟩
    have B3 := Lib.hid (below_step B1.out b3)
    have T3 := Lib.hid (T1.out.below b3)
    have S3 := Lib.hid (S1.out.below b3)
    clear b3
    go_wp2_with fail
    go_ret
    exact ⟨rfl, B3.out⟩
  | false =>
    rw [hl] at HL
    obtain ⟨hk, hj, hn, ht⟩ := longB_no hl
    have HS := Lib.hid (fun p V (h : SuiteAt V p true m) => seal8_any true m k hk n hn t ht p V h)
    obtain ⟨X, hX⟩ : ∃ X, X = seal8P cryP true (bl k) (bl n) (bl t) := ⟨_, rfl⟩
    rw [← hX] at HS
    obtain ⟨xs, f⟩ := X
    by_cases hf : f = 0
    · subst hf
      have hx := ba_size20 (l := xs) (by have := seal_short cryP true (bl k) (bl n) (bl t); rw [← hX] at this; exact this)
      have hb := back8 hX.symm
      have hba := bl_mk xs
      have HO := Lib.hid (fun p V (h : SuiteAt V p true m) => open8_any true m k hk ⟨xs.toArray⟩ hx p V h)
      rw [bl_mk xs, hb.1, st2_bl] at HO
      have HKd := Lib.hid (fun p V (h : SuiteAt V p true m) => skind_any true m p V h)
      have HJ := Lib.hid (fun V => check_any j (by omega) V)
      have HP := Lib.hid (fun p V (h : SuiteAt V p true m) => open8_any true m j hj ⟨xs.toArray⟩ hx p V h)
      have HQ := Lib.hid (fun p V (h : SuiteAt V p true m) => open8_any true m k hk n hn p V h)
      have HI := Lib.hid (fun V => tkind_any n (by omega) V)
      have hargs := seal_args hX.symm
      have hoth := fun (hc : checkP (bl j) = 0) => other_terms hX.symm hc
      rw [bl_mk xs] at HP
      unfold st2 at HS
      dsimp only at HS
      have hne : (⟨xs.toArray⟩ : ByteArray) ≠ t := fun e => hb.2 (by rw [← e]; exact hba)
      obtain ⟨g1, g2⟩ := str_ne8 hne
      generalize hxv : (⟨xs.toArray⟩ : ByteArray) = x at *
      by_cases hc : checkP (bl j) = 0
      · rw [hc] at HJ
        have hot := hoth hc
        rw [hot] at HP
        by_cases h6 : kindP (bl n) = 6
        · rw [h6] at HI
          obtain ⟨Q, hQ⟩ : ∃ Q, Q = open8P cryP true (bl k) (bl n) := ⟨_, rfl⟩
          rw [← hQ] at HQ
          obtain ⟨r, i⟩ := Q
          unfold st2 at HQ
          dsimp only at HQ
          by_cases hjk : j = k
          · subst hjk
            rw [if_pos rfl, st2_bl] at HP
            clear hT hl hk hn ht hX hx hb hba hne hargs hoth hc hot h6 hQ hxv
            go_enter Tryd.func4, Tryd.ntmps4
            go_wp2_with fail
            refine (HN.out _ T0.out).mono ?_; rintro e w1 ⟨⟨p, rfl, s1⟩, b1⟩
            have B1 := Lib.hid b1
            have T1 := Lib.hid (T0.out.below b1)
            have S1 := Lib.hid s1
            clear b1 s1
            go_wp2_with fail
            refine (HL.out _).mono ?_; rintro e w2 ⟨rfl, rfl⟩
            go_wp2_with fail
            refine (HS.out _ _ S1.out).mono ?_; rintro e w3 ⟨rfl, b3⟩
            have B3 := Lib.hid (below_step B1.out b3)
            have T3 := Lib.hid (T1.out.below b3)
            have S3 := Lib.hid (S1.out.below b3)
            clear b3
            go_wp2_with fail
            refine (HO.out _ _ S3.out).mono ?_; rintro e w4 ⟨rfl, b4⟩
            have B4 := Lib.hid (below_step B3.out b4)
            have T4 := Lib.hid (T3.out.below b4)
            have S4 := Lib.hid (S3.out.below b4)
            clear b4
            go_wp2_with fail
            refine (HKd.out _ _ S4.out).mono ?_; rintro e w5 ⟨rfl, b5⟩
            have B5 := Lib.hid (below_step B4.out b5)
            have T5 := Lib.hid (T4.out.below b5)
            have S5 := Lib.hid (S4.out.below b5)
            clear b5
            go_wp2_with fail
            refine (HJ.out _).mono ?_; rintro e w6 ⟨rfl, b6⟩
            have B6 := Lib.hid (below_step B5.out b6)
            have T6 := Lib.hid (T5.out.below b6)
            have S6 := Lib.hid (S5.out.below b6)
            clear b6
            go_wp2_with fail
            refine (HP.out _ _ S6.out).mono ?_; rintro e w7 ⟨rfl, b7⟩
            have B7 := Lib.hid (below_step B6.out b7)
            have T7 := Lib.hid (T6.out.below b7)
            have S7 := Lib.hid (S6.out.below b7)
            clear b7
            go_wp2_with fail
            refine (HQ.out _ _ S7.out).mono ?_; rintro e w8 ⟨rfl, b8⟩
            have B8 := Lib.hid (below_step B7.out b8)
            have T8 := Lib.hid (T7.out.below b8)
            have S8 := Lib.hid (S7.out.below b8)
            clear b8
            go_wp2_with fail
            refine (HI.out _).mono ?_; rintro e w9 ⟨rfl, b9⟩
            have B9 := Lib.hid (below_step B8.out b9)
            have T9 := Lib.hid (T8.out.below b9)
            have S9 := Lib.hid (S8.out.below b9)
            clear b9
            go_wp2_with fail
            refine (HA.out _ T9.out).mono ?_; rintro e w10 ⟨rfl, b10⟩
            have B10 := Lib.hid (below_step B9.out b10)
            have T10 := Lib.hid (T9.out.below b10)
            have S10 := Lib.hid (S9.out.below b10)
            clear b10
            go_wp2_with fail
            go_ret
            exact ⟨rfl, B10.out⟩
          · rw [if_neg (fun e => hjk (bl_inj e))] at HP
            unfold st2 at HP
            dsimp only at HP
            obtain ⟨j1, j2⟩ := str_ne8 hjk
            clear hT hl hk hj hn ht hX hx hb hba hne hargs hoth hc hot h6 hQ hxv
            go_enter Tryd.func4, Tryd.ntmps4
            go_wp2_with fail
            refine (HN.out _ T0.out).mono ?_; rintro e w1 ⟨⟨p, rfl, s1⟩, b1⟩
            have B1 := Lib.hid b1
            have T1 := Lib.hid (T0.out.below b1)
            have S1 := Lib.hid s1
            clear b1 s1
            go_wp2_with fail
            refine (HL.out _).mono ?_; rintro e w2 ⟨rfl, rfl⟩
            go_wp2_with fail
            refine (HS.out _ _ S1.out).mono ?_; rintro e w3 ⟨rfl, b3⟩
            have B3 := Lib.hid (below_step B1.out b3)
            have T3 := Lib.hid (T1.out.below b3)
            have S3 := Lib.hid (S1.out.below b3)
            clear b3
            go_wp2_with fail
            refine (HO.out _ _ S3.out).mono ?_; rintro e w4 ⟨rfl, b4⟩
            have B4 := Lib.hid (below_step B3.out b4)
            have T4 := Lib.hid (T3.out.below b4)
            have S4 := Lib.hid (S3.out.below b4)
            clear b4
            go_wp2_with fail
            refine (HKd.out _ _ S4.out).mono ?_; rintro e w5 ⟨rfl, b5⟩
            have B5 := Lib.hid (below_step B4.out b5)
            have T5 := Lib.hid (T4.out.below b5)
            have S5 := Lib.hid (S4.out.below b5)
            clear b5
            go_wp2_with fail
            refine (HJ.out _).mono ?_; rintro e w6 ⟨rfl, b6⟩
            have B6 := Lib.hid (below_step B5.out b6)
            have T6 := Lib.hid (T5.out.below b6)
            have S6 := Lib.hid (S5.out.below b6)
            clear b6
            go_wp2_with fail
            refine (HP.out _ _ S6.out).mono ?_; rintro e w7 ⟨rfl, b7⟩
            have B7 := Lib.hid (below_step B6.out b7)
            have T7 := Lib.hid (T6.out.below b7)
            have S7 := Lib.hid (S6.out.below b7)
            clear b7
            go_wp2_with fail
            refine (HQ.out _ _ S7.out).mono ?_; rintro e w8 ⟨rfl, b8⟩
            have B8 := Lib.hid (below_step B7.out b8)
            have T8 := Lib.hid (T7.out.below b8)
            have S8 := Lib.hid (S7.out.below b8)
            clear b8
            go_wp2_with fail
            refine (HI.out _).mono ?_; rintro e w9 ⟨rfl, b9⟩
            have B9 := Lib.hid (below_step B8.out b9)
            have T9 := Lib.hid (T8.out.below b9)
            have S9 := Lib.hid (S8.out.below b9)
            clear b9
            go_wp2_with fail
            refine (HA.out _ T9.out).mono ?_; rintro e w10 ⟨rfl, b10⟩
            have B10 := Lib.hid (below_step B9.out b10)
            have T10 := Lib.hid (T9.out.below b10)
            have S10 := Lib.hid (S9.out.below b10)
            clear b10
            go_wp2_with fail
            go_ret
            exact ⟨rfl, B10.out⟩
        · have q6 : ((kindP (bl n) : Int) == 6) = false := by rw [beq_eq_false_iff_ne]; omega
          rw [form_terms hargs.1 hargs.2.1 h6] at HQ
          unfold st2 at HQ
          dsimp only at HQ
          generalize kindP (bl n) = kn at *
          by_cases hjk : j = k
          · subst hjk
            rw [if_pos rfl, st2_bl] at HP
            clear hT hl hk hn ht hX hx hb hba hne hargs hoth hc hot h6 hxv
            go_enter Tryd.func4, Tryd.ntmps4
            go_wp2_with fail
            refine (HN.out _ T0.out).mono ?_; rintro e w1 ⟨⟨p, rfl, s1⟩, b1⟩
            have B1 := Lib.hid b1
            have T1 := Lib.hid (T0.out.below b1)
            have S1 := Lib.hid s1
            clear b1 s1
            go_wp2_with fail
            refine (HL.out _).mono ?_; rintro e w2 ⟨rfl, rfl⟩
            go_wp2_with fail
            refine (HS.out _ _ S1.out).mono ?_; rintro e w3 ⟨rfl, b3⟩
            have B3 := Lib.hid (below_step B1.out b3)
            have T3 := Lib.hid (T1.out.below b3)
            have S3 := Lib.hid (S1.out.below b3)
            clear b3
            go_wp2_with fail
            refine (HO.out _ _ S3.out).mono ?_; rintro e w4 ⟨rfl, b4⟩
            have B4 := Lib.hid (below_step B3.out b4)
            have T4 := Lib.hid (T3.out.below b4)
            have S4 := Lib.hid (S3.out.below b4)
            clear b4
            go_wp2_with fail
            refine (HKd.out _ _ S4.out).mono ?_; rintro e w5 ⟨rfl, b5⟩
            have B5 := Lib.hid (below_step B4.out b5)
            have T5 := Lib.hid (T4.out.below b5)
            have S5 := Lib.hid (S4.out.below b5)
            clear b5
            go_wp2_with fail
            refine (HJ.out _).mono ?_; rintro e w6 ⟨rfl, b6⟩
            have B6 := Lib.hid (below_step B5.out b6)
            have T6 := Lib.hid (T5.out.below b6)
            have S6 := Lib.hid (S5.out.below b6)
            clear b6
            go_wp2_with fail
            refine (HP.out _ _ S6.out).mono ?_; rintro e w7 ⟨rfl, b7⟩
            have B7 := Lib.hid (below_step B6.out b7)
            have T7 := Lib.hid (T6.out.below b7)
            have S7 := Lib.hid (S6.out.below b7)
            clear b7
            go_wp2_with fail
            refine (HQ.out _ _ S7.out).mono ?_; rintro e w8 ⟨rfl, b8⟩
            have B8 := Lib.hid (below_step B7.out b8)
            have T8 := Lib.hid (T7.out.below b8)
            have S8 := Lib.hid (S7.out.below b8)
            clear b8
            go_wp2_with fail
            refine (HI.out _).mono ?_; rintro e w9 ⟨rfl, b9⟩
            have B9 := Lib.hid (below_step B8.out b9)
            have T9 := Lib.hid (T8.out.below b9)
            have S9 := Lib.hid (S8.out.below b9)
            clear b9
            go_wp2_with fail
            refine (HA.out _ T9.out).mono ?_; rintro e w10 ⟨rfl, b10⟩
            have B10 := Lib.hid (below_step B9.out b10)
            have T10 := Lib.hid (T9.out.below b10)
            have S10 := Lib.hid (S9.out.below b10)
            clear b10
            go_wp2_with fail
            go_ret
            exact ⟨rfl, B10.out⟩
          · rw [if_neg (fun e => hjk (bl_inj e))] at HP
            unfold st2 at HP
            dsimp only at HP
            obtain ⟨j1, j2⟩ := str_ne8 hjk
            clear hT hl hk hj hn ht hX hx hb hba hne hargs hoth hc hot h6 hxv
            go_enter Tryd.func4, Tryd.ntmps4
            go_wp2_with fail
            refine (HN.out _ T0.out).mono ?_; rintro e w1 ⟨⟨p, rfl, s1⟩, b1⟩
            have B1 := Lib.hid b1
            have T1 := Lib.hid (T0.out.below b1)
            have S1 := Lib.hid s1
            clear b1 s1
            go_wp2_with fail
            refine (HL.out _).mono ?_; rintro e w2 ⟨rfl, rfl⟩
            go_wp2_with fail
            refine (HS.out _ _ S1.out).mono ?_; rintro e w3 ⟨rfl, b3⟩
            have B3 := Lib.hid (below_step B1.out b3)
            have T3 := Lib.hid (T1.out.below b3)
            have S3 := Lib.hid (S1.out.below b3)
            clear b3
            go_wp2_with fail
            refine (HO.out _ _ S3.out).mono ?_; rintro e w4 ⟨rfl, b4⟩
            have B4 := Lib.hid (below_step B3.out b4)
            have T4 := Lib.hid (T3.out.below b4)
            have S4 := Lib.hid (S3.out.below b4)
            clear b4
            go_wp2_with fail
            refine (HKd.out _ _ S4.out).mono ?_; rintro e w5 ⟨rfl, b5⟩
            have B5 := Lib.hid (below_step B4.out b5)
            have T5 := Lib.hid (T4.out.below b5)
            have S5 := Lib.hid (S4.out.below b5)
            clear b5
            go_wp2_with fail
            refine (HJ.out _).mono ?_; rintro e w6 ⟨rfl, b6⟩
            have B6 := Lib.hid (below_step B5.out b6)
            have T6 := Lib.hid (T5.out.below b6)
            have S6 := Lib.hid (S5.out.below b6)
            clear b6
            go_wp2_with fail
            refine (HP.out _ _ S6.out).mono ?_; rintro e w7 ⟨rfl, b7⟩
            have B7 := Lib.hid (below_step B6.out b7)
            have T7 := Lib.hid (T6.out.below b7)
            have S7 := Lib.hid (S6.out.below b7)
            clear b7
            go_wp2_with fail
            refine (HQ.out _ _ S7.out).mono ?_; rintro e w8 ⟨rfl, b8⟩
            have B8 := Lib.hid (below_step B7.out b8)
            have T8 := Lib.hid (T7.out.below b8)
            have S8 := Lib.hid (S7.out.below b8)
            clear b8
            go_wp2_with fail
            refine (HI.out _).mono ?_; rintro e w9 ⟨rfl, b9⟩
            have B9 := Lib.hid (below_step B8.out b9)
            have T9 := Lib.hid (T8.out.below b9)
            have S9 := Lib.hid (S8.out.below b9)
            clear b9
            go_wp2_with fail
            refine (HA.out _ T9.out).mono ?_; rintro e w10 ⟨rfl, b10⟩
            have B10 := Lib.hid (below_step B9.out b10)
            have T10 := Lib.hid (T9.out.below b10)
            have S10 := Lib.hid (S9.out.below b10)
            clear b10
            go_wp2_with fail
            go_ret
            exact ⟨rfl, B10.out⟩
      · have q5 := neq0_no hc
        generalize checkP (bl j) = cj at *
        clear hT hl hk hj hn ht hX hx hb hba hne hargs hoth hc hxv HP HQ
        go_enter Tryd.func4, Tryd.ntmps4
        go_wp2_with fail
        refine (HN.out _ T0.out).mono ?_; rintro e w1 ⟨⟨p, rfl, s1⟩, b1⟩
        have B1 := Lib.hid b1
        have T1 := Lib.hid (T0.out.below b1)
        have S1 := Lib.hid s1
        clear b1 s1
        go_wp2_with fail
        refine (HL.out _).mono ?_; rintro e w2 ⟨rfl, rfl⟩
        go_wp2_with fail
        refine (HS.out _ _ S1.out).mono ?_; rintro e w3 ⟨rfl, b3⟩
        have B3 := Lib.hid (below_step B1.out b3)
        have T3 := Lib.hid (T1.out.below b3)
        have S3 := Lib.hid (S1.out.below b3)
        clear b3
        go_wp2_with fail
        refine (HO.out _ _ S3.out).mono ?_; rintro e w4 ⟨rfl, b4⟩
        have B4 := Lib.hid (below_step B3.out b4)
        have T4 := Lib.hid (T3.out.below b4)
        have S4 := Lib.hid (S3.out.below b4)
        clear b4
        go_wp2_with fail
        refine (HKd.out _ _ S4.out).mono ?_; rintro e w5 ⟨rfl, b5⟩
        have B5 := Lib.hid (below_step B4.out b5)
        have T5 := Lib.hid (T4.out.below b5)
        have S5 := Lib.hid (S4.out.below b5)
        clear b5
        go_wp2_with fail
        refine (HJ.out _).mono ?_; rintro e w6 ⟨rfl, b6⟩
        have B6 := Lib.hid (below_step B5.out b6)
        have T6 := Lib.hid (T5.out.below b6)
        have S6 := Lib.hid (S5.out.below b6)
        clear b6
        go_wp2_with fail
        refine (HA.out _ T6.out).mono ?_; rintro e w7 ⟨rfl, b7⟩
        have B7 := Lib.hid (below_step B6.out b7)
        have T7 := Lib.hid (T6.out.below b7)
        have S7 := Lib.hid (S6.out.below b7)
        clear b7
        go_wp2_with fail
        go_ret
        exact ⟨rfl, B7.out⟩
    · have hr : xs = [] := by have := seal_err8 (c := cryP) (b := true) (k := bl k) (n := bl n) (t := bl t) (by rw [← hX]; exact hf); rw [← hX] at this; exact this
      subst hr
      have q1 := neq0_no hf
      unfold st2 at HS
      dsimp only at HS
      clear hT hl hk hj hn ht hX hf
      go_enter Tryd.func4, Tryd.ntmps4
      go_wp2_with fail
      refine (HN.out _ T0.out).mono ?_; rintro e w1 ⟨⟨p, rfl, s1⟩, b1⟩
      have B1 := Lib.hid b1
      have T1 := Lib.hid (T0.out.below b1)
      have S1 := Lib.hid s1
      clear b1 s1
      go_wp2_with fail
      refine (HL.out _).mono ?_; rintro e w2 ⟨rfl, rfl⟩
      go_wp2_with fail
      refine (HS.out _ _ S1.out).mono ?_; rintro e w3 ⟨rfl, b3⟩
      have B3 := Lib.hid (below_step B1.out b3)
      have T3 := Lib.hid (T1.out.below b3)
      have S3 := Lib.hid (S1.out.below b3)
      clear b3
      go_wp2_with fail
      refine (HA.out _ T3.out).mono ?_; rintro e w4 ⟨rfl, b4⟩
      have B4 := Lib.hid (below_step B3.out b4)
      have T4 := Lib.hid (T3.out.below b4)
      have S4 := Lib.hid (S3.out.below b4)
      clear b4
      go_wp2_with fail
      go_ret
      exact ⟨rfl, B4.out⟩

set_option maxHeartbeats 4000000 in
set_option maxRecDepth 100000 in
theorem back_bytes8 (m k j n t : ByteArray) (h1 : 1 ≤ m.size) (h2 : m.size ≤ 64) (w : World) (hT : Tab w) :
    Calls Tryd.prog 4 #[.int .u8 2, .string m, .string k, .string j, .string n, .string t] w fun e w' => e = .returned (.bool true) ∧ Below w.heap.size w w' := by
  have T0 := Lib.hid hT
  have HN := Lib.hid (fun V h => new_bytes m h1 h2 V h)
  have HA := Lib.hid (fun V h => alive8_any V h)
  have HL := Lib.hid (fun V => long8_any k j n t V)
  cases hl : longB k j n t with
  | true =>
    rw [hl] at HL
    clear hT hl h1 h2
    go_enter Tryd.func4, Tryd.ntmps4
    go_wp2_with fail
    refine (HN.out _ T0.out).mono ?_; rintro e w1 ⟨⟨p, rfl, s1⟩, b1⟩
    have B1 := Lib.hid b1
    have T1 := Lib.hid (T0.out.below b1)
    have S1 := Lib.hid s1
    clear b1 s1
    go_wp2_with fail
    refine (HL.out _).mono ?_; rintro e w2 ⟨rfl, rfl⟩
    go_wp2_with fail
    refine (HA.out _ T1.out).mono ?_; rintro e w3 ⟨rfl, b3⟩
    have B3 := Lib.hid (below_step B1.out b3)
    have T3 := Lib.hid (T1.out.below b3)
    have S3 := Lib.hid (S1.out.below b3)
    clear b3
    go_wp2_with fail
    go_ret
    exact ⟨rfl, B3.out⟩
  | false =>
    rw [hl] at HL
    obtain ⟨hk, hj, hn, ht⟩ := longB_no hl
    have HS := Lib.hid (fun p V (h : SuiteAt V p false m) => seal8_any false m k hk n hn t ht p V h)
    obtain ⟨X, hX⟩ : ∃ X, X = seal8P cryP false (bl k) (bl n) (bl t) := ⟨_, rfl⟩
    rw [← hX] at HS
    obtain ⟨xs, f⟩ := X
    by_cases hf : f = 0
    · subst hf
      have hx := ba_size20 (l := xs) (by have := seal_short cryP false (bl k) (bl n) (bl t); rw [← hX] at this; exact this)
      have hb := back8 hX.symm
      have hba := bl_mk xs
      have HO := Lib.hid (fun p V (h : SuiteAt V p false m) => open8_any false m k hk ⟨xs.toArray⟩ hx p V h)
      rw [bl_mk xs, hb.1, st2_bl] at HO
      have HKd := Lib.hid (fun p V (h : SuiteAt V p false m) => skind_any false m p V h)
      unfold st2 at HS
      dsimp only at HS
      have hne : (⟨xs.toArray⟩ : ByteArray) ≠ t := fun e => hb.2 (by rw [← e]; exact hba)
      obtain ⟨g1, g2⟩ := str_ne8 hne
      generalize (⟨xs.toArray⟩ : ByteArray) = x at *
      clear hT hl h1 h2 hk hj hn ht hX hx hb hba hne
      go_enter Tryd.func4, Tryd.ntmps4
      go_wp2_with fail
      refine (HN.out _ T0.out).mono ?_; rintro e w1 ⟨⟨p, rfl, s1⟩, b1⟩
      have B1 := Lib.hid b1
      have T1 := Lib.hid (T0.out.below b1)
      have S1 := Lib.hid s1
      clear b1 s1
      go_wp2_with fail
      refine (HL.out _).mono ?_; rintro e w2 ⟨rfl, rfl⟩
      go_wp2_with fail
      refine (HS.out _ _ S1.out).mono ?_; rintro e w3 ⟨rfl, b3⟩
      have B3 := Lib.hid (below_step B1.out b3)
      have T3 := Lib.hid (T1.out.below b3)
      have S3 := Lib.hid (S1.out.below b3)
      clear b3
      go_wp2_with fail
      refine (HO.out _ _ S3.out).mono ?_; rintro e w4 ⟨rfl, b4⟩
      have B4 := Lib.hid (below_step B3.out b4)
      have T4 := Lib.hid (T3.out.below b4)
      have S4 := Lib.hid (S3.out.below b4)
      clear b4
      go_wp2_with fail
      refine (HKd.out _ _ S4.out).mono ?_; rintro e w5 ⟨rfl, b5⟩
      have B5 := Lib.hid (below_step B4.out b5)
      have T5 := Lib.hid (T4.out.below b5)
      have S5 := Lib.hid (S4.out.below b5)
      clear b5
      go_wp2_with fail
      refine (HA.out _ T5.out).mono ?_; rintro e w6 ⟨rfl, b6⟩
      have B6 := Lib.hid (below_step B5.out b6)
      have T6 := Lib.hid (T5.out.below b6)
      have S6 := Lib.hid (S5.out.below b6)
      clear b6
      go_wp2_with fail
      go_ret
      exact ⟨rfl, B6.out⟩
    · have hr : xs = [] := by have := seal_err8 (c := cryP) (b := false) (k := bl k) (n := bl n) (t := bl t) (by rw [← hX]; exact hf); rw [← hX] at this; exact this
      subst hr
      have q1 := neq0_no hf
      unfold st2 at HS
      dsimp only at HS
      clear hT hl hk hj hn ht hX hf h1 h2
      go_enter Tryd.func4, Tryd.ntmps4
      go_wp2_with fail
      refine (HN.out _ T0.out).mono ?_; rintro e w1 ⟨⟨p, rfl, s1⟩, b1⟩
      have B1 := Lib.hid b1
      have T1 := Lib.hid (T0.out.below b1)
      have S1 := Lib.hid s1
      clear b1 s1
      go_wp2_with fail
      refine (HL.out _).mono ?_; rintro e w2 ⟨rfl, rfl⟩
      go_wp2_with fail
      refine (HS.out _ _ S1.out).mono ?_; rintro e w3 ⟨rfl, b3⟩
      have B3 := Lib.hid (below_step B1.out b3)
      have T3 := Lib.hid (T1.out.below b3)
      have S3 := Lib.hid (S1.out.below b3)
      clear b3
      go_wp2_with fail
      refine (HA.out _ T3.out).mono ?_; rintro e w4 ⟨rfl, b4⟩
      have B4 := Lib.hid (below_step B3.out b4)
      have T4 := Lib.hid (T3.out.below b4)
      have S4 := Lib.hid (S3.out.below b4)
      clear b4
      go_wp2_with fail
      go_ret
      exact ⟨rfl, B4.out⟩

theorem suiteback_any (c : Nat) (m k j n t : ByteArray) (w : World) (hT : Tab w) :
    Calls Tryd.prog 4 #[.int .u8 c, .string m, .string k, .string j, .string n, .string t] w fun e w' => e = .returned (.bool true) ∧ Below w.heap.size w w' := by
  by_cases h1 : c = 1
  · subst h1
    exact back_terms8 m k j n t w hT
  · by_cases h2 : c = 2 ∧ 1 ≤ m.size ∧ m.size ≤ 64
    · obtain ⟨rfl, h3, h4⟩ := h2
      exact back_bytes8 m k j n t h3 h4 w hT
    · exact back_none c m k j n t h1 h2 w hT
end Go.Proofs.YtedidoeoomijjaaDoor.Pl
