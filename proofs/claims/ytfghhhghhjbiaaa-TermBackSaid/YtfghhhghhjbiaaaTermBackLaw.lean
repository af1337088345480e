/- TermBack answers true, whatever it is given. -/
import Derived.Test.YtfghhhghhjbiaaaTermAlive
import Derived.Test.YtfghhhghhjbiaaaTermLong
namespace Go.Proofs.Ytfghhhghhjbiaaa.Pl
open Go.RowKit

theorem has_off {s f : List UInt8} (h : checkP s ≠ 0) : hasP s f = false := by unfold hasP; rw [treeOf_none h]
/-- What Swap's answer is, and what stands in it. -/
theorem swap_facts (t f u : List UInt8) :
    (checkP t = 0 ∧ checkP f = 0 ∧ checkP u = 0 → (swapP t f u).2 = 0 ∨ (swapP t f u) = ([], 5)) ∧
    (¬ (checkP t = 0 ∧ checkP f = 0 ∧ checkP u = 0) → swapP t f u = ([], 2)) ∧
    ((swapP t f u).2 = 0 → hasP t f = false → (swapP t f u).1 = t) ∧
    ((swapP t f u).2 = 0 → hasP t f = true → hasP (swapP t f u).1 u = true) := by
  by_cases h1 : checkP t = 0
  · obtain ⟨T, tv, te, tr⟩ := tree_of h1
    by_cases h2 : checkP f = 0
    · obtain ⟨F, fv, fe, fr⟩ := tree_of h2
      by_cases h3 : checkP u = 0
      · obtain ⟨U, uv, ue, ur⟩ := tree_of h3
        have hsw : swapP t f u = if checkP (T.swap f U).enc = 0 then ((T.swap f U).enc, 0) else ([], 5) := by unfold swapP; rw [tr, fr, ur]
        have hht : hasP t f = decide (f ∈ T.places.map Tm.enc) := by unfold hasP placesP; rw [tr, fr]
        refine ⟨fun _ => ?_, fun h => absurd ⟨h1, h2, h3⟩ h, ?_, ?_⟩
        · rw [hsw]; split
          · exact .inl rfl
          · exact .inr rfl
        · intro h0 hn
          rw [hht, decide_eq_false_iff_not, ← has_places] at hn
          rw [hsw] at h0 ⊢
          rw [swap_none T f U hn, ← te, if_pos h1]
        · intro h0 hy
          rw [hht, decide_eq_true_eq, ← has_places] at hy
          rw [hsw] at h0 ⊢
          split at h0
          · rename_i hc
            rw [if_pos hc]
            obtain ⟨S, hS, e2⟩ := check_iff.1 hc
            have hg := swap_good T tv.1 f U uv.1
            obtain rfl := enc_tm_inj hS.1 hg e2
            have hS' := treeOf_enc hS
            unfold hasP placesP
            simp only
            rw [hS', ur]
            simp only [decide_eq_true_eq]
            rw [← has_places, ue]
            exact has_swap T f U hy
          · exact absurd h0 (by decide)
      · have hsw : swapP t f u = ([], 2) := by unfold swapP; rw [treeOf_none h3]; cases treeOf t <;> cases treeOf f <;> rfl
        refine ⟨fun h => absurd h.2.2 h3, fun _ => hsw, ?_, ?_⟩ <;> (intro h; rw [hsw] at h; exact absurd h (by decide))
    · have hsw : swapP t f u = ([], 2) := by unfold swapP; rw [treeOf_none h2]; cases treeOf t <;> rfl
      refine ⟨fun h => absurd h.2.1 h2, fun _ => hsw, ?_, ?_⟩ <;> (intro h; rw [hsw] at h; exact absurd h (by decide))
  · have hsw : swapP t f u = ([], 2) := by unfold swapP; rw [treeOf_none h1]
    refine ⟨fun h => absurd h.1 h1, fun _ => hsw, ?_, ?_⟩ <;> (intro h; rw [hsw] at h; exact absurd h (by decide))

set_option maxHeartbeats 8000000 in
set_option maxRecDepth 100000 in
theorem termback_any (t f u : ByteArray) (w : World) :
    Calls Try.prog 8 #[.string t, .string f, .string u] w fun e w' => e = .returned (.bool true) ∧ Below w.heap.size w w' := by
  have HAL := Lib.hid (fun V => alive6_any V)
  obtain ⟨lg, hlg⟩ : ∃ lg : Bool, lg = true ↔ Lng [t, f, u] := ⟨@decide _ (Classical.propDecidable _), @decide_eq_true_iff _ (Classical.propDecidable _)⟩
  have HL := Lib.hid (tlong_any [t, f, u] (some ⟨w.heap.size, 0, none⟩) 3 (by simp) _ (row3 w t f u) lg hlg)
  cases lg with
  | true =>
    clear hlg
    go_enter Try.func8, Try.ntmps8
    go_wp2_with fail
    refine HL.out.mono ?_; rintro e w1 ⟨rfl, rfl⟩
    have B1 := Lib.hid ((Below.refl w.heap.size w).alloc (Nat.le_refl _) (.cells #[.string t, .string f, .string u] 9))
    generalize w.alloc (.cells #[.string t, .string f, .string u] 9) = W0 at *
    clear HL
    go_wp2_with fail
    refine (HAL.out _).mono ?_; rintro e w2 ⟨rfl, b2⟩
    have B2 := Lib.hid (below_step B1.out b2)
    clear b2 B1
    go_wp2_with fail
    go_ret
    exact ⟨rfl, B2.out⟩
  | false =>
    have hno : ¬ Lng [t, f, u] := fun h => absurd (hlg.2 h) (by decide)
    obtain ⟨_, hsz⟩ := lng_no hno
    have ht : t.size ≤ 281474976710656 := by have := hsz t (by simp); omega
    have hf : f.size ≤ 281474976710656 := by have := hsz f (by simp); omega
    have hu : u.size ≤ 281474976710656 := by have := hsz u (by simp); omega
    have HC1 := fun V => check_any t ht V
    have HC2 := fun V => check_any f hf V
    have HC3 := fun V => check_any u hu V
    have HW := fun V => swap6_any t f u ht hf hu V
    obtain ⟨f1, f2, f3, f4⟩ := swap_facts (bl t) (bl f) (bl u)
    unfold st2 at HW
    by_cases hm : checkP (bl t) = 0 ∧ checkP (bl f) = 0 ∧ checkP (bl u) = 0
    · rw [hm.1] at HC1
      rw [hm.2.1] at HC2
      rw [hm.2.2] at HC3
      have HC1 := Lib.hid HC1
      have HC2 := Lib.hid HC2
      have HC3 := Lib.hid HC3
      rcases f1 hm with h0 | h0
      · have HH := fun V => has6_any t f ht hf V
        have HTU := fun V => has6_any t u ht hu V
        have HUF := fun V => has6_any u f hu hf V
        have HB := back_plain (s := bl t) (f := bl f) (u := bl u) h0
        have g3 := f3 h0
        have g4 := f4 h0
        have hbs : ∃ sb : ByteArray, bl sb = (swapP (bl t) (bl f) (bl u)).1 := ⟨⟨(swapP (bl t) (bl f) (bl u)).1.toArray⟩, rfl⟩
        obtain ⟨sb, hsb⟩ := hbs
        have hsbe : (⟨(swapP (bl t) (bl f) (bl u)).1.toArray⟩ : ByteArray) = sb := bl_inj hsb.symm
        have hss : sb.size ≤ 281474976710656 := by
          cases hh : hasP (bl t) (bl f) with
          | false => rw [size_bl, hsb, g3 hh, ← size_bl]; exact ht
          | true =>
            by_cases hc0 : checkP (bl sb) = 0
            · have := check_len hc0; rw [bl_length] at this; omega
            · have h6 := g4 hh; rw [← hsb, has_off hc0] at h6; exact absurd h6 (by decide)
        rw [hsbe, h0] at HW
        rw [← hsb] at HB g3 g4
        have HW := Lib.hid HW
        cases hh : hasP (bl t) (bl f) with
        | false =>
          rw [hh] at HH
          have HH := Lib.hid HH
          have g5 := g3 hh
          clear hlg hno hsz hm h0 hsb hsbe HB g3 g4 f1 f2 f3 f4 hh hf hu HTU HUF
          obtain rfl : t = sb := (bl_inj g5).symm
          clear g5 hss ht
          go_enter Try.func8, Try.ntmps8
          go_wp2_with fail
          refine HL.out.mono ?_; rintro e w1 ⟨rfl, rfl⟩
          have B1 := Lib.hid ((Below.refl w.heap.size w).alloc (Nat.le_refl _) (.cells #[.string t, .string f, .string u] 9))
          generalize w.alloc (.cells #[.string t, .string f, .string u] 9) = W0 at *
          clear HL
          go_wp2_with fail
          refine (HW.out _).mono ?_; rintro e w2 ⟨rfl, b2⟩
          have B2 := Lib.hid (below_step B1.out b2)
          clear b2 B1
          go_wp2_with fail
          refine (HC1.out _).mono ?_; rintro e w3 ⟨rfl, b3⟩
          have B3 := Lib.hid (below_step B2.out b3)
          clear b3 B2
          go_wp2_with fail
          refine (HC2.out _).mono ?_; rintro e w4 ⟨rfl, b4⟩
          have B4 := Lib.hid (below_step B3.out b4)
          clear b4 B3
          go_wp2_with fail
          refine (HC3.out _).mono ?_; rintro e w5 ⟨rfl, b5⟩
          have B5 := Lib.hid (below_step B4.out b5)
          clear b5 B4
          go_wp2_with fail
          refine (HH.out _).mono ?_; rintro e w6 ⟨rfl, b6⟩
          have B6 := Lib.hid (below_step B5.out b6)
          clear b6 B5
          go_wp2_with fail
          refine (HAL.out _).mono ?_; rintro e w7 ⟨rfl, b7⟩
          have B7 := Lib.hid (below_step B6.out b7)
          clear b7 B6
          go_wp2_with fail
          go_ret
          exact ⟨rfl, B7.out⟩
        | true =>
          rw [hh] at HH
          have HH := Lib.hid HH
          have HSU := fun V => has6_any sb u hss hu V
          rw [g4 hh] at HSU
          have HSU := Lib.hid HSU
          cases hk : hasP (bl t) (bl u) with
          | true =>
            rw [hk] at HTU
            have HTU := Lib.hid HTU
            clear hlg hno hsz hm h0 hsb hsbe HB g3 g4 f1 f2 f3 f4 hh hk hss ht hf hu HUF
            go_enter Try.func8, Try.ntmps8
            go_wp2_with fail
            refine HL.out.mono ?_; rintro e w1 ⟨rfl, rfl⟩
            have B1 := Lib.hid ((Below.refl w.heap.size w).alloc (Nat.le_refl _) (.cells #[.string t, .string f, .string u] 9))
            generalize w.alloc (.cells #[.string t, .string f, .string u] 9) = W0 at *
            clear HL
            go_wp2_with fail
            refine (HW.out _).mono ?_; rintro e w2 ⟨rfl, b2⟩
            have B2 := Lib.hid (below_step B1.out b2)
            clear b2 B1
            go_wp2_with fail
            refine (HC1.out _).mono ?_; rintro e w3 ⟨rfl, b3⟩
            have B3 := Lib.hid (below_step B2.out b3)
            clear b3 B2
            go_wp2_with fail
            refine (HC2.out _).mono ?_; rintro e w4 ⟨rfl, b4⟩
            have B4 := Lib.hid (below_step B3.out b4)
            clear b4 B3
            go_wp2_with fail
            refine (HC3.out _).mono ?_; rintro e w5 ⟨rfl, b5⟩
            have B5 := Lib.hid (below_step B4.out b5)
            clear b5 B4
            go_wp2_with fail
            refine (HH.out _).mono ?_; rintro e w6 ⟨rfl, b6⟩
            have B6 := Lib.hid (below_step B5.out b6)
            clear b6 B5
            go_wp2_with fail
            refine (HTU.out _).mono ?_; rintro e w7 ⟨rfl, b7⟩
            have B7 := Lib.hid (below_step B6.out b7)
            clear b7 B6
            go_wp2_with fail
            refine (HSU.out _).mono ?_; rintro e w8 ⟨rfl, b8⟩
            have B8 := Lib.hid (below_step B7.out b8)
            clear b8 B7
            go_wp2_with fail
            refine (HAL.out _).mono ?_; rintro e w9 ⟨rfl, b9⟩
            have B9 := Lib.hid (below_step B8.out b9)
            clear b9 B8
            go_wp2_with fail
            go_ret
            exact ⟨rfl, B9.out⟩
          | false =>
            rw [hk] at HTU
            have HTU := Lib.hid HTU
            obtain ⟨k1, k2, k3⟩ := HB hh hk
            have HBK := fun V => swap6_any sb u f hss hu hf V
            rw [k1] at HBK
            unfold st2 at HBK
            simp only at HBK
            rw [← bl_eq t] at HBK
            have HBK := Lib.hid HBK
            cases hx : hasP (bl u) (bl f) with
            | true =>
              rw [hx] at HUF
              have HUF := Lib.hid HUF
              clear hlg hno hsz hm h0 hsb hsbe HB g3 g4 f1 f2 f3 f4 hh hk hss ht hf hu k1 k2 k3 hx
              go_enter Try.func8, Try.ntmps8
              go_wp2_with fail
              refine HL.out.mono ?_; rintro e w1 ⟨rfl, rfl⟩
              have B1 := Lib.hid ((Below.refl w.heap.size w).alloc (Nat.le_refl _) (.cells #[.string t, .string f, .string u] 9))
              generalize w.alloc (.cells #[.string t, .string f, .string u] 9) = W0 at *
              clear HL
              go_wp2_with fail
              refine (HW.out _).mono ?_; rintro e w2 ⟨rfl, b2⟩
              have B2 := Lib.hid (below_step B1.out b2)
              clear b2 B1
              go_wp2_with fail
              refine (HC1.out _).mono ?_; rintro e w3 ⟨rfl, b3⟩
              have B3 := Lib.hid (below_step B2.out b3)
              clear b3 B2
              go_wp2_with fail
              refine (HC2.out _).mono ?_; rintro e w4 ⟨rfl, b4⟩
              have B4 := Lib.hid (below_step B3.out b4)
              clear b4 B3
              go_wp2_with fail
              refine (HC3.out _).mono ?_; rintro e w5 ⟨rfl, b5⟩
              have B5 := Lib.hid (below_step B4.out b5)
              clear b5 B4
              go_wp2_with fail
              refine (HH.out _).mono ?_; rintro e w6 ⟨rfl, b6⟩
              have B6 := Lib.hid (below_step B5.out b6)
              clear b6 B5
              go_wp2_with fail
              refine (HTU.out _).mono ?_; rintro e w7 ⟨rfl, b7⟩
              have B7 := Lib.hid (below_step B6.out b7)
              clear b7 B6
              go_wp2_with fail
              refine (HBK.out _).mono ?_; rintro e w8 ⟨rfl, b8⟩
              have B8 := Lib.hid (below_step B7.out b8)
              clear b8 B7
              go_wp2_with fail
              refine (HSU.out _).mono ?_; rintro e w9 ⟨rfl, b9⟩
              have B9 := Lib.hid (below_step B8.out b9)
              clear b9 B8
              go_wp2_with fail
              refine (HUF.out _).mono ?_; rintro e w10 ⟨rfl, b10⟩
              have B10 := Lib.hid (below_step B9.out b10)
              clear b10 B9
              go_wp2_with fail
              refine (HAL.out _).mono ?_; rintro e w11 ⟨rfl, b11⟩
              have B11 := Lib.hid (below_step B10.out b11)
              clear b11 B10
              go_wp2_with fail
              go_ret
              exact ⟨rfl, B11.out⟩
            | false =>
              rw [hx] at HUF
              have HUF := Lib.hid HUF
              have HSF := fun V => has6_any sb f hss hf V
              rw [k3.resolve_left (by rw [hx]; decide)] at HSF
              have HSF := Lib.hid HSF
              clear hlg hno hsz hm h0 hsb hsbe HB g3 g4 f1 f2 f3 f4 hh hk hss ht hf hu k1 k2 k3 hx
              go_enter Try.func8, Try.ntmps8
              go_wp2_with fail
              refine HL.out.mono ?_; rintro e w1 ⟨rfl, rfl⟩
              have B1 := Lib.hid ((Below.refl w.heap.size w).alloc (Nat.le_refl _) (.cells #[.string t, .string f, .string u] 9))
              generalize w.alloc (.cells #[.string t, .string f, .string u] 9) = W0 at *
              clear HL
              go_wp2_with fail
              refine (HW.out _).mono ?_; rintro e w2 ⟨rfl, b2⟩
              have B2 := Lib.hid (below_step B1.out b2)
              clear b2 B1
              go_wp2_with fail
              refine (HC1.out _).mono ?_; rintro e w3 ⟨rfl, b3⟩
              have B3 := Lib.hid (below_step B2.out b3)
              clear b3 B2
              go_wp2_with fail
              refine (HC2.out _).mono ?_; rintro e w4 ⟨rfl, b4⟩
              have B4 := Lib.hid (below_step B3.out b4)
              clear b4 B3
              go_wp2_with fail
              refine (HC3.out _).mono ?_; rintro e w5 ⟨rfl, b5⟩
              have B5 := Lib.hid (below_step B4.out b5)
              clear b5 B4
              go_wp2_with fail
              refine (HH.out _).mono ?_; rintro e w6 ⟨rfl, b6⟩
              have B6 := Lib.hid (below_step B5.out b6)
              clear b6 B5
              go_wp2_with fail
              refine (HTU.out _).mono ?_; rintro e w7 ⟨rfl, b7⟩
              have B7 := Lib.hid (below_step B6.out b7)
              clear b7 B6
              go_wp2_with fail
              refine (HBK.out _).mono ?_; rintro e w8 ⟨rfl, b8⟩
              have B8 := Lib.hid (below_step B7.out b8)
              clear b8 B7
              go_wp2_with fail
              refine (HSU.out _).mono ?_; rintro e w9 ⟨rfl, b9⟩
              have B9 := Lib.hid (below_step B8.out b9)
              clear b9 B8
              go_wp2_with fail
              refine (HUF.out _).mono ?_; rintro e w10 ⟨rfl, b10⟩
              have B10 := Lib.hid (below_step B9.out b10)
              clear b10 B9
              go_wp2_with fail
              refine (HSF.out _).mono ?_; rintro e w11 ⟨rfl, b11⟩
              have B11 := Lib.hid (below_step B10.out b11)
              clear b11 B10
              go_wp2_with fail
              refine (HAL.out _).mono ?_; rintro e w12 ⟨rfl, b12⟩
              have B12 := Lib.hid (below_step B11.out b12)
              clear b12 B11
              go_wp2_with fail
              go_ret
              exact ⟨rfl, B12.out⟩
      · rw [h0] at HW
        simp only at HW
        rw [show (⟨([] : List UInt8).toArray⟩ : ByteArray) = ⟨#[]⟩ from rfl] at HW
        have HW := Lib.hid HW
        clear hlg hno hsz hm h0 f1 f2 f3 f4 ht hf hu
        go_enter Try.func8, Try.ntmps8
        go_wp2_with fail
        refine HL.out.mono ?_; rintro e w1 ⟨rfl, rfl⟩
        have B1 := Lib.hid ((Below.refl w.heap.size w).alloc (Nat.le_refl _) (.cells #[.string t, .string f, .string u] 9))
        generalize w.alloc (.cells #[.string t, .string f, .string u] 9) = W0 at *
        clear HL
        go_wp2_with fail
        refine (HW.out _).mono ?_; rintro e w2 ⟨rfl, b2⟩
        have B2 := Lib.hid (below_step B1.out b2)
        clear b2 B1
        go_wp2_with fail
        refine (HC1.out _).mono ?_; rintro e w3 ⟨rfl, b3⟩
        have B3 := Lib.hid (below_step B2.out b3)
        clear b3 B2
        go_wp2_with fail
        refine (HC2.out _).mono ?_; rintro e w4 ⟨rfl, b4⟩
        have B4 := Lib.hid (below_step B3.out b4)
        clear b4 B3
        go_wp2_with fail
        refine (HC3.out _).mono ?_; rintro e w5 ⟨rfl, b5⟩
        have B5 := Lib.hid (below_step B4.out b5)
        clear b5 B4
        go_wp2_with fail
        refine (HAL.out _).mono ?_; rintro e w6 ⟨rfl, b6⟩
        have B6 := Lib.hid (below_step B5.out b6)
        clear b6 B5
        go_wp2_with fail
        go_ret
        exact ⟨rfl, B6.out⟩
    · rw [f2 hm] at HW
      simp only at HW
      rw [show (⟨([] : List UInt8).toArray⟩ : ByteArray) = ⟨#[]⟩ from rfl] at HW
      have HW := Lib.hid HW
      generalize checkP (bl t) = k1 at *
      generalize checkP (bl f) = k2 at *
      generalize checkP (bl u) = k3 at *
      have HC1 := Lib.hid HC1
      have HC2 := Lib.hid HC2
      have HC3 := Lib.hid HC3
      clear hlg hno hsz f1 f2 f3 f4 ht hf hu
      by_cases e1 : k1 = 0
      · subst e1
        by_cases e2 : k2 = 0
        · subst e2
          have q : ((k3 : Int) == 0) = false := by rw [beq_eq_false_iff_ne]; intro e; exact hm ⟨rfl, rfl, by omega⟩
          clear hm
          go_enter Try.func8, Try.ntmps8
          go_wp2_with fail
          refine HL.out.mono ?_; rintro e w1 ⟨rfl, rfl⟩
          have B1 := Lib.hid ((Below.refl w.heap.size w).alloc (Nat.le_refl _) (.cells #[.string t, .string f, .string u] 9))
          generalize w.alloc (.cells #[.string t, .string f, .string u] 9) = W0 at *
          clear HL
          go_wp2_with fail
          refine (HW.out _).mono ?_; rintro e w2 ⟨rfl, b2⟩
          have B2 := Lib.hid (below_step B1.out b2)
          clear b2 B1
          go_wp2_with fail
          refine (HC1.out _).mono ?_; rintro e w3 ⟨rfl, b3⟩
          have B3 := Lib.hid (below_step B2.out b3)
          clear b3 B2
          go_wp2_with fail
          refine (HC2.out _).mono ?_; rintro e w4 ⟨rfl, b4⟩
          have B4 := Lib.hid (below_step B3.out b4)
          clear b4 B3
          go_wp2_with fail
          refine (HC3.out _).mono ?_; rintro e w5 ⟨rfl, b5⟩
          have B5 := Lib.hid (below_step B4.out b5)
          clear b5 B4
          go_wp2_with fail
          refine (HAL.out _).mono ?_; rintro e w6 ⟨rfl, b6⟩
          have B6 := Lib.hid (below_step B5.out b6)
          clear b6 B5
          go_wp2_with fail
          go_ret
          exact ⟨rfl, B6.out⟩
        · have q : ((k2 : Int) == 0) = false := by rw [beq_eq_false_iff_ne]; omega
          clear hm e2
          go_enter Try.func8, Try.ntmps8
          go_wp2_with fail
          refine HL.out.mono ?_; rintro e w1 ⟨rfl, rfl⟩
          have B1 := Lib.hid ((Below.refl w.heap.size w).alloc (Nat.le_refl _) (.cells #[.string t, .string f, .string u] 9))
          generalize w.alloc (.cells #[.string t, .string f, .string u] 9) = W0 at *
          clear HL
          go_wp2_with fail
          refine (HW.out _).mono ?_; rintro e w2 ⟨rfl, b2⟩
          have B2 := Lib.hid (below_step B1.out b2)
          clear b2 B1
          go_wp2_with fail
          refine (HC1.out _).mono ?_; rintro e w3 ⟨rfl, b3⟩
          have B3 := Lib.hid (below_step B2.out b3)
          clear b3 B2
          go_wp2_with fail
          refine (HC2.out _).mono ?_; rintro e w4 ⟨rfl, b4⟩
          have B4 := Lib.hid (below_step B3.out b4)
          clear b4 B3
          go_wp2_with fail
          refine (HAL.out _).mono ?_; rintro e w5 ⟨rfl, b5⟩
          have B5 := Lib.hid (below_step B4.out b5)
          clear b5 B4
          go_wp2_with fail
          go_ret
          exact ⟨rfl, B5.out⟩
      · have q : ((k1 : Int) == 0) = false := by rw [beq_eq_false_iff_ne]; omega
        clear hm e1
        go_enter Try.func8, Try.ntmps8
        go_wp2_with fail
        refine HL.out.mono ?_; rintro e w1 ⟨rfl, rfl⟩
        have B1 := Lib.hid ((Below.refl w.heap.size w).alloc (Nat.le_refl _) (.cells #[.string t, .string f, .string u] 9))
        generalize w.alloc (.cells #[.string t, .string f, .string u] 9) = W0 at *
        clear HL
        go_wp2_with fail
        refine (HW.out _).mono ?_; rintro e w2 ⟨rfl, b2⟩
        have B2 := Lib.hid (below_step B1.out b2)
        clear b2 B1
        go_wp2_with fail
        refine (HC1.out _).mono ?_; rintro e w3 ⟨rfl, b3⟩
        have B3 := Lib.hid (below_step B2.out b3)
        clear b3 B2
        go_wp2_with fail
        refine (HAL.out _).mono ?_; rintro e w4 ⟨rfl, b4⟩
        have B4 := Lib.hid (below_step B3.out b4)
        clear b4 B3
        go_wp2_with fail
        go_ret
        exact ⟨rfl, B4.out⟩
end Go.Proofs.Ytfghhhghhjbiaaa.Pl
