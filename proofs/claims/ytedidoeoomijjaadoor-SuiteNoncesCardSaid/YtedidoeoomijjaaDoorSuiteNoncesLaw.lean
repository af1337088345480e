/- SuiteNonces answers true, whatever the numbers. -/
import Derived.Test.YtedidoeoomijjaaDoorSuiteRefN
import Derived.Test.YtedidoeoomijjaaDoorSuiteAlive
namespace Go.Proofs.YtedidoeoomijjaaDoor.Pl
open Go.RowKit

theorem nonceP_ok {a b d : Int} {r : List UInt8} (h : nonceP a b d = (r, 0)) : inN a ∧ inN b ∧ inN d ∧ dataP (four8 a.toNat ++ four8 b.toNat ++ four8 d.toNat) = (r, 0) := by
  unfold nonceP at h
  split at h
  · rename_i k
    exact ⟨k.1, k.2.1, k.2.2, h⟩
  · cases h
theorem nonceP_inj {a b d a' b' d' : Int} {r : List UInt8} (h : nonceP a b d = (r, 0)) (h' : nonceP a' b' d' = (r, 0)) : a = a' ∧ b = b' ∧ d = d' := by
  obtain ⟨i1, i2, i3, k⟩ := nonceP_ok h
  obtain ⟨j1, j2, j3, k'⟩ := nonceP_ok h'
  unfold inN at *
  have := nonce_inj (by omega) (by omega) (by omega) (by omega) (by omega) (by omega) k k'
  omega
set_option maxHeartbeats 8000000 in
set_option maxRecDepth 100000 in
theorem suitenonces_any (a b c d e f : Int) (w : World) (hT : Tab w) :
    Calls Tryd.prog 3 #[.int .i64 a, .int .i64 b, .int .i64 c, .int .i64 d, .int .i64 e, .int .i64 f] w fun e w' => e = .returned (.bool true) ∧ Below w.heap.size w w' := by
  have T0 := Lib.hid hT
  have HX := Lib.hid (fun V => nonce8_any a b c V)
  have HY := Lib.hid (fun V => rnonce8_any a b c V)
  have HZ := Lib.hid (fun V => nonce8_any d e f V)
  have HA := Lib.hid (fun V h => alive8_any V h)
  have HI : Hid (∀ r, nonceP a b c = (r, 0) → nonceP d e f = (r, 0) → a = d ∧ b = e ∧ c = f) := Lib.hid (fun r h h' => nonceP_inj h h')
  have HS : Hid (a = d → b = e → c = f → nonceP a b c = nonceP d e f) := Lib.hid (fun h1 h2 h3 => by rw [h1, h2, h3])
  generalize nonceP a b c = X at *
  generalize nonceP d e f = Z at *
  obtain ⟨x, o⟩ := X
  obtain ⟨z, u⟩ := Z
  unfold st2 at HX HY HZ
  dsimp only at HX HY HZ
  clear hT
  by_cases h1 : a = d
  · subst h1
    by_cases h2 : b = e
    · subst h2
      by_cases h3 : c = f
      · subst h3
        by_cases ho : o = 0
        · subst ho
          by_cases hu : u = 0
          · subst hu
            have hxz : x = z := congrArg Prod.fst (HS.out rfl rfl rfl)
            subst hxz
            clear HI HS
            go_enter Tryd.func3, Tryd.ntmps3
            go_wp2_with fail
            refine (HX.out _).mono ?_; rintro e w1 ⟨rfl, b1⟩
            have B1 := Lib.hid b1
            have T1 := Lib.hid (T0.out.below b1)
            clear b1
            go_wp2_with fail
            refine (HY.out _).mono ?_; rintro e w2 ⟨rfl, b2⟩
            have B2 := Lib.hid (below_step B1.out b2)
            have T2 := Lib.hid (T1.out.below b2)
            clear b2
            go_wp2_with fail
            refine (HZ.out _).mono ?_; rintro e w3 ⟨rfl, b3⟩
            have B3 := Lib.hid (below_step B2.out b3)
            have T3 := Lib.hid (T2.out.below b3)
            clear b3
            go_wp2_with fail
            refine (HA.out _ T3.out).mono ?_; rintro e w4 ⟨rfl, b4⟩
            have B4 := Lib.hid (below_step B3.out b4)
            clear b4
            go_wp2_with fail
            go_ret
            exact ⟨rfl, B4.out⟩
          · have q8 := neq0_no hu
            clear hu HI HS
            go_enter Tryd.func3, Tryd.ntmps3
            go_wp2_with fail
            refine (HX.out _).mono ?_; rintro e w1 ⟨rfl, b1⟩
            have B1 := Lib.hid b1
            have T1 := Lib.hid (T0.out.below b1)
            clear b1
            go_wp2_with fail
            refine (HY.out _).mono ?_; rintro e w2 ⟨rfl, b2⟩
            have B2 := Lib.hid (below_step B1.out b2)
            have T2 := Lib.hid (T1.out.below b2)
            clear b2
            go_wp2_with fail
            refine (HZ.out _).mono ?_; rintro e w3 ⟨rfl, b3⟩
            have B3 := Lib.hid (below_step B2.out b3)
            have T3 := Lib.hid (T2.out.below b3)
            clear b3
            go_wp2_with fail
            refine (HA.out _ T3.out).mono ?_; rintro e w4 ⟨rfl, b4⟩
            have B4 := Lib.hid (below_step B3.out b4)
            clear b4
            go_wp2_with fail
            go_ret
            exact ⟨rfl, B4.out⟩
        · have q7 := neq0_no ho
          clear ho HI HS
          go_enter Tryd.func3, Tryd.ntmps3
          go_wp2_with fail
          refine (HX.out _).mono ?_; rintro e w1 ⟨rfl, b1⟩
          have B1 := Lib.hid b1
          have T1 := Lib.hid (T0.out.below b1)
          clear b1
          go_wp2_with fail
          refine (HY.out _).mono ?_; rintro e w2 ⟨rfl, b2⟩
          have B2 := Lib.hid (below_step B1.out b2)
          have T2 := Lib.hid (T1.out.below b2)
          clear b2
          go_wp2_with fail
          refine (HZ.out _).mono ?_; rintro e w3 ⟨rfl, b3⟩
          have B3 := Lib.hid (below_step B2.out b3)
          have T3 := Lib.hid (T2.out.below b3)
          clear b3
          go_wp2_with fail
          refine (HA.out _ T3.out).mono ?_; rintro e w4 ⟨rfl, b4⟩
          have B4 := Lib.hid (below_step B3.out b4)
          clear b4
          go_wp2_with fail
          go_ret
          exact ⟨rfl, B4.out⟩
      · have q3 : (c == f) = false := beq_eq_false_iff_ne.2 h3
        by_cases ho : o = 0
        · subst ho
          by_cases hu : u = 0
          · subst hu
            have hxz : x ≠ z := by
              rintro rfl
              exact h3 (HI.out _ rfl rfl).2.2
            have gx : (x == z) = false := beq_eq_false_iff_ne.2 hxz
            clear HI HS
            go_enter Tryd.func3, Tryd.ntmps3
            go_wp2_with fail
            refine (HX.out _).mono ?_; rintro e w1 ⟨rfl, b1⟩
            have B1 := Lib.hid b1
            have T1 := Lib.hid (T0.out.below b1)
            clear b1
            go_wp2_with fail
            refine (HY.out _).mono ?_; rintro e w2 ⟨rfl, b2⟩
            have B2 := Lib.hid (below_step B1.out b2)
            have T2 := Lib.hid (T1.out.below b2)
            clear b2
            go_wp2_with fail
            refine (HZ.out _).mono ?_; rintro e w3 ⟨rfl, b3⟩
            have B3 := Lib.hid (below_step B2.out b3)
            have T3 := Lib.hid (T2.out.below b3)
            clear b3
            go_wp2_with fail
            refine (HA.out _ T3.out).mono ?_; rintro e w4 ⟨rfl, b4⟩
            have B4 := Lib.hid (below_step B3.out b4)
            clear b4
            go_wp2_with fail
            go_ret
            exact ⟨rfl, B4.out⟩
          · have q8 := neq0_no hu
            clear hu HI HS
            go_enter Tryd.func3, Tryd.ntmps3
            go_wp2_with fail
            refine (HX.out _).mono ?_; rintro e w1 ⟨rfl, b1⟩
            have B1 := Lib.hid b1
            have T1 := Lib.hid (T0.out.below b1)
            clear b1
            go_wp2_with fail
            refine (HY.out _).mono ?_; rintro e w2 ⟨rfl, b2⟩
            have B2 := Lib.hid (below_step B1.out b2)
            have T2 := Lib.hid (T1.out.below b2)
            clear b2
            go_wp2_with fail
            refine (HZ.out _).mono ?_; rintro e w3 ⟨rfl, b3⟩
            have B3 := Lib.hid (below_step B2.out b3)
            have T3 := Lib.hid (T2.out.below b3)
            clear b3
            go_wp2_with fail
            refine (HA.out _ T3.out).mono ?_; rintro e w4 ⟨rfl, b4⟩
            have B4 := Lib.hid (below_step B3.out b4)
            clear b4
            go_wp2_with fail
            go_ret
            exact ⟨rfl, B4.out⟩
        · have q7 := neq0_no ho
          clear ho HI HS
          go_enter Tryd.func3, Tryd.ntmps3
          go_wp2_with fail
          refine (HX.out _).mono ?_; rintro e w1 ⟨rfl, b1⟩
          have B1 := Lib.hid b1
          have T1 := Lib.hid (T0.out.below b1)
          clear b1
          go_wp2_with fail
          refine (HY.out _).mono ?_; rintro e w2 ⟨rfl, b2⟩
          have B2 := Lib.hid (below_step B1.out b2)
          have T2 := Lib.hid (T1.out.below b2)
          clear b2
          go_wp2_with fail
          refine (HZ.out _).mono ?_; rintro e w3 ⟨rfl, b3⟩
          have B3 := Lib.hid (below_step B2.out b3)
          have T3 := Lib.hid (T2.out.below b3)
          clear b3
          go_wp2_with fail
          refine (HA.out _ T3.out).mono ?_; rintro e w4 ⟨rfl, b4⟩
          have B4 := Lib.hid (below_step B3.out b4)
          clear b4
          go_wp2_with fail
          go_ret
          exact ⟨rfl, B4.out⟩
    · have q2 : (b == e) = false := beq_eq_false_iff_ne.2 h2
      by_cases ho : o = 0
      · subst ho
        by_cases hu : u = 0
        · subst hu
          have hxz : x ≠ z := by
            rintro rfl
            exact h2 (HI.out _ rfl rfl).2.1
          have gx : (x == z) = false := beq_eq_false_iff_ne.2 hxz
          clear HI HS
          go_enter Tryd.func3, Tryd.ntmps3
          go_wp2_with fail
          refine (HX.out _).mono ?_; rintro e w1 ⟨rfl, b1⟩
          have B1 := Lib.hid b1
          have T1 := Lib.hid (T0.out.below b1)
          clear b1
          go_wp2_with fail
          refine (HY.out _).mono ?_; rintro e w2 ⟨rfl, b2⟩
          have B2 := Lib.hid (below_step B1.out b2)
          have T2 := Lib.hid (T1.out.below b2)
          clear b2
          go_wp2_with fail
          refine (HZ.out _).mono ?_; rintro e w3 ⟨rfl, b3⟩
          have B3 := Lib.hid (below_step B2.out b3)
          have T3 := Lib.hid (T2.out.below b3)
          clear b3
          go_wp2_with fail
          refine (HA.out _ T3.out).mono ?_; rintro e w4 ⟨rfl, b4⟩
          have B4 := Lib.hid (below_step B3.out b4)
          clear b4
          go_wp2_with fail
          go_ret
          exact ⟨rfl, B4.out⟩
        · have q8 := neq0_no hu
          clear hu HI HS
          go_enter Tryd.func3, Tryd.ntmps3
          go_wp2_with fail
          refine (HX.out _).mono ?_; rintro e w1 ⟨rfl, b1⟩
          have B1 := Lib.hid b1
          have T1 := Lib.hid (T0.out.below b1)
          clear b1
          go_wp2_with fail
          refine (HY.out _).mono ?_; rintro e w2 ⟨rfl, b2⟩
          have B2 := Lib.hid (below_step B1.out b2)
          have T2 := Lib.hid (T1.out.below b2)
          clear b2
          go_wp2_with fail
          refine (HZ.out _).mono ?_; rintro e w3 ⟨rfl, b3⟩
          have B3 := Lib.hid (below_step B2.out b3)
          have T3 := Lib.hid (T2.out.below b3)
          clear b3
          go_wp2_with fail
          refine (HA.out _ T3.out).mono ?_; rintro e w4 ⟨rfl, b4⟩
          have B4 := Lib.hid (below_step B3.out b4)
          clear b4
          go_wp2_with fail
          go_ret
          exact ⟨rfl, B4.out⟩
      · have q7 := neq0_no ho
        clear ho HI HS
        go_enter Tryd.func3, Tryd.ntmps3
        go_wp2_with fail
        refine (HX.out _).mono ?_; rintro e w1 ⟨rfl, b1⟩
        have B1 := Lib.hid b1
        have T1 := Lib.hid (T0.out.below b1)
        clear b1
        go_wp2_with fail
        refine (HY.out _).mono ?_; rintro e w2 ⟨rfl, b2⟩
        have B2 := Lib.hid (below_step B1.out b2)
        have T2 := Lib.hid (T1.out.below b2)
        clear b2
        go_wp2_with fail
        refine (HZ.out _).mono ?_; rintro e w3 ⟨rfl, b3⟩
        have B3 := Lib.hid (below_step B2.out b3)
        have T3 := Lib.hid (T2.out.below b3)
        clear b3
        go_wp2_with fail
        refine (HA.out _ T3.out).mono ?_; rintro e w4 ⟨rfl, b4⟩
        have B4 := Lib.hid (below_step B3.out b4)
        clear b4
        go_wp2_with fail
        go_ret
        exact ⟨rfl, B4.out⟩
  · have q1 : (a == d) = false := beq_eq_false_iff_ne.2 h1
    by_cases ho : o = 0
    · subst ho
      by_cases hu : u = 0
      · subst hu
        have hxz : x ≠ z := by
          rintro rfl
          exact h1 (HI.out _ rfl rfl).1
        have gx : (x == z) = false := beq_eq_false_iff_ne.2 hxz
        clear HI HS
        go_enter Tryd.func3, Tryd.ntmps3
        go_wp2_with fail
        refine (HX.out _).mono ?_; rintro e w1 ⟨rfl, b1⟩
        have B1 := Lib.hid b1
        have T1 := Lib.hid (T0.out.below b1)
        clear b1
        go_wp2_with fail
        refine (HY.out _).mono ?_; rintro e w2 ⟨rfl, b2⟩
        have B2 := Lib.hid (below_step B1.out b2)
        have T2 := Lib.hid (T1.out.below b2)
        clear b2
        go_wp2_with fail
        refine (HZ.out _).mono ?_; rintro e w3 ⟨rfl, b3⟩
        have B3 := Lib.hid (below_step B2.out b3)
        have T3 := Lib.hid (T2.out.below b3)
        clear b3
        go_wp2_with fail
        refine (HA.out _ T3.out).mono ?_; rintro e w4 ⟨rfl, b4⟩
        have B4 := Lib.hid (below_step B3.out b4)
        clear b4
        go_wp2_with fail
        go_ret
        exact ⟨rfl, B4.out⟩
      · have q8 := neq0_no hu
        clear hu HI HS
        go_enter Tryd.func3, Tryd.ntmps3
        go_wp2_with fail
        refine (HX.out _).mono ?_; rintro e w1 ⟨rfl, b1⟩
        have B1 := Lib.hid b1
        have T1 := Lib.hid (T0.out.below b1)
        clear b1
        go_wp2_with fail
        refine (HY.out _).mono ?_; rintro e w2 ⟨rfl, b2⟩
        have B2 := Lib.hid (below_step B1.out b2)
        have T2 := Lib.hid (T1.out.below b2)
        clear b2
        go_wp2_with fail
        refine (HZ.out _).mono ?_; rintro e w3 ⟨rfl, b3⟩
        have B3 := Lib.hid (below_step B2.out b3)
        have T3 := Lib.hid (T2.out.below b3)
        clear b3
        go_wp2_with fail
        refine (HA.out _ T3.out).mono ?_; rintro e w4 ⟨rfl, b4⟩
        have B4 := Lib.hid (below_step B3.out b4)
        clear b4
        go_wp2_with fail
        go_ret
        exact ⟨rfl, B4.out⟩
    · have q7 := neq0_no ho
      clear ho HI HS
      go_enter Tryd.func3, Tryd.ntmps3
      go_wp2_with fail
      refine (HX.out _).mono ?_; rintro e w1 ⟨rfl, b1⟩
      have B1 := Lib.hid b1
      have T1 := Lib.hid (T0.out.below b1)
      clear b1
      go_wp2_with fail
      refine (HY.out _).mono ?_; rintro e w2 ⟨rfl, b2⟩
      have B2 := Lib.hid (below_step B1.out b2)
      have T2 := Lib.hid (T1.out.below b2)
      clear b2
      go_wp2_with fail
      refine (HZ.out _).mono ?_; rintro e w3 ⟨rfl, b3⟩
      have B3 := Lib.hid (below_step B2.out b3)
      have T3 := Lib.hid (T2.out.below b3)
      clear b3
      go_wp2_with fail
      refine (HA.out _ T3.out).mono ?_; rintro e w4 ⟨rfl, b4⟩
      have B4 := Lib.hid (below_step B3.out b4)
      clear b4
      go_wp2_with fail
      go_ret
      exact ⟨rfl, B4.out⟩
end Go.Proofs.YtedidoeoomijjaaDoor.Pl
