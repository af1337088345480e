/- What the document's suites make of texts, seals, where they are known. -/
import Derived.Test.YtedidoeoomijjaaGreatDoorSuiteRefD
namespace Go.Proofs.YtedidoeoomijjaaGreatDoor.Pl
open Go.RowKit

set_option maxHeartbeats 4000000 in
set_option maxRecDepth 100000 in
theorem rseal8_by (c : Cry) (k : Nat) (h12 : k = 1 ∨ k = 2) (m y n t : ByteArray) (hy : y.size ≤ 20000) (hn : n.size ≤ 20000) (ht : t.size ≤ 20000)
    (HS : (keyB n).size = 12 → ∀ V, Calls Tryz.prog 36 #[.string (keyB y), .string (keyB n), .string t] V fun e w' => (∃ z : Int, e = .returned (.tuple #[.string ⟨(c.shut (bl (keyB y)) (bl (keyB n)) (bl t)).toArray⟩, .int .i64 z])) ∧ Below V.heap.size V w') (w : World) :
    Calls Tryz.prog 17 #[suiteV k m, .string y, .string n, .string t] w fun e w' => e = .returned (st2 (seal8P c (k == 1) (bl y) (bl n) (bl t))) ∧ Below w.heap.size w w' := by
  have HX := Lib.hid (fun V => rstr8_any y (by omega) V)
  have HX2 := Lib.hid (fun V => rstr8_any n (by omega) V)
  have HY := Lib.hid (fun V => rmay_any y (by omega) V)
  have HN := Lib.hid (fun V => rmay_any n (by omega) V)
  have HM := Lib.hid (fun V => rmay_any t (by omega) V)
  have HT := Lib.hid (fun V => rseal6_any y n t (by omega) (by omega) (by omega) V)
  have HS' := Lib.hid HS
  have hlen : (bl (keyB n)).length = (keyB n).size := bl_length _
  have hle : 12 = (keyB n).size → t.size ≤ 20000 → (c.shut (bl (keyB y)) (bl (keyB n)) (bl t)).length ≤ 281474976710656 := fun h1 h2 => by rw [c.shut_len, bl_length, bl_length]; omega
  have HD := Lib.hid (fun (h1 : (keyB n).size = 12) V => rdata_any ⟨(c.shut (bl (keyB y)) (bl (keyB n)) (bl t)).toArray⟩ (by rw [size_lit]; exact hle h1.symm ht) V)
  rw [show bl ⟨(c.shut (bl (keyB y)) (bl (keyB n)) (bl t)).toArray⟩ = c.shut (bl (keyB y)) (bl (keyB n)) (bl t) from rfl] at HD
  have hz : ∀ s u, (kindP (bl y) == 1) = s → (kindP (bl n) == 1) = u → (seal8P c (k == 1) (bl y) (bl n) (bl t)) = if checkP (bl y) ≠ 0 ∨ checkP (bl n) ≠ 0 ∨ checkP (bl t) ≠ 0 ∨ ((k == 1) = false ∧ (s = false ∨ u = false ∨ (keyB n).size ≠ 12)) then ([], 2)
      else if (k == 1) = true then madeP [115] [bl y, bl n, bl t] else dataP (c.shut (bl (keyB y)) (bl (keyB n)) (bl t)) := by
    intro s u hs hu
    unfold seal8P
    cases hk : k == 1 <;> cases s <;> cases u <;> simp [strP_some, strP_none, strD_some, hs, hu, bl_keyB, ← hlen]
  obtain ⟨s, hs⟩ : ∃ s, (kindP (bl y) == 1) = s := ⟨_, rfl⟩
  obtain ⟨u, hu⟩ : ∃ u, (kindP (bl n) == 1) = u := ⟨_, rfl⟩
  have hz := hz s u hs hu
  rw [hs] at HX
  rw [hu] at HX2
  unfold tb2 at HX HX2
  dsimp only at HX HX2
  rw [show (⟨(textP (bl y)).1.toArray⟩ : ByteArray) = keyB y from rfl] at HX
  rw [show (⟨(textP (bl n)).1.toArray⟩ : ByteArray) = keyB n from rfl] at HX2
  have B0 := Lib.hid ((Below.refl w.heap.size w).alloc (Nat.le_refl _) (.cells #[.int .u8 (k : Int), .string m] 31))
  have C0 := Lib.hid (Go.heap_alloc_new w (.cells #[.int .u8 (k : Int), .string m] 31))
  clear hlen hle
  generalize seal8P c (k == 1) (bl y) (bl n) (bl t) = Z at *
  generalize madeP [115] [bl y, bl n, bl t] = R at *
  generalize dataP (c.shut (bl (keyB y)) (bl (keyB n)) (bl t)) = D at *
  generalize c.shut (bl (keyB y)) (bl (keyB n)) (bl t) = T at *
  generalize keyB y = K at *
  generalize keyB n = L at *
  generalize checkP (bl y) = x at *
  generalize checkP (bl n) = v at *
  generalize checkP (bl t) = o at *
  obtain ⟨r, rr⟩ := R
  obtain ⟨d, g⟩ := D
  unfold st2 at HT HD
  dsimp only at HT HD
  clear hs hu HS hy ht hn
  unfold suiteV
  have no : ∀ {n : Nat}, n ≠ 0 → (n == 0) = false := fun h => by rw [beq_eq_false_iff_ne]; exact h
  by_cases hx : x = 0
  · subst hx
    by_cases hv : v = 0
    · subst hv
      by_cases ho : o = 0
      · subst ho
        rcases h12 with rfl | rfl
        · rw [if_neg (by simp), if_pos (show ((1 : Nat) == 1) = true from rfl)] at hz
          subst hz
          clear no HS' HD
          cases s <;> cases u
          all_goals
            go_enter Tryz.func17, Tryz.ntmps17
            go_wp2_with fail
            refine (HX.out _).mono ?_; rintro e w1 ⟨rfl, b1⟩
            have B1 := Lib.hid (below_step B0.out b1)
            have C1 := Lib.hid (heap_below b1 C0.out)
            clear b1
            go_wp2_with fail
            refine (HX2.out w1).mono ?_; rintro e w2 ⟨rfl, b2⟩
            have B2 := Lib.hid (below_step B1.out b2)
            have C2 := Lib.hid (heap_below b2 C1.out)
            clear b2
            go_wp2_with fail
            refine (HY.out w2).mono ?_; rintro e w3 ⟨rfl, b3⟩
            have B3 := Lib.hid (below_step B2.out b3)
            have C3 := Lib.hid (heap_below b3 C2.out)
            clear b3
            go_wp2_with fail
            refine (HN.out w3).mono ?_; rintro e w4 ⟨rfl, b4⟩
            have B4 := Lib.hid (below_step B3.out b4)
            have C4 := Lib.hid (heap_below b4 C3.out)
            clear b4
            go_wp2_with fail
            refine (HM.out w4).mono ?_; rintro e w5 ⟨rfl, b5⟩
            have B5 := Lib.hid (below_step B4.out b5)
            have C5 := Lib.hid (heap_below b5 C4.out)
            have c0 : w5.cell? ⟨w.heap.size, 0, none⟩ = some (.int .u8 ((1 : Nat) : Int)) := cell_of_row _ _ _ _ _ _ C5.out
            clear b5
            go_wp2_with fail
            refine (HT.out w5).mono ?_; rintro e w6 ⟨rfl, b6⟩
            have B6 := Lib.hid (below_step B5.out b6)
            have C6 := Lib.hid (heap_below b6 C5.out)
            clear b6
            go_wp2_with fail
            go_ret2
            exact ⟨rfl, B6.out⟩
        · cases s with
          | false =>
            rw [if_pos (by simp)] at hz
            subst hz
            clear no HS' HD
            go_enter Tryz.func17, Tryz.ntmps17
            go_wp2_with fail
            refine (HX.out _).mono ?_; rintro e w1 ⟨rfl, b1⟩
            have B1 := Lib.hid (below_step B0.out b1)
            have C1 := Lib.hid (heap_below b1 C0.out)
            clear b1
            go_wp2_with fail
            refine (HX2.out w1).mono ?_; rintro e w2 ⟨rfl, b2⟩
            have B2 := Lib.hid (below_step B1.out b2)
            have C2 := Lib.hid (heap_below b2 C1.out)
            clear b2
            go_wp2_with fail
            refine (HY.out w2).mono ?_; rintro e w3 ⟨rfl, b3⟩
            have B3 := Lib.hid (below_step B2.out b3)
            have C3 := Lib.hid (heap_below b3 C2.out)
            clear b3
            go_wp2_with fail
            refine (HN.out w3).mono ?_; rintro e w4 ⟨rfl, b4⟩
            have B4 := Lib.hid (below_step B3.out b4)
            have C4 := Lib.hid (heap_below b4 C3.out)
            clear b4
            go_wp2_with fail
            refine (HM.out w4).mono ?_; rintro e w5 ⟨rfl, b5⟩
            have B5 := Lib.hid (below_step B4.out b5)
            have C5 := Lib.hid (heap_below b5 C4.out)
            have c0 : w5.cell? ⟨w.heap.size, 0, none⟩ = some (.int .u8 ((2 : Nat) : Int)) := cell_of_row _ _ _ _ _ _ C5.out
            clear b5
            go_wp2_with fail
            go_ret2
            exact ⟨rfl, B5.out⟩
          | true =>
            cases u with
            | false =>
              rw [if_pos (by simp)] at hz
              subst hz
              clear no HS' HD
              go_enter Tryz.func17, Tryz.ntmps17
              go_wp2_with fail
              refine (HX.out _).mono ?_; rintro e w1 ⟨rfl, b1⟩
              have B1 := Lib.hid (below_step B0.out b1)
              have C1 := Lib.hid (heap_below b1 C0.out)
              clear b1
              go_wp2_with fail
              refine (HX2.out w1).mono ?_; rintro e w2 ⟨rfl, b2⟩
              have B2 := Lib.hid (below_step B1.out b2)
              have C2 := Lib.hid (heap_below b2 C1.out)
              clear b2
              go_wp2_with fail
              refine (HY.out w2).mono ?_; rintro e w3 ⟨rfl, b3⟩
              have B3 := Lib.hid (below_step B2.out b3)
              have C3 := Lib.hid (heap_below b3 C2.out)
              clear b3
              go_wp2_with fail
              refine (HN.out w3).mono ?_; rintro e w4 ⟨rfl, b4⟩
              have B4 := Lib.hid (below_step B3.out b4)
              have C4 := Lib.hid (heap_below b4 C3.out)
              clear b4
              go_wp2_with fail
              refine (HM.out w4).mono ?_; rintro e w5 ⟨rfl, b5⟩
              have B5 := Lib.hid (below_step B4.out b5)
              have C5 := Lib.hid (heap_below b5 C4.out)
              have c0 : w5.cell? ⟨w.heap.size, 0, none⟩ = some (.int .u8 ((2 : Nat) : Int)) := cell_of_row _ _ _ _ _ _ C5.out
              clear b5
              go_wp2_with fail
              go_ret2
              exact ⟨rfl, B5.out⟩
            | true =>
              by_cases hl : L.size = 12
              · rw [if_neg (by simp [hl]), if_neg (by simp)] at hz
                subst hz
                have HS2 := Lib.hid (HS'.out hl)
                have HD2 := Lib.hid (HD.out hl)
                have q12 : ((L.size : Int) != 12) = false := by rw [hl]; rfl
                clear no HS' HD hl
                go_enter Tryz.func17, Tryz.ntmps17
                go_wp2_with fail
                refine (HX.out _).mono ?_; rintro e w1 ⟨rfl, b1⟩
                have B1 := Lib.hid (below_step B0.out b1)
                have C1 := Lib.hid (heap_below b1 C0.out)
                clear b1
                go_wp2_with fail
                refine (HX2.out w1).mono ?_; rintro e w2 ⟨rfl, b2⟩
                have B2 := Lib.hid (below_step B1.out b2)
                have C2 := Lib.hid (heap_below b2 C1.out)
                clear b2
                go_wp2_with fail
                refine (HY.out w2).mono ?_; rintro e w3 ⟨rfl, b3⟩
                have B3 := Lib.hid (below_step B2.out b3)
                have C3 := Lib.hid (heap_below b3 C2.out)
                clear b3
                go_wp2_with fail
                refine (HN.out w3).mono ?_; rintro e w4 ⟨rfl, b4⟩
                have B4 := Lib.hid (below_step B3.out b4)
                have C4 := Lib.hid (heap_below b4 C3.out)
                clear b4
                go_wp2_with fail
                refine (HM.out w4).mono ?_; rintro e w5 ⟨rfl, b5⟩
                have B5 := Lib.hid (below_step B4.out b5)
                have C5 := Lib.hid (heap_below b5 C4.out)
                have c0 : w5.cell? ⟨w.heap.size, 0, none⟩ = some (.int .u8 ((2 : Nat) : Int)) := cell_of_row _ _ _ _ _ _ C5.out
                clear b5
                go_wp2_with fail
                refine (HS2.out w5).mono ?_; rintro e w6 ⟨⟨z, rfl⟩, b6⟩
                have B6 := Lib.hid (below_step B5.out b6)
                have C6 := Lib.hid (heap_below b6 C5.out)
                clear b6
                go_wp2_with fail
                refine (HD2.out w6).mono ?_; rintro e w7 ⟨rfl, b7⟩
                have B7 := Lib.hid (below_step B6.out b7)
                have C7 := Lib.hid (heap_below b7 C6.out)
                clear b7
                go_wp2_with fail
                go_ret2
                exact ⟨rfl, B7.out⟩
              · rw [if_pos (by simp [hl])] at hz
                subst hz
                have q12 : ((L.size : Int) != 12) = true := by rw [bne_iff_ne]; omega
                clear no HS' HD hl
                go_enter Tryz.func17, Tryz.ntmps17
                go_wp2_with fail
                refine (HX.out _).mono ?_; rintro e w1 ⟨rfl, b1⟩
                have B1 := Lib.hid (below_step B0.out b1)
                have C1 := Lib.hid (heap_below b1 C0.out)
                clear b1
                go_wp2_with fail
                refine (HX2.out w1).mono ?_; rintro e w2 ⟨rfl, b2⟩
                have B2 := Lib.hid (below_step B1.out b2)
                have C2 := Lib.hid (heap_below b2 C1.out)
                clear b2
                go_wp2_with fail
                refine (HY.out w2).mono ?_; rintro e w3 ⟨rfl, b3⟩
                have B3 := Lib.hid (below_step B2.out b3)
                have C3 := Lib.hid (heap_below b3 C2.out)
                clear b3
                go_wp2_with fail
                refine (HN.out w3).mono ?_; rintro e w4 ⟨rfl, b4⟩
                have B4 := Lib.hid (below_step B3.out b4)
                have C4 := Lib.hid (heap_below b4 C3.out)
                clear b4
                go_wp2_with fail
                refine (HM.out w4).mono ?_; rintro e w5 ⟨rfl, b5⟩
                have B5 := Lib.hid (below_step B4.out b5)
                have C5 := Lib.hid (heap_below b5 C4.out)
                have c0 : w5.cell? ⟨w.heap.size, 0, none⟩ = some (.int .u8 ((2 : Nat) : Int)) := cell_of_row _ _ _ _ _ _ C5.out
                clear b5
                go_wp2_with fail
                go_ret2
                exact ⟨rfl, B5.out⟩
      · rw [if_pos (.inr (.inr (.inl ho)))] at hz
        rw [no ho] at HM
        subst hz
        clear ho h12 no HS' HD
        go_enter Tryz.func17, Tryz.ntmps17
        go_wp2_with fail
        refine (HX.out _).mono ?_; rintro e w1 ⟨rfl, b1⟩
        have B1 := Lib.hid (below_step B0.out b1)
        have C1 := Lib.hid (heap_below b1 C0.out)
        clear b1
        go_wp2_with fail
        refine (HX2.out w1).mono ?_; rintro e w2 ⟨rfl, b2⟩
        have B2 := Lib.hid (below_step B1.out b2)
        have C2 := Lib.hid (heap_below b2 C1.out)
        clear b2
        go_wp2_with fail
        refine (HY.out w2).mono ?_; rintro e w3 ⟨rfl, b3⟩
        have B3 := Lib.hid (below_step B2.out b3)
        have C3 := Lib.hid (heap_below b3 C2.out)
        clear b3
        go_wp2_with fail
        refine (HN.out w3).mono ?_; rintro e w4 ⟨rfl, b4⟩
        have B4 := Lib.hid (below_step B3.out b4)
        have C4 := Lib.hid (heap_below b4 C3.out)
        clear b4
        go_wp2_with fail
        refine (HM.out w4).mono ?_; rintro e w5 ⟨rfl, b5⟩
        have B5 := Lib.hid (below_step B4.out b5)
        have C5 := Lib.hid (heap_below b5 C4.out)
        clear b5
        go_wp2_with fail
        go_ret2
        exact ⟨rfl, B5.out⟩
    · rw [if_pos (.inr (.inl hv))] at hz
      rw [no hv] at HN
      subst hz
      clear hv h12 no HS' HD
      go_enter Tryz.func17, Tryz.ntmps17
      go_wp2_with fail
      refine (HX.out _).mono ?_; rintro e w1 ⟨rfl, b1⟩
      have B1 := Lib.hid (below_step B0.out b1)
      have C1 := Lib.hid (heap_below b1 C0.out)
      clear b1
      go_wp2_with fail
      refine (HX2.out w1).mono ?_; rintro e w2 ⟨rfl, b2⟩
      have B2 := Lib.hid (below_step B1.out b2)
      have C2 := Lib.hid (heap_below b2 C1.out)
      clear b2
      go_wp2_with fail
      refine (HY.out w2).mono ?_; rintro e w3 ⟨rfl, b3⟩
      have B3 := Lib.hid (below_step B2.out b3)
      have C3 := Lib.hid (heap_below b3 C2.out)
      clear b3
      go_wp2_with fail
      refine (HN.out w3).mono ?_; rintro e w4 ⟨rfl, b4⟩
      have B4 := Lib.hid (below_step B3.out b4)
      have C4 := Lib.hid (heap_below b4 C3.out)
      clear b4
      go_wp2_with fail
      go_ret2
      exact ⟨rfl, B4.out⟩
  · rw [if_pos (.inl hx)] at hz
    rw [no hx] at HY
    subst hz
    clear hx h12 no HS' HD
    go_enter Tryz.func17, Tryz.ntmps17
    go_wp2_with fail
    refine (HX.out _).mono ?_; rintro e w1 ⟨rfl, b1⟩
    have B1 := Lib.hid (below_step B0.out b1)
    have C1 := Lib.hid (heap_below b1 C0.out)
    clear b1
    go_wp2_with fail
    refine (HX2.out w1).mono ?_; rintro e w2 ⟨rfl, b2⟩
    have B2 := Lib.hid (below_step B1.out b2)
    have C2 := Lib.hid (heap_below b2 C1.out)
    clear b2
    go_wp2_with fail
    refine (HY.out w2).mono ?_; rintro e w3 ⟨rfl, b3⟩
    have B3 := Lib.hid (below_step B2.out b3)
    have C3 := Lib.hid (heap_below b3 C2.out)
    clear b3
    go_wp2_with fail
    go_ret2
    exact ⟨rfl, B3.out⟩
end Go.Proofs.YtedidoeoomijjaaGreatDoor.Pl
