/- What the document's suites make of texts, tags, where its sums are known. -/
import Derived.Test.YtbdlegjklfkdmaaGreatDoorBallC22
namespace Go.Proofs.YtbdlegjklfkdmaaGreatDoor.Pl
open Go.RowKit

theorem strP_some {k : List UInt8} (h : (kindP k == 1) = true) : strP k = some (textP k).1 := by rw [strP, if_pos (by simpa using h)]
theorem strP_none {k : List UInt8} (h : (kindP k == 1) = false) : strP k = none := by rw [strP, if_neg (by simpa using h)]
theorem strD_some {k : List UInt8} (h : (kindP k == 1) = true) : strD k = (textP k).1 := by rw [strD, strP_some h]; rfl
/-- The text of a key, as a text. -/
noncomputable def keyB (k : ByteArray) : ByteArray := ⟨(textP (bl k)).1.toArray⟩
theorem bl_keyB (k : ByteArray) : bl (keyB k) = (textP (bl k)).1 := rfl

set_option maxHeartbeats 2000000 in
set_option maxRecDepth 100000 in
theorem rmac8_by (c : Cry) (k : Nat) (h12 : k = 1 ∨ k = 2) (m y t : ByteArray) (hy : y.size ≤ 20000) (ht : t.size ≤ 20000)
    (HS : ∀ V, Calls Tryz.prog 99 #[.string (keyB y), .string t] V fun e w' => e = .returned (.string ⟨(c.mac (bl (keyB y)) (bl t)).toArray⟩) ∧ Below V.heap.size V w') (w : World) :
    Calls Tryz.prog 60 #[suiteV k m, .string y, .string t] w fun e w' => e = .returned (st2 (mac8P c (k == 1) (bl y) (bl t))) ∧ Below w.heap.size w w' := by
  have HX := Lib.hid (fun V => rstr8_any y (by omega) V)
  have HY := Lib.hid (fun V => rmay_any y (by omega) V)
  have HM := Lib.hid (fun V => rmay_any t (by omega) V)
  have HT := Lib.hid (fun V => rmac_any y t (by omega) (by omega) V)
  have HS' := Lib.hid HS
  have HD := Lib.hid (fun V => rdata_any ⟨(c.mac (bl (keyB y)) (bl t)).toArray⟩ (by rw [size_lit, c.mac_len]; decide) V)
  rw [show bl ⟨(c.mac (bl (keyB y)) (bl t)).toArray⟩ = c.mac (bl (keyB y)) (bl t) from rfl] at HD
  have hz : ∀ s, (kindP (bl y) == 1) = s → (mac8P c (k == 1) (bl y) (bl t)) = if checkP (bl y) ≠ 0 ∨ checkP (bl t) ≠ 0 ∨ ((k == 1) = false ∧ s = false) then ([], 2) else if (k == 1) = true then madeP [109] [bl y, bl t] else dataP (c.mac (bl (keyB y)) (bl t)) := by
    intro s hs
    unfold mac8P
    cases s with
    | true => simp [strP_some hs, strD_some hs, bl_keyB]
    | false => cases hk : k == 1 <;> simp [strP_none hs]
  obtain ⟨s, hs⟩ : ∃ s, (kindP (bl y) == 1) = s := ⟨_, rfl⟩
  have hz := hz s hs
  rw [hs] at HX
  unfold tb2 at HX
  dsimp only at HX
  rw [show (⟨(textP (bl y)).1.toArray⟩ : ByteArray) = keyB y from rfl] at HX
  have B0 := Lib.hid ((Below.refl w.heap.size w).alloc (Nat.le_refl _) (.cells #[.int .u8 (k : Int), .string m] 45))
  have C0 := Lib.hid (Go.heap_alloc_new w (.cells #[.int .u8 (k : Int), .string m] 45))
  generalize mac8P c (k == 1) (bl y) (bl t) = Z at *
  generalize madeP [109] [bl y, bl t] = R at *
  generalize dataP (c.mac (bl (keyB y)) (bl t)) = D at *
  generalize c.mac (bl (keyB y)) (bl t) = T at *
  generalize keyB y = K at *
  generalize checkP (bl y) = x at *
  generalize checkP (bl t) = u at *
  obtain ⟨r, v⟩ := R
  obtain ⟨d, g⟩ := D
  unfold st2 at HT HD
  dsimp only at HT HD
  clear hs HS hy ht
  unfold suiteV
  have no : ∀ {n : Nat}, n ≠ 0 → (n == 0) = false := fun h => by rw [beq_eq_false_iff_ne]; exact h
  by_cases hx : x = 0
  · subst hx
    by_cases hu : u = 0
    · subst hu
      rcases h12 with rfl | rfl
      · rw [if_neg (by simp), if_pos (show ((1 : Nat) == 1) = true from rfl)] at hz
        subst hz
        cases s
        all_goals
          go_enter Tryz.func60, Tryz.ntmps60
          go_wp2_with fail
          refine (HX.out _).mono ?_; rintro e w1 ⟨rfl, b1⟩
          have B1 := Lib.hid (below_step B0.out b1)
          have C1 := Lib.hid (heap_below b1 C0.out)
          clear b1
          go_wp2_with fail
          refine (HY.out w1).mono ?_; rintro e w2 ⟨rfl, b2⟩
          have B2 := Lib.hid (below_step B1.out b2)
          have C2 := Lib.hid (heap_below b2 C1.out)
          clear b2
          go_wp2_with fail
          refine (HM.out w2).mono ?_; rintro e w3 ⟨rfl, b3⟩
          have B3 := Lib.hid (below_step B2.out b3)
          have C3 := Lib.hid (heap_below b3 C2.out)
          have c0 : w3.cell? ⟨w.heap.size, 0, none⟩ = some (.int .u8 ((1 : Nat) : Int)) := cell_of_row _ _ _ _ _ _ C3.out
          clear b3
          go_wp2_with fail
          refine (HT.out w3).mono ?_; rintro e w4 ⟨rfl, b4⟩
          have B4 := Lib.hid (below_step B3.out b4)
          have C4 := Lib.hid (heap_below b4 C3.out)
          clear b4
          go_wp2_with fail
          go_ret2
          exact ⟨rfl, B4.out⟩
      · cases s with
        | false =>
          rw [if_pos (by simp)] at hz
          subst hz
          go_enter Tryz.func60, Tryz.ntmps60
          go_wp2_with fail
          refine (HX.out _).mono ?_; rintro e w1 ⟨rfl, b1⟩
          have B1 := Lib.hid (below_step B0.out b1)
          have C1 := Lib.hid (heap_below b1 C0.out)
          clear b1
          go_wp2_with fail
          refine (HY.out w1).mono ?_; rintro e w2 ⟨rfl, b2⟩
          have B2 := Lib.hid (below_step B1.out b2)
          have C2 := Lib.hid (heap_below b2 C1.out)
          clear b2
          go_wp2_with fail
          refine (HM.out w2).mono ?_; rintro e w3 ⟨rfl, b3⟩
          have B3 := Lib.hid (below_step B2.out b3)
          have C3 := Lib.hid (heap_below b3 C2.out)
          have c0 : w3.cell? ⟨w.heap.size, 0, none⟩ = some (.int .u8 ((2 : Nat) : Int)) := cell_of_row _ _ _ _ _ _ C3.out
          clear b3
          go_wp2_with fail
          go_ret2
          exact ⟨rfl, B3.out⟩
        | true =>
          rw [if_neg (by simp), if_neg (by simp)] at hz
          subst hz
          go_enter Tryz.func60, Tryz.ntmps60
          go_wp2_with fail
          refine (HX.out _).mono ?_; rintro e w1 ⟨rfl, b1⟩
          have B1 := Lib.hid (below_step B0.out b1)
          have C1 := Lib.hid (heap_below b1 C0.out)
          clear b1
          go_wp2_with fail
          refine (HY.out w1).mono ?_; rintro e w2 ⟨rfl, b2⟩
          have B2 := Lib.hid (below_step B1.out b2)
          have C2 := Lib.hid (heap_below b2 C1.out)
          clear b2
          go_wp2_with fail
          refine (HM.out w2).mono ?_; rintro e w3 ⟨rfl, b3⟩
          have B3 := Lib.hid (below_step B2.out b3)
          have C3 := Lib.hid (heap_below b3 C2.out)
          have c0 : w3.cell? ⟨w.heap.size, 0, none⟩ = some (.int .u8 ((2 : Nat) : Int)) := cell_of_row _ _ _ _ _ _ C3.out
          clear b3
          go_wp2_with fail
          refine (HS'.out w3).mono ?_; rintro e w4 ⟨rfl, b4⟩
          have B4 := Lib.hid (below_step B3.out b4)
          have C4 := Lib.hid (heap_below b4 C3.out)
          clear b4
          go_wp2_with fail
          refine (HD.out w4).mono ?_; rintro e w5 ⟨rfl, b5⟩
          have B5 := Lib.hid (below_step B4.out b5)
          have C5 := Lib.hid (heap_below b5 C4.out)
          clear b5
          go_wp2_with fail
          go_ret2
          exact ⟨rfl, B5.out⟩
    · rw [if_pos (.inr (.inl hu))] at hz
      rw [no hu] at HM
      subst hz
      clear hu h12 no
      go_enter Tryz.func60, Tryz.ntmps60
      go_wp2_with fail
      refine (HX.out _).mono ?_; rintro e w1 ⟨rfl, b1⟩
      have B1 := Lib.hid (below_step B0.out b1)
      have C1 := Lib.hid (heap_below b1 C0.out)
      clear b1
      go_wp2_with fail
      refine (HY.out w1).mono ?_; rintro e w2 ⟨rfl, b2⟩
      have B2 := Lib.hid (below_step B1.out b2)
      have C2 := Lib.hid (heap_below b2 C1.out)
      clear b2
      go_wp2_with fail
      refine (HM.out w2).mono ?_; rintro e w3 ⟨rfl, b3⟩
      have B3 := Lib.hid (below_step B2.out b3)
      have C3 := Lib.hid (heap_below b3 C2.out)
      clear b3
      go_wp2_with fail
      go_ret2
      exact ⟨rfl, B3.out⟩
  · rw [if_pos (.inl hx)] at hz
    rw [no hx] at HY
    subst hz
    clear hx h12 no
    go_enter Tryz.func60, Tryz.ntmps60
    go_wp2_with fail
    refine (HX.out _).mono ?_; rintro e w1 ⟨rfl, b1⟩
    have B1 := Lib.hid (below_step B0.out b1)
    have C1 := Lib.hid (heap_below b1 C0.out)
    clear b1
    go_wp2_with fail
    refine (HY.out w1).mono ?_; rintro e w2 ⟨rfl, b2⟩
    have B2 := Lib.hid (below_step B1.out b2)
    have C2 := Lib.hid (heap_below b2 C1.out)
    clear b2
    go_wp2_with fail
    go_ret2
    exact ⟨rfl, B2.out⟩
end Go.Proofs.YtbdlegjklfkdmaaGreatDoor.Pl
