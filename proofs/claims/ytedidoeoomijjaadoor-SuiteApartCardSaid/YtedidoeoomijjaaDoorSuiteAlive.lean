/- The chapter's examples hold: alive of layer 8 answers true; what long answers. -/
import Derived.Test.YtedidoeoomijjaaDoorSuiteTop
import Derived.Test.YtedidoeoomijjaaDoorSuiteNon
namespace Go.Proofs.YtedidoeoomijjaaDoor.Pl
open Go.RowKit

def aK8 : Tm := .node (97 :: txt [107]) []
def aN8 : Tm := .node (100 :: txt [0, 0, 0, 1, 0, 0, 0, 2, 0, 0, 0, 3]) []
def aT8 : Tm := .node (100 :: txt []) []
def aX8 : Tm := .node [115] [aK8, aN8, aT8]
theorem aX8_enc : aX8.enc = [115, 97, 1, 107, 100, 12, 0, 0, 0, 1, 0, 0, 0, 2, 0, 0, 0, 3, 100, 0] := by decide
theorem aX8_valid : aX8.valid := by
  refine ⟨?_, by decide, by decide⟩
  simp only [aX8, Tm.good]
  refine ⟨seal_head, ?_, ?_, ?_, trivial⟩
  · simp only [aK8, Tm.good]; exact ⟨atom_head (by decide) (by decide), trivial⟩
  · simp only [aN8, Tm.good]; exact ⟨data_head (by decide), trivial⟩
  · simp only [aT8, Tm.good]; exact ⟨data_head (by decide), trivial⟩
theorem al8_k (m : List UInt8) : keyP cryP true m [107] = ([97, 1, 107], 0) := by rw [key8_terms]; decide
theorem al8_j (m : List UInt8) : keyP cryP true m [106] = ([97, 1, 106], 0) := by rw [key8_terms]; decide
theorem al8_t : dataP [] = ([100, 0], 0) := by decide
theorem al8_n : nonceP 1 2 3 = ([100, 12, 0, 0, 0, 1, 0, 0, 0, 2, 0, 0, 0, 3], 0) := by decide
theorem al8_x : seal8P cryP true [97, 1, 107] [100, 12, 0, 0, 0, 1, 0, 0, 0, 2, 0, 0, 0, 3] [100, 0] = ([115, 97, 1, 107, 100, 12, 0, 0, 0, 1, 0, 0, 0, 2, 0, 0, 0, 3, 100, 0], 0) := by
  rw [seal8_terms]
  have h := made_again (h := [115]) (l := [aK8, aN8, aT8]) aX8_valid
  rw [show (Tm.node [115] [aK8, aN8, aT8]) = aX8 from rfl, aX8_enc, List.map_cons, List.map_cons, List.map_cons, List.map_nil, show aK8.enc = [97, 1, 107] by decide, show aN8.enc = [100, 12, 0, 0, 0, 1, 0, 0, 0, 2, 0, 0, 0, 3] by decide, show aT8.enc = [100, 0] by decide] at h
  exact h
theorem al8_y : open8P cryP true [97, 1, 107] [115, 97, 1, 107, 100, 12, 0, 0, 0, 1, 0, 0, 0, 2, 0, 0, 0, 3, 100, 0] = ([100, 0], 0) := (back_terms al8_x).1
theorem al8_m : open8P cryP true [97, 1, 106] [115, 97, 1, 107, 100, 12, 0, 0, 0, 1, 0, 0, 0, 2, 0, 0, 0, 3, 100, 0] = ([], 80) := by
  rw [other_terms al8_x (by decide), if_neg (by decide)]
theorem al8_o : mac8P cryP false [97, 1, 107] [100, 0] = ([], 2) := by
  have h : kindP [97, 1, 107] ≠ 1 := by
    unfold kindP
    rw [if_pos (by decide)]
    decide
  unfold mac8P
  rw [if_pos (.inr (.inr ⟨rfl, str_no h⟩))]
theorem al8_u : ∃ u : ByteArray, u.size = 34 ∧ hash8P cryP false [100, 0] = (bl u, 0) := by
  have hl := cryP.hash_len [100, 0]
  refine ⟨⟨(100 :: txt (cryP.hash [100, 0])).toArray⟩, ?_, ?_⟩
  · rw [size_lit, List.length_cons, txt_len, hl]; decide
  · unfold hash8P
    rw [if_neg (by decide), if_neg (by decide), bl_mk]
    unfold dataP
    rw [if_neg (by omega)]
theorem al8_w : textP [100, 12, 0, 0, 0, 1, 0, 0, 0, 2, 0, 0, 0, 3] = ([0, 0, 0, 1, 0, 0, 0, 2, 0, 0, 0, 3], true) := by
  have h := data_text (s := [0, 0, 0, 1, 0, 0, 0, 2, 0, 0, 0, 3]) (by decide)
  rwa [show (100 :: txt [0, 0, 0, 1, 0, 0, 0, 2, 0, 0, 0, 3] : List UInt8) = [100, 12, 0, 0, 0, 1, 0, 0, 0, 2, 0, 0, 0, 3] by decide] at h

set_option maxHeartbeats 4000000 in
set_option maxRecDepth 100000 in
theorem alive8_any (w : World) (hT : Tab w) : Calls Tryd.prog 9 #[] w fun e w' => e = .returned (.bool true) ∧ Below w.heap.size w w' := by
  have T0 := Lib.hid hT
  have H3 := Lib.hid (fun V => new_none 3 ⟨#[109]⟩ (by decide) (by decide) V)
  have H4 := Lib.hid (fun p V (h : SuiteAt V p true ⟨#[]⟩) => key8_any true ⟨#[]⟩ ⟨#[107]⟩ (by decide) p V h)
  have H5 := Lib.hid (fun p V (h : SuiteAt V p true ⟨#[]⟩) => key8_any true ⟨#[]⟩ ⟨#[106]⟩ (by decide) p V h)
  have H6 := Lib.hid (fun V => data6_any ⟨#[]⟩ (by decide) V)
  have H7 := Lib.hid (fun V => nonce8_any 1 2 3 V)
  have H8 := Lib.hid (fun p V (h : SuiteAt V p true ⟨#[]⟩) => seal8_any true ⟨#[]⟩ ⟨#[97, 1, 107]⟩ (by decide) ⟨#[100, 12, 0, 0, 0, 1, 0, 0, 0, 2, 0, 0, 0, 3]⟩ (by decide) ⟨#[100, 0]⟩ (by decide) p V h)
  have H9 := Lib.hid (fun p V (h : SuiteAt V p true ⟨#[]⟩) => open8_any true ⟨#[]⟩ ⟨#[97, 1, 107]⟩ (by decide) ⟨#[115, 97, 1, 107, 100, 12, 0, 0, 0, 1, 0, 0, 0, 2, 0, 0, 0, 3, 100, 0]⟩ (by decide) p V h)
  have H10 := Lib.hid (fun p V (h : SuiteAt V p true ⟨#[]⟩) => open8_any true ⟨#[]⟩ ⟨#[97, 1, 106]⟩ (by decide) ⟨#[115, 97, 1, 107, 100, 12, 0, 0, 0, 1, 0, 0, 0, 2, 0, 0, 0, 3, 100, 0]⟩ (by decide) p V h)
  have H11 := Lib.hid (fun p V (h : SuiteAt V p false ⟨#[109]⟩) => mac8_any false ⟨#[109]⟩ ⟨#[97, 1, 107]⟩ (by decide) ⟨#[100, 0]⟩ (by decide) p V h)
  have H12 := Lib.hid (fun p V (h : SuiteAt V p false ⟨#[109]⟩) => hash8_any false ⟨#[109]⟩ ⟨#[100, 0]⟩ (by decide) p V h)
  have H13 := Lib.hid (fun V => text6_any ⟨#[100, 12, 0, 0, 0, 1, 0, 0, 0, 2, 0, 0, 0, 3]⟩ (by decide) V)
  obtain ⟨u, hu, eu⟩ := al8_u
  rw [show bl ⟨#[107]⟩ = [107] from rfl, al8_k] at H4
  rw [show bl ⟨#[106]⟩ = [106] from rfl, al8_j] at H5
  rw [show bl ⟨#[]⟩ = [] from rfl, al8_t] at H6
  rw [al8_n] at H7
  rw [show bl ⟨#[97, 1, 107]⟩ = [97, 1, 107] from rfl, show bl ⟨#[100, 12, 0, 0, 0, 1, 0, 0, 0, 2, 0, 0, 0, 3]⟩ = [100, 12, 0, 0, 0, 1, 0, 0, 0, 2, 0, 0, 0, 3] from rfl, show bl ⟨#[100, 0]⟩ = [100, 0] from rfl, al8_x] at H8
  rw [show bl ⟨#[97, 1, 107]⟩ = [97, 1, 107] from rfl, show bl ⟨#[115, 97, 1, 107, 100, 12, 0, 0, 0, 1, 0, 0, 0, 2, 0, 0, 0, 3, 100, 0]⟩ = [115, 97, 1, 107, 100, 12, 0, 0, 0, 1, 0, 0, 0, 2, 0, 0, 0, 3, 100, 0] from rfl, al8_y] at H9
  rw [show bl ⟨#[97, 1, 106]⟩ = [97, 1, 106] from rfl, show bl ⟨#[115, 97, 1, 107, 100, 12, 0, 0, 0, 1, 0, 0, 0, 2, 0, 0, 0, 3, 100, 0]⟩ = [115, 97, 1, 107, 100, 12, 0, 0, 0, 1, 0, 0, 0, 2, 0, 0, 0, 3, 100, 0] from rfl, al8_m] at H10
  rw [show bl ⟨#[97, 1, 107]⟩ = [97, 1, 107] from rfl, show bl ⟨#[100, 0]⟩ = [100, 0] from rfl, al8_o] at H11
  rw [show bl ⟨#[100, 0]⟩ = [100, 0] from rfl, eu] at H12
  rw [show bl ⟨#[100, 12, 0, 0, 0, 1, 0, 0, 0, 2, 0, 0, 0, 3]⟩ = [100, 12, 0, 0, 0, 1, 0, 0, 0, 2, 0, 0, 0, 3] from rfl, al8_w] at H13
  rw [show st2 (bl u, 0) = .tuple #[.string u, .int .i64 0] by show Value.tuple #[.string ⟨(bl u).toArray⟩, _] = _; rw [show (⟨(bl u).toArray⟩ : ByteArray) = u from bl_inj (bl_mk _)]; rfl] at H12
  have HU : (u.size : Int) = 34 := by rw [hu]; rfl
  unfold st2 at H4 H5 H6 H7 H8 H9 H10 H11
  unfold tb2 at H13
  dsimp only at H4 H5 H6 H7 H8 H9 H10 H11 H13
  clear hT hu eu
  go_enter Tryd.func9, Tryd.ntmps9

  go_wp2_with fail
  refine (new_terms ⟨#[]⟩ w T0.out).mono ?_; rintro e w1 ⟨⟨p, rfl, s1⟩, b1⟩
  have S1 := Lib.hid s1
  have B1 := Lib.hid b1
  have T1 := Lib.hid (T0.out.below b1)
  clear b1 s1 T0
  go_wp2_with fail
  refine (new_bytes ⟨#[109]⟩ (by decide) (by decide) w1 T1.out).mono ?_; rintro e w2 ⟨⟨q, rfl, s2⟩, b2⟩
  have G2 := Lib.hid s2
  have B2 := Lib.hid (below_step B1.out b2)
  have T2 := Lib.hid (T1.out.below b2)
  have S2 := Lib.hid (S1.out.below b2)
  clear b2 s2 S1 B1 T1
  go_wp2_with fail
  refine (H3.out w2).mono ?_; rintro e w3 ⟨rfl, rfl⟩
  go_wp2_with fail
  refine (H4.out p w2 S2.out).mono ?_; rintro e w4 ⟨rfl, b4⟩
  have B4 := Lib.hid (below_step B2.out b4)
  have T4 := Lib.hid (T2.out.below b4)
  have S4 := Lib.hid (S2.out.below b4)
  have G4 := Lib.hid (G2.out.below b4)
  clear b4 S2 G2 B2 T2
  go_wp2_with fail
  refine (H5.out p w4 S4.out).mono ?_; rintro e w5 ⟨rfl, b5⟩
  have B5 := Lib.hid (below_step B4.out b5)
  have T5 := Lib.hid (T4.out.below b5)
  have S5 := Lib.hid (S4.out.below b5)
  have G5 := Lib.hid (G4.out.below b5)
  clear b5 S4 G4 B4 T4
  go_wp2_with fail
  refine (H6.out w5).mono ?_; rintro e w6 ⟨rfl, b6⟩
  have B6 := Lib.hid (below_step B5.out b6)
  have T6 := Lib.hid (T5.out.below b6)
  have S6 := Lib.hid (S5.out.below b6)
  have G6 := Lib.hid (G5.out.below b6)
  clear b6 S5 G5 B5 T5
  go_wp2_with fail
  refine (H7.out w6).mono ?_; rintro e w7 ⟨rfl, b7⟩
  have B7 := Lib.hid (below_step B6.out b7)
  have T7 := Lib.hid (T6.out.below b7)
  have S7 := Lib.hid (S6.out.below b7)
  have G7 := Lib.hid (G6.out.below b7)
  clear b7 S6 G6 B6 T6
  go_wp2_with fail
  refine (H8.out p w7 S7.out).mono ?_; rintro e w8 ⟨rfl, b8⟩
  have B8 := Lib.hid (below_step B7.out b8)
  have T8 := Lib.hid (T7.out.below b8)
  have S8 := Lib.hid (S7.out.below b8)
  have G8 := Lib.hid (G7.out.below b8)
  clear b8 S7 G7 B7 T7
  go_wp2_with fail
  refine (H9.out p w8 S8.out).mono ?_; rintro e w9 ⟨rfl, b9⟩
  have B9 := Lib.hid (below_step B8.out b9)
  have T9 := Lib.hid (T8.out.below b9)
  have S9 := Lib.hid (S8.out.below b9)
  have G9 := Lib.hid (G8.out.below b9)
  clear b9 S8 G8 B8 T8
  go_wp2_with fail
  refine (H10.out p w9 S9.out).mono ?_; rintro e w10 ⟨rfl, b10⟩
  have B10 := Lib.hid (below_step B9.out b10)
  have T10 := Lib.hid (T9.out.below b10)
  have S10 := Lib.hid (S9.out.below b10)
  have G10 := Lib.hid (G9.out.below b10)
  clear b10 S9 G9 B9 T9
  go_wp2_with fail
  refine (H11.out q w10 G10.out).mono ?_; rintro e w11 ⟨rfl, b11⟩
  have B11 := Lib.hid (below_step B10.out b11)
  have T11 := Lib.hid (T10.out.below b11)
  have S11 := Lib.hid (S10.out.below b11)
  have G11 := Lib.hid (G10.out.below b11)
  clear b11 S10 G10 B10 T10
  go_wp2_with fail
  refine (H12.out q w11 G11.out).mono ?_; rintro e w12 ⟨rfl, b12⟩
  have B12 := Lib.hid (below_step B11.out b12)
  have T12 := Lib.hid (T11.out.below b12)
  have S12 := Lib.hid (S11.out.below b12)
  have G12 := Lib.hid (G11.out.below b12)
  clear b12 S11 G11 B11 T11
  go_wp2_with fail
  refine (H13.out w12).mono ?_; rintro e w13 ⟨rfl, b13⟩
  have B13 := Lib.hid (below_step B12.out b13)
  have T13 := Lib.hid (T12.out.below b13)
  have S13 := Lib.hid (S12.out.below b13)
  have G13 := Lib.hid (G12.out.below b13)
  clear b13 S12 G12 B12 T12
  go_wp2_with fail
  go_ret
  exact ⟨rfl, B13.out⟩

/-- Whether one of four texts is longer than a statement looks at. -/
def longB (a b c d : ByteArray) : Bool := decide (20000 < a.size) || decide (20000 < b.size) || decide (20000 < c.size) || decide (20000 < d.size)
theorem longB_no {a b c d : ByteArray} (h : longB a b c d = false) : a.size ≤ 20000 ∧ b.size ≤ 20000 ∧ c.size ≤ 20000 ∧ d.size ≤ 20000 := by
  simp only [longB, Bool.or_eq_false_iff, decide_eq_false_iff_not] at h
  omega
set_option maxRecDepth 100000 in
theorem long8_any (a b c d : ByteArray) (w : World) :
    Calls Tryd.prog 11 #[.string a, .string b, .string c, .string d] w fun e w' => e = .returned (.bool (longB a b c d)) ∧ w = w' := by
  obtain ⟨z, hz⟩ : ∃ z, z = longB a b c d := ⟨_, rfl⟩
  rw [← hz]
  unfold longB at hz
  have q1 : decide ((20000 : Int) < (a.size : Int)) = decide (20000 < a.size) := by rw [Bool.eq_iff_iff, decide_eq_true_eq, decide_eq_true_eq]; omega
  have q2 : decide ((20000 : Int) < (b.size : Int)) = decide (20000 < b.size) := by rw [Bool.eq_iff_iff, decide_eq_true_eq, decide_eq_true_eq]; omega
  have q3 : decide ((20000 : Int) < (c.size : Int)) = decide (20000 < c.size) := by rw [Bool.eq_iff_iff, decide_eq_true_eq, decide_eq_true_eq]; omega
  have q4 : decide ((20000 : Int) < (d.size : Int)) = decide (20000 < d.size) := by rw [Bool.eq_iff_iff, decide_eq_true_eq, decide_eq_true_eq]; omega
  cases h1 : decide (20000 < a.size) <;> cases h2 : decide (20000 < b.size) <;> cases h3 : decide (20000 < c.size) <;> cases h4 : decide (20000 < d.size) <;>
    (rw [h1] at q1 hz; rw [h2] at q2 hz; rw [h3] at q3 hz; rw [h4] at q4 hz
     subst hz
     clear h1 h2 h3 h4
     go_enter Tryd.func11, Tryd.ntmps11
     go_wp2_with fail
     go_ret
     exact ⟨rfl, rfl⟩)
end Go.Proofs.YtedidoeoomijjaaDoor.Pl
