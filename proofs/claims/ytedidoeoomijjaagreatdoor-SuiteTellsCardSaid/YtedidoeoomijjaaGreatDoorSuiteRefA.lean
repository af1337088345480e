/- What the document's package of suites answers: which kinds may be, and what a key's text is. -/
import Derived.Test.YtedidoeoomijjaaGreatDoorTermMakes
namespace Go.Proofs.YtedidoeoomijjaaGreatDoor.Pl
open Go.RowKit

/-- Which suites may be. -/
def may8 (k n : Nat) : Bool := k == 1 || (k == 2 && decide (1 ≤ n) && decide (n ≤ 64))
set_option maxRecDepth 100000 in
theorem rmay8_any (k : Nat) (m : ByteArray) (w : World) :
    Calls Tryz.prog 7 #[.int .u8 k, .string m] w fun e w' => e = .returned (.bool (may8 k m.size)) ∧ w = w' := by
  obtain ⟨z, hz⟩ : ∃ z, z = may8 k m.size := ⟨_, rfl⟩
  rw [← hz]
  unfold may8 at hz
  have q1 : ((k : Int) == 1) = (k == 1) := by rw [Bool.eq_iff_iff, beq_iff_eq, beq_iff_eq]; omega
  have q2 : ((k : Int) == 2) = (k == 2) := by rw [Bool.eq_iff_iff, beq_iff_eq, beq_iff_eq]; omega
  have q3 : decide ((1 : Int) ≤ (m.size : Int)) = decide (1 ≤ m.size) := by rw [Bool.eq_iff_iff, decide_eq_true_eq, decide_eq_true_eq]; omega
  have q4 : decide ((m.size : Int) ≤ 64) = decide (m.size ≤ 64) := by rw [Bool.eq_iff_iff, decide_eq_true_eq, decide_eq_true_eq]; omega
  cases h1 : k == 1 <;> cases h2 : k == 2 <;> cases h3 : decide (1 ≤ m.size) <;> cases h4 : decide (m.size ≤ 64) <;>
    (rw [h1] at q1 hz; rw [h2] at q2 hz; rw [h3] at q3 hz; rw [h4] at q4 hz
     subst hz
     clear h1 h2 h3 h4
     go_enter Tryz.func7, Tryz.ntmps7
     go_wp2_with fail
     go_ret
     exact ⟨rfl, rfl⟩)

theorem rstr8_any (t : ByteArray) (ht : t.size ≤ 281474976710656) (w : World) :
    Calls Tryz.prog 33 #[.string t] w fun e w' => e = .returned (tb2 ((textP (bl t)).1, kindP (bl t) == 1)) ∧ Below w.heap.size w w' := by
  have HT := Lib.hid (rtext6_any t ht w)
  have HK := Lib.hid (fun V => rkind_any t ht V)
  have q : ((kindP (bl t) : Int) == 1) = (kindP (bl t) == 1) := by rw [Bool.eq_iff_iff, beq_iff_eq, beq_iff_eq]; omega
  generalize (kindP (bl t) == 1) = z at *
  generalize kindP (bl t) = k at *
  go_enter Tryz.func33, Tryz.ntmps33
  go_wp2_with fail
  refine HT.out.mono ?_; rintro e w1 ⟨rfl, b1⟩
  have B1 := Lib.hid b1
  clear b1
  unfold tb2
  go_wp2_with fail
  refine (HK.out w1).mono ?_; rintro e w2 ⟨rfl, b2⟩
  have B2 := Lib.hid (below_step B1.out b2)
  clear b2
  go_wp2_with fail
  go_ret2
  exact ⟨rfl, B2.out⟩
end Go.Proofs.YtedidoeoomijjaaGreatDoor.Pl
