/- What the document's package of suites answers: which kinds may be, and what a key's text is. -/
import Derived.Test.YtbdlegjklfkdmaaGreatDoorBallC12
namespace Go.Proofs.YtbdlegjklfkdmaaGreatDoor.Pl
open Go.RowKit

theorem rstr8_any (t : ByteArray) (ht : t.size ≤ 281474976710656) (w : World) :
    Calls Tryz.prog 97 #[.string t] w fun e w' => e = .returned (tb2 ((textP (bl t)).1, kindP (bl t) == 1)) ∧ Below w.heap.size w w' := by
  have HT := Lib.hid (rtext6_any t ht w)
  have HK := Lib.hid (fun V => rkind_any t ht V)
  have q : ((kindP (bl t) : Int) == 1) = (kindP (bl t) == 1) := by rw [Bool.eq_iff_iff, beq_iff_eq, beq_iff_eq]; omega
  generalize (kindP (bl t) == 1) = z at *
  generalize kindP (bl t) = k at *
  go_enter Tryz.func97, Tryz.ntmps97
  go_wp2_with fail
  refine HT.out.mono ?_; rintro e w1 ⟨rfl, b1⟩
  have B1 := Lib.hid b1
  clear b1
  unfold tb2
  go_wp2_with fail
  refine (HK.out w1).mono ?_; rintro e w2 ⟨rfl, b2⟩
  have B2 := Lib.hid (below_step B1.out b2)
  clear b2
  go_wp2_with fail
  go_ret2
  exact ⟨rfl, B2.out⟩
end Go.Proofs.YtbdlegjklfkdmaaGreatDoor.Pl
