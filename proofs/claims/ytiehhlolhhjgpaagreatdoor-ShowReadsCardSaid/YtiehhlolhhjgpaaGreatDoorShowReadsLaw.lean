/- ShowReads answers true, whatever it is given. -/
import Derived.Test.YtiehhlolhhjgpaaGreatDoorShowAlive
import Derived.Test.YtiehhlolhhjgpaaGreatDoorShowRead
namespace Go.Proofs.YtiehhlolhhjgpaaGreatDoor.Pl
open Go.RowKit

set_option maxHeartbeats 2000000 in
set_option maxRecDepth 100000 in
theorem showreads_any (s : ByteArray) (w : World) (hF : Frames w) :
    Calls Tryz.prog 4 #[.string s] w fun e w' => e = .returned (.bool true) ∧ Below w.heap.size w w' := by
  have HL := Lib.hid (fun V => long7_any s V)
  have HA := Lib.hid (fun V hV => alive7_any V hV)
  have HFR := Lib.hid hF
  clear hF
  by_cases hl : 40000 < s.size
  · rw [decide_eq_true hl] at HL
    clear hl
    go_enter Tryz.func4, Tryz.ntmps4
    go_wp2_with fail
    refine (HL.out w).mono ?_; rintro e w1 ⟨rfl, rfl⟩
    go_wp2_with fail
    refine (HA.out _ HFR.out).mono ?_; rintro e w2 ⟨rfl, b2⟩
    go_wp2_with fail
    go_ret
    exact ⟨rfl, b2⟩
  · rw [decide_eq_false hl] at HL
    have HP := fun V hV => parse_any7 s (by omega) V hV
    have HR := fun V => rparse7_any s (by omega) V
    unfold st2 at HP HR
    generalize parseF (bl s) = z at *
    obtain ⟨t, e⟩ := z
    simp only at HP HR
    have HP := Lib.hid HP
    have HR := Lib.hid HR
    generalize (⟨t.toArray⟩ : ByteArray) = tb at *
    clear hl
    go_enter Tryz.func4, Tryz.ntmps4
    go_wp2_with fail
    refine (HL.out w).mono ?_; rintro e w1 ⟨rfl, rfl⟩
    go_wp2_with fail
    refine (HP.out _ HFR.out).mono ?_; rintro e w2 ⟨rfl, b2⟩
    go_wp2_with fail
    refine (HR.out w2).mono ?_; rintro e w3 ⟨rfl, b3⟩
    have B3 := Lib.hid (below_step b2 b3)
    clear b2 b3
    go_wp2_with fail
    refine (HA.out _ (HFR.out.kept HFR.out.1 B3.out)).mono ?_; rintro e w4 ⟨rfl, b4⟩
    have B4 := Lib.hid (below_step B3.out b4)
    clear b4
    go_wp2_with fail
    go_ret
    exact ⟨rfl, B4.out⟩
end Go.Proofs.YtiehhlolhhjgpaaGreatDoor.Pl
