/- NameOrders answers true, whatever it is given. -/
import Derived.Test.YtkipnbhejokbeaaDoorNameAlive
import Derived.Test.YtkipnbhejokbeaaDoorNameLong
import Derived.Test.YtkipnbhejokbeaaDoorNameRefOrd
namespace Go.Proofs.YtkipnbhejokbeaaDoor.Pl
open Go.RowKit

set_option maxHeartbeats 4000000 in
set_option maxRecDepth 100000 in
theorem nameorders_any (a b : ByteArray) (ha : a.size ≤ 9223372036854775807) (hb : b.size ≤ 9223372036854775807) (w : World) (hT : Chars w) :
    Calls Tryd.prog 4 #[.string a, .string b] w fun e w' => e = .returned (.bool true) ∧ Below w.heap.size w w' := by
  have HT := Lib.hid hT
  have HA := Lib.hid (fun V h => alive_any5 V h)
  by_cases hl : Lg a ∨ Lg b
  · have HLG : Hid (true = true ↔ (Lg a ∨ Lg b)) := Lib.hid ⟨fun _ => hl, fun _ => rfl⟩
    clear hT hl
    go_enter Tryd.func4, Tryd.ntmps4
    go_wp2_with fail
    refine (long2_any _ a b _ (by simp) (by simp) true (by simpa using HLG.out)).mono ?_; rintro e w1 ⟨rfl, rfl⟩
    have B1 := Lib.hid ((Below.refl w.heap.size w).alloc (Nat.le_refl _) (.cells #[.string a, .string b] 9))
    generalize w.alloc (.cells #[.string a, .string b] 9) = W0 at *
    go_wp2_with fail
    refine (HA.out _ (HT.out.below B1.out)).mono ?_; rintro e w2 ⟨rfl, b2⟩
    have B2 := Lib.hid (below_step B1.out b2)
    clear b2 B1
    go_wp2_with fail
    go_ret
    exact ⟨rfl, B2.out⟩
  · have ha' : a.size ≤ 1000000 := by have : ¬ Lg a := fun h => hl (.inl h)
                                      unfold Lg at this; omega
    have hb' : b.size ≤ 1000000 := by have : ¬ Lg b := fun h => hl (.inr h)
                                      unfold Lg at this; omega
    have HLG : Hid (false = true ↔ (Lg a ∨ Lg b)) := Lib.hid ⟨fun h => absurd h (by decide), fun h => absurd h hl⟩
    have HC := Lib.hid (fun V h => clash_any a b ha hb V h)
    have HRC := Lib.hid (fun V (_ : Chars V) => rclash_any a b ha' hb' V)
    have HO := Lib.hid (fun V h => order_any a b ha hb V h)
    have HRO := Lib.hid (fun V (_ : Chars V) => rorder_any a b ha' hb' V)
    generalize clashB a b = c at *
    generalize orderB a b = z at *
    clear hT hl ha hb ha' hb'
    go_enter Tryd.func4, Tryd.ntmps4
    go_wp2_with fail
    refine (long2_any _ a b _ (by simp) (by simp) false HLG.out).mono ?_; rintro e w1 ⟨rfl, rfl⟩
    have B1 := Lib.hid ((Below.refl w.heap.size w).alloc (Nat.le_refl _) (.cells #[.string a, .string b] 9))
    generalize w.alloc (.cells #[.string a, .string b] 9) = W0 at *
    go_wp2_with fail
    refine (HC.out _ (HT.out.below B1.out)).mono ?_; rintro e w2 ⟨rfl, b2⟩
    have B2 := Lib.hid (below_step B1.out b2)
    clear b2 B1
    go_wp2_with fail
    refine (HRC.out _ (HT.out.below B2.out)).mono ?_; rintro e w3 ⟨rfl, b3⟩
    have B3 := Lib.hid (below_step B2.out b3)
    clear b3 B2
    go_wp2_with fail
    refine (HO.out _ (HT.out.below B3.out)).mono ?_; rintro e w4 ⟨rfl, b4⟩
    have B4 := Lib.hid (below_step B3.out b4)
    clear b4 B3
    go_wp2_with fail
    refine (HRO.out _ (HT.out.below B4.out)).mono ?_; rintro e w5 ⟨rfl, b5⟩
    have B5 := Lib.hid (below_step B4.out b5)
    clear b5 B4
    go_wp2_with fail
    refine (HA.out _ (HT.out.below B5.out)).mono ?_; rintro e w6 ⟨rfl, b6⟩
    have B6 := Lib.hid (below_step B5.out b6)
    clear b6 B5
    go_wp2_with fail
    go_ret
    exact ⟨rfl, B6.out⟩
end Go.Proofs.YtkipnbhejokbeaaDoor.Pl
