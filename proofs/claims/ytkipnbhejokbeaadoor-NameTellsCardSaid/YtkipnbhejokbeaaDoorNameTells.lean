/- NameTells answers true, whatever it is given. -/
import Derived.Test.YtkipnbhejokbeaaDoorNameAlive
import Derived.Test.YtkipnbhejokbeaaDoorNameLong
import Derived.Test.YtkipnbhejokbeaaDoorNameRefs
namespace Go.Proofs.YtkipnbhejokbeaaDoor.Pl
open Go.RowKit

set_option maxHeartbeats 4000000 in
set_option maxRecDepth 100000 in
theorem nametells_any (s : ByteArray) (r : Int) (hs : s.size ≤ 9223372036854775807) (h0 : -2147483648 ≤ r) (h1 : r ≤ 2147483647) (w : World) (hT : Chars w) :
    Calls Tryd.prog 3 #[.string s, .int .i32 r] w fun e w' => e = .returned (.bool true) ∧ Below w.heap.size w w' := by
  have HT := Lib.hid hT
  have HA := Lib.hid (fun V h => alive_any5 V h)
  by_cases hl : Lg s
  · have HLG : Hid (true = true ↔ Lg s) := Lib.hid ⟨fun _ => hl, fun _ => rfl⟩
    clear hT hl
    go_enter Tryd.func3, Tryd.ntmps3
    go_wp2_with fail
    refine (long1_any _ s _ (by simp) true (by simpa using HLG.out)).mono ?_; rintro e w1 ⟨rfl, rfl⟩
    have B1 := Lib.hid ((Below.refl w.heap.size w).alloc (Nat.le_refl _) (.cells #[.string s] 9))
    generalize w.alloc (.cells #[.string s] 9) = W0 at *
    go_wp2_with fail
    refine (HA.out _ (HT.out.below B1.out)).mono ?_; rintro e w2 ⟨rfl, b2⟩
    have B2 := Lib.hid (below_step B1.out b2)
    clear b2 B1
    go_wp2_with fail
    go_ret
    exact ⟨rfl, B2.out⟩
  · have hs' : s.size ≤ 1000000 := by unfold Lg at hl; omega
    have HLG : Hid (false = true ↔ Lg s) := Lib.hid ⟨fun h => absurd h (by decide), fun h => absurd h hl⟩
    have HS := Lib.hid (fun V h => skel_any s hs V h)
    have HRS := Lib.hid (fun V (_ : Chars V) => rskel_any s hs' V)
    have HC := Lib.hid (fun V h => check_any s hs V h)
    have HRC := Lib.hid (fun V (_ : Chars V) => rcheck_any s hs' V)
    have HP := Lib.hid (fun V h => scriptn_any s hs V h)
    have HRP := Lib.hid (fun V (_ : Chars V) => rscript_any s hs' V)
    have HL := Lib.hid (fun V (_ : Chars V) => look_any r h0 h1 V)
    have HRL : Hid (∀ V, Chars V → Calls Tryd.prog 16 #[.int .i32 r] V fun e w' => e = .returned (.int .i32 (lookZ r)) ∧ Below V.heap.size V w') := Lib.hid (fun V _ => (rlook_any r V).mono fun _ _ ⟨h, k⟩ => ⟨h, by rw [← k]; exact Below.refl _ _⟩)
    generalize skB s = x at *
    generalize checkL (runes s) = c at *
    generalize scriptL (runes s) = p at *
    generalize lookZ r = z at *
    clear hT hl hs hs' h0 h1
    go_enter Tryd.func3, Tryd.ntmps3
    go_wp2_with fail
    refine (long1_any _ s _ (by simp) false HLG.out).mono ?_; rintro e w1 ⟨rfl, rfl⟩
    have B1 := Lib.hid ((Below.refl w.heap.size w).alloc (Nat.le_refl _) (.cells #[.string s] 9))
    generalize w.alloc (.cells #[.string s] 9) = W0 at *
    go_wp2_with fail
    refine (HS.out _ (HT.out.below B1.out)).mono ?_; rintro e w2 ⟨rfl, b2⟩
    have B2 := Lib.hid (below_step B1.out b2)
    clear b2 B1
    go_wp2_with fail
    refine (HRS.out _ (HT.out.below B2.out)).mono ?_; rintro e w3 ⟨rfl, b3⟩
    have B3 := Lib.hid (below_step B2.out b3)
    clear b3 B2
    go_wp2_with fail
    refine (HC.out _ (HT.out.below B3.out)).mono ?_; rintro e w4 ⟨rfl, b4⟩
    have B4 := Lib.hid (below_step B3.out b4)
    clear b4 B3
    go_wp2_with fail
    refine (HRC.out _ (HT.out.below B4.out)).mono ?_; rintro e w5 ⟨rfl, b5⟩
    have B5 := Lib.hid (below_step B4.out b5)
    clear b5 B4
    go_wp2_with fail
    refine (HP.out _ (HT.out.below B5.out)).mono ?_; rintro e w6 ⟨rfl, b6⟩
    have B6 := Lib.hid (below_step B5.out b6)
    clear b6 B5
    go_wp2_with fail
    refine (HRP.out _ (HT.out.below B6.out)).mono ?_; rintro e w7 ⟨rfl, b7⟩
    have B7 := Lib.hid (below_step B6.out b7)
    clear b7 B6
    go_wp2_with fail
    refine (HL.out _ (HT.out.below B7.out)).mono ?_; rintro e w8 ⟨rfl, b8⟩
    have B8 := Lib.hid (below_step B7.out b8)
    clear b8 B7
    go_wp2_with fail
    refine (HRL.out _ (HT.out.below B8.out)).mono ?_; rintro e w9 ⟨rfl, b9⟩
    have B9 := Lib.hid (below_step B8.out b9)
    clear b9 B8
    go_wp2_with fail
    refine (HA.out _ (HT.out.below B9.out)).mono ?_; rintro e w10 ⟨rfl, b10⟩
    have B10 := Lib.hid (below_step B9.out b10)
    clear b10 B9
    go_wp2_with fail
    go_ret
    exact ⟨rfl, B10.out⟩
end Go.Proofs.YtkipnbhejokbeaaDoor.Pl
