/- The chapter's examples of keys hold: alive of layer 9 answers true; KeysNames answers true, whatever it is given. Leans on the program's own contracts: ktag_any, kseal_any, kread_any, kknown_any, kterms_nil, under KeyTab. -/
import Derived.Test.YtbhcjdpachboaaaDoorKeysOwn
import Derived.Test.YtbhcjdpachboaaaDoorKeysBase2
namespace Go.Proofs.YtbhcjdpachboaaaDoor.Pl
open Go.RowKit

theorem bl_inj9 {a b : List ByteArray} (h : a.map bl = b.map bl) : a = b := (List.map_inj_right (fun _ _ e => bl_inj e)).1 h
def four9 : List ByteArray := [⟨#[107, 47, 48, 47, 48]⟩, ⟨#[115, 47, 48, 47, 48]⟩, ⟨#[107, 47, 48, 47, 49]⟩, ⟨#[115, 47, 48, 47, 49]⟩]
theorem four9_bl : four9.map bl = knownK 1 2 := by rw [al9_known]; rfl
theorem row9 (w : World) : TxtRow (w.alloc (.cells #[.string ⟨#[107, 47, 48, 47, 48]⟩, .string ⟨#[115, 47, 48, 47, 48]⟩, .string ⟨#[107, 47, 48, 47, 49]⟩, .string ⟨#[115, 47, 48, 47, 49]⟩] 9)) (some ⟨w.heap.size, 0, none⟩) four9 :=
  .inr ⟨w.heap.size, 0, rfl, by simp, fun j hj => by
    have hj' : j < 4 := hj
    obtain rfl | rfl | rfl | rfl : j = 0 ∨ j = 1 ∨ j = 2 ∨ j = 3 := by omega
    all_goals simp [four9]⟩
set_option maxHeartbeats 2000000 in
set_option maxRecDepth 100000 in
theorem alive9_any (w : World) (hT : KeyTab w) : Calls Tryd.prog 7 #[] w fun e w' => e = .returned (.bool true) ∧ Below w.heap.size w w' := by
  have T0 := Lib.hid hT
  have H1 := Lib.hid (fun V h => ktag_any 2 0 V h)
  have H2 := Lib.hid (fun V h => kseal_any 1 1 V h)
  have H3 := Lib.hid (fun V h => ktag_any 0 8 V h)
  have H4 := Lib.hid (fun V h => kknown_any 1 (by decide) 2 V h)
  rw [al9_tag] at H1
  rw [al9_seal] at H2
  rw [al9_no] at H3
  unfold st2 at H1 H2 H3
  dsimp only at H1 H2 H3
  clear hT
  go_enter Tryd.func7, Tryd.ntmps7
  go_wp2_with fail
  refine (H1.out _ T0.out).mono ?_; rintro e w1 ⟨rfl, b1⟩
  have B1 := Lib.hid b1
  have T1 := Lib.hid (T0.out.below b1)
  clear b1
  go_wp2_with fail
  refine (H2.out _ T1.out).mono ?_; rintro e w2 ⟨rfl, b2⟩
  have B2 := Lib.hid (step9 B1.out b2)
  have T2 := Lib.hid (T1.out.below b2)
  clear b2
  go_wp2_with fail
  refine (H3.out _ T2.out).mono ?_; rintro e w3 ⟨rfl, b3⟩
  have B3 := Lib.hid (step9 B2.out b3)
  have T3 := Lib.hid (T2.out.below b3)
  clear b3
  go_wp2_with fail
  refine (kterms_nil _).mono ?_; rintro e w4 ⟨rfl, b4⟩
  have B4 := Lib.hid (step9 B3.out b4)
  have T4 := Lib.hid (T3.out.below b4)
  clear b4
  go_wp2_with fail
  refine (H4.out _ T4.out).mono ?_; rintro e w5 ⟨⟨v, L, rfl, own, hL⟩, b5⟩
  have B5 := Lib.hid (step9 B4.out b5)
  obtain rfl : L = four9 := bl_inj9 (by rw [hL, ← four9_bl])
  obtain ⟨ao, cap, rfl, hrow⟩ := ownT_row own
  have R5 := Lib.hid hrow
  clear b5 own hL hrow
  go_wp2_with fail
  refine (rsame_any four9 four9 ao (some ⟨w5.heap.size, 0, none⟩) cap 4 (by decide) (by decide) _ (R5.out.below ((Below.refl w5.heap.size w5).alloc (Nat.le_refl _) _)) (row9 w5) true (by simp)).mono ?_; rintro e w6 ⟨rfl, b6⟩
  have B6 := Lib.hid (step9 (B5.out.alloc B5.out.size _) b6)
  clear b6
  go_wp2_with fail
  go_ret
  exact ⟨rfl, B6.out⟩
set_option maxHeartbeats 2000000 in
set_option maxRecDepth 100000 in
theorem keysnames_any (a b : Int) (s : ByteArray) (w : World) (hT : KeyTab w) :
    Calls Tryd.prog 3 #[.int .i64 a, .int .i64 b, .string s] w fun e w' => e = .returned (.bool true) ∧ Below w.heap.size w w' := by
  have T0 := Lib.hid hT
  have HA := Lib.hid (fun V h => alive9_any V h)
  by_cases hs : 1000 < s.size
  · have q : (1000 : Int) < (s.size : Int) := by omega
    clear hT hs
    go_enter Tryd.func3, Tryd.ntmps3
    go_wp2_with fail
    refine (HA.out _ T0.out).mono ?_; rintro e w1 ⟨rfl, b1⟩
    have B1 := Lib.hid b1
    clear b1
    go_wp2_with fail
    go_ret
    exact ⟨rfl, B1.out⟩
  · have q : ¬ (1000 : Int) < (s.size : Int) := by omega
    have H1 := Lib.hid (fun V h => ktag_any a b V h)
    have H2 := Lib.hid (fun V => rtag9_any a b V)
    have H3 := Lib.hid (fun V h => kseal_any a b V h)
    have H4 := Lib.hid (fun V => rkseal9_any a b V)
    have H5 := Lib.hid (fun V h => kread_any s (by omega) V h)
    have H6 := Lib.hid (fun V => rread9_any s V)
    generalize nameK 107 a b = X at *
    generalize nameK 115 a b = Y at *
    generalize readK (bl s) = Z at *
    obtain ⟨x, x'⟩ := X
    obtain ⟨y, y'⟩ := Y
    obtain ⟨z1, z2, z3, z4⟩ := Z
    unfold st2 at H1 H2 H3 H4
    unfold read4 at H5 H6
    dsimp only at H1 H2 H3 H4 H5 H6
    generalize (⟨x.toArray⟩ : ByteArray) = xb at *
    generalize (⟨y.toArray⟩ : ByteArray) = yb at *
    clear hT hs
    go_enter Tryd.func3, Tryd.ntmps3
    go_wp2_with fail
    refine (H1.out _ T0.out).mono ?_; rintro e w1 ⟨rfl, b1⟩
    have B1 := Lib.hid b1
    have T1 := Lib.hid (T0.out.below b1)
    clear b1
    go_wp2_with fail
    refine (H2.out _).mono ?_; rintro e w2 ⟨rfl, b2⟩
    have B2 := Lib.hid (step9 B1.out b2)
    have T2 := Lib.hid (T1.out.below b2)
    clear b2
    go_wp2_with fail
    refine (H3.out _ T2.out).mono ?_; rintro e w3 ⟨rfl, b3⟩
    have B3 := Lib.hid (step9 B2.out b3)
    have T3 := Lib.hid (T2.out.below b3)
    clear b3
    go_wp2_with fail
    refine (H4.out _).mono ?_; rintro e w4 ⟨rfl, b4⟩
    have B4 := Lib.hid (step9 B3.out b4)
    have T4 := Lib.hid (T3.out.below b4)
    clear b4
    go_wp2_with fail
    refine (H5.out _ T4.out).mono ?_; rintro e w5 ⟨rfl, b5⟩
    have B5 := Lib.hid (step9 B4.out b5)
    have T5 := Lib.hid (T4.out.below b5)
    clear b5
    go_wp2_with fail
    refine (H6.out _).mono ?_; rintro e w6 ⟨rfl, b6⟩
    have B6 := Lib.hid (step9 B5.out b6)
    have T6 := Lib.hid (T5.out.below b6)
    clear b6
    go_wp2_with fail
    refine (HA.out _ T6.out).mono ?_; rintro e w7 ⟨rfl, b7⟩
    have B7 := Lib.hid (step9 B6.out b7)
    clear b7
    go_wp2_with fail
    go_ret
    exact ⟨rfl, B7.out⟩
end Go.Proofs.YtbhcjdpachboaaaDoor.Pl
