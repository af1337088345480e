/- TermPlaces answers true, whatever it is given. -/
import Derived.Test.YtfghhhghhjbiaaaTermAlive
import Derived.Test.YtfghhhghhjbiaaaTermOnce
import Derived.Test.YtfghhhghhjbiaaaTermSame
import Derived.Test.YtfghhhghhjbiaaaTermSwaps
import Derived.Test.YtfghhhghhjbiaaaTermLong
import Derived.Test.YtfghhhghhjbiaaaTermReadsLaw
namespace Go.Proofs.Ytfghhhghhjbiaaa.Pl
open Go.RowKit

theorem onceL_len (l : List (List UInt8)) : (onceL l).length ≤ l.length := by
  obtain ⟨M, rfl⟩ : ∃ M : List ByteArray, M.map bl = l := ⟨l.map fun x => ⟨x.toArray⟩, by rw [List.map_map]; exact (List.map_congr_left (fun _ _ => rfl)).trans (List.map_id l)⟩
  rw [← once_map, List.length_map, List.length_map]
  exact once_len M
theorem subs_len (s : List UInt8) : (onceL (placesP s)).length ≤ 16384 := by
  refine Nat.le_trans (onceL_len _) ?_
  by_cases h : checkP s = 0
  · obtain ⟨T, tv, te, tr⟩ := tree_of h
    have h2 : (placesP s).length = T.places.length := by unfold placesP; rw [tr]; simp
    rw [h2]
    exact Nat.le_trans (places_count T tv.1) tv.2.2
  · have h2 : placesP s = [] := by unfold placesP; rw [treeOf_none h]
    rw [h2]; exact Nat.zero_le _

set_option maxHeartbeats 4000000 in
set_option maxRecDepth 100000 in
theorem termplaces_any (t f u : ByteArray) (w : World) :
    Calls Try.prog 5 #[.string t, .string f, .string u] w fun e w' => e = .returned (.bool true) ∧ Below w.heap.size w w' := by
  have HAL := Lib.hid (fun V => alive6_any V)
  obtain ⟨lg, hlg⟩ : ∃ lg : Bool, lg = true ↔ Lng [t, f, u] := ⟨@decide _ (Classical.propDecidable _), @decide_eq_true_iff _ (Classical.propDecidable _)⟩
  have HL := Lib.hid (tlong_any [t, f, u] (some ⟨w.heap.size, 0, none⟩) 3 (by simp) _ (row3 w t f u) lg hlg)
  cases lg with
  | true =>
    clear hlg
    go_enter Try.func5, Try.ntmps5
    go_wp2_with fail
    refine HL.out.mono ?_; rintro e w1 ⟨rfl, rfl⟩
    have B1 := Lib.hid ((Below.refl w.heap.size w).alloc (Nat.le_refl _) (.cells #[.string t, .string f, .string u] 9))
    generalize w.alloc (.cells #[.string t, .string f, .string u] 9) = W0 at *
    clear HL
    go_wp2_with fail
    refine (HAL.out _).mono ?_; rintro e w2 ⟨rfl, b2⟩
    have B2 := Lib.hid (below_step B1.out b2)
    clear b2 B1
    go_wp2_with fail
    go_ret
    exact ⟨rfl, B2.out⟩
  | false =>
    have hno : ¬ Lng [t, f, u] := fun h => absurd (hlg.2 h) (by decide)
    obtain ⟨_, hsz⟩ := lng_no hno
    have ht : t.size ≤ 281474976710656 := by have := hsz t (by simp); omega
    have hf : f.size ≤ 281474976710656 := by have := hsz f (by simp); omega
    have hu : u.size ≤ 281474976710656 := by have := hsz u (by simp); omega
    have HW := fun V => swap6_any t f u ht hf hu V
    have HRW := fun V => rswap6_any t f u ht hf hu V
    have HH := fun V => has6_any t f ht hf V
    have HRH := fun V => rhas_any t f ht hf V
    have HS := fun V => subs6_any t ht V
    have HRS := fun V => rsubs_any t ht V
    have hsl := subs_len (bl t)
    unfold st2 at HW HRW
    generalize swapP (bl t) (bl f) (bl u) = r at *
    obtain ⟨r1, r2⟩ := r
    simp only at HW HRW
    generalize (⟨r1.toArray⟩ : ByteArray) = rb at *
    generalize hasP (bl t) (bl f) = hh at *
    generalize onceL (placesP (bl t)) = ol at *
    have HW := Lib.hid HW
    have HRW := Lib.hid HRW
    have HH := Lib.hid HH
    have HRH := Lib.hid HRH
    have HS := Lib.hid HS
    have HRS := Lib.hid HRS
    clear hlg hno hsz ht hf hu
    go_enter Try.func5, Try.ntmps5
    go_wp2_with fail
    refine HL.out.mono ?_; rintro e w1 ⟨rfl, rfl⟩
    have B1 := Lib.hid ((Below.refl w.heap.size w).alloc (Nat.le_refl _) (.cells #[.string t, .string f, .string u] 9))
    generalize w.alloc (.cells #[.string t, .string f, .string u] 9) = W0 at *
    clear HL
    go_wp2_with fail
    refine (HW.out _).mono ?_; rintro e w2 ⟨rfl, b2⟩
    have B2 := Lib.hid (below_step B1.out b2)
    clear b2 B1
    go_wp2_with fail
    refine (HRW.out _).mono ?_; rintro e w3 ⟨rfl, b3⟩
    have B3 := Lib.hid (below_step B2.out b3)
    clear b3 B2
    go_wp2_with fail
    refine (HH.out _).mono ?_; rintro e w4 ⟨rfl, b4⟩
    have B4 := Lib.hid (below_step B3.out b4)
    clear b4 B3
    go_wp2_with fail
    refine (HRH.out _).mono ?_; rintro e w5 ⟨rfl, b5⟩
    have B5 := Lib.hid (below_step B4.out b5)
    clear b5 B4
    go_wp2_with fail
    refine (HS.out _).mono ?_; rintro e6 w6 ⟨v6, L6, rfl, own6, hL6, b6⟩
    obtain ⟨a6, c6, rfl, row6⟩ := ownT_row own6
    have B6 := Lib.hid (below_step B5.out b6)
    have ROW6 := Lib.hid row6
    clear b6 B5 own6 row6
    go_wp2_with fail
    refine (HRS.out _).mono ?_; rintro e7 w7 ⟨v7, L7, rfl, own7, hL7, b7⟩
    obtain rfl : L6 = L7 := map_bl_inj (hL6.trans hL7.symm)
    obtain ⟨a7, c7, rfl, row7⟩ := ownT_row own7
    have hl6 : L6.length ≤ 281474976710656 := by have := congrArg List.length hL6; rw [List.length_map] at this; omega
    have HSM := Lib.hid (fun V h1 h2 => rsame_any L6 L6 a6 a7 c6 c7 hl6 hl6 V h1 h2 true (by simp))
    have B7 := Lib.hid (below_step B6.out b7)
    have ROW6' := Lib.hid (ROW6.out.below b7)
    have ROW7 := Lib.hid row7
    clear b7 B6 own7 row7 hL6 hL7 hl6 hsl ROW6
    generalize L6.length = ln at *
    go_wp2_with fail
    refine (HSM.out _ ROW6'.out ROW7.out).mono ?_; rintro e w8 ⟨rfl, b8⟩
    have B8 := Lib.hid (below_step B7.out b8)
    clear b8 B7
    go_wp2_with fail
    refine (HAL.out _).mono ?_; rintro e w9 ⟨rfl, b9⟩
    have B9 := Lib.hid (below_step B8.out b9)
    clear b9 B8
    go_wp2_with fail
    go_ret
    exact ⟨rfl, B9.out⟩
end Go.Proofs.Ytfghhhghhjbiaaa.Pl
