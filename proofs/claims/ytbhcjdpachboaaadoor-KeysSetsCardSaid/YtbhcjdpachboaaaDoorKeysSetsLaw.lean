/- KeysSets answers true, whatever it is given. Leans on the program's own contracts: kof_any, kknown_any, kin_any, klist_any. -/
import Derived.Test.YtbhcjdpachboaaaDoorKeysNamesLaw
import Derived.Test.YtbhcjdpachboaaaDoorKeysRefC
import Derived.Test.YtbhcjdpachboaaaDoorKeysRefE
namespace Go.Proofs.YtbhcjdpachboaaaDoor.Pl
open Go.RowKit

set_option maxHeartbeats 4000000 in
set_option maxRecDepth 100000 in
theorem keyssets_any (s : Nat) (hs : s < 256) (n a : Int) (w : World) (hT : KeyTab w) :
    Calls Tryd.prog 4 #[.int .u8 (s : Int), .int .i64 n, .int .i64 a] w fun e w' => e = .returned (.bool true) ∧ Below w.heap.size w w' := by
  have T0 := Lib.hid hT
  have HA := Lib.hid (fun V h => alive9_any V h)
  have H1 := Lib.hid (fun V h => kof_any a n V h)
  have H2 := Lib.hid (fun V => rof9_any a n V)
  have H3 := Lib.hid (fun V h => kknown_any s hs n V h)
  have H4 := Lib.hid (fun V => rknown9_any s n V)
  have H5 := Lib.hid (fun V => kin_any s hs a V)
  have H6 := Lib.hid (fun V => rin9_any s a V)
  have H7 := Lib.hid (fun V => klist_any s hs n V)
  have H8 := Lib.hid (fun V => rlist9_any s n V)
  have LO : Hid ((ofK a n).length ≤ 1000) := Lib.hid (by
    unfold ofK
    split
    · rename_i h
      have := flat_len (bothK a.toNat) 2 (fun i => Nat.le_refl _) n.toNat
      omega
    · exact Nat.zero_le _)
  have LK : Hid ((knownK s n).length ≤ 1000) := Lib.hid (by
    unfold knownK
    split
    · rename_i h
      have := flat_len (rowK s n.toNat) 16 (fun i => by have := flat_len (cellK s i) 2 (cell_len s i) n.toNat; unfold rowK; omega) n.toNat
      omega
    · exact Nat.zero_le _)
  have LL : Hid ((listK s n).length ≤ 1000) := Lib.hid (by
    unfold listK
    split
    · rename_i h
      have := filter_len (fun (a : Nat) => setB s (a : Int)) n.toNat
      omega
    · exact Nat.zero_le _)
  generalize ofK a n = O at *
  generalize knownK s n = K at *
  generalize listK s n = L at *
  generalize setB s a = z at *
  clear hT hs
  cases z
  all_goals
    go_enter Tryd.func4, Tryd.ntmps4
    go_wp2_with fail
    refine (H1.out _ T0.out).mono ?_; rintro e w1 ⟨⟨v1, L1, rfl, own1, e1⟩, b1⟩
    have B1 := Lib.hid b1
    have T1 := Lib.hid (T0.out.below b1)
    obtain ⟨ao1, cap1, rfl, row1⟩ := ownT_row own1
    have R1 := Lib.hid row1
    clear b1 own1 row1
    go_wp2_with fail
    refine (H2.out _).mono ?_; rintro e w2 ⟨⟨v2, L2, rfl, own2, e2⟩, b2⟩
    have B2 := Lib.hid (step9 B1.out b2)
    have T2 := Lib.hid (T1.out.below b2)
    obtain ⟨ao2, cap2, rfl, row2⟩ := ownT_row own2
    have R2 := Lib.hid row2
    have R1' := Lib.hid (R1.out.below b2)
    obtain rfl : L2 = L1 := bl_inj9 (by rw [e1, e2])
    have LN : Hid (L2.length ≤ 1000) := Lib.hid (by have := LO.out; rw [← e2, List.length_map] at this; exact this)
    clear b2 own2 row2 e1 e2
    go_wp2_with fail
    refine (rsame_any L2 L2 ao1 ao2 cap1 cap2 (by have := LN.out; omega) (by have := LN.out; omega) _ R1'.out R2.out true (by simp)).mono ?_; rintro e w3 ⟨rfl, b3⟩
    have B3 := Lib.hid (step9 B2.out b3)
    have T3 := Lib.hid (T2.out.below b3)
    clear b3
    go_wp2_with fail
    refine (H3.out _ T3.out).mono ?_; rintro e w4 ⟨⟨v4, L4, rfl, own4, e4⟩, b4⟩
    have B4 := Lib.hid (step9 B3.out b4)
    have T4 := Lib.hid (T3.out.below b4)
    obtain ⟨ao4, cap4, rfl, row4⟩ := ownT_row own4
    have R4 := Lib.hid row4
    clear b4 own4 row4
    go_wp2_with fail
    refine (H4.out _).mono ?_; rintro e w5 ⟨⟨v5, L5, rfl, own5, e5⟩, b5⟩
    have B5 := Lib.hid (step9 B4.out b5)
    have T5 := Lib.hid (T4.out.below b5)
    obtain ⟨ao5, cap5, rfl, row5⟩ := ownT_row own5
    have R5 := Lib.hid row5
    have R4' := Lib.hid (R4.out.below b5)
    obtain rfl : L5 = L4 := bl_inj9 (by rw [e4, e5])
    have LN2 : Hid (L5.length ≤ 1000) := Lib.hid (by have := LK.out; rw [← e5, List.length_map] at this; exact this)
    clear b5 own5 row5 e4 e5
    go_wp2_with fail
    refine (rsame_any L5 L5 ao4 ao5 cap4 cap5 (by have := LN2.out; omega) (by have := LN2.out; omega) _ R4'.out R5.out true (by simp)).mono ?_; rintro e w6 ⟨rfl, b6⟩
    have B6 := Lib.hid (step9 B5.out b6)
    have T6 := Lib.hid (T5.out.below b6)
    clear b6
    go_wp2_with fail
    refine (H5.out _).mono ?_; rintro e w7 ⟨rfl, b7⟩
    have B7 := Lib.hid (step9 B6.out b7)
    have T7 := Lib.hid (T6.out.below b7)
    clear b7
    go_wp2_with fail
    refine (H6.out _).mono ?_; rintro e w8 ⟨rfl, rfl⟩
    go_wp2_with fail
    refine (H7.out _).mono ?_; rintro e w9 ⟨⟨v9, rfl, own9⟩, b9⟩
    have B9 := Lib.hid (step9 B7.out b9)
    have T9 := Lib.hid (T7.out.below b9)
    obtain ⟨ao9, cap9, rfl, row9⟩ := ownI_row own9
    have R9 := Lib.hid row9
    clear b9 own9 row9
    go_wp2_with fail
    refine (H8.out _).mono ?_; rintro e w10 ⟨⟨v10, rfl, own10⟩, b10⟩
    have B10 := Lib.hid (step9 B9.out b10)
    have T10 := Lib.hid (T9.out.below b10)
    obtain ⟨ao10, cap10, rfl, row10⟩ := ownI_row own10
    have R10 := Lib.hid row10
    have R9' := Lib.hid (R9.out.below b10)
    clear b10 own10 row10
    go_wp2_with fail
    refine (rsameints_eq L ao9 ao10 cap9 cap10 LL.out _ R9'.out R10.out).mono ?_; rintro e w11 ⟨rfl, b11⟩
    have B11 := Lib.hid (step9 B10.out b11)
    have T11 := Lib.hid (T10.out.below b11)
    clear b11
    go_wp2_with fail
    refine (HA.out _ T11.out).mono ?_; rintro e w12 ⟨rfl, b12⟩
    have B12 := Lib.hid (step9 B11.out b12)
    clear b12
    go_wp2_with fail
    go_ret
    exact ⟨rfl, B12.out⟩
end Go.Proofs.YtbhcjdpachboaaaDoor.Pl
