/- TermReads answers true, whatever it is given. -/
import Derived.Test.YtfghhhghhjbiaaaTermAlive
import Derived.Test.YtfghhhghhjbiaaaTermOnce
import Derived.Test.YtfghhhghhjbiaaaTermSame
import Derived.Test.YtfghhhghhjbiaaaTermNumber
namespace Go.Proofs.Ytfghhhghhjbiaaa.Pl
open Go.RowKit

theorem parts_len (s : List UInt8) : (partsP s).1.length ≤ 32 := by
  by_cases h : checkP s = 0
  · obtain ⟨T, tv, te, tr⟩ := tree_of h
    obtain ⟨hd, l⟩ := T
    have hg := tv.1
    simp only [Tm.good] at hg
    obtain ⟨c, hk⟩ := head_kind hg.1
    have h2 : (partsP s).1.length = l.length := by unfold partsP; rw [tr]; simp
    rw [h2]
    cases hk <;> omega
  · have h2 : partsP s = ([], false) := by unfold partsP; rw [treeOf_none h]
    rw [h2]; exact Nat.zero_le _
theorem map_bl_inj {a b : List ByteArray} (h : a.map bl = b.map bl) : a = b := (List.map_inj_right (fun _ _ e => bl_inj e)).1 h

set_option maxHeartbeats 4000000 in
set_option maxRecDepth 100000 in
theorem termreads_any (s : ByteArray) (hs : s.size ≤ 140737488351232) (w : World) :
    Calls Try.prog 3 #[.string s] w fun e w' => e = .returned (.bool true) ∧ Below w.heap.size w w' := by
  have hs2 : s.size ≤ 281474976710656 := by omega
  have HAL := Lib.hid (fun V => alive6_any V)
  have HR := fun V => read6_any s hs2 V
  have HRR := fun V => rfront_any s hs2 V
  have HT := fun V => text6_any s hs2 V
  have HRT := fun V => rtext6_any s hs2 V
  have HP := fun V => parts6_any s hs2 V
  have HRP := fun V => rparts6_any s hs2 V
  have HN := fun V => readnum6_any s hs2 V
  have HRN := fun V => rreadnum6_any s hs2 V
  have HC := fun V => check_any s hs2 V
  have HRC := fun V => rcheck6_any s hs2 V
  have HK := fun V => tkind_any s hs2 V
  have HRK := fun V => rkind_any s hs2 V
  have HS := fun V => size6_any s hs2 V
  have HRS := fun V => rsize_any s hs2 V
  have HD := fun V => depth6_any s hs2 V
  have HRD := fun V => rdepth6_any s hs2 V
  have hpl := parts_len (bl s)
  unfold rd2 at HRR
  unfold tb2 at HT HRT
  unfold nb2 at HN HRN
  generalize frontP (bl s) = fr at *
  obtain ⟨n, e⟩ := fr
  generalize textP (bl s) = tx0 at *
  obtain ⟨tt, ti⟩ := tx0
  generalize partsP (bl s) = pr at *
  obtain ⟨pp, pi⟩ := pr
  generalize readnumP (bl s) = rn at *
  obtain ⟨nv, ni⟩ := rn
  simp only at HR HRR HT HRT HP HRP HN HRN hpl
  generalize checkP (bl s) = ck at *
  generalize kindP (bl s) = kd at *
  generalize sizeP (bl s) = sz at *
  generalize depthP (bl s) = dp at *
  generalize (⟨tt.toArray⟩ : ByteArray) = tb at *
  have HR := Lib.hid HR
  have HRR := Lib.hid HRR
  have HT := Lib.hid HT
  have HRT := Lib.hid HRT
  have HP := Lib.hid HP
  have HRP := Lib.hid HRP
  have HN := Lib.hid HN
  have HRN := Lib.hid HRN
  have HC := Lib.hid HC
  have HRC := Lib.hid HRC
  have HK := Lib.hid HK
  have HRK := Lib.hid HRK
  have HS := Lib.hid HS
  have HRS := Lib.hid HRS
  have HD := Lib.hid HD
  have HRD := Lib.hid HRD
  go_enter Try.func3, Try.ntmps3
  go_wp2_with fail
  refine (HR.out w).mono ?_; rintro e w1 ⟨rfl, b1⟩
  have B1 := Lib.hid b1
  clear b1
  go_wp2_with fail
  refine (HRR.out _).mono ?_; rintro e w2 ⟨rfl, b2⟩
  have B2 := Lib.hid (below_step B1.out b2)
  clear b2 B1
  go_wp2_with fail
  refine (HT.out _).mono ?_; rintro e w3 ⟨rfl, b3⟩
  have B3 := Lib.hid (below_step B2.out b3)
  clear b3 B2
  go_wp2_with fail
  refine (HRT.out _).mono ?_; rintro e w4 ⟨rfl, b4⟩
  have B4 := Lib.hid (below_step B3.out b4)
  clear b4 B3
  go_wp2_with fail
  refine (HP.out _).mono ?_; rintro e5 w5 ⟨v5, L5, rfl, own5, hL5, b5⟩
  obtain ⟨a5, c5, rfl, row5⟩ := ownT_row own5
  have B5 := Lib.hid (below_step B4.out b5)
  have ROW5 := Lib.hid row5
  clear b5 B4 own5 row5
  go_wp2_with fail
  refine (HRP.out _).mono ?_; rintro e6 w6 ⟨v6, L6, rfl, own6, hL6, b6⟩
  obtain rfl : L5 = L6 := map_bl_inj (hL5.trans hL6.symm)
  obtain ⟨a6, c6, rfl, row6⟩ := ownT_row own6
  have hl5 : L5.length ≤ 281474976710656 := by have := congrArg List.length hL5; rw [List.length_map] at this; omega
  have HSM := Lib.hid (fun V h1 h2 => rsame_any L5 L5 a5 a6 c5 c6 hl5 hl5 V h1 h2 true (by simp))
  have B6 := Lib.hid (below_step B5.out b6)
  have ROW5' := Lib.hid (ROW5.out.below b6)
  have ROW6 := Lib.hid row6
  clear b6 B5 own6 row6 hL5 hL6 hl5 hpl ROW5
  generalize L5.length = ln at *
  go_wp2_with fail
  refine (HSM.out _ ROW5'.out ROW6.out).mono ?_; rintro e w7 ⟨rfl, b7⟩
  have B7 := Lib.hid (below_step B6.out b7)
  clear b7 B6
  go_wp2_with fail
  refine (HN.out _).mono ?_; rintro e w8 ⟨rfl, b8⟩
  have B8 := Lib.hid (below_step B7.out b8)
  clear b8 B7
  go_wp2_with fail
  refine (HRN.out _).mono ?_; rintro e w9 ⟨rfl, b9⟩
  have B9 := Lib.hid (below_step B8.out b9)
  clear b9 B8
  go_wp2_with fail
  refine (HC.out _).mono ?_; rintro e w10 ⟨rfl, b10⟩
  have B10 := Lib.hid (below_step B9.out b10)
  clear b10 B9
  go_wp2_with fail
  refine (HRC.out _).mono ?_; rintro e w11 ⟨rfl, b11⟩
  have B11 := Lib.hid (below_step B10.out b11)
  clear b11 B10
  go_wp2_with fail
  refine (HK.out _).mono ?_; rintro e w12 ⟨rfl, b12⟩
  have B12 := Lib.hid (below_step B11.out b12)
  clear b12 B11
  go_wp2_with fail
  refine (HRK.out _).mono ?_; rintro e w13 ⟨rfl, b13⟩
  have B13 := Lib.hid (below_step B12.out b13)
  clear b13 B12
  go_wp2_with fail
  refine (HS.out _).mono ?_; rintro e w14 ⟨rfl, b14⟩
  have B14 := Lib.hid (below_step B13.out b14)
  clear b14 B13
  go_wp2_with fail
  refine (HRS.out _).mono ?_; rintro e w15 ⟨rfl, b15⟩
  have B15 := Lib.hid (below_step B14.out b15)
  clear b15 B14
  go_wp2_with fail
  refine (HD.out _).mono ?_; rintro e w16 ⟨rfl, b16⟩
  have B16 := Lib.hid (below_step B15.out b16)
  clear b16 B15
  go_wp2_with fail
  refine (HRD.out _).mono ?_; rintro e w17 ⟨rfl, b17⟩
  have B17 := Lib.hid (below_step B16.out b17)
  clear b17 B16
  go_wp2_with fail
  refine (HAL.out _).mono ?_; rintro e w18 ⟨rfl, b18⟩
  have B18 := Lib.hid (below_step B17.out b18)
  clear b18 B17
  go_wp2_with fail
  go_ret
  exact ⟨rfl, B18.out⟩
end Go.Proofs.Ytfghhhghhjbiaaa.Pl
