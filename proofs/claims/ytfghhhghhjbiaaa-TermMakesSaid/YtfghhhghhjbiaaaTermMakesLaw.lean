/- TermMakes answers true, whatever it is given. -/
import Derived.Test.YtfghhhghhjbiaaaTermAlive
import Derived.Test.YtfghhhghhjbiaaaTermLong
import Derived.Test.YtfghhhghhjbiaaaTermSame
import Derived.Test.YtfghhhghhjbiaaaTermArg
import Derived.Test.YtfghhhghhjbiaaaTermNumber
namespace Go.Proofs.Ytfghhhghhjbiaaa.Pl
open Go.RowKit

set_option maxHeartbeats 8000000 in
set_option maxRecDepth 100000 in
theorem termmakes_any (l : List ByteArray) (ao : Option Addr) (cap : Nat) (a b c : ByteArray) (v : Int) (w : World) (hrow : TxtRow w ao l) (hl : l.length ≤ 9223372036854775807) (hnone : ao = none → cap = 0) (v0 : -9223372036854775808 ≤ v) (v1 : v ≤ 9223372036854775807) :
    Calls Try.prog 4 #[.slice ao l.length cap, .string a, .string b, .string c, .int .i64 v] w fun e w' => e = .returned (.bool true) ∧ Below w.heap.size w w' := by
  have HAL := Lib.hid (fun V => alive6_any V)
  have HROW := Lib.hid hrow
  obtain ⟨lg1, hlg1⟩ : ∃ lg : Bool, lg = true ↔ Lng l := ⟨@decide _ (Classical.propDecidable _), @decide_eq_true_iff _ (Classical.propDecidable _)⟩
  obtain ⟨lg2, hlg2⟩ : ∃ lg : Bool, lg = true ↔ Lng [a, b, c] := ⟨@decide _ (Classical.propDecidable _), @decide_eq_true_iff _ (Classical.propDecidable _)⟩
  have HL1 := Lib.hid (tlong_any l ao cap hl w hrow lg1 hlg1)
  have HL2 := Lib.hid (tlong_any [a, b, c] (some ⟨w.heap.size, 0, none⟩) 3 (by simp) _ (row3 w a b c) lg2 hlg2)
  cases lg1 with
  | true =>
    clear hlg1 hlg2 hrow HL2
    generalize l.length = ln at *
    go_enter Try.func4, Try.ntmps4
    go_wp2_with fail
    refine HL1.out.mono ?_; rintro e w1 ⟨rfl, rfl⟩
    go_wp2_with fail
    refine (HAL.out _).mono ?_; rintro e w1 ⟨rfl, b1⟩
    go_wp2_with fail
    go_ret
    exact ⟨rfl, b1⟩
  | false =>
    have hno1 : ¬ Lng l := fun h => absurd (hlg1.2 h) (by decide)
    obtain ⟨hl40, hlx⟩ := lng_no hno1
    cases lg2 with
    | true =>
      clear hlg1 hlg2 hrow hno1 hlx
      generalize l.length = ln at *
      go_enter Try.func4, Try.ntmps4
      go_wp2_with fail
      refine HL1.out.mono ?_; rintro e w1 ⟨rfl, rfl⟩
      go_wp2_with fail
      refine HL2.out.mono ?_; rintro e w1 ⟨rfl, rfl⟩
      have B1 := Lib.hid ((Below.refl w.heap.size w).alloc (Nat.le_refl _) (.cells #[.string a, .string b, .string c] 9))
      generalize w.alloc (.cells #[.string a, .string b, .string c] 9) = W0 at *
      clear HL2
      go_wp2_with fail
      refine (HAL.out _).mono ?_; rintro e w2 ⟨rfl, b2⟩
      have B2 := Lib.hid (below_step B1.out b2)
      clear b2 B1
      go_wp2_with fail
      go_ret
      exact ⟨rfl, B2.out⟩
    | false =>
      have hno2 : ¬ Lng [a, b, c] := fun h => absurd (hlg2.2 h) (by decide)
      obtain ⟨_, hsz⟩ := lng_no hno2
      have ha : a.size ≤ 100000 := by have := hsz a (by simp); omega
      have hb : b.size ≤ 100000 := by have := hsz b (by simp); omega
      have hc : c.size ≤ 100000 := by have := hsz c (by simp); omega
      have hx : ∀ x ∈ l, x.size ≤ 100000 := fun x h => by have := hlx x h; omega
      have HR := fun (q : Option Addr) (c' : Nat) (hq : l.length ≤ c') V h => row6_any l q c' hq (by omega) hx V h
      have HRR := fun V h => rrow6_any l ao cap (by omega) hx V h
      have HSM := Lib.hid (fun (q : Option Addr) (c' : Nat) V h1 h2 => rsame_any l l q ao c' cap (by omega) (by omega) V h1 h2 true (by simp))
      have HD := fun V => data6_any a (by omega) V
      have HRD := fun V => rdata_any a (by omega) V
      have HA := fun V => atom6_any a (by omega) V
      have HRA := fun V => ratom_any a (by omega) V
      have HH := fun V => hash6_any a ha V
      have HRH := fun V => rhash_any a ha V
      have HM := fun V => mac6_any a b ha hb V
      have HRM := fun V => rmac_any a b ha hb V
      have HS := fun V => seal6_any a b c ha hb hc V
      have HRS := fun V => rseal6_any a b c ha hb hc V
      have HN := fun V => num6_any v v0 v1 V
      have HRN := fun V => rnum6_any v v0 v1 V
      unfold st2 at HR HRR HD HRD HA HRA HH HRH HM HRM HS HRS HN HRN
      generalize rowP (l.map bl) = z1 at *
      obtain ⟨x1, y1⟩ := z1
      generalize dataP (bl a) = z2 at *
      obtain ⟨x2, y2⟩ := z2
      generalize atomP (bl a) = z3 at *
      obtain ⟨x3, y3⟩ := z3
      generalize madeP [104] [bl a] = z4 at *
      obtain ⟨x4, y4⟩ := z4
      generalize madeP [109] [bl a, bl b] = z5 at *
      obtain ⟨x5, y5⟩ := z5
      generalize madeP [115] [bl a, bl b, bl c] = z6 at *
      obtain ⟨x6, y6⟩ := z6
      generalize numP v = z7 at *
      obtain ⟨x7, y7⟩ := z7
      simp only at HR HRR HD HRD HA HRA HH HRH HM HRM HS HRS HN HRN
      generalize (⟨x1.toArray⟩ : ByteArray) = t1 at *
      generalize (⟨x2.toArray⟩ : ByteArray) = t2 at *
      generalize (⟨x3.toArray⟩ : ByteArray) = t3 at *
      generalize (⟨x4.toArray⟩ : ByteArray) = t4 at *
      generalize (⟨x5.toArray⟩ : ByteArray) = t5 at *
      generalize (⟨x6.toArray⟩ : ByteArray) = t6 at *
      generalize (⟨x7.toArray⟩ : ByteArray) = t7 at *
      have HR := Lib.hid HR
      have HRR := Lib.hid HRR
      have HD := Lib.hid HD
      have HRD := Lib.hid HRD
      have HA := Lib.hid HA
      have HRA := Lib.hid HRA
      have HH := Lib.hid HH
      have HRH := Lib.hid HRH
      have HM := Lib.hid HM
      have HRM := Lib.hid HRM
      have HS := Lib.hid HS
      have HRS := Lib.hid HRS
      have HN := Lib.hid HN
      have HRN := Lib.hid HRN
      have HCOPY : Hid (l.length ≤ 1000) := Lib.hid (by omega)
      clear hlg1 hlg2 hrow hno1 hno2 hlx hsz ha hb hc hx hl40
      go_enter Try.func4, Try.ntmps4
      go_wp2_with fail
      refine HL1.out.mono ?_; rintro e w1 ⟨rfl, rfl⟩
      go_wp2_with fail
      refine HL2.out.mono ?_; rintro e w1 ⟨rfl, rfl⟩
      have B1 := Lib.hid ((Below.refl w.heap.size w).alloc (Nat.le_refl _) (.cells #[.string a, .string b, .string c] 9))
      generalize w.alloc (.cells #[.string a, .string b, .string c] 9) = W0 at *
      clear HL1 HL2
      go_wp2_with (at_builtin; refine wpList_copy6 rfl _ rfl ao cap l rfl (HROW.out.below B1.out) HCOPY.out hnone ?_)
      intro q c' w2 row2' hc' b2
      have B2 := Lib.hid (below_step B1.out b2)
      have ROWO := Lib.hid row2'
      have HR1 := Lib.hid (HR.out q c' hc')
      clear b2 B1 row2' hc' HR
      go_wp2_with fail
      refine (HR1.out _ ROWO.out).mono ?_; rintro e w3 ⟨rfl, b3⟩
      have B3 := Lib.hid (below_step B2.out b3)
      have ROWO2 := Lib.hid (ROWO.out.below b3)
      clear b3 B2 ROWO HR1
      go_wp2_with fail
      refine (HRR.out _ (HROW.out.below B3.out)).mono ?_; rintro e w4 ⟨rfl, b4⟩
      have B4 := Lib.hid (below_step B3.out b4)
      have ROWO3 := Lib.hid (ROWO2.out.below b4)
      clear b4 B3 ROWO2 HRR
      go_wp2_with fail
      refine (HSM.out q c' _ ROWO3.out (HROW.out.below B4.out)).mono ?_; rintro e w5 ⟨rfl, b5⟩
      have B5 := Lib.hid (below_step B4.out b5)
      clear b5 B4 ROWO3 HSM HROW
      go_wp2_with fail
      refine (HD.out _).mono ?_; rintro e w6 ⟨rfl, b6⟩
      have B6 := Lib.hid (below_step B5.out b6)
      clear b6 B5
      go_wp2_with fail
      refine (HRD.out _).mono ?_; rintro e w7 ⟨rfl, b7⟩
      have B7 := Lib.hid (below_step B6.out b7)
      clear b7 B6
      go_wp2_with fail
      refine (HA.out _).mono ?_; rintro e w8 ⟨rfl, b8⟩
      have B8 := Lib.hid (below_step B7.out b8)
      clear b8 B7
      go_wp2_with fail
      refine (HRA.out _).mono ?_; rintro e w9 ⟨rfl, b9⟩
      have B9 := Lib.hid (below_step B8.out b9)
      clear b9 B8
      go_wp2_with fail
      refine (HH.out _).mono ?_; rintro e w10 ⟨rfl, b10⟩
      have B10 := Lib.hid (below_step B9.out b10)
      clear b10 B9
      go_wp2_with fail
      refine (HRH.out _).mono ?_; rintro e w11 ⟨rfl, b11⟩
      have B11 := Lib.hid (below_step B10.out b11)
      clear b11 B10
      go_wp2_with fail
      refine (HM.out _).mono ?_; rintro e w12 ⟨rfl, b12⟩
      have B12 := Lib.hid (below_step B11.out b12)
      clear b12 B11
      go_wp2_with fail
      refine (HRM.out _).mono ?_; rintro e w13 ⟨rfl, b13⟩
      have B13 := Lib.hid (below_step B12.out b13)
      clear b13 B12
      go_wp2_with fail
      refine (HS.out _).mono ?_; rintro e w14 ⟨rfl, b14⟩
      have B14 := Lib.hid (below_step B13.out b14)
      clear b14 B13
      go_wp2_with fail
      refine (HRS.out _).mono ?_; rintro e w15 ⟨rfl, b15⟩
      have B15 := Lib.hid (below_step B14.out b15)
      clear b15 B14
      go_wp2_with fail
      refine (HN.out _).mono ?_; rintro e w16 ⟨rfl, b16⟩
      have B16 := Lib.hid (below_step B15.out b16)
      clear b16 B15
      go_wp2_with fail
      refine (HRN.out _).mono ?_; rintro e w17 ⟨rfl, b17⟩
      have B17 := Lib.hid (below_step B16.out b17)
      clear b17 B16
      go_wp2_with fail
      refine (HAL.out _).mono ?_; rintro e w18 ⟨rfl, b18⟩
      have B18 := Lib.hid (below_step B17.out b18)
      clear b18 B17
      go_wp2_with fail
      go_ret
      exact ⟨rfl, B18.out⟩
end Go.Proofs.Ytfghhhghhjbiaaa.Pl
