/- TermOpens answers true, whatever it is given. -/
import Derived.Test.YtfghhhghhjbiaaaTermAlive
import Derived.Test.YtfghhhghhjbiaaaTermLong
import Derived.Test.YtfghhhghhjbiaaaTermSame
import Derived.Test.YtfghhhghhjbiaaaTermArg
import Derived.Test.YtfghhhghhjbiaaaTermOpn
import Derived.Deep.RegionHeld3
namespace Go.Proofs.Ytfghhhghhjbiaaa.Pl
open Go.RowKit

theorem o2_keep {W w1 : World} {p q : Addr} {x y : Value} {P : World → Prop} (hP : ∀ W W1, Below W.heap.size W W1 → P W → P W1) (hb : Below W.heap.size W w1) (h : W.cell? p = some x ∧ W.cell? q = some y ∧ Hid (P W)) : w1.cell? p = some x ∧ w1.cell? q = some y ∧ Hid (P w1) :=
  ⟨keepc hb h.1, keepc hb h.2.1, Lib.hid (hP _ _ hb h.2.2.out)⟩
theorem o2k {w W w1 : World} {p q : Addr} {x y : Value} (hb : Below W.heap.size W w1) (h : W.cell? p = some x ∧ W.cell? q = some y ∧ Hid (Below w.heap.size w W)) : w1.cell? p = some x ∧ w1.cell? q = some y ∧ Hid (Below w.heap.size w w1) :=
  o2_keep (P := fun W => Below w.heap.size w W) (fun _ _ b h => below_step h b) hb h
theorem o3k {w W w1 : World} {p q r : Addr} {x y z : Value} (hb : Below W.heap.size W w1) (h : W.cell? p = some x ∧ W.cell? q = some y ∧ W.cell? r = some z ∧ Hid (Below w.heap.size w W)) : w1.cell? p = some x ∧ w1.cell? q = some y ∧ w1.cell? r = some z ∧ Hid (Below w.heap.size w w1) :=
  ⟨keepc hb h.1, keepc hb h.2.1, keepc hb h.2.2.1, Lib.hid (below_step h.2.2.2.out hb)⟩

set_option maxHeartbeats 16000000 in
set_option maxRecDepth 100000 in
theorem termopens_any (t : ByteArray) (l : List ByteArray) (ao : Option Addr) (cap : Nat) (ht : t.size ≤ 281474976710656) (hl : l.length ≤ 9223372036854775807) (hcap : l.length ≤ cap) (w : World) (hrow : TxtRow w ao l) :
    Calls Try.prog 7 #[.string t, .slice ao l.length cap] w fun e w' => e = .returned (.bool true) ∧ Below w.heap.size w w' := by
  have HAL := Lib.hid (fun V => alive6_any V)
  have HROW := Lib.hid hrow
  obtain ⟨lg1, hlg1⟩ : ∃ lg : Bool, lg = true ↔ Lng l := ⟨@decide _ (Classical.propDecidable _), @decide_eq_true_iff _ (Classical.propDecidable _)⟩
  have HL1 := Lib.hid (tlong_any l ao cap hl w hrow lg1 hlg1)
  cases lg1 with
  | true =>
    clear hlg1 hrow hcap
    generalize l.length = ln at *
    go_enter Try.func7, Try.ntmps7
    go_wp2_with fail
    refine HL1.out.mono ?_; rintro e w1 ⟨rfl, rfl⟩
    go_wp2_with fail
    refine (HAL.out _).mono ?_; rintro e w1 ⟨rfl, b1⟩
    go_wp2_with fail
    go_ret
    exact ⟨rfl, b1⟩
  | false =>
    have hno1 : ¬ Lng l := fun h => absurd (hlg1.2 h) (by decide)
    obtain ⟨hl40, hlx⟩ := lng_no hno1
    have hx : ∀ x ∈ l, x.size ≤ 100000 := fun x h => by have := hlx x h; omega
    have HR := fun V h => row6_any l ao cap hcap (by omega) hx V h
    have HRO := fun r h => row_opn (l := l.map bl) (r := r) (by rw [List.length_map]; omega) h
    unfold st2 at HR
    generalize rowP (l.map bl) = z at *
    obtain ⟨r1, e1⟩ := z
    simp only at HR HRO
    have hw1 := HROW.out
    by_cases h0 : checkP (bl t) = 0
    · have HT := fun V => text6_any t ht V
      have HK := fun V => tkind_any t ht V
      unfold tb2 at HT
      cases opn h0 with
      | data x q1 q2 q3 q4 q5 =>
        have HP := Lib.hid (fun V => parts0 t ht q2 V)
        rw [q3] at HT
        rw [q1] at HK
        have HMK := fun V => data6_any ⟨x.toArray⟩ (by rw [size_lit]; omega) V
        rw [bl_mk, q4] at HMK
        unfold st2 at HMK
        simp only at HMK HT
        rw [← bl_eq t] at HMK
        have HMK := Lib.hid HMK
        have HT := Lib.hid HT
        have HK := Lib.hid HK
        clear q1 q2 q3 q4 q5 h0 ht
        generalize (⟨x.toArray⟩ : ByteArray) = xb at *
        by_cases h1 : e1 = 0
        · subst h1
          obtain ⟨k1, k2, k3⟩ := HRO r1 rfl
          have hrs : (⟨r1.toArray⟩ : ByteArray).size ≤ 281474976710656 := by have := check_len k2; rw [size_lit]; omega
          have HPR := Lib.hid (fun V => parts_of ⟨r1.toArray⟩ hrs l k3 V)
          have HKR := fun V => tkind_any ⟨r1.toArray⟩ hrs V
          have HCR := fun V => check_any ⟨r1.toArray⟩ hrs V
          rw [bl_mk, k1] at HKR
          rw [bl_mk, k2] at HCR
          have HKR := Lib.hid HKR
          have HCR := Lib.hid HCR
          have HR := Lib.hid HR
          have HSM := Lib.hid (fun (q : Option Addr) (c' : Nat) V h1 h2 => rsame_any l l q ao c' cap (by omega) (by omega) V h1 h2 true (by simp))
          clear k1 k2 k3 hrs HRO hlg1 hrow hno1 hlx hx hl40 hw1
          generalize (⟨r1.toArray⟩ : ByteArray) = rb at *
          go_enter Try.func7, Try.ntmps7
          go_wp2_with fail
          refine HL1.out.mono ?_; rintro e w1 ⟨rfl, rfl⟩
          go_wp2_with fail
          refine (HR.out _ HROW.out).mono ?_; rintro e w1 ⟨rfl, b1⟩
          have B1 := Lib.hid b1
          clear b1
          go_wp2_with fail
          refine (HPR.out _).mono ?_; rintro e w2 ⟨v2, rfl, own2, b2⟩
          obtain ⟨a2, c2, rfl, row2'⟩ := ownT_row own2
          have B2 := Lib.hid (below_step B1.out b2)
          have ROW2 := Lib.hid row2'
          clear b2 B1 own2 row2'
          go_wp2_with fail
          refine (HSM.out a2 c2 _ ROW2.out (HROW.out.below B2.out)).mono ?_; rintro e w3 ⟨rfl, b3⟩
          have B3 := Lib.hid (below_step B2.out b3)
          clear b3 B2 ROW2
          go_wp2_with fail
          refine (HKR.out _).mono ?_; rintro e w4 ⟨rfl, b4⟩
          have B4 := Lib.hid (below_step B3.out b4)
          clear b4 B3
          go_wp2_with fail
          refine (HCR.out _).mono ?_; rintro e w5 ⟨rfl, b5⟩
          have B5 := Lib.hid (below_step B4.out b5)
          clear b5 B4
          go_wp2_with fail
          refine (HP.out _).mono ?_; rintro e w6 ⟨pa, pc, rfl, b6⟩
          have B6 := Lib.hid (below_step B5.out b6)
          clear b6 B5
          go_wp2_with fail
          refine (HT.out _).mono ?_; rintro e w7 ⟨rfl, b7⟩
          have B7 := Lib.hid (below_step B6.out b7)
          clear b7 B6
          go_wp2_with fail
          refine (HK.out _).mono ?_; rintro e w8 ⟨rfl, b8⟩
          have B8 := Lib.hid (below_step B7.out b8)
          clear b8 B7
          go_wp2_with fail
          refine (HMK.out _).mono ?_; rintro e w9 ⟨rfl, b9⟩
          have B9 := Lib.hid (below_step B8.out b9)
          clear b9 B8
          go_wp2_with fail
          refine (HAL.out _).mono ?_; rintro e w10 ⟨rfl, b10⟩
          have B10 := Lib.hid (below_step B9.out b10)
          clear b10 B9
          go_wp2_with fail
          go_ret
          exact ⟨rfl, B10.out⟩
        · have q : ((e1 : Int) == 0) = false := by rw [beq_eq_false_iff_ne]; omega
          have HR := Lib.hid HR
          clear HRO hlg1 hrow hno1 hlx hx hl40 h1 hw1
          generalize (⟨r1.toArray⟩ : ByteArray) = rb at *
          go_enter Try.func7, Try.ntmps7
          go_wp2_with fail
          refine HL1.out.mono ?_; rintro e w1 ⟨rfl, rfl⟩
          go_wp2_with fail
          refine (HR.out _ HROW.out).mono ?_; rintro e w5 ⟨rfl, b5⟩
          have B5 := Lib.hid b5
          clear b5
          go_wp2_with fail
          refine (HP.out _).mono ?_; rintro e w6 ⟨pa, pc, rfl, b6⟩
          have B6 := Lib.hid (below_step B5.out b6)
          clear b6 B5
          go_wp2_with fail
          refine (HT.out _).mono ?_; rintro e w7 ⟨rfl, b7⟩
          have B7 := Lib.hid (below_step B6.out b7)
          clear b7 B6
          go_wp2_with fail
          refine (HK.out _).mono ?_; rintro e w8 ⟨rfl, b8⟩
          have B8 := Lib.hid (below_step B7.out b8)
          clear b8 B7
          go_wp2_with fail
          refine (HMK.out _).mono ?_; rintro e w9 ⟨rfl, b9⟩
          have B9 := Lib.hid (below_step B8.out b9)
          clear b9 B8
          go_wp2_with fail
          refine (HAL.out _).mono ?_; rintro e w10 ⟨rfl, b10⟩
          have B10 := Lib.hid (below_step B9.out b10)
          clear b10 B9
          go_wp2_with fail
          go_ret
          exact ⟨rfl, B10.out⟩
      | atom x q1 q2 q3 q4 q5 =>
        have HP := Lib.hid (fun V => parts0 t ht q2 V)
        rw [q3] at HT
        rw [q1] at HK
        have HMK := fun V => atom6_any ⟨x.toArray⟩ (by rw [size_lit]; omega) V
        rw [bl_mk, q4] at HMK
        unfold st2 at HMK
        simp only at HMK HT
        rw [← bl_eq t] at HMK
        have HMK := Lib.hid HMK
        have HT := Lib.hid HT
        have HK := Lib.hid HK
        clear q1 q2 q3 q4 q5 h0 ht
        generalize (⟨x.toArray⟩ : ByteArray) = xb at *
        by_cases h1 : e1 = 0
        · subst h1
          obtain ⟨k1, k2, k3⟩ := HRO r1 rfl
          have hrs : (⟨r1.toArray⟩ : ByteArray).size ≤ 281474976710656 := by have := check_len k2; rw [size_lit]; omega
          have HPR := Lib.hid (fun V => parts_of ⟨r1.toArray⟩ hrs l k3 V)
          have HKR := fun V => tkind_any ⟨r1.toArray⟩ hrs V
          have HCR := fun V => check_any ⟨r1.toArray⟩ hrs V
          rw [bl_mk, k1] at HKR
          rw [bl_mk, k2] at HCR
          have HKR := Lib.hid HKR
          have HCR := Lib.hid HCR
          have HR := Lib.hid HR
          have HSM := Lib.hid (fun (q : Option Addr) (c' : Nat) V h1 h2 => rsame_any l l q ao c' cap (by omega) (by omega) V h1 h2 true (by simp))
          clear k1 k2 k3 hrs HRO hlg1 hrow hno1 hlx hx hl40 hw1
          generalize (⟨r1.toArray⟩ : ByteArray) = rb at *
          go_enter Try.func7, Try.ntmps7
          go_wp2_with fail
          refine HL1.out.mono ?_; rintro e w1 ⟨rfl, rfl⟩
          go_wp2_with fail
          refine (HR.out _ HROW.out).mono ?_; rintro e w1 ⟨rfl, b1⟩
          have B1 := Lib.hid b1
          clear b1
          go_wp2_with fail
          refine (HPR.out _).mono ?_; rintro e w2 ⟨v2, rfl, own2, b2⟩
          obtain ⟨a2, c2, rfl, row2'⟩ := ownT_row own2
          have B2 := Lib.hid (below_step B1.out b2)
          have ROW2 := Lib.hid row2'
          clear b2 B1 own2 row2'
          go_wp2_with fail
          refine (HSM.out a2 c2 _ ROW2.out (HROW.out.below B2.out)).mono ?_; rintro e w3 ⟨rfl, b3⟩
          have B3 := Lib.hid (below_step B2.out b3)
          clear b3 B2 ROW2
          go_wp2_with fail
          refine (HKR.out _).mono ?_; rintro e w4 ⟨rfl, b4⟩
          have B4 := Lib.hid (below_step B3.out b4)
          clear b4 B3
          go_wp2_with fail
          refine (HCR.out _).mono ?_; rintro e w5 ⟨rfl, b5⟩
          have B5 := Lib.hid (below_step B4.out b5)
          clear b5 B4
          go_wp2_with fail
          refine (HP.out _).mono ?_; rintro e w6 ⟨pa, pc, rfl, b6⟩
          have B6 := Lib.hid (below_step B5.out b6)
          clear b6 B5
          go_wp2_with fail
          refine (HT.out _).mono ?_; rintro e w7 ⟨rfl, b7⟩
          have B7 := Lib.hid (below_step B6.out b7)
          clear b7 B6
          go_wp2_with fail
          refine (HK.out _).mono ?_; rintro e w8 ⟨rfl, b8⟩
          have B8 := Lib.hid (below_step B7.out b8)
          clear b8 B7
          go_wp2_with fail
          refine (HMK.out _).mono ?_; rintro e w9 ⟨rfl, b9⟩
          have B9 := Lib.hid (below_step B8.out b9)
          clear b9 B8
          go_wp2_with fail
          refine (HAL.out _).mono ?_; rintro e w10 ⟨rfl, b10⟩
          have B10 := Lib.hid (below_step B9.out b10)
          clear b10 B9
          go_wp2_with fail
          go_ret
          exact ⟨rfl, B10.out⟩
        · have q : ((e1 : Int) == 0) = false := by rw [beq_eq_false_iff_ne]; omega
          have HR := Lib.hid HR
          clear HRO hlg1 hrow hno1 hlx hx hl40 h1 hw1
          generalize (⟨r1.toArray⟩ : ByteArray) = rb at *
          go_enter Try.func7, Try.ntmps7
          go_wp2_with fail
          refine HL1.out.mono ?_; rintro e w1 ⟨rfl, rfl⟩
          go_wp2_with fail
          refine (HR.out _ HROW.out).mono ?_; rintro e w5 ⟨rfl, b5⟩
          have B5 := Lib.hid b5
          clear b5
          go_wp2_with fail
          refine (HP.out _).mono ?_; rintro e w6 ⟨pa, pc, rfl, b6⟩
          have B6 := Lib.hid (below_step B5.out b6)
          clear b6 B5
          go_wp2_with fail
          refine (HT.out _).mono ?_; rintro e w7 ⟨rfl, b7⟩
          have B7 := Lib.hid (below_step B6.out b7)
          clear b7 B6
          go_wp2_with fail
          refine (HK.out _).mono ?_; rintro e w8 ⟨rfl, b8⟩
          have B8 := Lib.hid (below_step B7.out b8)
          clear b8 B7
          go_wp2_with fail
          refine (HMK.out _).mono ?_; rintro e w9 ⟨rfl, b9⟩
          have B9 := Lib.hid (below_step B8.out b9)
          clear b9 B8
          go_wp2_with fail
          refine (HAL.out _).mono ?_; rintro e w10 ⟨rfl, b10⟩
          have B10 := Lib.hid (below_step B9.out b10)
          clear b10 B9
          go_wp2_with fail
          go_ret
          exact ⟨rfl, B10.out⟩
      | row m q1 q2 q3 q4 q5 q6 =>
        obtain ⟨L, rfl⟩ : ∃ L : List ByteArray, L.map bl = m := ⟨m.map fun x => ⟨x.toArray⟩, by rw [List.map_map]; exact (List.map_congr_left (fun _ _ => rfl)).trans (List.map_id m)⟩
        rw [List.length_map] at q5
        have hLx : ∀ x ∈ L, x.size ≤ 100000 := fun x hx => by have := q6 (bl x) (List.mem_map_of_mem hx); rw [bl_length] at this; omega
        have HP := Lib.hid (fun V => parts_of t ht L q2 V)
        rw [q3] at HT
        rw [q1] at HK
        have HMK := fun (q : Option Addr) (c' : Nat) (hq : L.length ≤ c') V h => row6_any L q c' hq (by omega) hLx V h
        rw [q4] at HMK
        unfold st2 at HMK
        simp only at HMK HT
        rw [← bl_eq t] at HMK
        rw [show (⟨([] : List UInt8).toArray⟩ : ByteArray) = ⟨#[]⟩ from rfl] at HT
        have HMK := Lib.hid HMK
        have HT := Lib.hid HT
        have HK := Lib.hid HK
        clear q1 q2 q3 q4 q5 q6 h0 ht hLx
        by_cases h1 : e1 = 0
        · subst h1
          obtain ⟨k1, k2, k3⟩ := HRO r1 rfl
          have hrs : (⟨r1.toArray⟩ : ByteArray).size ≤ 281474976710656 := by have := check_len k2; rw [size_lit]; omega
          have HPR := Lib.hid (fun V => parts_of ⟨r1.toArray⟩ hrs l k3 V)
          have HKR := fun V => tkind_any ⟨r1.toArray⟩ hrs V
          have HCR := fun V => check_any ⟨r1.toArray⟩ hrs V
          rw [bl_mk, k1] at HKR
          rw [bl_mk, k2] at HCR
          have HKR := Lib.hid HKR
          have HCR := Lib.hid HCR
          have HR := Lib.hid HR
          have HSM := Lib.hid (fun (q : Option Addr) (c' : Nat) V h1 h2 => rsame_any l l q ao c' cap (by omega) (by omega) V h1 h2 true (by simp))
          clear k1 k2 k3 hrs HRO hlg1 hrow hno1 hlx hx hl40 hw1
          generalize (⟨r1.toArray⟩ : ByteArray) = rb at *
          go_enter Try.func7, Try.ntmps7
          go_wp2_with fail
          refine HL1.out.mono ?_; rintro e w1 ⟨rfl, rfl⟩
          go_wp2_with fail
          refine (HR.out _ HROW.out).mono ?_; rintro e w1 ⟨rfl, b1⟩
          have B1 := Lib.hid b1
          clear b1
          go_wp2_with fail
          refine (HPR.out _).mono ?_; rintro e w2 ⟨v2, rfl, own2, b2⟩
          obtain ⟨a2, c2, rfl, row2'⟩ := ownT_row own2
          have B2 := Lib.hid (below_step B1.out b2)
          have ROW2 := Lib.hid row2'
          clear b2 B1 own2 row2'
          go_wp2_with fail
          refine (HSM.out a2 c2 _ ROW2.out (HROW.out.below B2.out)).mono ?_; rintro e w3 ⟨rfl, b3⟩
          have B3 := Lib.hid (below_step B2.out b3)
          clear b3 B2 ROW2
          go_wp2_with fail
          refine (HKR.out _).mono ?_; rintro e w4 ⟨rfl, b4⟩
          have B4 := Lib.hid (below_step B3.out b4)
          clear b4 B3
          go_wp2_with fail
          refine (HCR.out _).mono ?_; rintro e w5 ⟨rfl, b5⟩
          have B5 := Lib.hid (below_step B4.out b5)
          clear b5 B4
          go_wp2_with fail
          refine (HP.out _).mono ?_; rintro e w6 ⟨pv, rfl, own6, b6⟩
          obtain ⟨pa, pc, rfl, hpc, row6'⟩ := own_cap own6
          have B6 := Lib.hid (below_step B5.out b6)
          have ROW6 := Lib.hid row6'
          have HPC := Lib.hid hpc
          clear b6 B5 own6 row6' hpc
          go_wp2_with fail
          refine (HT.out _).mono ?_; rintro e w7 ⟨rfl, b7⟩
          have ROW7 := Lib.hid (ROW6.out.below b7)
          have B7 := Lib.hid (below_step B6.out b7)
          clear b7 B6 ROW6
          go_wp2_with fail
          refine (HK.out _).mono ?_; rintro e w8 ⟨rfl, b8⟩
          have ROW8 := Lib.hid (ROW7.out.below b8)
          have B8 := Lib.hid (below_step B7.out b8)
          clear b8 B7 ROW7
          go_wp2_with fail
          refine (HMK.out pa pc HPC.out _ ROW8.out).mono ?_; rintro e w9 ⟨rfl, b9⟩
          have B9 := Lib.hid (below_step B8.out b9)
          clear b9 B8 ROW8
          go_wp2_with fail
          refine (HAL.out _).mono ?_; rintro e w10 ⟨rfl, b10⟩
          have B10 := Lib.hid (below_step B9.out b10)
          clear b10 B9
          go_wp2_with fail
          go_ret
          exact ⟨rfl, B10.out⟩
        · have q : ((e1 : Int) == 0) = false := by rw [beq_eq_false_iff_ne]; omega
          have HR := Lib.hid HR
          clear HRO hlg1 hrow hno1 hlx hx hl40 h1 hw1
          generalize (⟨r1.toArray⟩ : ByteArray) = rb at *
          go_enter Try.func7, Try.ntmps7
          go_wp2_with fail
          refine HL1.out.mono ?_; rintro e w1 ⟨rfl, rfl⟩
          go_wp2_with fail
          refine (HR.out _ HROW.out).mono ?_; rintro e w5 ⟨rfl, b5⟩
          have B5 := Lib.hid b5
          clear b5
          go_wp2_with fail
          refine (HP.out _).mono ?_; rintro e w6 ⟨pv, rfl, own6, b6⟩
          obtain ⟨pa, pc, rfl, hpc, row6'⟩ := own_cap own6
          have B6 := Lib.hid (below_step B5.out b6)
          have ROW6 := Lib.hid row6'
          have HPC := Lib.hid hpc
          clear b6 B5 own6 row6' hpc
          go_wp2_with fail
          refine (HT.out _).mono ?_; rintro e w7 ⟨rfl, b7⟩
          have ROW7 := Lib.hid (ROW6.out.below b7)
          have B7 := Lib.hid (below_step B6.out b7)
          clear b7 B6 ROW6
          go_wp2_with fail
          refine (HK.out _).mono ?_; rintro e w8 ⟨rfl, b8⟩
          have ROW8 := Lib.hid (ROW7.out.below b8)
          have B8 := Lib.hid (below_step B7.out b8)
          clear b8 B7 ROW7
          go_wp2_with fail
          refine (HMK.out pa pc HPC.out _ ROW8.out).mono ?_; rintro e w9 ⟨rfl, b9⟩
          have B9 := Lib.hid (below_step B8.out b9)
          clear b9 B8 ROW8
          go_wp2_with fail
          refine (HAL.out _).mono ?_; rintro e w10 ⟨rfl, b10⟩
          have B10 := Lib.hid (below_step B9.out b10)
          clear b10 B9
          go_wp2_with fail
          go_ret
          exact ⟨rfl, B10.out⟩
      | hash a q1 q2 q3 q4 s0 =>
        obtain ⟨A0, rfl⟩ : ∃ A : ByteArray, bl A = a := ⟨⟨a.toArray⟩, rfl⟩
        rw [bl_length] at s0
        have HP := Lib.hid (fun V => parts1 t A0 ht q2 V)
        rw [q3] at HT
        rw [q1] at HK
        have HMK := fun V => hash6_any A0 (by omega) V
        rw [q4] at HMK
        unfold st2 at HMK
        simp only at HMK HT
        rw [← bl_eq t] at HMK
        rw [show (⟨([] : List UInt8).toArray⟩ : ByteArray) = ⟨#[]⟩ from rfl] at HT
        have HMK := Lib.hid HMK
        have HT := Lib.hid HT
        have HK := Lib.hid HK
        clear q1 q2 q3 q4 s0 h0 ht
        by_cases h1 : e1 = 0
        · subst h1
          obtain ⟨k1, k2, k3⟩ := HRO r1 rfl
          have hrs : (⟨r1.toArray⟩ : ByteArray).size ≤ 281474976710656 := by have := check_len k2; rw [size_lit]; omega
          have HPR := Lib.hid (fun V => parts_of ⟨r1.toArray⟩ hrs l k3 V)
          have HKR := fun V => tkind_any ⟨r1.toArray⟩ hrs V
          have HCR := fun V => check_any ⟨r1.toArray⟩ hrs V
          rw [bl_mk, k1] at HKR
          rw [bl_mk, k2] at HCR
          have HKR := Lib.hid HKR
          have HCR := Lib.hid HCR
          have HR := Lib.hid HR
          have HSM := Lib.hid (fun (q : Option Addr) (c' : Nat) V h1 h2 => rsame_any l l q ao c' cap (by omega) (by omega) V h1 h2 true (by simp))
          clear k1 k2 k3 hrs HRO hlg1 hrow hno1 hlx hx hl40 hw1
          generalize (⟨r1.toArray⟩ : ByteArray) = rb at *
          go_enter Try.func7, Try.ntmps7
          go_wp2_with fail
          refine HL1.out.mono ?_; rintro e w1 ⟨rfl, rfl⟩
          go_wp2_with fail
          refine (HR.out _ HROW.out).mono ?_; rintro e w1 ⟨rfl, b1⟩
          have B1 := Lib.hid b1
          clear b1
          go_wp2_with fail
          refine (HPR.out _).mono ?_; rintro e w2 ⟨v2, rfl, own2, b2⟩
          obtain ⟨a2, c2, rfl, row2'⟩ := ownT_row own2
          have B2 := Lib.hid (below_step B1.out b2)
          have ROW2 := Lib.hid row2'
          clear b2 B1 own2 row2'
          go_wp2_with fail
          refine (HSM.out a2 c2 _ ROW2.out (HROW.out.below B2.out)).mono ?_; rintro e w3 ⟨rfl, b3⟩
          have B3 := Lib.hid (below_step B2.out b3)
          clear b3 B2 ROW2
          go_wp2_with fail
          refine (HKR.out _).mono ?_; rintro e w4 ⟨rfl, b4⟩
          have B4 := Lib.hid (below_step B3.out b4)
          clear b4 B3
          go_wp2_with fail
          refine (HCR.out _).mono ?_; rintro e w5 ⟨rfl, b5⟩
          have B5 := Lib.hid (below_step B4.out b5)
          clear b5 B4
          go_wp2_with fail
          refine (HP.out _).mono ?_; rintro e w6 ⟨pg, pc, rfl, g0c, b6⟩
          have B6 := Lib.hid (below_step B5.out b6)
          clear b6 B5
          go_wp2_with fail
          refine (HT.out _).mono ?_; rintro e w7 ⟨rfl, b7⟩
          have g0c' := keepc b7 g0c
          clear g0c
          have g0c := g0c'
          clear g0c'
          have B7 := Lib.hid (below_step B6.out b7)
          clear b7 B6
          go_wp2_with fail
          refine (HK.out _).mono ?_; rintro e w8 ⟨rfl, b8⟩
          have g0c' := keepc b8 g0c
          clear g0c
          have g0c := g0c'
          clear g0c'
          have B8 := Lib.hid (below_step B7.out b8)
          clear b8 B7
          go_wp2_with fail
          refine (HMK.out _).mono ?_; rintro e w9 ⟨rfl, b9⟩
          have B9 := Lib.hid (below_step B8.out b9)
          clear b9 B8
          go_wp2_with fail
          refine (HAL.out _).mono ?_; rintro e w10 ⟨rfl, b10⟩
          have B10 := Lib.hid (below_step B9.out b10)
          clear b10 B9
          go_wp2_with fail
          go_ret
          exact ⟨rfl, B10.out⟩
        · have q : ((e1 : Int) == 0) = false := by rw [beq_eq_false_iff_ne]; omega
          have HR := Lib.hid HR
          clear HRO hlg1 hrow hno1 hlx hx hl40 h1 hw1
          generalize (⟨r1.toArray⟩ : ByteArray) = rb at *
          go_enter Try.func7, Try.ntmps7
          go_wp2_with fail
          refine HL1.out.mono ?_; rintro e w1 ⟨rfl, rfl⟩
          go_wp2_with fail
          refine (HR.out _ HROW.out).mono ?_; rintro e w5 ⟨rfl, b5⟩
          have B5 := Lib.hid b5
          clear b5
          go_wp2_with fail
          refine (HP.out _).mono ?_; rintro e w6 ⟨pg, pc, rfl, g0c, b6⟩
          have B6 := Lib.hid (below_step B5.out b6)
          clear b6 B5
          go_wp2_with fail
          refine (HT.out _).mono ?_; rintro e w7 ⟨rfl, b7⟩
          have g0c' := keepc b7 g0c
          clear g0c
          have g0c := g0c'
          clear g0c'
          have B7 := Lib.hid (below_step B6.out b7)
          clear b7 B6
          go_wp2_with fail
          refine (HK.out _).mono ?_; rintro e w8 ⟨rfl, b8⟩
          have g0c' := keepc b8 g0c
          clear g0c
          have g0c := g0c'
          clear g0c'
          have B8 := Lib.hid (below_step B7.out b8)
          clear b8 B7
          go_wp2_with fail
          refine (HMK.out _).mono ?_; rintro e w9 ⟨rfl, b9⟩
          have B9 := Lib.hid (below_step B8.out b9)
          clear b9 B8
          go_wp2_with fail
          refine (HAL.out _).mono ?_; rintro e w10 ⟨rfl, b10⟩
          have B10 := Lib.hid (below_step B9.out b10)
          clear b10 B9
          go_wp2_with fail
          go_ret
          exact ⟨rfl, B10.out⟩
      | mac a b q1 q2 q3 q4 s0 s1 =>
        obtain ⟨A0, rfl⟩ : ∃ A : ByteArray, bl A = a := ⟨⟨a.toArray⟩, rfl⟩
        rw [bl_length] at s0
        obtain ⟨A1, rfl⟩ : ∃ A : ByteArray, bl A = b := ⟨⟨b.toArray⟩, rfl⟩
        rw [bl_length] at s1
        have HP := Lib.hid (fun V => parts2 t A0 A1 ht q2 V)
        rw [q3] at HT
        rw [q1] at HK
        have HMK := fun V => mac6_any A0 A1 (by omega) (by omega) V
        rw [q4] at HMK
        unfold st2 at HMK
        simp only at HMK HT
        rw [← bl_eq t] at HMK
        rw [show (⟨([] : List UInt8).toArray⟩ : ByteArray) = ⟨#[]⟩ from rfl] at HT
        have HMK := Lib.hid HMK
        have HT := Lib.hid HT
        have HK := Lib.hid HK
        clear q1 q2 q3 q4 s0 s1 h0 ht
        by_cases h1 : e1 = 0
        · subst h1
          obtain ⟨k1, k2, k3⟩ := HRO r1 rfl
          have hrs : (⟨r1.toArray⟩ : ByteArray).size ≤ 281474976710656 := by have := check_len k2; rw [size_lit]; omega
          have HPR := Lib.hid (fun V => parts_of ⟨r1.toArray⟩ hrs l k3 V)
          have HKR := fun V => tkind_any ⟨r1.toArray⟩ hrs V
          have HCR := fun V => check_any ⟨r1.toArray⟩ hrs V
          rw [bl_mk, k1] at HKR
          rw [bl_mk, k2] at HCR
          have HKR := Lib.hid HKR
          have HCR := Lib.hid HCR
          have HR := Lib.hid HR
          have HSM := Lib.hid (fun (q : Option Addr) (c' : Nat) V h1 h2 => rsame_any l l q ao c' cap (by omega) (by omega) V h1 h2 true (by simp))
          clear k1 k2 k3 hrs HRO hlg1 hrow hno1 hlx hx hl40 hw1
          generalize (⟨r1.toArray⟩ : ByteArray) = rb at *
          go_enter Try.func7, Try.ntmps7
          go_wp2_with fail
          refine HL1.out.mono ?_; rintro e w1 ⟨rfl, rfl⟩
          go_wp2_with fail
          refine (HR.out _ HROW.out).mono ?_; rintro e w1 ⟨rfl, b1⟩
          have B1 := Lib.hid b1
          clear b1
          go_wp2_with fail
          refine (HPR.out _).mono ?_; rintro e w2 ⟨v2, rfl, own2, b2⟩
          obtain ⟨a2, c2, rfl, row2'⟩ := ownT_row own2
          have B2 := Lib.hid (below_step B1.out b2)
          have ROW2 := Lib.hid row2'
          clear b2 B1 own2 row2'
          go_wp2_with fail
          refine (HSM.out a2 c2 _ ROW2.out (HROW.out.below B2.out)).mono ?_; rintro e w3 ⟨rfl, b3⟩
          have B3 := Lib.hid (below_step B2.out b3)
          clear b3 B2 ROW2
          go_wp2_with fail
          refine (HKR.out _).mono ?_; rintro e w4 ⟨rfl, b4⟩
          have B4 := Lib.hid (below_step B3.out b4)
          clear b4 B3
          go_wp2_with fail
          refine (HCR.out _).mono ?_; rintro e w5 ⟨rfl, b5⟩
          have B5 := Lib.hid (below_step B4.out b5)
          clear b5 B4
          go_wp2_with fail
          refine (HP.out _).mono ?_; rintro e w6 ⟨pg, pc, rfl, g0c, g1c, b6⟩
          have B6 := Lib.hid (below_step B5.out b6)
          clear b6 B5
          go_wp2_with fail
          refine (HT.out _).mono ?_; rintro e w7 ⟨rfl, b7⟩
          have g0c' := keepc b7 g0c
          have g1c' := keepc b7 g1c
          clear g0c g1c
          have g0c := g0c'
          have g1c := g1c'
          clear g0c' g1c'
          have B7 := Lib.hid (below_step B6.out b7)
          clear b7 B6
          go_wp2_with fail
          refine (HK.out _).mono ?_; rintro e w8 ⟨rfl, b8⟩
          have g0c' := keepc b8 g0c
          have g1c' := keepc b8 g1c
          clear g0c g1c
          have g0c := g0c'
          have g1c := g1c'
          clear g0c' g1c'
          have B8 := Lib.hid (below_step B7.out b8)
          clear b8 B7
          go_wp2_with fail
          go_region_held3 (fun W => W.cell? ⟨pg, 0, none⟩ = some (.string A0) ∧ W.cell? ⟨pg, 1, none⟩ = some (.string A1) ∧ Hid (Below w.heap.size w W)) (first | assumption | exact ⟨g0c, g1c, Lib.hid B8.out.drew⟩ | with_reducible exact o2k ‹_› ‹_›) (first | (go_at_call 36; with_reducible refine (HMK.out _).mono ?_; rintro e w9 ⟨rfl, b9⟩))
          have B9 := Lib.hid (below_step B8.out.drew b9)
          clear b9 B8
          go_wp2_with fail
          refine (HAL.out _).mono ?_; rintro e w10 ⟨rfl, b10⟩
          have B10 := Lib.hid (below_step B9.out b10)
          clear b10 B9
          go_wp2_with fail
          go_ret
          exact ⟨rfl, B10.out⟩
        · have q : ((e1 : Int) == 0) = false := by rw [beq_eq_false_iff_ne]; omega
          have HR := Lib.hid HR
          clear HRO hlg1 hrow hno1 hlx hx hl40 h1 hw1
          generalize (⟨r1.toArray⟩ : ByteArray) = rb at *
          go_enter Try.func7, Try.ntmps7
          go_wp2_with fail
          refine HL1.out.mono ?_; rintro e w1 ⟨rfl, rfl⟩
          go_wp2_with fail
          refine (HR.out _ HROW.out).mono ?_; rintro e w5 ⟨rfl, b5⟩
          have B5 := Lib.hid b5
          clear b5
          go_wp2_with fail
          refine (HP.out _).mono ?_; rintro e w6 ⟨pg, pc, rfl, g0c, g1c, b6⟩
          have B6 := Lib.hid (below_step B5.out b6)
          clear b6 B5
          go_wp2_with fail
          refine (HT.out _).mono ?_; rintro e w7 ⟨rfl, b7⟩
          have g0c' := keepc b7 g0c
          have g1c' := keepc b7 g1c
          clear g0c g1c
          have g0c := g0c'
          have g1c := g1c'
          clear g0c' g1c'
          have B7 := Lib.hid (below_step B6.out b7)
          clear b7 B6
          go_wp2_with fail
          refine (HK.out _).mono ?_; rintro e w8 ⟨rfl, b8⟩
          have g0c' := keepc b8 g0c
          have g1c' := keepc b8 g1c
          clear g0c g1c
          have g0c := g0c'
          have g1c := g1c'
          clear g0c' g1c'
          have B8 := Lib.hid (below_step B7.out b8)
          clear b8 B7
          go_wp2_with fail
          go_region_held3 (fun W => W.cell? ⟨pg, 0, none⟩ = some (.string A0) ∧ W.cell? ⟨pg, 1, none⟩ = some (.string A1) ∧ Hid (Below w.heap.size w W)) (first | assumption | exact ⟨g0c, g1c, Lib.hid B8.out.drew⟩ | with_reducible exact o2k ‹_› ‹_›) (first | (go_at_call 36; with_reducible refine (HMK.out _).mono ?_; rintro e w9 ⟨rfl, b9⟩))
          have B9 := Lib.hid (below_step B8.out.drew b9)
          clear b9 B8
          go_wp2_with fail
          refine (HAL.out _).mono ?_; rintro e w10 ⟨rfl, b10⟩
          have B10 := Lib.hid (below_step B9.out b10)
          clear b10 B9
          go_wp2_with fail
          go_ret
          exact ⟨rfl, B10.out⟩
      | seal_ a b d q1 q2 q3 q4 s0 s1 s2 =>
        obtain ⟨A0, rfl⟩ : ∃ A : ByteArray, bl A = a := ⟨⟨a.toArray⟩, rfl⟩
        rw [bl_length] at s0
        obtain ⟨A1, rfl⟩ : ∃ A : ByteArray, bl A = b := ⟨⟨b.toArray⟩, rfl⟩
        rw [bl_length] at s1
        obtain ⟨A2, rfl⟩ : ∃ A : ByteArray, bl A = d := ⟨⟨d.toArray⟩, rfl⟩
        rw [bl_length] at s2
        have HP := Lib.hid (fun V => parts3 t A0 A1 A2 ht q2 V)
        rw [q3] at HT
        rw [q1] at HK
        have HMK := fun V => seal6_any A0 A1 A2 (by omega) (by omega) (by omega) V
        rw [q4] at HMK
        unfold st2 at HMK
        simp only at HMK HT
        rw [← bl_eq t] at HMK
        rw [show (⟨([] : List UInt8).toArray⟩ : ByteArray) = ⟨#[]⟩ from rfl] at HT
        have HMK := Lib.hid HMK
        have HT := Lib.hid HT
        have HK := Lib.hid HK
        clear q1 q2 q3 q4 s0 s1 s2 h0 ht
        by_cases h1 : e1 = 0
        · subst h1
          obtain ⟨k1, k2, k3⟩ := HRO r1 rfl
          have hrs : (⟨r1.toArray⟩ : ByteArray).size ≤ 281474976710656 := by have := check_len k2; rw [size_lit]; omega
          have HPR := Lib.hid (fun V => parts_of ⟨r1.toArray⟩ hrs l k3 V)
          have HKR := fun V => tkind_any ⟨r1.toArray⟩ hrs V
          have HCR := fun V => check_any ⟨r1.toArray⟩ hrs V
          rw [bl_mk, k1] at HKR
          rw [bl_mk, k2] at HCR
          have HKR := Lib.hid HKR
          have HCR := Lib.hid HCR
          have HR := Lib.hid HR
          have HSM := Lib.hid (fun (q : Option Addr) (c' : Nat) V h1 h2 => rsame_any l l q ao c' cap (by omega) (by omega) V h1 h2 true (by simp))
          clear k1 k2 k3 hrs HRO hlg1 hrow hno1 hlx hx hl40 hw1
          generalize (⟨r1.toArray⟩ : ByteArray) = rb at *
          go_enter Try.func7, Try.ntmps7
          go_wp2_with fail
          refine HL1.out.mono ?_; rintro e w1 ⟨rfl, rfl⟩
          go_wp2_with fail
          refine (HR.out _ HROW.out).mono ?_; rintro e w1 ⟨rfl, b1⟩
          have B1 := Lib.hid b1
          clear b1
          go_wp2_with fail
          refine (HPR.out _).mono ?_; rintro e w2 ⟨v2, rfl, own2, b2⟩
          obtain ⟨a2, c2, rfl, row2'⟩ := ownT_row own2
          have B2 := Lib.hid (below_step B1.out b2)
          have ROW2 := Lib.hid row2'
          clear b2 B1 own2 row2'
          go_wp2_with fail
          refine (HSM.out a2 c2 _ ROW2.out (HROW.out.below B2.out)).mono ?_; rintro e w3 ⟨rfl, b3⟩
          have B3 := Lib.hid (below_step B2.out b3)
          clear b3 B2 ROW2
          go_wp2_with fail
          refine (HKR.out _).mono ?_; rintro e w4 ⟨rfl, b4⟩
          have B4 := Lib.hid (below_step B3.out b4)
          clear b4 B3
          go_wp2_with fail
          refine (HCR.out _).mono ?_; rintro e w5 ⟨rfl, b5⟩
          have B5 := Lib.hid (below_step B4.out b5)
          clear b5 B4
          go_wp2_with fail
          refine (HP.out _).mono ?_; rintro e w6 ⟨pg, pc, rfl, g0c, g1c, g2c, b6⟩
          have B6 := Lib.hid (below_step B5.out b6)
          clear b6 B5
          go_wp2_with fail
          refine (HT.out _).mono ?_; rintro e w7 ⟨rfl, b7⟩
          have g0c' := keepc b7 g0c
          have g1c' := keepc b7 g1c
          have g2c' := keepc b7 g2c
          clear g0c g1c g2c
          have g0c := g0c'
          have g1c := g1c'
          have g2c := g2c'
          clear g0c' g1c' g2c'
          have B7 := Lib.hid (below_step B6.out b7)
          clear b7 B6
          go_wp2_with fail
          refine (HK.out _).mono ?_; rintro e w8 ⟨rfl, b8⟩
          have g0c' := keepc b8 g0c
          have g1c' := keepc b8 g1c
          have g2c' := keepc b8 g2c
          clear g0c g1c g2c
          have g0c := g0c'
          have g1c := g1c'
          have g2c := g2c'
          clear g0c' g1c' g2c'
          have B8 := Lib.hid (below_step B7.out b8)
          clear b8 B7
          go_wp2_with fail
          go_region_held3 (fun W => W.cell? ⟨pg, 0, none⟩ = some (.string A0) ∧ W.cell? ⟨pg, 1, none⟩ = some (.string A1) ∧ W.cell? ⟨pg, 2, none⟩ = some (.string A2) ∧ Hid (Below w.heap.size w W)) (first | assumption | exact ⟨g0c, g1c, g2c, Lib.hid B8.out.drew⟩ | with_reducible exact o3k ‹_› ‹_›) (first | (go_at_call 38; with_reducible refine (HMK.out _).mono ?_; rintro e w9 ⟨rfl, b9⟩))
          have B9 := Lib.hid (below_step B8.out.drew b9)
          clear b9 B8
          go_wp2_with fail
          refine (HAL.out _).mono ?_; rintro e w10 ⟨rfl, b10⟩
          have B10 := Lib.hid (below_step B9.out b10)
          clear b10 B9
          go_wp2_with fail
          go_ret
          exact ⟨rfl, B10.out⟩
        · have q : ((e1 : Int) == 0) = false := by rw [beq_eq_false_iff_ne]; omega
          have HR := Lib.hid HR
          clear HRO hlg1 hrow hno1 hlx hx hl40 h1 hw1
          generalize (⟨r1.toArray⟩ : ByteArray) = rb at *
          go_enter Try.func7, Try.ntmps7
          go_wp2_with fail
          refine HL1.out.mono ?_; rintro e w1 ⟨rfl, rfl⟩
          go_wp2_with fail
          refine (HR.out _ HROW.out).mono ?_; rintro e w5 ⟨rfl, b5⟩
          have B5 := Lib.hid b5
          clear b5
          go_wp2_with fail
          refine (HP.out _).mono ?_; rintro e w6 ⟨pg, pc, rfl, g0c, g1c, g2c, b6⟩
          have B6 := Lib.hid (below_step B5.out b6)
          clear b6 B5
          go_wp2_with fail
          refine (HT.out _).mono ?_; rintro e w7 ⟨rfl, b7⟩
          have g0c' := keepc b7 g0c
          have g1c' := keepc b7 g1c
          have g2c' := keepc b7 g2c
          clear g0c g1c g2c
          have g0c := g0c'
          have g1c := g1c'
          have g2c := g2c'
          clear g0c' g1c' g2c'
          have B7 := Lib.hid (below_step B6.out b7)
          clear b7 B6
          go_wp2_with fail
          refine (HK.out _).mono ?_; rintro e w8 ⟨rfl, b8⟩
          have g0c' := keepc b8 g0c
          have g1c' := keepc b8 g1c
          have g2c' := keepc b8 g2c
          clear g0c g1c g2c
          have g0c := g0c'
          have g1c := g1c'
          have g2c := g2c'
          clear g0c' g1c' g2c'
          have B8 := Lib.hid (below_step B7.out b8)
          clear b8 B7
          go_wp2_with fail
          go_region_held3 (fun W => W.cell? ⟨pg, 0, none⟩ = some (.string A0) ∧ W.cell? ⟨pg, 1, none⟩ = some (.string A1) ∧ W.cell? ⟨pg, 2, none⟩ = some (.string A2) ∧ Hid (Below w.heap.size w W)) (first | assumption | exact ⟨g0c, g1c, g2c, Lib.hid B8.out.drew⟩ | with_reducible exact o3k ‹_› ‹_›) (first | (go_at_call 38; with_reducible refine (HMK.out _).mono ?_; rintro e w9 ⟨rfl, b9⟩))
          have B9 := Lib.hid (below_step B8.out.drew b9)
          clear b9 B8
          go_wp2_with fail
          refine (HAL.out _).mono ?_; rintro e w10 ⟨rfl, b10⟩
          have B10 := Lib.hid (below_step B9.out b10)
          clear b10 B9
          go_wp2_with fail
          go_ret
          exact ⟨rfl, B10.out⟩
    · have HP := Lib.hid (fun V => parts_none t ht h0 V)
      have HT := fun V => text6_any t ht V
      have HK := fun V => tkind_any t ht V
      unfold tb2 at HT
      rw [(kind_no h0).2] at HT
      rw [(kind_no h0).1] at HK
      simp only at HT
      have HT := Lib.hid HT
      have HK := Lib.hid HK
      clear h0
      by_cases h1 : e1 = 0
      · subst h1
        obtain ⟨k1, k2, k3⟩ := HRO r1 rfl
        have hrs : (⟨r1.toArray⟩ : ByteArray).size ≤ 281474976710656 := by have := check_len k2; rw [size_lit]; omega
        have HPR := Lib.hid (fun V => parts_of ⟨r1.toArray⟩ hrs l k3 V)
        have HKR := fun V => tkind_any ⟨r1.toArray⟩ hrs V
        have HCR := fun V => check_any ⟨r1.toArray⟩ hrs V
        rw [bl_mk, k1] at HKR
        rw [bl_mk, k2] at HCR
        have HKR := Lib.hid HKR
        have HCR := Lib.hid HCR
        have HR := Lib.hid HR
        have HSM := Lib.hid (fun (q : Option Addr) (c' : Nat) V h1 h2 => rsame_any l l q ao c' cap (by omega) (by omega) V h1 h2 true (by simp))
        clear k1 k2 k3 hrs HRO hlg1 hrow hno1 hlx hx hl40 hw1
        generalize (⟨r1.toArray⟩ : ByteArray) = rb at *
        go_enter Try.func7, Try.ntmps7
        go_wp2_with fail
        refine HL1.out.mono ?_; rintro e w1 ⟨rfl, rfl⟩
        go_wp2_with fail
        refine (HR.out _ HROW.out).mono ?_; rintro e w1 ⟨rfl, b1⟩
        have B1 := Lib.hid b1
        clear b1
        go_wp2_with fail
        refine (HPR.out _).mono ?_; rintro e w2 ⟨v2, rfl, own2, b2⟩
        obtain ⟨a2, c2, rfl, row2'⟩ := ownT_row own2
        have B2 := Lib.hid (below_step B1.out b2)
        have ROW2 := Lib.hid row2'
        clear b2 B1 own2 row2'
        go_wp2_with fail
        refine (HSM.out a2 c2 _ ROW2.out (HROW.out.below B2.out)).mono ?_; rintro e w3 ⟨rfl, b3⟩
        have B3 := Lib.hid (below_step B2.out b3)
        clear b3 B2 ROW2
        go_wp2_with fail
        refine (HKR.out _).mono ?_; rintro e w4 ⟨rfl, b4⟩
        have B4 := Lib.hid (below_step B3.out b4)
        clear b4 B3
        go_wp2_with fail
        refine (HCR.out _).mono ?_; rintro e w5 ⟨rfl, b5⟩
        have B5 := Lib.hid (below_step B4.out b5)
        clear b5 B4
        go_wp2_with fail
        refine (HP.out _).mono ?_; rintro e w6 ⟨pa, pc, rfl, b6⟩
        have B6 := Lib.hid (below_step B5.out b6)
        clear b6 B5
        go_wp2_with fail
        refine (HT.out _).mono ?_; rintro e w7 ⟨rfl, b7⟩
        have B7 := Lib.hid (below_step B6.out b7)
        clear b7 B6
        go_wp2_with fail
        refine (HK.out _).mono ?_; rintro e w8 ⟨rfl, b8⟩
        have B8 := Lib.hid (below_step B7.out b8)
        clear b8 B7
        go_wp2_with fail
        refine (HAL.out _).mono ?_; rintro e w9 ⟨rfl, b9⟩
        have B9 := Lib.hid (below_step B8.out b9)
        clear b9 B8
        go_wp2_with fail
        go_ret
        exact ⟨rfl, B9.out⟩
      · have q : ((e1 : Int) == 0) = false := by rw [beq_eq_false_iff_ne]; omega
        have HR := Lib.hid HR
        clear HRO hlg1 hrow hno1 hlx hx hl40 h1 hw1
        generalize (⟨r1.toArray⟩ : ByteArray) = rb at *
        go_enter Try.func7, Try.ntmps7
        go_wp2_with fail
        refine HL1.out.mono ?_; rintro e w1 ⟨rfl, rfl⟩
        go_wp2_with fail
        refine (HR.out _ HROW.out).mono ?_; rintro e w5 ⟨rfl, b5⟩
        have B5 := Lib.hid b5
        clear b5
        go_wp2_with fail
        refine (HP.out _).mono ?_; rintro e w6 ⟨pa, pc, rfl, b6⟩
        have B6 := Lib.hid (below_step B5.out b6)
        clear b6 B5
        go_wp2_with fail
        refine (HT.out _).mono ?_; rintro e w7 ⟨rfl, b7⟩
        have B7 := Lib.hid (below_step B6.out b7)
        clear b7 B6
        go_wp2_with fail
        refine (HK.out _).mono ?_; rintro e w8 ⟨rfl, b8⟩
        have B8 := Lib.hid (below_step B7.out b8)
        clear b8 B7
        go_wp2_with fail
        refine (HAL.out _).mono ?_; rintro e w9 ⟨rfl, b9⟩
        have B9 := Lib.hid (below_step B8.out b9)
        clear b9 B8
        go_wp2_with fail
        go_ret
        exact ⟨rfl, B9.out⟩
end Go.Proofs.Ytfghhhghhjbiaaa.Pl
