/- ShowBack answers true, whatever it is given. -/
import Derived.Test.YtiehhlolhhjgpaaDoorShowAlive
namespace Go.Proofs.YtiehhlolhhjgpaaDoor.Pl
open Go.RowKit

theorem st2_str (s : ByteArray) (n : Nat) : st2 (bl s, n) = .tuple #[.string s, .int .i64 n] := by unfold st2; rw [← bl_eq s]
set_option maxHeartbeats 4000000 in
set_option maxRecDepth 100000 in
theorem showback_any (t s : ByteArray) (w : World) (hF : Frames w) :
    Calls Tryd.prog 3 #[.string t, .string s] w fun e w' => e = .returned (.bool true) ∧ Below w.heap.size w w' := by
  have HLA := Lib.hid (fun V => long7_any t V)
  have HLB := Lib.hid (fun V => long7_any s V)
  have HA := Lib.hid (fun V hV => alive7_any V hV)
  have HFR := Lib.hid hF
  clear hF
  by_cases hla : 40000 < t.size
  · rw [decide_eq_true hla] at HLA
    clear hla
    go_enter Tryd.func3, Tryd.ntmps3
    go_wp2_with fail
    refine (HLA.out w).mono ?_; rintro e v0 ⟨rfl, rfl⟩
    go_wp2_with fail
    refine (HA.out _ HFR.out).mono ?_; rintro e w1 ⟨rfl, b1⟩
    have B1 := Lib.hid b1; clear b1
    go_wp2_with fail
    go_ret
    exact ⟨rfl, B1.out⟩
  rw [decide_eq_false hla] at HLA
  by_cases hlb : 40000 < s.size
  · rw [decide_eq_true hlb] at HLB
    clear hla hlb
    go_enter Tryd.func3, Tryd.ntmps3
    go_wp2_with fail
    refine (HLA.out w).mono ?_; rintro e v0 ⟨rfl, rfl⟩
    go_wp2_with fail
    refine (HLB.out _).mono ?_; rintro e v0 ⟨rfl, rfl⟩
    go_wp2_with fail
    refine (HA.out _ HFR.out).mono ?_; rintro e w1 ⟨rfl, b1⟩
    have B1 := Lib.hid b1; clear b1
    go_wp2_with fail
    go_ret
    exact ⟨rfl, B1.out⟩
  rw [decide_eq_false hlb] at HLB
  have H1 := fun V hV => line7_any t (by omega) V hV
  have H2 := Lib.hid (fun V => check_any t (by omega) V)
  have H6 := fun V hV => parse_any7 s (by omega) V hV
  by_cases hc : checkP (bl t) = 0
  · have hb := (brief_ok 16 (bl t)).2 hc
    have hpb := line_back hc
    have hwd := line_wide hc
    have hlen := briefP_len 16 (bl t)
    rw [hc] at H2
    obtain ⟨z, hz⟩ : ∃ z, z = briefP 16 (bl t) := ⟨_, rfl⟩
    have H4 := fun V hV => brief7_any t 16 (by decide) (by omega) V hV
    rw [← hz] at hb hpb hwd hlen H1 H4
    obtain ⟨a, e⟩ := z
    simp only at hb hpb hwd hlen
    subst hb
    have H3 := fun V hV => parse_any7 ⟨a.toArray⟩ (by rw [size_lit]; omega) V hV
    rw [bl_mk a, hpb, st2_str] at H3
    have H5 := Lib.hid (fun V => width7_any ⟨a.toArray⟩ (by rw [size_lit]; omega) V)
    rw [bl_mk a] at H5
    have hsza : (⟨a.toArray⟩ : ByteArray).size = a.length := size_lit a
    rw [← hsza] at hwd
    unfold st2 at H1 H4
    have H1 := Lib.hid H1
    have H3 := Lib.hid H3
    have H4 := Lib.hid H4
    obtain ⟨hw1, hw2⟩ := hwd
    generalize (rn a).length = wd at *
    generalize (⟨a.toArray⟩ : ByteArray) = ab at *
    have q1 : ¬ (ab.size : Int) < (wd : Int) := by omega
    have q2 : ¬ (wd : Int) < 1 := by omega
    clear hz hc hpb hlen hw1 hw2 hsza
    by_cases hp : (parseF (bl s)).2 = 0
    · obtain ⟨hpk, hck⟩ := parse_back hp
      obtain ⟨T, tv, te, _⟩ := tree_of hck
      have hpl : (parseF (bl s)).1.length ≤ 16384 := by rw [te]; exact tv.2.2
      clear te tv
      obtain ⟨y, hy⟩ : ∃ y, y = parseF (bl s) := ⟨_, rfl⟩
      rw [← hy] at hp hpk hck hpl H6
      obtain ⟨p, f⟩ := y
      simp only at hp hpk hck hpl
      subst hp
      have H7 := fun V hV => line7_any ⟨p.toArray⟩ (by rw [size_lit]; omega) V hV
      rw [bl_mk p, hpk, st2_str] at H7
      have H8 := Lib.hid (fun V => check_any ⟨p.toArray⟩ (by rw [size_lit]; omega) V)
      rw [bl_mk p, hck] at H8
      unfold st2 at H6
      have H6 := Lib.hid H6
      have H7 := Lib.hid H7
      generalize (⟨p.toArray⟩ : ByteArray) = pb at *
      clear hy hpk hck hpl
      go_enter Tryd.func3, Tryd.ntmps3
      go_wp2_with fail
      refine (HLA.out w).mono ?_; rintro e v0 ⟨rfl, rfl⟩
      go_wp2_with fail
      refine (HLB.out _).mono ?_; rintro e v0 ⟨rfl, rfl⟩
      go_wp2_with fail
      refine (H1.out _ HFR.out).mono ?_; rintro e w1 ⟨rfl, b1⟩
      have B1 := Lib.hid b1; clear b1
      go_wp2_with fail
      refine (H2.out _).mono ?_; rintro e w2 ⟨rfl, b2⟩
      have B2 := Lib.hid (below_step B1.out b2); clear b2 B1
      go_wp2_with fail
      refine (H3.out _ (HFR.out.kept HFR.out.1 B2.out)).mono ?_; rintro e w3 ⟨rfl, b3⟩
      have B3 := Lib.hid (below_step B2.out b3); clear b3 B2
      go_wp2_with fail
      refine (H4.out _ (HFR.out.kept HFR.out.1 B3.out)).mono ?_; rintro e w4 ⟨rfl, b4⟩
      have B4 := Lib.hid (below_step B3.out b4); clear b4 B3
      go_wp2_with fail
      refine (H5.out _).mono ?_; rintro e w5 ⟨rfl, b5⟩
      have B5 := Lib.hid (below_step B4.out b5); clear b5 B4
      go_wp2_with fail
      refine (H5.out _).mono ?_; rintro e w6 ⟨rfl, b6⟩
      have B6 := Lib.hid (below_step B5.out b6); clear b6 B5
      go_wp2_with fail
      refine (H6.out _ (HFR.out.kept HFR.out.1 B6.out)).mono ?_; rintro e w7 ⟨rfl, b7⟩
      have B7 := Lib.hid (below_step B6.out b7); clear b7 B6
      go_wp2_with fail
      refine (H7.out _ (HFR.out.kept HFR.out.1 B7.out)).mono ?_; rintro e w8 ⟨rfl, b8⟩
      have B8 := Lib.hid (below_step B7.out b8); clear b8 B7
      go_wp2_with fail
      refine (H8.out _).mono ?_; rintro e w9 ⟨rfl, b9⟩
      have B9 := Lib.hid (below_step B8.out b9); clear b9 B8
      go_wp2_with fail
      refine (HA.out _ (HFR.out.kept HFR.out.1 B9.out)).mono ?_; rintro e w10 ⟨rfl, b10⟩
      have B10 := Lib.hid (below_step B9.out b10); clear b10 B9
      go_wp2_with fail
      go_ret
      exact ⟨rfl, B10.out⟩
    · have hn := parseF_none hp
      rw [hn] at H6
      unfold st2 at H6
      have H6 := Lib.hid H6
      clear hn hp
      go_enter Tryd.func3, Tryd.ntmps3
      go_wp2_with fail
      refine (HLA.out w).mono ?_; rintro e v0 ⟨rfl, rfl⟩
      go_wp2_with fail
      refine (HLB.out _).mono ?_; rintro e v0 ⟨rfl, rfl⟩
      go_wp2_with fail
      refine (H1.out _ HFR.out).mono ?_; rintro e w1 ⟨rfl, b1⟩
      have B1 := Lib.hid b1; clear b1
      go_wp2_with fail
      refine (H2.out _).mono ?_; rintro e w2 ⟨rfl, b2⟩
      have B2 := Lib.hid (below_step B1.out b2); clear b2 B1
      go_wp2_with fail
      refine (H3.out _ (HFR.out.kept HFR.out.1 B2.out)).mono ?_; rintro e w3 ⟨rfl, b3⟩
      have B3 := Lib.hid (below_step B2.out b3); clear b3 B2
      go_wp2_with fail
      refine (H4.out _ (HFR.out.kept HFR.out.1 B3.out)).mono ?_; rintro e w4 ⟨rfl, b4⟩
      have B4 := Lib.hid (below_step B3.out b4); clear b4 B3
      go_wp2_with fail
      refine (H5.out _).mono ?_; rintro e w5 ⟨rfl, b5⟩
      have B5 := Lib.hid (below_step B4.out b5); clear b5 B4
      go_wp2_with fail
      refine (H5.out _).mono ?_; rintro e w6 ⟨rfl, b6⟩
      have B6 := Lib.hid (below_step B5.out b6); clear b6 B5
      go_wp2_with fail
      refine (H6.out _ (HFR.out.kept HFR.out.1 B6.out)).mono ?_; rintro e w7 ⟨rfl, b7⟩
      have B7 := Lib.hid (below_step B6.out b7); clear b7 B6
      go_wp2_with fail
      refine (HA.out _ (HFR.out.kept HFR.out.1 B7.out)).mono ?_; rintro e w8 ⟨rfl, b8⟩
      have B8 := Lib.hid (below_step B7.out b8); clear b8 B7
      go_wp2_with fail
      go_ret
      exact ⟨rfl, B8.out⟩
  · have hb := brief_two 16 (bl t) hc
    rw [hb] at H1
    unfold st2 at H1
    have H1 := Lib.hid H1
    have qc : ((checkP (bl t) : Int) == 0) = false := by rw [beq_eq_false_iff_ne]; omega
    generalize checkP (bl t) = ck at *
    clear hb hc
    by_cases hp : (parseF (bl s)).2 = 0
    · obtain ⟨hpk, hck⟩ := parse_back hp
      obtain ⟨T, tv, te, _⟩ := tree_of hck
      have hpl : (parseF (bl s)).1.length ≤ 16384 := by rw [te]; exact tv.2.2
      clear te tv
      obtain ⟨y, hy⟩ : ∃ y, y = parseF (bl s) := ⟨_, rfl⟩
      rw [← hy] at hp hpk hck hpl H6
      obtain ⟨p, f⟩ := y
      simp only at hp hpk hck hpl
      subst hp
      have H7 := fun V hV => line7_any ⟨p.toArray⟩ (by rw [size_lit]; omega) V hV
      rw [bl_mk p, hpk, st2_str] at H7
      have H8 := Lib.hid (fun V => check_any ⟨p.toArray⟩ (by rw [size_lit]; omega) V)
      rw [bl_mk p, hck] at H8
      unfold st2 at H6
      have H6 := Lib.hid H6
      have H7 := Lib.hid H7
      generalize (⟨p.toArray⟩ : ByteArray) = pb at *
      clear hy hpk hck hpl
      go_enter Tryd.func3, Tryd.ntmps3
      go_wp2_with fail
      refine (HLA.out w).mono ?_; rintro e v0 ⟨rfl, rfl⟩
      go_wp2_with fail
      refine (HLB.out _).mono ?_; rintro e v0 ⟨rfl, rfl⟩
      go_wp2_with fail
      refine (H1.out _ HFR.out).mono ?_; rintro e w1 ⟨rfl, b1⟩
      have B1 := Lib.hid b1; clear b1
      go_wp2_with fail
      refine (H2.out _).mono ?_; rintro e w2 ⟨rfl, b2⟩
      have B2 := Lib.hid (below_step B1.out b2); clear b2 B1
      go_wp2_with fail
      refine (H6.out _ (HFR.out.kept HFR.out.1 B2.out)).mono ?_; rintro e w3 ⟨rfl, b3⟩
      have B3 := Lib.hid (below_step B2.out b3); clear b3 B2
      go_wp2_with fail
      refine (H7.out _ (HFR.out.kept HFR.out.1 B3.out)).mono ?_; rintro e w4 ⟨rfl, b4⟩
      have B4 := Lib.hid (below_step B3.out b4); clear b4 B3
      go_wp2_with fail
      refine (H8.out _).mono ?_; rintro e w5 ⟨rfl, b5⟩
      have B5 := Lib.hid (below_step B4.out b5); clear b5 B4
      go_wp2_with fail
      refine (HA.out _ (HFR.out.kept HFR.out.1 B5.out)).mono ?_; rintro e w6 ⟨rfl, b6⟩
      have B6 := Lib.hid (below_step B5.out b6); clear b6 B5
      go_wp2_with fail
      go_ret
      exact ⟨rfl, B6.out⟩
    · have hn := parseF_none hp
      rw [hn] at H6
      unfold st2 at H6
      have H6 := Lib.hid H6
      clear hn hp
      go_enter Tryd.func3, Tryd.ntmps3
      go_wp2_with fail
      refine (HLA.out w).mono ?_; rintro e v0 ⟨rfl, rfl⟩
      go_wp2_with fail
      refine (HLB.out _).mono ?_; rintro e v0 ⟨rfl, rfl⟩
      go_wp2_with fail
      refine (H1.out _ HFR.out).mono ?_; rintro e w1 ⟨rfl, b1⟩
      have B1 := Lib.hid b1; clear b1
      go_wp2_with fail
      refine (H2.out _).mono ?_; rintro e w2 ⟨rfl, b2⟩
      have B2 := Lib.hid (below_step B1.out b2); clear b2 B1
      go_wp2_with fail
      refine (H6.out _ (HFR.out.kept HFR.out.1 B2.out)).mono ?_; rintro e w3 ⟨rfl, b3⟩
      have B3 := Lib.hid (below_step B2.out b3); clear b3 B2
      go_wp2_with fail
      refine (HA.out _ (HFR.out.kept HFR.out.1 B3.out)).mono ?_; rintro e w4 ⟨rfl, b4⟩
      have B4 := Lib.hid (below_step B3.out b4); clear b4 B3
      go_wp2_with fail
      go_ret
      exact ⟨rfl, B4.out⟩
end Go.Proofs.YtiehhlolhhjgpaaDoor.Pl
