/- TermFront answers true, whatever it is given. -/
import Derived.Test.YtfghhhghhjbiaaaTermAlive
namespace Go.Proofs.Ytfghhhghhjbiaaa.Pl
open Go.RowKit

theorem no_parts {s : ByteArray} (h : checkP (bl s) ≠ 0) : kindP (bl s) = 0 ∧ sizeP (bl s) = 0 ∧ depthP (bl s) = 0 := by
  refine ⟨(kind_no h).1, ?_, ?_⟩
  · unfold sizeP; rw [treeOf_none h]
  · unfold depthP; rw [treeOf_none h]
theorem isEmpty6 {s : ByteArray} (h : s ≠ ⟨#[]⟩) : s.toList.isEmpty = false := by
  rw [Lib.toList_data, List.isEmpty_eq_false_iff]
  intro e
  exact h (bl_inj e)
theorem mod_i64 (c n : Nat) : ((c : Int).tmod (n : Int)) = ((c % n : Nat) : Int) := by
  rw [Int.tmod_eq_emod_of_nonneg (by omega)]; rfl

set_option maxHeartbeats 4000000 in
set_option maxRecDepth 100000 in
theorem termfront_any (t more : ByteArray) (c : Nat) (hc : c ≤ 65535) (ht : t.size ≤ 140737488351232) (hm : more.size ≤ 140737488351232) (w : World) :
    Calls Try.prog 6 #[.string t, .string more, .int .u16 c] w fun e w' => e = .returned (.bool true) ∧ Below w.heap.size w w' := by
  have HAL := Lib.hid (fun V => alive6_any V)
  have HC := fun V => check_any t (by omega) V
  by_cases h0 : checkP (bl t) = 0
  · obtain ⟨T, tv, te, _⟩ := tree_of h0
    have hlen := check_len h0
    rw [bl_length] at hlen
    have hne : t ≠ ⟨#[]⟩ := fun e => by
      obtain ⟨b, r, e2, _⟩ := kind_of h0
      rw [e] at e2
      cases e2
    obtain ⟨g1, g2⟩ := str6_ne hne
    have hpos : 0 < t.size := by
      rcases Nat.eq_zero_or_pos t.size with e | e
      · exact absurd (bl_inj (bl_nil e)) hne
      · exact e
    rw [h0] at HC
    have hcat : bl (t ++ more) = T.enc ++ bl more := by rw [cat_bytes, te]
    have hcs : (t ++ more).size = t.size + more.size := ByteArray.size_append
    have HR := fun V => read6_any (t ++ more) (by omega) V
    rw [hcat, front_enc tv, ← te, bl_length] at HR
    have HK := fun V => check_any (t ++ more) (by omega) V
    have hk : checkP (bl (t ++ more)) = 0 ↔ more = ⟨#[]⟩ := by
      rw [hcat, check_more tv]
      constructor
      · intro e; exact bl_inj e
      · rintro rfl; rfl
    have hmod : c % t.size < t.size := Nat.mod_lt _ hpos
    have hx : checkP (bl (t.extract 0 (c % t.size))) ≠ 0 := by
      rw [bl_extract, List.drop_zero, te]
      exact check_cut tv (by rw [← te, bl_length]; exact hmod)
    have HX := fun V => check_any (t.extract 0 (c % t.size)) (by rw [size_bl, bl_extract, List.length_drop, List.length_take, bl_length]; omega) V
    have sl : ∀ V : World, (Instr.sliceAt 9 (.string t) none (some (.int .i64 ((c % t.size : Nat) : Int))) none).run Try.prog V = .ok (.string (t.extract 0 (c % t.size))) V := fun V => tslice_to t _ (Nat.le_of_lt hmod) V
    have hmi := mod_i64 c t.size
    generalize checkP (bl (t.extract 0 (c % t.size))) = cy at *
    clear sl
    have q1 : ((cy : Int) != 0) = true := by rw [bne_iff_ne]; omega
    have q2 : ((cy : Int) == 0) = false := by rw [beq_eq_false_iff_ne]; omega
    have hpos' : (0 : Int) < (t.size : Int) := by omega
    have hne' : ((t.size : Int) == 0) = false := by rw [beq_eq_false_iff_ne]; omega
    have hcatle : t.size + more.size ≤ 9223372036854775807 := by omega
    generalize checkP (bl (t ++ more)) = ck at *
    have HC := Lib.hid HC
    have HR := Lib.hid HR
    have HK := Lib.hid HK
    have HX := Lib.hid HX
    clear hcs te hcat h0
    have g3 : t.toList.isEmpty = false := isEmpty6 hne
    by_cases hmo : more = ⟨#[]⟩
    · obtain rfl : ck = 0 := hk.2 hmo
      subst hmo
      clear hk
      go_enter Try.func6, Try.ntmps6
      go_wp2_with fail
      refine (HC.out w).mono ?_; rintro e w1 ⟨rfl, b1⟩
      have B1 := Lib.hid b1
      clear b1
      go_wp2_with fail
      refine (HR.out _).mono ?_; rintro e w2 ⟨rfl, b2⟩
      have B2 := Lib.hid (below_step B1.out b2)
      clear b2 B1
      go_wp2_with fail
      refine (HX.out _).mono ?_; rintro e w3 ⟨rfl, b3⟩
      have B3 := Lib.hid (below_step B2.out b3)
      clear b3 B2
      go_wp2_with fail
      refine (HK.out _).mono ?_; rintro e w4 ⟨rfl, b4⟩
      have B4 := Lib.hid (below_step B3.out b4)
      clear b4 B3
      go_wp2_with fail
      refine (HAL.out _).mono ?_; rintro e w5 ⟨rfl, b5⟩
      have B5 := Lib.hid (below_step B4.out b5)
      clear b5 B4
      go_wp2_with fail
      go_ret
      exact ⟨rfl, B5.out⟩
    · have q3 : ((ck : Int) == 0) = false := by rw [beq_eq_false_iff_ne]; intro e; exact hmo (hk.1 (by omega))
      obtain ⟨g4, g5⟩ := str6_ne hmo
      have g6 : more.toList.isEmpty = false := isEmpty6 hmo
      clear hk hmo
      go_enter Try.func6, Try.ntmps6
      go_wp2_with fail
      refine (HC.out w).mono ?_; rintro e w1 ⟨rfl, b1⟩
      have B1 := Lib.hid b1
      clear b1
      go_wp2_with fail
      refine (HR.out _).mono ?_; rintro e w2 ⟨rfl, b2⟩
      have B2 := Lib.hid (below_step B1.out b2)
      clear b2 B1
      go_wp2_with fail
      refine (HX.out _).mono ?_; rintro e w3 ⟨rfl, b3⟩
      have B3 := Lib.hid (below_step B2.out b3)
      clear b3 B2
      go_wp2_with fail
      refine (HK.out _).mono ?_; rintro e w4 ⟨rfl, b4⟩
      have B4 := Lib.hid (below_step B3.out b4)
      clear b4 B3
      go_wp2_with fail
      refine (HAL.out _).mono ?_; rintro e w5 ⟨rfl, b5⟩
      have B5 := Lib.hid (below_step B4.out b5)
      clear b5 B4
      go_wp2_with fail
      go_ret
      exact ⟨rfl, B5.out⟩
  · obtain ⟨e1, e2, e3⟩ := no_parts h0
    have HK := fun V => tkind_any t (by omega) V
    have HS := fun V => size6_any t (by omega) V
    have HD := fun V => depth6_any t (by omega) V
    rw [e1] at HK
    rw [e2] at HS
    rw [e3] at HD
    generalize checkP (bl t) = ck at *
    have q1 : ((ck : Int) != 0) = true := by rw [bne_iff_ne]; omega
    have HC := Lib.hid HC
    have HK := Lib.hid HK
    have HS := Lib.hid HS
    have HD := Lib.hid HD
    clear h0 e1 e2 e3
    go_enter Try.func6, Try.ntmps6
    go_wp2_with fail
    refine (HC.out w).mono ?_; rintro e w1 ⟨rfl, b1⟩
    have B1 := Lib.hid b1
    clear b1
    go_wp2_with fail
    refine (HK.out _).mono ?_; rintro e w2 ⟨rfl, b2⟩
    have B2 := Lib.hid (below_step B1.out b2)
    clear b2 B1
    go_wp2_with fail
    refine (HS.out _).mono ?_; rintro e w3 ⟨rfl, b3⟩
    have B3 := Lib.hid (below_step B2.out b3)
    clear b3 B2
    go_wp2_with fail
    refine (HD.out _).mono ?_; rintro e w4 ⟨rfl, b4⟩
    have B4 := Lib.hid (below_step B3.out b4)
    clear b4 B3
    go_wp2_with fail
    refine (HAL.out _).mono ?_; rintro e w5 ⟨rfl, b5⟩
    have B5 := Lib.hid (below_step B4.out b5)
    clear b5 B4
    go_wp2_with fail
    go_ret
    exact ⟨rfl, B5.out⟩
end Go.Proofs.Ytfghhhghhjbiaaa.Pl
