/- What the document's suites make of texts, hashes and tags, where its sums are known. -/
import Derived.Test.YtedidoeoomijjaaGreatDoorSuiteRefB
namespace Go.Proofs.YtedidoeoomijjaaGreatDoor.Pl
open Go.RowKit

set_option maxHeartbeats 1000000 in
set_option maxRecDepth 100000 in
theorem rhash8_by (c : Cry) (k : Nat) (m t : ByteArray) (ht : t.size ≤ 20000)
    (HS : ∀ V, Calls Tryz.prog 32 #[.string t] V fun e w' => e = .returned (.string ⟨(c.hash (bl t)).toArray⟩) ∧ Below V.heap.size V w') (w : World) :
    Calls Tryz.prog 13 #[suiteV k m, .string t] w fun e w' => e = .returned (st2 (hash8P c (k == 1) (bl t))) ∧ Below w.heap.size w w' := by
  have HM := Lib.hid (fun V => rmay_any t (by omega) V)
  have HT := Lib.hid (fun V => rhash_any t (by omega) V)
  have HS' := Lib.hid HS
  have HD := Lib.hid (fun V => rdata_any ⟨(c.hash (bl t)).toArray⟩ (by rw [size_lit, c.hash_len]; decide) V)
  rw [show bl ⟨(c.hash (bl t)).toArray⟩ = c.hash (bl t) from rfl] at HD
  have hz : (hash8P c (k == 1) (bl t)) = if checkP (bl t) ≠ 0 then ([], 2) else if (k == 1) = true then madeP [104] [bl t] else dataP (c.hash (bl t)) := rfl
  have B0 := Lib.hid ((Below.refl w.heap.size w).alloc (Nat.le_refl _) (.cells #[.int .u8 (k : Int), .string m] 31))
  have C0 := Lib.hid (Go.heap_alloc_new w (.cells #[.int .u8 (k : Int), .string m] 31))
  have q : ((k : Int) == 1) = (k == 1) := by rw [Bool.eq_iff_iff, beq_iff_eq, beq_iff_eq]; omega
  generalize hash8P c (k == 1) (bl t) = Z at *
  generalize madeP [104] [bl t] = R at *
  generalize dataP (c.hash (bl t)) = D at *
  generalize c.hash (bl t) = T at *
  generalize checkP (bl t) = x at *
  obtain ⟨r, y⟩ := R
  obtain ⟨d, v⟩ := D
  unfold st2 at HT HD
  dsimp only at HT HD
  clear HS ht
  unfold suiteV
  by_cases hx : x = 0
  · subst hx
    rw [if_neg (by simp)] at hz
    cases hk : k == 1 with
    | true =>
      rw [hk] at q
      rw [if_pos hk] at hz
      subst hz
      clear hk
      go_enter Tryz.func13, Tryz.ntmps13
      go_wp2_with fail
      refine (HM.out _).mono ?_; rintro e w1 ⟨rfl, b1⟩
      have B1 := Lib.hid (below_step B0.out b1)
      have C1 := heap_below b1 C0.out
      have c0 : w1.cell? ⟨w.heap.size, 0, none⟩ = some (.int .u8 (k : Int)) := cell_of_row _ _ _ _ _ _ C1
      clear b1 C1
      go_wp2_with fail
      refine (HT.out w1).mono ?_; rintro e w2 ⟨rfl, b2⟩
      have B2 := Lib.hid (below_step B1.out b2)
      clear b2
      go_wp2_with fail
      go_ret2
      exact ⟨rfl, B2.out⟩
    | false =>
      rw [hk] at q
      rw [if_neg (by simp [hk])] at hz
      subst hz
      clear hk
      go_enter Tryz.func13, Tryz.ntmps13
      go_wp2_with fail
      refine (HM.out _).mono ?_; rintro e w1 ⟨rfl, b1⟩
      have B1 := Lib.hid (below_step B0.out b1)
      have C1 := heap_below b1 C0.out
      have c0 : w1.cell? ⟨w.heap.size, 0, none⟩ = some (.int .u8 (k : Int)) := cell_of_row _ _ _ _ _ _ C1
      clear b1 C1
      go_wp2_with fail
      refine (HS'.out w1).mono ?_; rintro e w2 ⟨rfl, b2⟩
      have B2 := Lib.hid (below_step B1.out b2)
      clear b2
      go_wp2_with fail
      refine (HD.out w2).mono ?_; rintro e w3 ⟨rfl, b3⟩
      have B3 := Lib.hid (below_step B2.out b3)
      clear b3
      go_wp2_with fail
      go_ret2
      exact ⟨rfl, B3.out⟩
  · rw [if_pos hx] at hz
    have hb : (x == 0) = false := by rw [beq_eq_false_iff_ne]; exact hx
    rw [hb] at HM
    subst hz
    clear hx hb
    go_enter Tryz.func13, Tryz.ntmps13
    go_wp2_with fail
    refine (HM.out _).mono ?_; rintro e w1 ⟨rfl, b1⟩
    have B1 := Lib.hid (below_step B0.out b1)
    clear b1
    go_wp2_with fail
    go_ret2
    exact ⟨rfl, B1.out⟩
end Go.Proofs.YtedidoeoomijjaaGreatDoor.Pl
