/- What the document's suites have for keys, where its tags are known. -/
import Derived.Test.YtbdlegjklfkdmaaGreatDoorBallC19
import Derived.Test.YtbdlegjklfkdmaaGreatDoorBallC2
namespace Go.Proofs.YtbdlegjklfkdmaaGreatDoor.Pl
open Go.RowKit

/-- A suite of the document, as a value. -/
def suiteV (k : Nat) (m : ByteArray) : Value := .agg #[.int .u8 (k : Int), .string m]
theorem bl_cat (a b : ByteArray) : bl (a ++ b) = bl a ++ bl b := by simp [bl, ByteArray.data_append]
set_option maxHeartbeats 1000000 in
set_option maxRecDepth 100000 in
theorem rkey8_by (c : Cry) (k : Nat) (m name : ByteArray) (hn : name.size ≤ 20000)
    (HS : ∀ V, Calls Tryz.prog 99 #[.string m, .string (⟨#[107, 101, 121, 32]⟩ ++ name)] V fun e w' => e = .returned (.string ⟨(c.mac (bl m) ([107, 101, 121, 32] ++ bl name)).toArray⟩) ∧ Below V.heap.size V w') (w : World) :
    Calls Tryz.prog 101 #[suiteV k m, .string name] w fun e w' => e = .returned (st2 (keyP c (k == 1) (bl m) (bl name))) ∧ Below w.heap.size w w' := by
  have HA := Lib.hid (fun V => ratom_any name (by omega) V)
  have HS' := Lib.hid HS
  have HD := Lib.hid (fun V => rdata_any ⟨(c.mac (bl m) ([107, 101, 121, 32] ++ bl name)).toArray⟩ (by rw [size_lit, c.mac_len]; decide) V)
  rw [show bl ⟨(c.mac (bl m) ([107, 101, 121, 32] ++ bl name)).toArray⟩ = c.mac (bl m) ([107, 101, 121, 32] ++ bl name) from rfl] at HD
  have hz : (keyP c (k == 1) (bl m) (bl name)) = if (atomP (bl name)).2 ≠ 0 ∨ (k == 1) = true then atomP (bl name) else dataP (c.mac (bl m) ([107, 101, 121, 32] ++ bl name)) := rfl
  have hcat : (⟨#[107, 101, 121, 32]⟩ : ByteArray).size + name.size ≤ 9223372036854775807 := by
    have h4 : (⟨#[107, 101, 121, 32]⟩ : ByteArray).size = 4 := rfl
    omega
  have B0 := Lib.hid ((Below.refl w.heap.size w).alloc (Nat.le_refl _) (.cells #[.int .u8 (k : Int), .string m] 45))
  have C0 := Lib.hid (Go.heap_alloc_new w (.cells #[.int .u8 (k : Int), .string m] 45))
  have q : ((k : Int) == 1) = (k == 1) := by rw [Bool.eq_iff_iff, beq_iff_eq, beq_iff_eq]; omega
  generalize keyP c (k == 1) (bl m) (bl name) = Z at *
  generalize atomP (bl name) = R at *
  generalize dataP (c.mac (bl m) ([107, 101, 121, 32] ++ bl name)) = D at *
  generalize c.mac (bl m) ([107, 101, 121, 32] ++ bl name) = T at *
  obtain ⟨r, x⟩ := R
  obtain ⟨d, y⟩ := D
  dsimp only at hz
  unfold st2 at HA HD
  dsimp only at HA HD
  clear HS hn
  unfold suiteV
  by_cases hx : x = 0
  · subst hx
    cases hk : k == 1 with
    | true =>
      rw [hk] at q
      rw [if_pos (.inr hk)] at hz
      subst hz
      clear hk
      go_enter Tryz.func101, Tryz.ntmps101
      go_wp2_with fail
      refine (HA.out _).mono ?_; rintro e w1 ⟨rfl, b1⟩
      have B1 := Lib.hid (below_step B0.out b1)
      have C1 := heap_below b1 C0.out
      have c0 : w1.cell? ⟨w.heap.size, 0, none⟩ = some (.int .u8 (k : Int)) := cell_of_row _ _ _ _ _ _ C1
      clear b1 C1
      go_wp2_with fail
      go_ret2
      exact ⟨rfl, B1.out⟩
    | false =>
      rw [hk] at q
      rw [if_neg (by simp [hk])] at hz
      subst hz
      clear hk
      go_enter Tryz.func101, Tryz.ntmps101
      go_wp2_with fail
      refine (HA.out _).mono ?_; rintro e w1 ⟨rfl, b1⟩
      have B1 := Lib.hid (below_step B0.out b1)
      have C1 := heap_below b1 C0.out
      have c0 : w1.cell? ⟨w.heap.size, 0, none⟩ = some (.int .u8 (k : Int)) := cell_of_row _ _ _ _ _ _ C1
      have c1 : w1.cell? ⟨w.heap.size, 1, none⟩ = some (.string m) := cell_of_row _ _ _ _ _ _ C1
      clear b1 C1
      go_wp2_with fail
      refine (HS'.out w1).mono ?_; rintro e w2 ⟨rfl, b2⟩
      have B2 := Lib.hid (below_step B1.out b2)
      clear b2
      go_wp2_with fail
      refine (HD.out w2).mono ?_; rintro e w3 ⟨rfl, b3⟩
      have B3 := Lib.hid (below_step B2.out b3)
      clear b3
      go_wp2_with fail
      go_ret2
      exact ⟨rfl, B3.out⟩
  · have q2 : ((x : Int) != 0) = true := by rw [bne_iff_ne]; omega
    rw [if_pos (.inl hx)] at hz
    subst hz
    clear hx
    go_enter Tryz.func101, Tryz.ntmps101
    go_wp2_with fail
    refine (HA.out _).mono ?_; rintro e w1 ⟨rfl, b1⟩
    have B1 := Lib.hid (below_step B0.out b1)
    clear b1
    go_wp2_with fail
    go_ret2
    exact ⟨rfl, B1.out⟩
end Go.Proofs.YtbdlegjklfkdmaaGreatDoor.Pl
