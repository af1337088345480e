/- What suites of bytes make and open, by their own methods. -/
import Derived.Test.YtbdlegjklfkdmaaGreatDoorBallC34
import Derived.Test.YtbdlegjklfkdmaaGreatDoorBallC15
import Derived.Test.YtbdlegjklfkdmaaGreatDoorBallC8
import Derived.Test.YtbdlegjklfkdmaaGreatDoorBallC14
import Derived.Test.YtbdlegjklfkdmaaGreatDoorBallC11
import Derived.Test.YtbdlegjklfkdmaaGreatDoorBallC7
namespace Go.Proofs.YtbdlegjklfkdmaaGreatDoor.Pl
open Go.RowKit

/-- The table is laid, and block q is a key that is ready, of the text m. -/
def Keyed (w : World) (q : Nat) (m : ByteArray) : Prop := Tab w ∧ KeyAt w q (nums m)
theorem Keyed.below {w w' : World} {q : Nat} {m : ByteArray} (h : Keyed w q m) (hb : Below w.heap.size w w') : Keyed w' q m := ⟨h.1.below hb, h.2.below hb⟩
/-- The receiver of suites of bytes. -/
def conV (q : Nat) : Value := .agg #[.pointer (some ⟨q, 0, none⟩)]
theorem cat_key (n : ByteArray) : (⟨#[107, 101, 121, 32]⟩ ++ n : ByteArray).size = 4 + n.size := by rw [ByteArray.size_append]; rfl
theorem bl_join8 (a b : ByteArray) : bl (a ++ b) = bl a ++ bl b := by simp [bl, ByteArray.data_append]
theorem tag_size (k t : ByteArray) : (bytesOf (tagOf (nums k) (nums t))).size = 32 := by rw [bytesOf_size, tagOf_length]
theorem neq0_no {c : Nat} (h : c ≠ 0) : ((c : Int) != 0) = true := by rw [bne_iff_ne]; omega

set_option maxHeartbeats 1000000 in
set_option maxRecDepth 100000 in
theorem ckey8_any (q : Nat) (m n : ByteArray) (hn : n.size ≤ 20000) (w : World) (hT : Keyed w q m) :
    Calls Tryz.prog 191 #[conV q, .string n] w fun e w' => e = .returned (st2 (keyP cryP false (bl m) (bl n))) ∧ Below w.heap.size w w' := by
  have HT := Lib.hid hT
  unfold conV
  obtain ⟨K, hK⟩ : ∃ K : ByteArray, K = ⟨#[107, 101, 121, 32]⟩ ++ n := ⟨_, rfl⟩
  have hs : K.size ≤ 800000 := by rw [hK, cat_key]; omega
  have hb : ([107, 101, 121, 32] ++ bl n : List UInt8) = bl K := by rw [hK, bl_join8]; rfl
  have HA := Lib.hid (fun V => atom6_any n (by omega) V)
  have HS := Lib.hid (fun V (h : Keyed V q m) => keysum_any q m K (by omega) V h.1 h.2)
  have HD := Lib.hid (fun V => data6_any (bytesOf (tagOf (nums m) (nums K))) (by rw [tag_size]; decide) V)
  rw [← cry_mac m K] at HD
  have HE : Hid ((atomP (bl n)).2 ≠ 0 → (atomP (bl n)).1 = []) := Lib.hid atom_err
  have hz : (keyP cryP false (bl m) (bl n)) = if (atomP (bl n)).2 ≠ 0 ∨ false = true then atomP (bl n) else dataP (cryP.mac (bl m) ([107, 101, 121, 32] ++ bl n)) := rfl
  rw [hb] at hz
  have hcat : (⟨#[107, 101, 121, 32]⟩ : ByteArray).size + n.size ≤ 9223372036854775807 := by
    have h4 : (⟨#[107, 101, 121, 32]⟩ : ByteArray).size = 4 := rfl
    omega
  generalize keyP cryP false (bl m) (bl n) = Z at *
  generalize atomP (bl n) = R at *
  generalize dataP (cryP.mac (bl m) (bl K)) = D at *
  generalize bytesOf (tagOf (nums m) (nums K)) = T at *
  obtain ⟨r, x⟩ := R
  obtain ⟨d, y⟩ := D
  dsimp only at hz HE
  unfold st2 at HA HD
  dsimp only at HA HD
  clear hn hs hb hT
  by_cases hx : x = 0
  · subst hx
    rw [if_neg (by simp)] at hz
    subst hz
    subst hK
    clear HE
    go_enter Tryz.func191, Tryz.ntmps191
    have A0 := (Below.refl w.heap.size w).alloc (Nat.le_refl _) (.cells #[.pointer (some ⟨q, 0, none⟩)] 92)
    have B0 := Lib.hid A0
    have T0 := Lib.hid (HT.out.below A0)
    clear A0
    have C0 := Lib.hid (Go.heap_alloc_new w (.cells #[.pointer (some ⟨q, 0, none⟩)] 92))
    go_wp2_with fail
    refine (HA.out _).mono ?_; rintro e w1 ⟨rfl, b1⟩
    have B1 := Lib.hid (below_step B0.out b1)
    have T1 := Lib.hid (T0.out.below b1)
    have C1 := Lib.hid (heap_below b1 C0.out)
    have c0 : w1.cell? ⟨w.heap.size, 0, none⟩ = some (.pointer (some ⟨q, 0, none⟩)) := cell_of_row _ _ _ _ _ _ C1.out
    clear b1
    go_wp2_with fail
    refine (HS.out w1 T1.out).mono ?_; rintro e w2 ⟨rfl, b2⟩
    have B2 := Lib.hid (below_step B1.out b2)
    have T2 := Lib.hid (T1.out.below b2)
    have C2 := Lib.hid (heap_below b2 C1.out)
    clear b2
    go_wp2_with fail
    refine (HD.out w2).mono ?_; rintro e w3 ⟨rfl, b3⟩
    have B3 := Lib.hid (below_step B2.out b3)
    have T3 := Lib.hid (T2.out.below b3)
    have C3 := Lib.hid (heap_below b3 C2.out)
    clear b3
    go_wp2_with fail
    go_ret2
    exact ⟨rfl, B3.out⟩
  · rw [if_pos (.inl hx)] at hz
    have hr := HE.out hx
    have q2 := neq0_no hx
    subst hr
    subst hz
    clear hx HE
    go_enter Tryz.func191, Tryz.ntmps191
    have A0 := (Below.refl w.heap.size w).alloc (Nat.le_refl _) (.cells #[.pointer (some ⟨q, 0, none⟩)] 92)
    have B0 := Lib.hid A0
    have T0 := Lib.hid (HT.out.below A0)
    clear A0
    go_wp2_with fail
    refine (HA.out _).mono ?_; rintro e w1 ⟨rfl, b1⟩
    have B1 := Lib.hid (below_step B0.out b1)
    have T1 := Lib.hid (T0.out.below b1)
    clear b1
    go_wp2_with fail
    go_ret2
    exact ⟨rfl, B1.out⟩

set_option maxHeartbeats 1000000 in
set_option maxRecDepth 100000 in
theorem cmac8_any (q : Nat) (m k t : ByteArray) (hk : k.size ≤ 20000) (ht : t.size ≤ 20000) (w : World) (hT : Keyed w q m) :
    Calls Tryz.prog 192 #[conV q, .string k, .string t] w fun e w' => e = .returned (st2 (mac8P cryP false (bl k) (bl t))) ∧ Below w.heap.size w w' := by
  have HT := Lib.hid hT
  unfold conV
  have hks := keyD_size k
  have HK := Lib.hid (fun V => datum8_any k (by omega) V)
  have HM := Lib.hid (fun V => isterm8_any t (by omega) V)
  have HS := Lib.hid (fun V (h : Keyed V q m) => tag_any (keyD k) t (by omega) (by omega) V h.1)
  have HD := Lib.hid (fun V => data6_any (bytesOf (tagOf (nums (keyD k)) (nums t))) (by rw [tag_size]; decide) V)
  rw [← cry_mac (keyD k) t, bl_keyD] at HD
  have hz : (mac8P cryP false (bl k) (bl t)) = if checkP (bl k) ≠ 0 ∨ checkP (bl t) ≠ 0 ∨ (false = false ∧ strP (bl k) = none) then ([], 2) else if false = true then madeP [109] [bl k, bl t] else dataP (cryP.mac (strD (bl k)) (bl t)) := rfl
  generalize mac8P cryP false (bl k) (bl t) = Z at *
  generalize dataP (cryP.mac (strD (bl k)) (bl t)) = D at *
  generalize bytesOf (tagOf (nums (keyD k)) (nums t)) = T at *
  generalize keyD k = y at *
  obtain ⟨d, v⟩ := D
  unfold st2 at HD
  dsimp only at HD
  clear ht hT hk hks
  by_cases h1 : kindP (bl k) = 1
  · rw [show (kindP (bl k) == 1) = true by rw [h1]; rfl] at HK
    by_cases hx : checkP (bl t) = 0
    · rw [if_neg (by simp [hx, kind1_check h1, str_yes h1]), if_neg (by simp)] at hz
      rw [zero_yes hx] at HM
      subst hz
      clear hx h1
      go_enter Tryz.func192, Tryz.ntmps192
      have A0 := (Below.refl w.heap.size w).alloc (Nat.le_refl _) (.cells #[.pointer (some ⟨q, 0, none⟩)] 92)
      have B0 := Lib.hid A0
      have T0 := Lib.hid (HT.out.below A0)
      clear A0
      go_wp2_with fail
      refine (HK.out _).mono ?_; rintro e w1 ⟨rfl, b1⟩
      have B1 := Lib.hid (below_step B0.out b1)
      have T1 := Lib.hid (T0.out.below b1)
      clear b1
      go_wp2_with fail
      refine (HM.out w1).mono ?_; rintro e w2 ⟨rfl, b2⟩
      have B2 := Lib.hid (below_step B1.out b2)
      have T2 := Lib.hid (T1.out.below b2)
      clear b2
      go_wp2_with fail
      refine (HS.out w2 T2.out).mono ?_; rintro e w3 ⟨rfl, b3⟩
      have B3 := Lib.hid (below_step B2.out b3)
      have T3 := Lib.hid (T2.out.below b3)
      clear b3
      go_wp2_with fail
      refine (HD.out w3).mono ?_; rintro e w4 ⟨rfl, b4⟩
      have B4 := Lib.hid (below_step B3.out b4)
      have T4 := Lib.hid (T3.out.below b4)
      clear b4
      go_wp2_with fail
      go_ret2
      exact ⟨rfl, B4.out⟩
    · rw [if_pos (.inr (.inl hx))] at hz
      rw [zero_no hx] at HM
      subst hz
      clear hx HD HS h1
      go_enter Tryz.func192, Tryz.ntmps192
      have A0 := (Below.refl w.heap.size w).alloc (Nat.le_refl _) (.cells #[.pointer (some ⟨q, 0, none⟩)] 92)
      have B0 := Lib.hid A0
      have T0 := Lib.hid (HT.out.below A0)
      clear A0
      go_wp2_with fail
      refine (HK.out _).mono ?_; rintro e w1 ⟨rfl, b1⟩
      have B1 := Lib.hid (below_step B0.out b1)
      have T1 := Lib.hid (T0.out.below b1)
      clear b1
      go_wp2_with fail
      refine (HM.out w1).mono ?_; rintro e w2 ⟨rfl, b2⟩
      have B2 := Lib.hid (below_step B1.out b2)
      have T2 := Lib.hid (T1.out.below b2)
      clear b2
      go_wp2_with fail
      go_ret2
      exact ⟨rfl, B2.out⟩
  · rw [if_pos (.inr (.inr ⟨rfl, str_no h1⟩))] at hz
    rw [show (kindP (bl k) == 1) = false by rw [beq_eq_false_iff_ne]; exact h1] at HK
    subst hz
    clear h1 HD HS HM
    go_enter Tryz.func192, Tryz.ntmps192
    have A0 := (Below.refl w.heap.size w).alloc (Nat.le_refl _) (.cells #[.pointer (some ⟨q, 0, none⟩)] 92)
    have B0 := Lib.hid A0
    have T0 := Lib.hid (HT.out.below A0)
    clear A0
    go_wp2_with fail
    refine (HK.out _).mono ?_; rintro e w1 ⟨rfl, b1⟩
    have B1 := Lib.hid (below_step B0.out b1)
    have T1 := Lib.hid (T0.out.below b1)
    clear b1
    go_wp2_with fail
    go_ret2
    exact ⟨rfl, B1.out⟩

end Go.Proofs.YtbdlegjklfkdmaaGreatDoor.Pl
