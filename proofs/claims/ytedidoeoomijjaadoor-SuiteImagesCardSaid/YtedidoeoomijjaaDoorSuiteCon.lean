/- What suites of bytes make and open, by their own methods. -/
import Derived.Test.YtedidoeoomijjaaDoorSuiteOwn
import Derived.Test.YtedidoeoomijjaaDoorSuiteD9
import Derived.Test.YtedidoeoomijjaaDoorSuiteD5
import Derived.Test.YtedidoeoomijjaaDoorCipherOpen
import Derived.Test.YtedidoeoomijjaaDoorCipherSeal
import Derived.Test.YtedidoeoomijjaaDoorSuiteD4
namespace Go.Proofs.YtedidoeoomijjaaDoor.Pl
open Go.RowKit

/-- The table is laid, and block q is a key that is ready, of the text m. -/
def Keyed (w : World) (q : Nat) (m : ByteArray) : Prop := Tab w ∧ KeyAt w q (nums m)
theorem Keyed.below {w w' : World} {q : Nat} {m : ByteArray} (h : Keyed w q m) (hb : Below w.heap.size w w') : Keyed w' q m := ⟨h.1.below hb, h.2.below hb⟩
/-- The receiver of suites of bytes. -/
def conV (q : Nat) : Value := .agg #[.pointer (some ⟨q, 0, none⟩)]
theorem cat_key (n : ByteArray) : (⟨#[107, 101, 121, 32]⟩ ++ n : ByteArray).size = 4 + n.size := by rw [ByteArray.size_append]; rfl
theorem bl_join8 (a b : ByteArray) : bl (a ++ b) = bl a ++ bl b := by simp [bl, ByteArray.data_append]
theorem tag_size (k t : ByteArray) : (bytesOf (tagOf (nums k) (nums t))).size = 32 := by rw [bytesOf_size, tagOf_length]
theorem sum_size (t : ByteArray) : (bytesOf (digest (nums t))).size = 32 := by rw [bytesOf_size, digest_length]
theorem neq0_no {c : Nat} (h : c ≠ 0) : ((c : Int) != 0) = true := by rw [bne_iff_ne]; omega

set_option maxHeartbeats 1000000 in
set_option maxRecDepth 100000 in
theorem ckey8_any (q : Nat) (m n : ByteArray) (hn : n.size ≤ 20000) (w : World) (hT : Keyed w q m) :
    Calls Tryd.prog 42 #[conV q, .string n] w fun e w' => e = .returned (st2 (keyP cryP false (bl m) (bl n))) ∧ Below w.heap.size w w' := by
  have HT := Lib.hid hT
  unfold conV
  obtain ⟨K, hK⟩ : ∃ K : ByteArray, K = ⟨#[107, 101, 121, 32]⟩ ++ n := ⟨_, rfl⟩
  have hs : K.size ≤ 800000 := by rw [hK, cat_key]; omega
  have hb : ([107, 101, 121, 32] ++ bl n : List UInt8) = bl K := by rw [hK, bl_join8]; rfl
  have HA := Lib.hid (fun V => atom6_any n (by omega) V)
  have HS := Lib.hid (fun V (h : Keyed V q m) => keysum_any q m K (by omega) V h.1 h.2)
  have HD := Lib.hid (fun V => data6_any (bytesOf (tagOf (nums m) (nums K))) (by rw [tag_size]; decide) V)
  rw [← cry_mac m K] at HD
  have HE : Hid ((atomP (bl n)).2 ≠ 0 → (atomP (bl n)).1 = []) := Lib.hid atom_err
  have hz : (keyP cryP false (bl m) (bl n)) = if (atomP (bl n)).2 ≠ 0 ∨ false = true then atomP (bl n) else dataP (cryP.mac (bl m) ([107, 101, 121, 32] ++ bl n)) := rfl
  rw [hb] at hz
  have hcat : (⟨#[107, 101, 121, 32]⟩ : ByteArray).size + n.size ≤ 9223372036854775807 := by
    have h4 : (⟨#[107, 101, 121, 32]⟩ : ByteArray).size = 4 := rfl
    omega
  generalize keyP cryP false (bl m) (bl n) = Z at *
  generalize atomP (bl n) = R at *
  generalize dataP (cryP.mac (bl m) (bl K)) = D at *
  generalize bytesOf (tagOf (nums m) (nums K)) = T at *
  obtain ⟨r, x⟩ := R
  obtain ⟨d, y⟩ := D
  dsimp only at hz HE
  unfold st2 at HA HD
  dsimp only at HA HD
  clear hn hs hb hT
  by_cases hx : x = 0
  · subst hx
    rw [if_neg (by simp)] at hz
    subst hz
    subst hK
    clear HE
    go_enter Tryd.func42, Tryd.ntmps42
    have A0 := (Below.refl w.heap.size w).alloc (Nat.le_refl _) (.cells #[.pointer (some ⟨q, 0, none⟩)] 56)
    have B0 := Lib.hid A0
    have T0 := Lib.hid (HT.out.below A0)
    clear A0
    have C0 := Lib.hid (Go.heap_alloc_new w (.cells #[.pointer (some ⟨q, 0, none⟩)] 56))
    go_wp2_with fail
    refine (HA.out _).mono ?_; rintro e w1 ⟨rfl, b1⟩
    have B1 := Lib.hid (below_step B0.out b1)
    have T1 := Lib.hid (T0.out.below b1)
    have C1 := Lib.hid (heap_below b1 C0.out)
    have c0 : w1.cell? ⟨w.heap.size, 0, none⟩ = some (.pointer (some ⟨q, 0, none⟩)) := cell_of_row _ _ _ _ _ _ C1.out
    clear b1
    go_wp2_with fail
    refine (HS.out w1 T1.out).mono ?_; rintro e w2 ⟨rfl, b2⟩
    have B2 := Lib.hid (below_step B1.out b2)
    have T2 := Lib.hid (T1.out.below b2)
    have C2 := Lib.hid (heap_below b2 C1.out)
    clear b2
    go_wp2_with fail
    refine (HD.out w2).mono ?_; rintro e w3 ⟨rfl, b3⟩
    have B3 := Lib.hid (below_step B2.out b3)
    have T3 := Lib.hid (T2.out.below b3)
    have C3 := Lib.hid (heap_below b3 C2.out)
    clear b3
    go_wp2_with fail
    go_ret2
    exact ⟨rfl, B3.out⟩
  · rw [if_pos (.inl hx)] at hz
    have hr := HE.out hx
    have q2 := neq0_no hx
    subst hr
    subst hz
    clear hx HE
    go_enter Tryd.func42, Tryd.ntmps42
    have A0 := (Below.refl w.heap.size w).alloc (Nat.le_refl _) (.cells #[.pointer (some ⟨q, 0, none⟩)] 56)
    have B0 := Lib.hid A0
    have T0 := Lib.hid (HT.out.below A0)
    clear A0
    go_wp2_with fail
    refine (HA.out _).mono ?_; rintro e w1 ⟨rfl, b1⟩
    have B1 := Lib.hid (below_step B0.out b1)
    have T1 := Lib.hid (T0.out.below b1)
    clear b1
    go_wp2_with fail
    go_ret2
    exact ⟨rfl, B1.out⟩

set_option maxHeartbeats 1000000 in
set_option maxRecDepth 100000 in
theorem chash8_any (q : Nat) (m t : ByteArray) (ht : t.size ≤ 20000) (w : World) (hT : Keyed w q m) :
    Calls Tryd.prog 44 #[conV q, .string t] w fun e w' => e = .returned (st2 (hash8P cryP false (bl t))) ∧ Below w.heap.size w w' := by
  have HT := Lib.hid hT
  unfold conV
  have HM := Lib.hid (fun V => isterm8_any t (by omega) V)
  have HS := Lib.hid (fun V (h : Keyed V q m) => sum_any t (by omega) V h.1)
  have HD := Lib.hid (fun V => data6_any (bytesOf (digest (nums t))) (by rw [sum_size]; decide) V)
  rw [← cry_hash t] at HD
  have hz : (hash8P cryP false (bl t)) = if checkP (bl t) ≠ 0 then ([], 2) else if false = true then madeP [104] [bl t] else dataP (cryP.hash (bl t)) := rfl
  generalize hash8P cryP false (bl t) = Z at *
  generalize dataP (cryP.hash (bl t)) = D at *
  generalize bytesOf (digest (nums t)) = T at *
  obtain ⟨d, v⟩ := D
  unfold st2 at HD
  dsimp only at HD
  clear ht hT
  by_cases hx : checkP (bl t) = 0
  · rw [if_neg (by simp [hx]), if_neg (by simp)] at hz
    rw [zero_yes hx] at HM
    subst hz
    clear hx
    go_enter Tryd.func44, Tryd.ntmps44
    have A0 := (Below.refl w.heap.size w).alloc (Nat.le_refl _) (.cells #[.pointer (some ⟨q, 0, none⟩)] 56)
    have B0 := Lib.hid A0
    have T0 := Lib.hid (HT.out.below A0)
    clear A0
    go_wp2_with fail
    refine (HM.out _).mono ?_; rintro e w1 ⟨rfl, b1⟩
    have B1 := Lib.hid (below_step B0.out b1)
    have T1 := Lib.hid (T0.out.below b1)
    clear b1
    go_wp2_with fail
    refine (HS.out w1 T1.out).mono ?_; rintro e w2 ⟨rfl, b2⟩
    have B2 := Lib.hid (below_step B1.out b2)
    have T2 := Lib.hid (T1.out.below b2)
    clear b2
    go_wp2_with fail
    refine (HD.out w2).mono ?_; rintro e w3 ⟨rfl, b3⟩
    have B3 := Lib.hid (below_step B2.out b3)
    have T3 := Lib.hid (T2.out.below b3)
    clear b3
    go_wp2_with fail
    go_ret2
    exact ⟨rfl, B3.out⟩
  · rw [if_pos hx] at hz
    rw [zero_no hx] at HM
    subst hz
    clear hx HD HS
    go_enter Tryd.func44, Tryd.ntmps44
    have A0 := (Below.refl w.heap.size w).alloc (Nat.le_refl _) (.cells #[.pointer (some ⟨q, 0, none⟩)] 56)
    have B0 := Lib.hid A0
    have T0 := Lib.hid (HT.out.below A0)
    clear A0
    go_wp2_with fail
    refine (HM.out _).mono ?_; rintro e w1 ⟨rfl, b1⟩
    have B1 := Lib.hid (below_step B0.out b1)
    have T1 := Lib.hid (T0.out.below b1)
    clear b1
    go_wp2_with fail
    go_ret2
    exact ⟨rfl, B1.out⟩

set_option maxHeartbeats 1000000 in
set_option maxRecDepth 100000 in
theorem cmac8_any (q : Nat) (m k t : ByteArray) (hk : k.size ≤ 20000) (ht : t.size ≤ 20000) (w : World) (hT : Keyed w q m) :
    Calls Tryd.prog 45 #[conV q, .string k, .string t] w fun e w' => e = .returned (st2 (mac8P cryP false (bl k) (bl t))) ∧ Below w.heap.size w w' := by
  have HT := Lib.hid hT
  unfold conV
  have hks := keyD_size k
  have HK := Lib.hid (fun V => datum8_any k (by omega) V)
  have HM := Lib.hid (fun V => isterm8_any t (by omega) V)
  have HS := Lib.hid (fun V (h : Keyed V q m) => tag_any (keyD k) t (by omega) (by omega) V h.1)
  have HD := Lib.hid (fun V => data6_any (bytesOf (tagOf (nums (keyD k)) (nums t))) (by rw [tag_size]; decide) V)
  rw [← cry_mac (keyD k) t, bl_keyD] at HD
  have hz : (mac8P cryP false (bl k) (bl t)) = if checkP (bl k) ≠ 0 ∨ checkP (bl t) ≠ 0 ∨ (false = false ∧ strP (bl k) = none) then ([], 2) else if false = true then madeP [109] [bl k, bl t] else dataP (cryP.mac (strD (bl k)) (bl t)) := rfl
  generalize mac8P cryP false (bl k) (bl t) = Z at *
  generalize dataP (cryP.mac (strD (bl k)) (bl t)) = D at *
  generalize bytesOf (tagOf (nums (keyD k)) (nums t)) = T at *
  generalize keyD k = y at *
  obtain ⟨d, v⟩ := D
  unfold st2 at HD
  dsimp only at HD
  clear ht hT hk hks
  by_cases h1 : kindP (bl k) = 1
  · rw [show (kindP (bl k) == 1) = true by rw [h1]; rfl] at HK
    by_cases hx : checkP (bl t) = 0
    · rw [if_neg (by simp [hx, kind1_check h1, str_yes h1]), if_neg (by simp)] at hz
      rw [zero_yes hx] at HM
      subst hz
      clear hx h1
      go_enter Tryd.func45, Tryd.ntmps45
      have A0 := (Below.refl w.heap.size w).alloc (Nat.le_refl _) (.cells #[.pointer (some ⟨q, 0, none⟩)] 56)
      have B0 := Lib.hid A0
      have T0 := Lib.hid (HT.out.below A0)
      clear A0
      go_wp2_with fail
      refine (HK.out _).mono ?_; rintro e w1 ⟨rfl, b1⟩
      have B1 := Lib.hid (below_step B0.out b1)
      have T1 := Lib.hid (T0.out.below b1)
      clear b1
      go_wp2_with fail
      refine (HM.out w1).mono ?_; rintro e w2 ⟨rfl, b2⟩
      have B2 := Lib.hid (below_step B1.out b2)
      have T2 := Lib.hid (T1.out.below b2)
      clear b2
      go_wp2_with fail
      refine (HS.out w2 T2.out).mono ?_; rintro e w3 ⟨rfl, b3⟩
      have B3 := Lib.hid (below_step B2.out b3)
      have T3 := Lib.hid (T2.out.below b3)
      clear b3
      go_wp2_with fail
      refine (HD.out w3).mono ?_; rintro e w4 ⟨rfl, b4⟩
      have B4 := Lib.hid (below_step B3.out b4)
      have T4 := Lib.hid (T3.out.below b4)
      clear b4
      go_wp2_with fail
      go_ret2
      exact ⟨rfl, B4.out⟩
    · rw [if_pos (.inr (.inl hx))] at hz
      rw [zero_no hx] at HM
      subst hz
      clear hx HD HS h1
      go_enter Tryd.func45, Tryd.ntmps45
      have A0 := (Below.refl w.heap.size w).alloc (Nat.le_refl _) (.cells #[.pointer (some ⟨q, 0, none⟩)] 56)
      have B0 := Lib.hid A0
      have T0 := Lib.hid (HT.out.below A0)
      clear A0
      go_wp2_with fail
      refine (HK.out _).mono ?_; rintro e w1 ⟨rfl, b1⟩
      have B1 := Lib.hid (below_step B0.out b1)
      have T1 := Lib.hid (T0.out.below b1)
      clear b1
      go_wp2_with fail
      refine (HM.out w1).mono ?_; rintro e w2 ⟨rfl, b2⟩
      have B2 := Lib.hid (below_step B1.out b2)
      have T2 := Lib.hid (T1.out.below b2)
      clear b2
      go_wp2_with fail
      go_ret2
      exact ⟨rfl, B2.out⟩
  · rw [if_pos (.inr (.inr ⟨rfl, str_no h1⟩))] at hz
    rw [show (kindP (bl k) == 1) = false by rw [beq_eq_false_iff_ne]; exact h1] at HK
    subst hz
    clear h1 HD HS HM
    go_enter Tryd.func45, Tryd.ntmps45
    have A0 := (Below.refl w.heap.size w).alloc (Nat.le_refl _) (.cells #[.pointer (some ⟨q, 0, none⟩)] 56)
    have B0 := Lib.hid A0
    have T0 := Lib.hid (HT.out.below A0)
    clear A0
    go_wp2_with fail
    refine (HK.out _).mono ?_; rintro e w1 ⟨rfl, b1⟩
    have B1 := Lib.hid (below_step B0.out b1)
    have T1 := Lib.hid (T0.out.below b1)
    clear b1
    go_wp2_with fail
    go_ret2
    exact ⟨rfl, B1.out⟩

set_option maxHeartbeats 2000000 in
set_option maxRecDepth 100000 in
theorem cseal8_any (q : Nat) (m k n t : ByteArray) (hk : k.size ≤ 20000) (hn : n.size ≤ 20000) (ht : t.size ≤ 20000) (w : World) (hT : Keyed w q m) :
    Calls Tryd.prog 46 #[conV q, .string k, .string n, .string t] w fun e w' => e = .returned (st2 (seal8P cryP false (bl k) (bl n) (bl t))) ∧ Below w.heap.size w w' := by
  have HT := Lib.hid hT
  unfold conV
  have hks := keyD_size k
  have hns := keyD_size n
  have HK := Lib.hid (fun V => datum8_any k (by omega) V)
  have HN := Lib.hid (fun V => datum8_any n (by omega) V)
  have HM := Lib.hid (fun V => isterm8_any t (by omega) V)
  have HS := Lib.hid (fun (h12 : (keyD n).size = 12) V (h : Keyed V q m) => seal_any (keyD k) (keyD n) t (by omega) h12 (by omega) V h.1)
  have HS2 := Lib.hid (fun (h12 : (keyD n).size ≠ 12) V => seal_arg (keyD k) (keyD n) t h12 V)
  have HD := Lib.hid (fun (h12 : (keyD n).size = 12) V => data6_any (sealedT (keyD k) (keyD n) t) (by rw [sealedT_size _ _ _ h12]; omega) V)
  rw [← cry_shut (keyD k) (keyD n) t, bl_keyD, bl_keyD] at HD
  unfold SealPost at HS
  rw [show bytesOf (sealedL (nums (keyD k)) (nums (keyD n)) (nums t)) = sealedT (keyD k) (keyD n) t from rfl] at HS
  have hl : (strD (bl n)).length = (keyD n).size := by rw [← bl_keyD, bl_length]
  have hz : (seal8P cryP false (bl k) (bl n) (bl t)) = if checkP (bl k) ≠ 0 ∨ checkP (bl n) ≠ 0 ∨ checkP (bl t) ≠ 0 ∨ (false = false ∧ (strP (bl k) = none ∨ strP (bl n) = none ∨ (strD (bl n)).length ≠ 12)) then ([], 2)
      else if false = true then madeP [115] [bl k, bl n, bl t] else dataP (cryP.shut (strD (bl k)) (strD (bl n)) (bl t)) := rfl
  have hno : kindP (bl n) ≠ 1 → (keyD n).size ≠ 12 := fun h => by rw [keyD_no h]; decide
  generalize seal8P cryP false (bl k) (bl n) (bl t) = Z at *
  generalize dataP (cryP.shut (strD (bl k)) (strD (bl n)) (bl t)) = D at *
  generalize sealedT (keyD k) (keyD n) t = T at *
  generalize keyD k = y at *
  generalize keyD n = u at *
  obtain ⟨d, v⟩ := D
  unfold st2 at HD
  dsimp only at HD
  clear ht hT hk hn hks hns
  by_cases h1 : kindP (bl k) = 1
  · rw [show (kindP (bl k) == 1) = true by rw [h1]; rfl] at HK
    by_cases hx : checkP (bl t) = 0
    · rw [zero_yes hx] at HM
      by_cases h12 : u.size = 12
      · have hn1 : kindP (bl n) = 1 := Classical.byContradiction fun h => hno h h12
        rw [if_neg (by simp [hx, kind1_check h1, str_yes h1, kind1_check hn1, str_yes hn1, hl, h12]), if_neg (by simp)] at hz
        have HS3 := Lib.hid (HS.out h12)
        have HD3 := Lib.hid (HD.out h12)
        subst hz
        clear hx h1 h12 hn1 hno hl HS HS2 HD
        generalize (kindP (bl n) == 1) = kn at *
        go_enter Tryd.func46, Tryd.ntmps46
        have A0 := (Below.refl w.heap.size w).alloc (Nat.le_refl _) (.cells #[.pointer (some ⟨q, 0, none⟩)] 56)
        have B0 := Lib.hid A0
        have T0 := Lib.hid (HT.out.below A0)
        clear A0
        go_wp2_with fail
        refine (HK.out _).mono ?_; rintro e w1 ⟨rfl, b1⟩
        have B1 := Lib.hid (below_step B0.out b1)
        have T1 := Lib.hid (T0.out.below b1)
        clear b1
        go_wp2_with fail
        refine (HM.out w1).mono ?_; rintro e w2 ⟨rfl, b2⟩
        have B2 := Lib.hid (below_step B1.out b2)
        have T2 := Lib.hid (T1.out.below b2)
        clear b2
        go_wp2_with fail
        refine (HN.out w2).mono ?_; rintro e w3 ⟨rfl, b3⟩
        have B3 := Lib.hid (below_step B2.out b3)
        have T3 := Lib.hid (T2.out.below b3)
        clear b3
        go_wp2_with fail
        refine (HS3.out w3 T3.out).mono ?_; rintro e w4 ⟨rfl, b4⟩
        have B4 := Lib.hid (below_step B3.out b4)
        have T4 := Lib.hid (T3.out.below b4)
        clear b4
        go_wp2_with fail
        refine (HD3.out w4).mono ?_; rintro e w5 ⟨rfl, b5⟩
        have B5 := Lib.hid (below_step B4.out b5)
        have T5 := Lib.hid (T4.out.below b5)
        clear b5
        go_wp2_with fail
        go_ret2
        exact ⟨rfl, B5.out⟩
      · rw [if_pos (by simp [hl, h12])] at hz
        have HS3 : Hid (∀ V, Calls Tryd.prog 62 #[.string y, .string u, .string t] V fun e w' => e = .returned (.tuple #[.string ⟨#[]⟩, .int .i64 2]) ∧ Below V.heap.size V w') := Lib.hid (fun V => (HS2.out h12 V).mono (by rintro e w' ⟨rfl, rfl⟩; exact ⟨rfl, Below.refl _ _⟩))
        subst hz
        clear hx h1 h12 hno hl HS HS2 HD
        generalize (kindP (bl n) == 1) = kn at *
        go_enter Tryd.func46, Tryd.ntmps46
        have A0 := (Below.refl w.heap.size w).alloc (Nat.le_refl _) (.cells #[.pointer (some ⟨q, 0, none⟩)] 56)
        have B0 := Lib.hid A0
        have T0 := Lib.hid (HT.out.below A0)
        clear A0
        go_wp2_with fail
        refine (HK.out _).mono ?_; rintro e w1 ⟨rfl, b1⟩
        have B1 := Lib.hid (below_step B0.out b1)
        have T1 := Lib.hid (T0.out.below b1)
        clear b1
        go_wp2_with fail
        refine (HM.out w1).mono ?_; rintro e w2 ⟨rfl, b2⟩
        have B2 := Lib.hid (below_step B1.out b2)
        have T2 := Lib.hid (T1.out.below b2)
        clear b2
        go_wp2_with fail
        refine (HN.out w2).mono ?_; rintro e w3 ⟨rfl, b3⟩
        have B3 := Lib.hid (below_step B2.out b3)
        have T3 := Lib.hid (T2.out.below b3)
        clear b3
        go_wp2_with fail
        refine (HS3.out w3).mono ?_; rintro e w4 ⟨rfl, b4⟩
        have B4 := Lib.hid (below_step B3.out b4)
        have T4 := Lib.hid (T3.out.below b4)
        clear b4
        go_wp2_with fail
        go_ret2
        exact ⟨rfl, B4.out⟩
    · rw [if_pos (.inr (.inr (.inl hx)))] at hz
      rw [zero_no hx] at HM
      subst hz
      clear hx HD HS HS2 h1 hno hl HN
      go_enter Tryd.func46, Tryd.ntmps46
      have A0 := (Below.refl w.heap.size w).alloc (Nat.le_refl _) (.cells #[.pointer (some ⟨q, 0, none⟩)] 56)
      have B0 := Lib.hid A0
      have T0 := Lib.hid (HT.out.below A0)
      clear A0
      go_wp2_with fail
      refine (HK.out _).mono ?_; rintro e w1 ⟨rfl, b1⟩
      have B1 := Lib.hid (below_step B0.out b1)
      have T1 := Lib.hid (T0.out.below b1)
      clear b1
      go_wp2_with fail
      refine (HM.out w1).mono ?_; rintro e w2 ⟨rfl, b2⟩
      have B2 := Lib.hid (below_step B1.out b2)
      have T2 := Lib.hid (T1.out.below b2)
      clear b2
      go_wp2_with fail
      go_ret2
      exact ⟨rfl, B2.out⟩
  · rw [if_pos (.inr (.inr (.inr ⟨rfl, .inl (str_no h1)⟩)))] at hz
    rw [show (kindP (bl k) == 1) = false by rw [beq_eq_false_iff_ne]; exact h1] at HK
    subst hz
    clear h1 HD HS HS2 HM hno hl HN
    go_enter Tryd.func46, Tryd.ntmps46
    have A0 := (Below.refl w.heap.size w).alloc (Nat.le_refl _) (.cells #[.pointer (some ⟨q, 0, none⟩)] 56)
    have B0 := Lib.hid A0
    have T0 := Lib.hid (HT.out.below A0)
    clear A0
    go_wp2_with fail
    refine (HK.out _).mono ?_; rintro e w1 ⟨rfl, b1⟩
    have B1 := Lib.hid (below_step B0.out b1)
    have T1 := Lib.hid (T0.out.below b1)
    clear b1
    go_wp2_with fail
    go_ret2
    exact ⟨rfl, B1.out⟩

theorem see_none {k x : ByteArray} (h : ¬ (44 ≤ x.size ∧ Fits k x)) (hk : k.size ≤ 1000000) (hx : x.size ≤ 65580) (V : World) (hT : Tab V) :
    Calls Tryd.prog 118 #[.string k, .string x] V fun e w' => ∃ c : Nat, c ≠ 0 ∧ e = .returned (.tuple #[.string ⟨#[]⟩, .int .i64 (c : Int)]) ∧ Below V.heap.size V w' := by
  by_cases h1 : 44 ≤ x.size
  · refine (open_unfit k x hk h1 hx (fun hf => h ⟨h1, hf⟩) V hT).mono ?_
    rintro e w' ⟨rfl, b⟩
    exact ⟨40, by decide, rfl, b⟩
  · refine (open_end k x (by omega) V).mono ?_
    rintro e w' ⟨rfl, rfl⟩
    exact ⟨6, by decide, rfl, Below.refl _ _⟩
set_option maxHeartbeats 2000000 in
set_option maxRecDepth 100000 in
theorem copen8_any (q : Nat) (m k x : ByteArray) (hk : k.size ≤ 20000) (hx : x.size ≤ 20000) (w : World) (hT : Keyed w q m) :
    Calls Tryd.prog 117 #[conV q, .string k, .string x] w fun e w' => e = .returned (st2 (open8P cryP false (bl k) (bl x))) ∧ Below w.heap.size w w' := by
  have HT := Lib.hid hT
  unfold conV
  have hks := keyD_size k
  have hxs := keyD_size x
  have HK := Lib.hid (fun V => datum8_any k (by omega) V)
  have HN := Lib.hid (fun V => datum8_any x (by omega) V)
  have HX := Lib.hid (fun V => isterm8_any x (by omega) V)
  obtain ⟨Z, hZ⟩ : ∃ Z, Z = open8P cryP false (bl k) (bl x) := ⟨_, rfl⟩
  rw [← hZ]
  unfold open8P at hZ
  by_cases h1 : kindP (bl k) = 1
  · rw [show (kindP (bl k) == 1) = true by rw [h1]; rfl] at HK
    by_cases h2 : checkP (bl x) = 0
    · rw [zero_yes h2] at HX
      rw [if_neg (by simp [h2, kind1_check h1, str_yes h1]), if_neg (by simp)] at hZ
      by_cases h3 : kindP (bl x) = 1
      · rw [show (kindP (bl x) == 1) = true by rw [h3]; rfl] at HN
        rw [str_yes h3] at hZ
        simp only at hZ
        by_cases hf : 44 ≤ (keyD x).size ∧ Fits (keyD k) (keyD x)
        · have HO := Lib.hid (fun V (h : Keyed V q m) => open_fits (keyD k) (keyD x) (by omega) hf.1 (by omega) hf.2 V h.1)
          have hss : (shown (keyD k) (hidOf (keyD x))).size ≤ 20000 := by
            rw [shown_size]
            have : (hidOf (keyD x)).size ≤ (keyD x).size := by unfold hidOf; rw [ByteArray.size_extract]; omega
            omega
          rw [← bl_keyD k, ← bl_keyD x, cry_see_yes hf.1 hf.2] at hZ
          simp only at hZ
          have HC := Lib.hid (fun V => isterm8_any (shown (keyD k) (hidOf (keyD x))) (by omega) V)
          generalize shown (keyD k) (hidOf (keyD x)) = S at *
          generalize keyD k = y at *
          generalize keyD x = u at *
          by_cases hc : checkP (bl S) = 0
          · rw [if_pos hc] at hZ
            rw [zero_yes hc] at HC
            have hS : (⟨(bl S).toArray⟩ : ByteArray) = S := bl_inj (bl_mk _)
            rw [show st2 Z = .tuple #[.string S, .int .i64 0] by rw [hZ]; show Value.tuple #[.string ⟨(bl S).toArray⟩, _] = _; rw [hS]; rfl]
            clear h1 h2 h3 hf hss hc hS hZ hk hx hks hxs hT
            go_enter Tryd.func117, Tryd.ntmps117
            have A0 := (Below.refl w.heap.size w).alloc (Nat.le_refl _) (.cells #[.pointer (some ⟨q, 0, none⟩)] 56)
            have B0 := Lib.hid A0
            have T0 := Lib.hid (HT.out.below A0)
            clear A0
            go_wp2_with fail
            refine (HK.out _).mono ?_; rintro e w1 ⟨rfl, b1⟩
            have B1 := Lib.hid (below_step B0.out b1)
            have T1 := Lib.hid (T0.out.below b1)
            clear b1
            go_wp2_with fail
            refine (HX.out w1).mono ?_; rintro e w2 ⟨rfl, b2⟩
            have B2 := Lib.hid (below_step B1.out b2)
            have T2 := Lib.hid (T1.out.below b2)
            clear b2
            go_wp2_with fail
            refine (HN.out w2).mono ?_; rintro e w3 ⟨rfl, b3⟩
            have B3 := Lib.hid (below_step B2.out b3)
            have T3 := Lib.hid (T2.out.below b3)
            clear b3
            go_wp2_with fail
            refine (HO.out w3 T3.out).mono ?_; rintro e w4 ⟨rfl, b4⟩
            have B4 := Lib.hid (below_step B3.out b4)
            have T4 := Lib.hid (T3.out.below b4)
            clear b4
            go_wp2_with fail
            refine (HC.out w4).mono ?_; rintro e w5 ⟨rfl, b5⟩
            have B5 := Lib.hid (below_step B4.out b5)
            have T5 := Lib.hid (T4.out.below b5)
            clear b5
            go_wp2_with fail
            go_ret2
            exact ⟨rfl, B5.out⟩
          · rw [if_neg hc] at hZ
            rw [zero_no hc] at HC
            subst hZ
            clear h1 h2 h3 hf hss hc hk hx hks hxs hT
            go_enter Tryd.func117, Tryd.ntmps117
            have A0 := (Below.refl w.heap.size w).alloc (Nat.le_refl _) (.cells #[.pointer (some ⟨q, 0, none⟩)] 56)
            have B0 := Lib.hid A0
            have T0 := Lib.hid (HT.out.below A0)
            clear A0
            go_wp2_with fail
            refine (HK.out _).mono ?_; rintro e w1 ⟨rfl, b1⟩
            have B1 := Lib.hid (below_step B0.out b1)
            have T1 := Lib.hid (T0.out.below b1)
            clear b1
            go_wp2_with fail
            refine (HX.out w1).mono ?_; rintro e w2 ⟨rfl, b2⟩
            have B2 := Lib.hid (below_step B1.out b2)
            have T2 := Lib.hid (T1.out.below b2)
            clear b2
            go_wp2_with fail
            refine (HN.out w2).mono ?_; rintro e w3 ⟨rfl, b3⟩
            have B3 := Lib.hid (below_step B2.out b3)
            have T3 := Lib.hid (T2.out.below b3)
            clear b3
            go_wp2_with fail
            refine (HO.out w3 T3.out).mono ?_; rintro e w4 ⟨rfl, b4⟩
            have B4 := Lib.hid (below_step B3.out b4)
            have T4 := Lib.hid (T3.out.below b4)
            clear b4
            go_wp2_with fail
            refine (HC.out w4).mono ?_; rintro e w5 ⟨rfl, b5⟩
            have B5 := Lib.hid (below_step B4.out b5)
            have T5 := Lib.hid (T4.out.below b5)
            clear b5
            go_wp2_with fail
            go_ret2
            exact ⟨rfl, B5.out⟩
        · have HO := Lib.hid (fun V (h : Keyed V q m) => see_none hf (by omega) (by omega) V h.1)
          rw [← bl_keyD k, ← bl_keyD x, cry_see_no hf] at hZ
          simp only at hZ
          generalize keyD k = y at *
          generalize keyD x = u at *
          subst hZ
          clear h1 h2 h3 hf hk hx hks hxs hT
          go_enter Tryd.func117, Tryd.ntmps117
          have A0 := (Below.refl w.heap.size w).alloc (Nat.le_refl _) (.cells #[.pointer (some ⟨q, 0, none⟩)] 56)
          have B0 := Lib.hid A0
          have T0 := Lib.hid (HT.out.below A0)
          clear A0
          go_wp2_with fail
          refine (HK.out _).mono ?_; rintro e w1 ⟨rfl, b1⟩
          have B1 := Lib.hid (below_step B0.out b1)
          have T1 := Lib.hid (T0.out.below b1)
          clear b1
          go_wp2_with fail
          refine (HX.out w1).mono ?_; rintro e w2 ⟨rfl, b2⟩
          have B2 := Lib.hid (below_step B1.out b2)
          have T2 := Lib.hid (T1.out.below b2)
          clear b2
          go_wp2_with fail
          refine (HN.out w2).mono ?_; rintro e w3 ⟨rfl, b3⟩
          have B3 := Lib.hid (below_step B2.out b3)
          have T3 := Lib.hid (T2.out.below b3)
          clear b3
          go_wp2_with fail
          refine (HO.out w3 T3.out).mono ?_; rintro e w4 ⟨cn, hcn, rfl, b4⟩
          have B4 := Lib.hid (below_step B3.out b4)
          have T4 := Lib.hid (T3.out.below b4)
          have q9 := neq0_no hcn
          clear b4
          go_wp2_with fail
          go_ret2
          exact ⟨rfl, B4.out⟩
      · rw [show (kindP (bl x) == 1) = false by rw [beq_eq_false_iff_ne]; exact h3] at HN
        rw [str_no h3] at hZ
        subst hZ
        clear h1 h2 h3 hk hx hks hxs hT
        generalize keyD k = y at *
        generalize keyD x = u at *
        go_enter Tryd.func117, Tryd.ntmps117
        have A0 := (Below.refl w.heap.size w).alloc (Nat.le_refl _) (.cells #[.pointer (some ⟨q, 0, none⟩)] 56)
        have B0 := Lib.hid A0
        have T0 := Lib.hid (HT.out.below A0)
        clear A0
        go_wp2_with fail
        refine (HK.out _).mono ?_; rintro e w1 ⟨rfl, b1⟩
        have B1 := Lib.hid (below_step B0.out b1)
        have T1 := Lib.hid (T0.out.below b1)
        clear b1
        go_wp2_with fail
        refine (HX.out w1).mono ?_; rintro e w2 ⟨rfl, b2⟩
        have B2 := Lib.hid (below_step B1.out b2)
        have T2 := Lib.hid (T1.out.below b2)
        clear b2
        go_wp2_with fail
        refine (HN.out w2).mono ?_; rintro e w3 ⟨rfl, b3⟩
        have B3 := Lib.hid (below_step B2.out b3)
        have T3 := Lib.hid (T2.out.below b3)
        clear b3
        go_wp2_with fail
        go_ret2
        exact ⟨rfl, B3.out⟩
    · rw [if_pos (.inr (.inl h2))] at hZ
      rw [zero_no h2] at HX
      subst hZ
      clear h1 h2 hk hx hks hxs hT HN
      generalize keyD k = y at *
      go_enter Tryd.func117, Tryd.ntmps117
      have A0 := (Below.refl w.heap.size w).alloc (Nat.le_refl _) (.cells #[.pointer (some ⟨q, 0, none⟩)] 56)
      have B0 := Lib.hid A0
      have T0 := Lib.hid (HT.out.below A0)
      clear A0
      go_wp2_with fail
      refine (HK.out _).mono ?_; rintro e w1 ⟨rfl, b1⟩
      have B1 := Lib.hid (below_step B0.out b1)
      have T1 := Lib.hid (T0.out.below b1)
      clear b1
      go_wp2_with fail
      refine (HX.out w1).mono ?_; rintro e w2 ⟨rfl, b2⟩
      have B2 := Lib.hid (below_step B1.out b2)
      have T2 := Lib.hid (T1.out.below b2)
      clear b2
      go_wp2_with fail
      go_ret2
      exact ⟨rfl, B2.out⟩
  · rw [if_pos (.inr (.inr ⟨rfl, str_no h1⟩))] at hZ
    rw [show (kindP (bl k) == 1) = false by rw [beq_eq_false_iff_ne]; exact h1] at HK
    subst hZ
    clear h1 hk hx hks hxs hT HN HX
    generalize keyD k = y at *
    go_enter Tryd.func117, Tryd.ntmps117
    have A0 := (Below.refl w.heap.size w).alloc (Nat.le_refl _) (.cells #[.pointer (some ⟨q, 0, none⟩)] 56)
    have B0 := Lib.hid A0
    have T0 := Lib.hid (HT.out.below A0)
    clear A0
    go_wp2_with fail
    refine (HK.out _).mono ?_; rintro e w1 ⟨rfl, b1⟩
    have B1 := Lib.hid (below_step B0.out b1)
    have T1 := Lib.hid (T0.out.below b1)
    clear b1
    go_wp2_with fail
    go_ret2
    exact ⟨rfl, B1.out⟩
end Go.Proofs.YtedidoeoomijjaaDoor.Pl
