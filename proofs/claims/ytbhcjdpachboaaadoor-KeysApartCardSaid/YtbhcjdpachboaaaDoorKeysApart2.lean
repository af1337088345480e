/- KeysApart answers true: one of six ways. Leans on the program's own contracts: ktag_any, kseal_any, kread_any, kknown_any, kof_any. -/
import Derived.Test.YtbhcjdpachboaaaDoorKeysApartF
namespace Go.Proofs.YtbhcjdpachboaaaDoor.Pl
open Go.RowKit

set_option maxHeartbeats 8000000 in
set_option maxRecDepth 100000 in
theorem apart9_2 (a b : Int) (s : Nat) (hs : s < 256) (n : Int) (hba : b ≠ a) (x u z v : List UInt8) (hx : nameK 107 a b = (x, 0)) (hu : nameK 115 a b = (u, 0)) (hz : nameK 107 a a = (z, 0)) (hv : nameK 115 a a = (v, 0)) (w : World) (hT : KeyTab w) :
    Calls Tryd.prog 6 #[.int .i64 a, .int .i64 b, .int .i64 a, .int .i64 a, .int .u8 (s : Int), .int .i64 n] w fun e w' => e = .returned (.bool true) ∧ Below w.heap.size w w' := by
  have T0 := Lib.hid hT
  have HA := Lib.hid (fun V h => alive9_any V h)
  have H1 := Lib.hid (fun V h => ktag_any a b V h)
  have H2 := Lib.hid (fun V h => ktag_any b a V h)
  have H3 := Lib.hid (fun V h => ktag_any a a V h)
  have H4 := Lib.hid (fun V h => kseal_any a b V h)
  have H5 := Lib.hid (fun V h => kseal_any a a V h)
  have HK := Lib.hid (fun V h => kknown_any s hs n V h)
  have HO := Lib.hid (fun V h => kof_any a n V h)
  have HI1 := Lib.hid (fun V => rin9_any s a V)
  have HI2 := Lib.hid (fun V => rin9_any s b V)
  obtain ⟨lo, hi, hrd, hlo, hhi⟩ := seal_read hu
  have hmin := min_is hlo
  have hmax := max_is hhi
  have HR := Lib.hid (fun V h => kread_any ⟨u.toArray⟩ (by rw [size_lit]; obtain ⟨_, _, e⟩ := nameK_in hu; rw [e]; simp [nm]) V h)
  rw [bl_mk u, hrd] at HR
  unfold read4 at HR
  dsimp only at HR
  have MK1 := Lib.hid (known_is (s := s) (n := n) (.inl rfl) hx)
  have MK2 := Lib.hid (known_is (s := s) (n := n) (.inr rfl) hu)
  have MO1 := Lib.hid (of_own (n := n) hx)
  have MO2 := Lib.hid (fun hn => of_other (n := n) (nameK_in hx).1 hn hz)
  rw [hx] at H1
  rw [nameK_comm, hx] at H2
  rw [hz] at H3
  rw [hu] at H4
  rw [hv] at H5
  unfold st2 at H1 H2 H3 H4 H5
  dsimp only at H1 H2 H3 H4 H5
  have dxz : x ≠ z := fun e => by have := (name_same hx hz).1 e; omega
  have duv : u ≠ v := fun e => by have := (name_same hu hv).1 e; omega
  have dxv := tag_seal hx hv
  have dzu := tag_seal hz hu
  have bX := bl_mk x
  have bU := bl_mk u
  have bZ := bl_mk z
  have bY := bl_mk v
  generalize (⟨x.toArray⟩ : ByteArray) = X at *
  generalize (⟨u.toArray⟩ : ByteArray) = U at *
  generalize (⟨z.toArray⟩ : ByteArray) = Z at *
  generalize (⟨v.toArray⟩ : ByteArray) = Y at *
  have NXZ : X ≠ Z := fun e => dxz (by rw [← bX, ← bZ, e])
  have PXZ : ¬ X.toList = Z.toList := beq_eq_false_iff_ne.1 (str_ne9 NXZ).1
  obtain ⟨QXZ, OXZ⟩ := str_ne9 NXZ
  clear NXZ
  have NUY : U ≠ Y := fun e => duv (by rw [← bU, ← bY, e])
  have PUY : ¬ U.toList = Y.toList := beq_eq_false_iff_ne.1 (str_ne9 NUY).1
  obtain ⟨QUY, OUY⟩ := str_ne9 NUY
  clear NUY
  have NXY : X ≠ Y := fun e => dxv (by rw [← bX, ← bY, e])
  have PXY : ¬ X.toList = Y.toList := beq_eq_false_iff_ne.1 (str_ne9 NXY).1
  obtain ⟨QXY, OXY⟩ := str_ne9 NXY
  clear NXY
  have NUZ : U ≠ Z := fun e => dzu (by rw [← bU, ← bZ, e])
  have PUZ : ¬ U.toList = Z.toList := beq_eq_false_iff_ne.1 (str_ne9 NUZ).1
  obtain ⟨QUZ, OUZ⟩ := str_ne9 NUZ
  clear NUZ
  have ML1 : Hid (∀ L : List ByteArray, L.map bl = knownK s n → (X ∈ L ↔ (1 ≤ n ∧ n ≤ 8) ∧ a < n ∧ b < n ∧ (setB s a = true ∨ setB s b = true))) := Lib.hid (fun L h => (mem_bl9 bX).trans (h ▸ MK1.out))
  have ML2 : Hid (∀ L : List ByteArray, L.map bl = knownK s n → (U ∈ L ↔ (1 ≤ n ∧ n ≤ 8) ∧ a < n ∧ b < n ∧ (setB s a = true ∨ setB s b = true))) := Lib.hid (fun L h => (mem_bl9 bU).trans (h ▸ MK2.out))
  have MM1 : Hid (∀ L : List ByteArray, L.map bl = ofK a n → (X ∈ L ↔ (1 ≤ n ∧ n ≤ 8) ∧ a < n ∧ b < n)) := Lib.hid (fun L h => (mem_bl9 bX).trans (h ▸ MO1.out))
  have MM2 : Hid (1 ≤ n ∧ n ≤ 8 → ∀ L : List ByteArray, L.map bl = ofK a n → (Z ∈ L ↔ a < n ∧ a < n ∧ a < n ∧ (a = a ∨ a = a))) := Lib.hid (fun hn L h => (mem_bl9 bZ).trans (h ▸ MO2.out hn))
  have Kba : (b == a) = false := beq_eq_false_iff_ne.2 hba
  clear hT hs hx hu hz hv hrd hlo hhi MK1 MK2 MO1 MO2 bX bU bZ bY dxz duv dxv dzu
  by_cases n1 : n < 1
  · skip
    go_enter Tryd.func6, Tryd.ntmps6
    go_wp2_with fail
    refine (H1.out _ T0.out).mono ?_; rintro e w1 ⟨rfl, b1⟩
    have B1 := Lib.hid b1
    have T1 := Lib.hid (T0.out.below b1)
    clear b1 T0
    go_wp2_with fail
    refine (H2.out _ T1.out).mono ?_; rintro e w2 ⟨rfl, b2⟩
    have B2 := Lib.hid (step9 B1.out b2)
    have T2 := Lib.hid (T1.out.below b2)
    clear b2 B1 T1
    go_wp2_with fail
    refine (H3.out _ T2.out).mono ?_; rintro e w3 ⟨rfl, b3⟩
    have B3 := Lib.hid (step9 B2.out b3)
    have T3 := Lib.hid (T2.out.below b3)
    clear b3 B2 T2
    go_wp2_with fail
    refine (H4.out _ T3.out).mono ?_; rintro e w4 ⟨rfl, b4⟩
    have B4 := Lib.hid (step9 B3.out b4)
    have T4 := Lib.hid (T3.out.below b4)
    clear b4 B3 T3
    go_wp2_with fail
    refine (H5.out _ T4.out).mono ?_; rintro e w5 ⟨rfl, b5⟩
    have B5 := Lib.hid (step9 B4.out b5)
    have T5 := Lib.hid (T4.out.below b5)
    clear b5 B4 T4
    go_wp2_with fail
    refine (HR.out _ T5.out).mono ?_; rintro e w6 ⟨rfl, b6⟩
    have B6 := Lib.hid (step9 B5.out b6)
    have T6 := Lib.hid (T5.out.below b6)
    clear b6 B5 T5
    go_wp2_with fail
    refine (HK.out _ T6.out).mono ?_; rintro e w7 ⟨⟨v, LK, rfl, own, eL⟩, b7⟩
    have B7 := Lib.hid (step9 B6.out b7)
    have T7 := Lib.hid (T6.out.below b7)
    obtain ⟨aoK, capK, rfl, hrow⟩ := ownT_row own
    have RK_7 := Lib.hid hrow
    have EK := Lib.hid eL
    clear b7 B6 T6 own hrow eL
    go_wp2_with fail
    refine (rin_any LK aoK capK (by have := known_len EK.out; omega) X _ RK_7.out false (by rw [ML1.out LK EK.out]; simp only [Bool.false_eq_true, false_iff]; omega)).mono ?_; rintro e w8 ⟨rfl, b8⟩
    have B8 := Lib.hid (step9 B7.out b8)
    have T8 := Lib.hid (T7.out.below b8)
    have RK_8 := Lib.hid (RK_7.out.below b8)
    clear b8 B7 T7 RK_7
    go_wp2_with fail
    refine (rin_any LK aoK capK (by have := known_len EK.out; omega) U _ RK_8.out false (by rw [ML2.out LK EK.out]; simp only [Bool.false_eq_true, false_iff]; omega)).mono ?_; rintro e w9 ⟨rfl, b9⟩
    have B9 := Lib.hid (step9 B8.out b9)
    have T9 := Lib.hid (T8.out.below b9)
    have RK_9 := Lib.hid (RK_8.out.below b9)
    clear b9 B8 T8 RK_8
    go_wp2_with fail
    refine (HO.out _ T9.out).mono ?_; rintro e w10 ⟨⟨v, LM, rfl, own, eL⟩, b10⟩
    have B10 := Lib.hid (step9 B9.out b10)
    have T10 := Lib.hid (T9.out.below b10)
    have RK_10 := Lib.hid (RK_9.out.below b10)
    obtain ⟨aoM, capM, rfl, hrow⟩ := ownT_row own
    have RM_10 := Lib.hid hrow
    have EM := Lib.hid eL
    clear b10 B9 T9 RK_9 own hrow eL
    go_wp2_with fail
    refine (rin_any LM aoM capM (by have := of_len EM.out; omega) X _ RM_10.out false (by rw [MM1.out LM EM.out]; simp only [Bool.false_eq_true, false_iff]; omega)).mono ?_; rintro e w11 ⟨rfl, b11⟩
    have B11 := Lib.hid (step9 B10.out b11)
    have T11 := Lib.hid (T10.out.below b11)
    have RK_11 := Lib.hid (RK_10.out.below b11)
    have RM_11 := Lib.hid (RM_10.out.below b11)
    clear b11 B10 T10 RK_10 RM_10
    go_wp2_with fail
    refine (HA.out _ T11.out).mono ?_; rintro e w12 ⟨rfl, b12⟩
    have B12 := Lib.hid (step9 B11.out b12)
    have T12 := Lib.hid (T11.out.below b12)
    have RK_12 := Lib.hid (RK_11.out.below b12)
    have RM_12 := Lib.hid (RM_11.out.below b12)
    clear b12 B11 T11 RK_11 RM_11
    go_wp2_with fail
    go_ret
    exact ⟨by first | rfl | (simp; omega), B12.out⟩
  by_cases n8 : 8 < n
  · skip
    go_enter Tryd.func6, Tryd.ntmps6
    go_wp2_with fail
    refine (H1.out _ T0.out).mono ?_; rintro e w1 ⟨rfl, b1⟩
    have B1 := Lib.hid b1
    have T1 := Lib.hid (T0.out.below b1)
    clear b1 T0
    go_wp2_with fail
    refine (H2.out _ T1.out).mono ?_; rintro e w2 ⟨rfl, b2⟩
    have B2 := Lib.hid (step9 B1.out b2)
    have T2 := Lib.hid (T1.out.below b2)
    clear b2 B1 T1
    go_wp2_with fail
    refine (H3.out _ T2.out).mono ?_; rintro e w3 ⟨rfl, b3⟩
    have B3 := Lib.hid (step9 B2.out b3)
    have T3 := Lib.hid (T2.out.below b3)
    clear b3 B2 T2
    go_wp2_with fail
    refine (H4.out _ T3.out).mono ?_; rintro e w4 ⟨rfl, b4⟩
    have B4 := Lib.hid (step9 B3.out b4)
    have T4 := Lib.hid (T3.out.below b4)
    clear b4 B3 T3
    go_wp2_with fail
    refine (H5.out _ T4.out).mono ?_; rintro e w5 ⟨rfl, b5⟩
    have B5 := Lib.hid (step9 B4.out b5)
    have T5 := Lib.hid (T4.out.below b5)
    clear b5 B4 T4
    go_wp2_with fail
    refine (HR.out _ T5.out).mono ?_; rintro e w6 ⟨rfl, b6⟩
    have B6 := Lib.hid (step9 B5.out b6)
    have T6 := Lib.hid (T5.out.below b6)
    clear b6 B5 T5
    go_wp2_with fail
    refine (HK.out _ T6.out).mono ?_; rintro e w7 ⟨⟨v, LK, rfl, own, eL⟩, b7⟩
    have B7 := Lib.hid (step9 B6.out b7)
    have T7 := Lib.hid (T6.out.below b7)
    obtain ⟨aoK, capK, rfl, hrow⟩ := ownT_row own
    have RK_7 := Lib.hid hrow
    have EK := Lib.hid eL
    clear b7 B6 T6 own hrow eL
    go_wp2_with fail
    refine (rin_any LK aoK capK (by have := known_len EK.out; omega) X _ RK_7.out false (by rw [ML1.out LK EK.out]; simp only [Bool.false_eq_true, false_iff]; omega)).mono ?_; rintro e w8 ⟨rfl, b8⟩
    have B8 := Lib.hid (step9 B7.out b8)
    have T8 := Lib.hid (T7.out.below b8)
    have RK_8 := Lib.hid (RK_7.out.below b8)
    clear b8 B7 T7 RK_7
    go_wp2_with fail
    refine (rin_any LK aoK capK (by have := known_len EK.out; omega) U _ RK_8.out false (by rw [ML2.out LK EK.out]; simp only [Bool.false_eq_true, false_iff]; omega)).mono ?_; rintro e w9 ⟨rfl, b9⟩
    have B9 := Lib.hid (step9 B8.out b9)
    have T9 := Lib.hid (T8.out.below b9)
    have RK_9 := Lib.hid (RK_8.out.below b9)
    clear b9 B8 T8 RK_8
    go_wp2_with fail
    refine (HO.out _ T9.out).mono ?_; rintro e w10 ⟨⟨v, LM, rfl, own, eL⟩, b10⟩
    have B10 := Lib.hid (step9 B9.out b10)
    have T10 := Lib.hid (T9.out.below b10)
    have RK_10 := Lib.hid (RK_9.out.below b10)
    obtain ⟨aoM, capM, rfl, hrow⟩ := ownT_row own
    have RM_10 := Lib.hid hrow
    have EM := Lib.hid eL
    clear b10 B9 T9 RK_9 own hrow eL
    go_wp2_with fail
    refine (rin_any LM aoM capM (by have := of_len EM.out; omega) X _ RM_10.out false (by rw [MM1.out LM EM.out]; simp only [Bool.false_eq_true, false_iff]; omega)).mono ?_; rintro e w11 ⟨rfl, b11⟩
    have B11 := Lib.hid (step9 B10.out b11)
    have T11 := Lib.hid (T10.out.below b11)
    have RK_11 := Lib.hid (RK_10.out.below b11)
    have RM_11 := Lib.hid (RM_10.out.below b11)
    clear b11 B10 T10 RK_10 RM_10
    go_wp2_with fail
    refine (HA.out _ T11.out).mono ?_; rintro e w12 ⟨rfl, b12⟩
    have B12 := Lib.hid (step9 B11.out b12)
    have T12 := Lib.hid (T11.out.below b12)
    have RK_12 := Lib.hid (RK_11.out.below b12)
    have RM_12 := Lib.hid (RM_11.out.below b12)
    clear b12 B11 T11 RK_11 RM_11
    go_wp2_with fail
    go_ret
    exact ⟨by first | rfl | (simp; omega), B12.out⟩
  by_cases la : a < n
  · by_cases lb : b < n
    · cases sa : setB s a with
      | true =>
        rw [sa] at HI1 ML1 ML2
        go_enter Tryd.func6, Tryd.ntmps6
        go_wp2_with fail
        refine (H1.out _ T0.out).mono ?_; rintro e w1 ⟨rfl, b1⟩
        have B1 := Lib.hid b1
        have T1 := Lib.hid (T0.out.below b1)
        clear b1 T0
        go_wp2_with fail
        refine (H2.out _ T1.out).mono ?_; rintro e w2 ⟨rfl, b2⟩
        have B2 := Lib.hid (step9 B1.out b2)
        have T2 := Lib.hid (T1.out.below b2)
        clear b2 B1 T1
        go_wp2_with fail
        refine (H3.out _ T2.out).mono ?_; rintro e w3 ⟨rfl, b3⟩
        have B3 := Lib.hid (step9 B2.out b3)
        have T3 := Lib.hid (T2.out.below b3)
        clear b3 B2 T2
        go_wp2_with fail
        refine (H4.out _ T3.out).mono ?_; rintro e w4 ⟨rfl, b4⟩
        have B4 := Lib.hid (step9 B3.out b4)
        have T4 := Lib.hid (T3.out.below b4)
        clear b4 B3 T3
        go_wp2_with fail
        refine (H5.out _ T4.out).mono ?_; rintro e w5 ⟨rfl, b5⟩
        have B5 := Lib.hid (step9 B4.out b5)
        have T5 := Lib.hid (T4.out.below b5)
        clear b5 B4 T4
        go_wp2_with fail
        refine (HR.out _ T5.out).mono ?_; rintro e w6 ⟨rfl, b6⟩
        have B6 := Lib.hid (step9 B5.out b6)
        have T6 := Lib.hid (T5.out.below b6)
        clear b6 B5 T5
        go_wp2_with fail
        refine (HK.out _ T6.out).mono ?_; rintro e w7 ⟨⟨v, LK, rfl, own, eL⟩, b7⟩
        have B7 := Lib.hid (step9 B6.out b7)
        have T7 := Lib.hid (T6.out.below b7)
        obtain ⟨aoK, capK, rfl, hrow⟩ := ownT_row own
        have RK_7 := Lib.hid hrow
        have EK := Lib.hid eL
        clear b7 B6 T6 own hrow eL
        go_wp2_with fail
        refine (HI1.out _).mono ?_; rintro e w8 ⟨rfl, rfl⟩
        go_wp2_with fail
        refine (rin_any LK aoK capK (by have := known_len EK.out; omega) X _ RK_7.out true (by rw [ML1.out LK EK.out]; exact ⟨fun _ => ⟨⟨by omega, by omega⟩, by omega, by omega, by simp⟩, fun _ => rfl⟩)).mono ?_; rintro e w9 ⟨rfl, b9⟩
        have B9 := Lib.hid (step9 B7.out b9)
        have T9 := Lib.hid (T7.out.below b9)
        have RK_9 := Lib.hid (RK_7.out.below b9)
        clear b9 B7 T7 RK_7
        go_wp2_with fail
        refine (rin_any LK aoK capK (by have := known_len EK.out; omega) U _ RK_9.out true (by rw [ML2.out LK EK.out]; exact ⟨fun _ => ⟨⟨by omega, by omega⟩, by omega, by omega, by simp⟩, fun _ => rfl⟩)).mono ?_; rintro e w10 ⟨rfl, b10⟩
        have B10 := Lib.hid (step9 B9.out b10)
        have T10 := Lib.hid (T9.out.below b10)
        have RK_10 := Lib.hid (RK_9.out.below b10)
        clear b10 B9 T9 RK_9
        go_wp2_with fail
        refine (HO.out _ T10.out).mono ?_; rintro e w11 ⟨⟨v, LM, rfl, own, eL⟩, b11⟩
        have B11 := Lib.hid (step9 B10.out b11)
        have T11 := Lib.hid (T10.out.below b11)
        have RK_11 := Lib.hid (RK_10.out.below b11)
        obtain ⟨aoM, capM, rfl, hrow⟩ := ownT_row own
        have RM_11 := Lib.hid hrow
        have EM := Lib.hid eL
        clear b11 B10 T10 RK_10 own hrow eL
        go_wp2_with fail
        refine (rin_any LM aoM capM (by have := of_len EM.out; omega) X _ RM_11.out true (by rw [MM1.out LM EM.out]; simp only [true_iff]; omega)).mono ?_; rintro e w12 ⟨rfl, b12⟩
        have B12 := Lib.hid (step9 B11.out b12)
        have T12 := Lib.hid (T11.out.below b12)
        have RK_12 := Lib.hid (RK_11.out.below b12)
        have RM_12 := Lib.hid (RM_11.out.below b12)
        clear b12 B11 T11 RK_11 RM_11
        go_wp2_with fail
        refine (rin_any LM aoM capM (by have := of_len EM.out; omega) Z _ RM_12.out true (by rw [MM2.out ⟨by omega, by omega⟩ LM EM.out]; exact ⟨fun _ => ⟨by omega, by omega, by omega, by simp⟩, fun _ => rfl⟩)).mono ?_; rintro e w13 ⟨rfl, b13⟩
        have B13 := Lib.hid (step9 B12.out b13)
        have T13 := Lib.hid (T12.out.below b13)
        have RK_13 := Lib.hid (RK_12.out.below b13)
        have RM_13 := Lib.hid (RM_12.out.below b13)
        clear b13 B12 T12 RK_12 RM_12
        go_wp2_with fail
        refine (HA.out _ T13.out).mono ?_; rintro e w14 ⟨rfl, b14⟩
        have B14 := Lib.hid (step9 B13.out b14)
        have T14 := Lib.hid (T13.out.below b14)
        have RK_14 := Lib.hid (RK_13.out.below b14)
        have RM_14 := Lib.hid (RM_13.out.below b14)
        clear b14 B13 T13 RK_13 RM_13
        go_wp2_with fail
        go_ret
        exact ⟨by first | rfl | (simp; omega), B14.out⟩
      | false =>
        rw [sa] at HI1 ML1 ML2
        cases sc : setB s b with
        | true =>
          rw [sc] at HI2 ML1 ML2
          go_enter Tryd.func6, Tryd.ntmps6
          go_wp2_with fail
          refine (H1.out _ T0.out).mono ?_; rintro e w1 ⟨rfl, b1⟩
          have B1 := Lib.hid b1
          have T1 := Lib.hid (T0.out.below b1)
          clear b1 T0
          go_wp2_with fail
          refine (H2.out _ T1.out).mono ?_; rintro e w2 ⟨rfl, b2⟩
          have B2 := Lib.hid (step9 B1.out b2)
          have T2 := Lib.hid (T1.out.below b2)
          clear b2 B1 T1
          go_wp2_with fail
          refine (H3.out _ T2.out).mono ?_; rintro e w3 ⟨rfl, b3⟩
          have B3 := Lib.hid (step9 B2.out b3)
          have T3 := Lib.hid (T2.out.below b3)
          clear b3 B2 T2
          go_wp2_with fail
          refine (H4.out _ T3.out).mono ?_; rintro e w4 ⟨rfl, b4⟩
          have B4 := Lib.hid (step9 B3.out b4)
          have T4 := Lib.hid (T3.out.below b4)
          clear b4 B3 T3
          go_wp2_with fail
          refine (H5.out _ T4.out).mono ?_; rintro e w5 ⟨rfl, b5⟩
          have B5 := Lib.hid (step9 B4.out b5)
          have T5 := Lib.hid (T4.out.below b5)
          clear b5 B4 T4
          go_wp2_with fail
          refine (HR.out _ T5.out).mono ?_; rintro e w6 ⟨rfl, b6⟩
          have B6 := Lib.hid (step9 B5.out b6)
          have T6 := Lib.hid (T5.out.below b6)
          clear b6 B5 T5
          go_wp2_with fail
          refine (HK.out _ T6.out).mono ?_; rintro e w7 ⟨⟨v, LK, rfl, own, eL⟩, b7⟩
          have B7 := Lib.hid (step9 B6.out b7)
          have T7 := Lib.hid (T6.out.below b7)
          obtain ⟨aoK, capK, rfl, hrow⟩ := ownT_row own
          have RK_7 := Lib.hid hrow
          have EK := Lib.hid eL
          clear b7 B6 T6 own hrow eL
          go_wp2_with fail
          refine (HI1.out _).mono ?_; rintro e w8 ⟨rfl, rfl⟩
          go_wp2_with fail
          refine (HI2.out _).mono ?_; rintro e w9 ⟨rfl, rfl⟩
          go_wp2_with fail
          refine (rin_any LK aoK capK (by have := known_len EK.out; omega) X _ RK_7.out true (by rw [ML1.out LK EK.out]; exact ⟨fun _ => ⟨⟨by omega, by omega⟩, by omega, by omega, by simp⟩, fun _ => rfl⟩)).mono ?_; rintro e w10 ⟨rfl, b10⟩
          have B10 := Lib.hid (step9 B7.out b10)
          have T10 := Lib.hid (T7.out.below b10)
          have RK_10 := Lib.hid (RK_7.out.below b10)
          clear b10 B7 T7 RK_7
          go_wp2_with fail
          refine (rin_any LK aoK capK (by have := known_len EK.out; omega) U _ RK_10.out true (by rw [ML2.out LK EK.out]; exact ⟨fun _ => ⟨⟨by omega, by omega⟩, by omega, by omega, by simp⟩, fun _ => rfl⟩)).mono ?_; rintro e w11 ⟨rfl, b11⟩
          have B11 := Lib.hid (step9 B10.out b11)
          have T11 := Lib.hid (T10.out.below b11)
          have RK_11 := Lib.hid (RK_10.out.below b11)
          clear b11 B10 T10 RK_10
          go_wp2_with fail
          refine (HO.out _ T11.out).mono ?_; rintro e w12 ⟨⟨v, LM, rfl, own, eL⟩, b12⟩
          have B12 := Lib.hid (step9 B11.out b12)
          have T12 := Lib.hid (T11.out.below b12)
          have RK_12 := Lib.hid (RK_11.out.below b12)
          obtain ⟨aoM, capM, rfl, hrow⟩ := ownT_row own
          have RM_12 := Lib.hid hrow
          have EM := Lib.hid eL
          clear b12 B11 T11 RK_11 own hrow eL
          go_wp2_with fail
          refine (rin_any LM aoM capM (by have := of_len EM.out; omega) X _ RM_12.out true (by rw [MM1.out LM EM.out]; simp only [true_iff]; omega)).mono ?_; rintro e w13 ⟨rfl, b13⟩
          have B13 := Lib.hid (step9 B12.out b13)
          have T13 := Lib.hid (T12.out.below b13)
          have RK_13 := Lib.hid (RK_12.out.below b13)
          have RM_13 := Lib.hid (RM_12.out.below b13)
          clear b13 B12 T12 RK_12 RM_12
          go_wp2_with fail
          refine (rin_any LM aoM capM (by have := of_len EM.out; omega) Z _ RM_13.out true (by rw [MM2.out ⟨by omega, by omega⟩ LM EM.out]; exact ⟨fun _ => ⟨by omega, by omega, by omega, by simp⟩, fun _ => rfl⟩)).mono ?_; rintro e w14 ⟨rfl, b14⟩
          have B14 := Lib.hid (step9 B13.out b14)
          have T14 := Lib.hid (T13.out.below b14)
          have RK_14 := Lib.hid (RK_13.out.below b14)
          have RM_14 := Lib.hid (RM_13.out.below b14)
          clear b14 B13 T13 RK_13 RM_13
          go_wp2_with fail
          refine (HA.out _ T14.out).mono ?_; rintro e w15 ⟨rfl, b15⟩
          have B15 := Lib.hid (step9 B14.out b15)
          have T15 := Lib.hid (T14.out.below b15)
          have RK_15 := Lib.hid (RK_14.out.below b15)
          have RM_15 := Lib.hid (RM_14.out.below b15)
          clear b15 B14 T14 RK_14 RM_14
          go_wp2_with fail
          go_ret
          exact ⟨by first | rfl | (simp; omega), B15.out⟩
        | false =>
          rw [sc] at HI2 ML1 ML2
          go_enter Tryd.func6, Tryd.ntmps6
          go_wp2_with fail
          refine (H1.out _ T0.out).mono ?_; rintro e w1 ⟨rfl, b1⟩
          have B1 := Lib.hid b1
          have T1 := Lib.hid (T0.out.below b1)
          clear b1 T0
          go_wp2_with fail
          refine (H2.out _ T1.out).mono ?_; rintro e w2 ⟨rfl, b2⟩
          have B2 := Lib.hid (step9 B1.out b2)
          have T2 := Lib.hid (T1.out.below b2)
          clear b2 B1 T1
          go_wp2_with fail
          refine (H3.out _ T2.out).mono ?_; rintro e w3 ⟨rfl, b3⟩
          have B3 := Lib.hid (step9 B2.out b3)
          have T3 := Lib.hid (T2.out.below b3)
          clear b3 B2 T2
          go_wp2_with fail
          refine (H4.out _ T3.out).mono ?_; rintro e w4 ⟨rfl, b4⟩
          have B4 := Lib.hid (step9 B3.out b4)
          have T4 := Lib.hid (T3.out.below b4)
          clear b4 B3 T3
          go_wp2_with fail
          refine (H5.out _ T4.out).mono ?_; rintro e w5 ⟨rfl, b5⟩
          have B5 := Lib.hid (step9 B4.out b5)
          have T5 := Lib.hid (T4.out.below b5)
          clear b5 B4 T4
          go_wp2_with fail
          refine (HR.out _ T5.out).mono ?_; rintro e w6 ⟨rfl, b6⟩
          have B6 := Lib.hid (step9 B5.out b6)
          have T6 := Lib.hid (T5.out.below b6)
          clear b6 B5 T5
          go_wp2_with fail
          refine (HK.out _ T6.out).mono ?_; rintro e w7 ⟨⟨v, LK, rfl, own, eL⟩, b7⟩
          have B7 := Lib.hid (step9 B6.out b7)
          have T7 := Lib.hid (T6.out.below b7)
          obtain ⟨aoK, capK, rfl, hrow⟩ := ownT_row own
          have RK_7 := Lib.hid hrow
          have EK := Lib.hid eL
          clear b7 B6 T6 own hrow eL
          go_wp2_with fail
          refine (HI1.out _).mono ?_; rintro e w8 ⟨rfl, rfl⟩
          go_wp2_with fail
          refine (HI2.out _).mono ?_; rintro e w9 ⟨rfl, rfl⟩
          go_wp2_with fail
          refine (rin_any LK aoK capK (by have := known_len EK.out; omega) X _ RK_7.out false (by rw [ML1.out LK EK.out]; simp)).mono ?_; rintro e w10 ⟨rfl, b10⟩
          have B10 := Lib.hid (step9 B7.out b10)
          have T10 := Lib.hid (T7.out.below b10)
          have RK_10 := Lib.hid (RK_7.out.below b10)
          clear b10 B7 T7 RK_7
          go_wp2_with fail
          refine (rin_any LK aoK capK (by have := known_len EK.out; omega) U _ RK_10.out false (by rw [ML2.out LK EK.out]; simp)).mono ?_; rintro e w11 ⟨rfl, b11⟩
          have B11 := Lib.hid (step9 B10.out b11)
          have T11 := Lib.hid (T10.out.below b11)
          have RK_11 := Lib.hid (RK_10.out.below b11)
          clear b11 B10 T10 RK_10
          go_wp2_with fail
          refine (HO.out _ T11.out).mono ?_; rintro e w12 ⟨⟨v, LM, rfl, own, eL⟩, b12⟩
          have B12 := Lib.hid (step9 B11.out b12)
          have T12 := Lib.hid (T11.out.below b12)
          have RK_12 := Lib.hid (RK_11.out.below b12)
          obtain ⟨aoM, capM, rfl, hrow⟩ := ownT_row own
          have RM_12 := Lib.hid hrow
          have EM := Lib.hid eL
          clear b12 B11 T11 RK_11 own hrow eL
          go_wp2_with fail
          refine (rin_any LM aoM capM (by have := of_len EM.out; omega) X _ RM_12.out true (by rw [MM1.out LM EM.out]; simp only [true_iff]; omega)).mono ?_; rintro e w13 ⟨rfl, b13⟩
          have B13 := Lib.hid (step9 B12.out b13)
          have T13 := Lib.hid (T12.out.below b13)
          have RK_13 := Lib.hid (RK_12.out.below b13)
          have RM_13 := Lib.hid (RM_12.out.below b13)
          clear b13 B12 T12 RK_12 RM_12
          go_wp2_with fail
          refine (rin_any LM aoM capM (by have := of_len EM.out; omega) Z _ RM_13.out true (by rw [MM2.out ⟨by omega, by omega⟩ LM EM.out]; exact ⟨fun _ => ⟨by omega, by omega, by omega, by simp⟩, fun _ => rfl⟩)).mono ?_; rintro e w14 ⟨rfl, b14⟩
          have B14 := Lib.hid (step9 B13.out b14)
          have T14 := Lib.hid (T13.out.below b14)
          have RK_14 := Lib.hid (RK_13.out.below b14)
          have RM_14 := Lib.hid (RM_13.out.below b14)
          clear b14 B13 T13 RK_13 RM_13
          go_wp2_with fail
          refine (HA.out _ T14.out).mono ?_; rintro e w15 ⟨rfl, b15⟩
          have B15 := Lib.hid (step9 B14.out b15)
          have T15 := Lib.hid (T14.out.below b15)
          have RK_15 := Lib.hid (RK_14.out.below b15)
          have RM_15 := Lib.hid (RM_14.out.below b15)
          clear b15 B14 T14 RK_14 RM_14
          go_wp2_with fail
          go_ret
          exact ⟨by first | rfl | (simp; omega), B15.out⟩
    · skip
      go_enter Tryd.func6, Tryd.ntmps6
      go_wp2_with fail
      refine (H1.out _ T0.out).mono ?_; rintro e w1 ⟨rfl, b1⟩
      have B1 := Lib.hid b1
      have T1 := Lib.hid (T0.out.below b1)
      clear b1 T0
      go_wp2_with fail
      refine (H2.out _ T1.out).mono ?_; rintro e w2 ⟨rfl, b2⟩
      have B2 := Lib.hid (step9 B1.out b2)
      have T2 := Lib.hid (T1.out.below b2)
      clear b2 B1 T1
      go_wp2_with fail
      refine (H3.out _ T2.out).mono ?_; rintro e w3 ⟨rfl, b3⟩
      have B3 := Lib.hid (step9 B2.out b3)
      have T3 := Lib.hid (T2.out.below b3)
      clear b3 B2 T2
      go_wp2_with fail
      refine (H4.out _ T3.out).mono ?_; rintro e w4 ⟨rfl, b4⟩
      have B4 := Lib.hid (step9 B3.out b4)
      have T4 := Lib.hid (T3.out.below b4)
      clear b4 B3 T3
      go_wp2_with fail
      refine (H5.out _ T4.out).mono ?_; rintro e w5 ⟨rfl, b5⟩
      have B5 := Lib.hid (step9 B4.out b5)
      have T5 := Lib.hid (T4.out.below b5)
      clear b5 B4 T4
      go_wp2_with fail
      refine (HR.out _ T5.out).mono ?_; rintro e w6 ⟨rfl, b6⟩
      have B6 := Lib.hid (step9 B5.out b6)
      have T6 := Lib.hid (T5.out.below b6)
      clear b6 B5 T5
      go_wp2_with fail
      refine (HK.out _ T6.out).mono ?_; rintro e w7 ⟨⟨v, LK, rfl, own, eL⟩, b7⟩
      have B7 := Lib.hid (step9 B6.out b7)
      have T7 := Lib.hid (T6.out.below b7)
      obtain ⟨aoK, capK, rfl, hrow⟩ := ownT_row own
      have RK_7 := Lib.hid hrow
      have EK := Lib.hid eL
      clear b7 B6 T6 own hrow eL
      go_wp2_with fail
      refine (rin_any LK aoK capK (by have := known_len EK.out; omega) X _ RK_7.out false (by rw [ML1.out LK EK.out]; simp only [Bool.false_eq_true, false_iff]; omega)).mono ?_; rintro e w8 ⟨rfl, b8⟩
      have B8 := Lib.hid (step9 B7.out b8)
      have T8 := Lib.hid (T7.out.below b8)
      have RK_8 := Lib.hid (RK_7.out.below b8)
      clear b8 B7 T7 RK_7
      go_wp2_with fail
      refine (rin_any LK aoK capK (by have := known_len EK.out; omega) U _ RK_8.out false (by rw [ML2.out LK EK.out]; simp only [Bool.false_eq_true, false_iff]; omega)).mono ?_; rintro e w9 ⟨rfl, b9⟩
      have B9 := Lib.hid (step9 B8.out b9)
      have T9 := Lib.hid (T8.out.below b9)
      have RK_9 := Lib.hid (RK_8.out.below b9)
      clear b9 B8 T8 RK_8
      go_wp2_with fail
      refine (HO.out _ T9.out).mono ?_; rintro e w10 ⟨⟨v, LM, rfl, own, eL⟩, b10⟩
      have B10 := Lib.hid (step9 B9.out b10)
      have T10 := Lib.hid (T9.out.below b10)
      have RK_10 := Lib.hid (RK_9.out.below b10)
      obtain ⟨aoM, capM, rfl, hrow⟩ := ownT_row own
      have RM_10 := Lib.hid hrow
      have EM := Lib.hid eL
      clear b10 B9 T9 RK_9 own hrow eL
      go_wp2_with fail
      refine (rin_any LM aoM capM (by have := of_len EM.out; omega) X _ RM_10.out false (by rw [MM1.out LM EM.out]; simp only [Bool.false_eq_true, false_iff]; omega)).mono ?_; rintro e w11 ⟨rfl, b11⟩
      have B11 := Lib.hid (step9 B10.out b11)
      have T11 := Lib.hid (T10.out.below b11)
      have RK_11 := Lib.hid (RK_10.out.below b11)
      have RM_11 := Lib.hid (RM_10.out.below b11)
      clear b11 B10 T10 RK_10 RM_10
      go_wp2_with fail
      refine (rin_any LM aoM capM (by have := of_len EM.out; omega) Z _ RM_11.out true (by rw [MM2.out ⟨by omega, by omega⟩ LM EM.out]; exact ⟨fun _ => ⟨by omega, by omega, by omega, by simp⟩, fun _ => rfl⟩)).mono ?_; rintro e w12 ⟨rfl, b12⟩
      have B12 := Lib.hid (step9 B11.out b12)
      have T12 := Lib.hid (T11.out.below b12)
      have RK_12 := Lib.hid (RK_11.out.below b12)
      have RM_12 := Lib.hid (RM_11.out.below b12)
      clear b12 B11 T11 RK_11 RM_11
      go_wp2_with fail
      refine (HA.out _ T12.out).mono ?_; rintro e w13 ⟨rfl, b13⟩
      have B13 := Lib.hid (step9 B12.out b13)
      have T13 := Lib.hid (T12.out.below b13)
      have RK_13 := Lib.hid (RK_12.out.below b13)
      have RM_13 := Lib.hid (RM_12.out.below b13)
      clear b13 B12 T12 RK_12 RM_12
      go_wp2_with fail
      go_ret
      exact ⟨by first | rfl | (simp; omega), B13.out⟩
  · skip
    go_enter Tryd.func6, Tryd.ntmps6
    go_wp2_with fail
    refine (H1.out _ T0.out).mono ?_; rintro e w1 ⟨rfl, b1⟩
    have B1 := Lib.hid b1
    have T1 := Lib.hid (T0.out.below b1)
    clear b1 T0
    go_wp2_with fail
    refine (H2.out _ T1.out).mono ?_; rintro e w2 ⟨rfl, b2⟩
    have B2 := Lib.hid (step9 B1.out b2)
    have T2 := Lib.hid (T1.out.below b2)
    clear b2 B1 T1
    go_wp2_with fail
    refine (H3.out _ T2.out).mono ?_; rintro e w3 ⟨rfl, b3⟩
    have B3 := Lib.hid (step9 B2.out b3)
    have T3 := Lib.hid (T2.out.below b3)
    clear b3 B2 T2
    go_wp2_with fail
    refine (H4.out _ T3.out).mono ?_; rintro e w4 ⟨rfl, b4⟩
    have B4 := Lib.hid (step9 B3.out b4)
    have T4 := Lib.hid (T3.out.below b4)
    clear b4 B3 T3
    go_wp2_with fail
    refine (H5.out _ T4.out).mono ?_; rintro e w5 ⟨rfl, b5⟩
    have B5 := Lib.hid (step9 B4.out b5)
    have T5 := Lib.hid (T4.out.below b5)
    clear b5 B4 T4
    go_wp2_with fail
    refine (HR.out _ T5.out).mono ?_; rintro e w6 ⟨rfl, b6⟩
    have B6 := Lib.hid (step9 B5.out b6)
    have T6 := Lib.hid (T5.out.below b6)
    clear b6 B5 T5
    go_wp2_with fail
    refine (HK.out _ T6.out).mono ?_; rintro e w7 ⟨⟨v, LK, rfl, own, eL⟩, b7⟩
    have B7 := Lib.hid (step9 B6.out b7)
    have T7 := Lib.hid (T6.out.below b7)
    obtain ⟨aoK, capK, rfl, hrow⟩ := ownT_row own
    have RK_7 := Lib.hid hrow
    have EK := Lib.hid eL
    clear b7 B6 T6 own hrow eL
    go_wp2_with fail
    refine (rin_any LK aoK capK (by have := known_len EK.out; omega) X _ RK_7.out false (by rw [ML1.out LK EK.out]; simp only [Bool.false_eq_true, false_iff]; omega)).mono ?_; rintro e w8 ⟨rfl, b8⟩
    have B8 := Lib.hid (step9 B7.out b8)
    have T8 := Lib.hid (T7.out.below b8)
    have RK_8 := Lib.hid (RK_7.out.below b8)
    clear b8 B7 T7 RK_7
    go_wp2_with fail
    refine (rin_any LK aoK capK (by have := known_len EK.out; omega) U _ RK_8.out false (by rw [ML2.out LK EK.out]; simp only [Bool.false_eq_true, false_iff]; omega)).mono ?_; rintro e w9 ⟨rfl, b9⟩
    have B9 := Lib.hid (step9 B8.out b9)
    have T9 := Lib.hid (T8.out.below b9)
    have RK_9 := Lib.hid (RK_8.out.below b9)
    clear b9 B8 T8 RK_8
    go_wp2_with fail
    refine (HO.out _ T9.out).mono ?_; rintro e w10 ⟨⟨v, LM, rfl, own, eL⟩, b10⟩
    have B10 := Lib.hid (step9 B9.out b10)
    have T10 := Lib.hid (T9.out.below b10)
    have RK_10 := Lib.hid (RK_9.out.below b10)
    obtain ⟨aoM, capM, rfl, hrow⟩ := ownT_row own
    have RM_10 := Lib.hid hrow
    have EM := Lib.hid eL
    clear b10 B9 T9 RK_9 own hrow eL
    go_wp2_with fail
    refine (rin_any LM aoM capM (by have := of_len EM.out; omega) X _ RM_10.out false (by rw [MM1.out LM EM.out]; simp only [Bool.false_eq_true, false_iff]; omega)).mono ?_; rintro e w11 ⟨rfl, b11⟩
    have B11 := Lib.hid (step9 B10.out b11)
    have T11 := Lib.hid (T10.out.below b11)
    have RK_11 := Lib.hid (RK_10.out.below b11)
    have RM_11 := Lib.hid (RM_10.out.below b11)
    clear b11 B10 T10 RK_10 RM_10
    go_wp2_with fail
    refine (rin_any LM aoM capM (by have := of_len EM.out; omega) Z _ RM_11.out false (by rw [MM2.out ⟨by omega, by omega⟩ LM EM.out]; simp only [Bool.false_eq_true, false_iff]; omega)).mono ?_; rintro e w12 ⟨rfl, b12⟩
    have B12 := Lib.hid (step9 B11.out b12)
    have T12 := Lib.hid (T11.out.below b12)
    have RK_12 := Lib.hid (RK_11.out.below b12)
    have RM_12 := Lib.hid (RM_11.out.below b12)
    clear b12 B11 T11 RK_11 RM_11
    go_wp2_with fail
    refine (HA.out _ T12.out).mono ?_; rintro e w13 ⟨rfl, b13⟩
    have B13 := Lib.hid (step9 B12.out b13)
    have T13 := Lib.hid (T12.out.below b13)
    have RK_13 := Lib.hid (RK_12.out.below b13)
    have RM_13 := Lib.hid (RM_12.out.below b13)
    clear b13 B12 T12 RK_12 RM_12
    go_wp2_with fail
    go_ret
    exact ⟨by first | rfl | (simp; omega), B13.out⟩
end Go.Proofs.YtbhcjdpachboaaaDoor.Pl
