/- SuiteImages answers true, where the name is none of a key. -/
import Derived.Test.YtedidoeoomijjaaDoorSuiteImagesA
namespace Go.Proofs.YtedidoeoomijjaaDoor.Pl
open Go.RowKit

set_option maxHeartbeats 16000000 in
set_option maxRecDepth 100000 in
theorem images_key1 (m name k n t : ByteArray) (h1 : 1 ≤ m.size) (h2 : m.size ≤ 64) (hl : longB k n t name = false) (hg : (keyP cryP true [] (bl name)).2 ≠ 0) (w : World) (hT : Tab w) :
    Calls Tryd.prog 6 #[.string m, .string name, .string k, .string n, .string t] w fun e w' => e = .returned (.bool true) ∧ Below w.heap.size w w' := by
  have T0 := Lib.hid hT
  have HN := Lib.hid (fun V h => new_terms ⟨#[]⟩ V h)
  have HG := Lib.hid (fun V h => new_bytes m h1 h2 V h)
  have HL := Lib.hid (fun V => long8_any k n t name V)
  obtain ⟨hk, hn, ht, hnm⟩ := longB_no hl
  rw [hl] at HL
  have HA := Lib.hid (fun V h => alive8_any V h)
  have K1 := Lib.hid (fun p V (h : SuiteAt V p true ⟨#[]⟩) => key8_any true ⟨#[]⟩ name hnm p V h)
  rw [show bl ⟨#[]⟩ = [] from rfl] at K1
  have K2 := Lib.hid (fun p V (h : SuiteAt V p false m) => key8_any false m name hnm p V h)
  have I1 := Lib.hid (fun p V (h : SuiteAt V p false m) => pimage8_any false m k hk p V h)
  have I2 := Lib.hid (fun p V (h : SuiteAt V p false m) => pimage8_any false m n hn p V h)
  have I3 := Lib.hid (fun p V (h : SuiteAt V p false m) => pimage8_any false m t ht p V h)
  have H1 := Lib.hid (fun p V (h : SuiteAt V p true ⟨#[]⟩) => hash8_any true ⟨#[]⟩ t ht p V h)
  have M1 := Lib.hid (fun p V (h : SuiteAt V p true ⟨#[]⟩) => mac8_any true ⟨#[]⟩ k hk t ht p V h)
  have SL1 := Lib.hid (fun p V (h : SuiteAt V p true ⟨#[]⟩) => seal8_any true ⟨#[]⟩ k hk n hn t ht p V h)
  have herr := key_err (c := cryP) (u := []) (m := bl m) (name := bl name)
  have hkim := fun a (h : keyP cryP true [] (bl name) = (a, 0)) => key_image (m := bl m) h
  have hks := key_short cryP true [] (bl name)
  obtain ⟨A, eA⟩ : ∃ A, A = keyP cryP true [] (bl name) := ⟨_, rfl⟩
  obtain ⟨C, eC⟩ : ∃ C, C = keyP cryP false (bl m) (bl name) := ⟨_, rfl⟩
  obtain ⟨KI, eK⟩ : ∃ C, C = image8P cryP false (bl m) (bl k) := ⟨_, rfl⟩
  obtain ⟨NI, eN⟩ : ∃ C, C = image8P cryP false (bl m) (bl n) := ⟨_, rfl⟩
  obtain ⟨TI, eT⟩ : ∃ C, C = image8P cryP false (bl m) (bl t) := ⟨_, rfl⟩
  rw [← eA] at K1 hg herr hks
  rw [← eC] at K2 herr hkim
  rw [← eK] at I1
  rw [← eN] at I2
  rw [← eT] at I3
  obtain ⟨a, g⟩ := A
  obtain ⟨c, h⟩ := C
  obtain ⟨ki, e1⟩ := KI
  obtain ⟨ni, e2⟩ := NI
  obtain ⟨ti, e3⟩ := TI
  dsimp only at herr hg
  subst herr
  unfold st2 at K1 K2 I1 I2 I3
  dsimp only at K1 K2 I1 I2 I3
  have q0 := neq0_no hg
  have q0' : ((g : Int) == 0) = false := by rw [beq_eq_false_iff_ne]; omega
  have zki := short_of (image_short (bl m) (bl k)) eK
  have zni := short_of (image_short (bl m) (bl n)) eN
  have zti := short_of (image_short (bl m) (bl t)) eT
  have eK' := bl_mk ki
  have eN' := bl_mk ni
  have eT' := bl_mk ti
  generalize (⟨a.toArray⟩ : ByteArray) = ab at *
  generalize (⟨c.toArray⟩ : ByteArray) = cb at *
  generalize (⟨ki.toArray⟩ : ByteArray) = kb at *
  generalize (⟨ni.toArray⟩ : ByteArray) = nb at *
  generalize (⟨ti.toArray⟩ : ByteArray) = tb at *
  subst eK'
  subst eN'
  subst eT'
  clear hT h1 h2 hl hg hkim hks eA eC hnm
  by_cases h1 : e1 = 0
  · subst h1
    by_cases h2 : e2 = 0
    · subst h2
      by_cases h3 : e3 = 0
      · subst h3
        have H2 := Lib.hid (fun p V (h : SuiteAt V p false m) => hash8_any false m tb zti p V h)
        have M2 := Lib.hid (fun p V (h : SuiteAt V p false m) => mac8_any false m kb zki tb zti p V h)
        have SL2 := Lib.hid (fun p V (h : SuiteAt V p false m) => seal8_any false m kb zki nb zni tb zti p V h)
        have hhi := fun x (h : hash8P cryP true (bl t) = (x, 0)) => hash_image eT.symm h
        have hmi := fun x (h : mac8P cryP true (bl k) (bl t) = (x, 0)) => mac_image eK.symm eT.symm h
        have hsi := fun x (h : seal8P cryP true (bl k) (bl n) (bl t) = (x, 0)) => seal_image eK.symm eN.symm eT.symm h
        have z1 := hash_short cryP true (bl t)
        have z2 := mac_short cryP true (bl k) (bl t)
        have z3 := seal_short cryP true (bl k) (bl n) (bl t)
        have z4 := seal_short cryP false (bl kb) (bl nb) (bl tb)
        obtain ⟨X1, eX1⟩ : ∃ C, C = hash8P cryP true (bl t) := ⟨_, rfl⟩
        obtain ⟨X2, eX2⟩ : ∃ C, C = mac8P cryP true (bl k) (bl t) := ⟨_, rfl⟩
        obtain ⟨X3, eX3⟩ : ∃ C, C = seal8P cryP true (bl k) (bl n) (bl t) := ⟨_, rfl⟩
        obtain ⟨Y1, eY1⟩ : ∃ C, C = hash8P cryP false (bl tb) := ⟨_, rfl⟩
        obtain ⟨Y2, eY2⟩ : ∃ C, C = mac8P cryP false (bl kb) (bl tb) := ⟨_, rfl⟩
        obtain ⟨Y3, eY3⟩ : ∃ C, C = seal8P cryP false (bl kb) (bl nb) (bl tb) := ⟨_, rfl⟩
        rw [← eX1] at H1 z1
        rw [← eX2] at M1 z2
        rw [← eX3] at SL1 z3
        rw [← eY1] at H2
        rw [← eY2] at M2
        rw [← eY3] at SL2 z4
        simp only [← eX1, ← eY1] at hhi
        simp only [← eX2, ← eY2] at hmi
        simp only [← eX3, ← eY3] at hsi
        obtain ⟨x1, i1⟩ := X1
        obtain ⟨x2, i2⟩ := X2
        obtain ⟨x3, i3⟩ := X3
        obtain ⟨y1, j1⟩ := Y1
        obtain ⟨y2, j2⟩ := Y2
        obtain ⟨y3, j3⟩ := Y3
        unfold st2 at H1 M1 SL1 H2 M2 SL2
        dsimp only at H1 M1 SL1 H2 M2 SL2
        have JH : Hid (i1 = 0 → ∀ p V, SuiteAt V p false m → Calls Tryd.prog 20 #[.pointer (some ⟨p, 0, none⟩), .string ⟨x1.toArray⟩, .string ⟨y1.toArray⟩, .int .i64 (j1 : Int)] V fun e w' => e = .returned (.bool true) ∧ Below V.heap.size V w') := Lib.hid (fun h p V hV => by
          subst h
          exact imaged8_any m ⟨x1.toArray⟩ ⟨y1.toArray⟩ (ba_size20 z1) j1 (by rw [bl_mk, bl_mk]; exact hhi x1 rfl) p V hV)
        have JM : Hid (i2 = 0 → ∀ p V, SuiteAt V p false m → Calls Tryd.prog 20 #[.pointer (some ⟨p, 0, none⟩), .string ⟨x2.toArray⟩, .string ⟨y2.toArray⟩, .int .i64 (j2 : Int)] V fun e w' => e = .returned (.bool true) ∧ Below V.heap.size V w') := Lib.hid (fun h p V hV => by
          subst h
          exact imaged8_any m ⟨x2.toArray⟩ ⟨y2.toArray⟩ (ba_size20 z2) j2 (by rw [bl_mk, bl_mk]; exact hmi x2 rfl) p V hV)
        have JS : Hid (i3 = 0 → ∀ p V, SuiteAt V p false m → Calls Tryd.prog 20 #[.pointer (some ⟨p, 0, none⟩), .string ⟨x3.toArray⟩, .string ⟨y3.toArray⟩, .int .i64 (j3 : Int)] V fun e w' => e = .returned (.bool true) ∧ Below V.heap.size V w') := Lib.hid (fun h p V hV => by
          subst h
          exact imaged8_any m ⟨x3.toArray⟩ ⟨y3.toArray⟩ (ba_size20 z3) j3 (by rw [bl_mk, bl_mk]; exact hsi x3 rfl) p V hV)
        have O1 : Hid (i3 = 0 → ∀ p V, SuiteAt V p true ⟨#[]⟩ → Calls Tryd.prog 13 #[.pointer (some ⟨p, 0, none⟩), .string k, .string ⟨x3.toArray⟩] V fun e w' => e = .returned (.tuple #[.string t, .int .i64 ((0 : Nat) : Int)]) ∧ Below V.heap.size V w') := Lib.hid (fun h p V hV => by
          subst h
          have := open8_any true ⟨#[]⟩ k hk ⟨x3.toArray⟩ (ba_size20 z3) p V hV
          rwa [bl_mk x3, (back8 eX3.symm).1, st2_bl] at this)
        have O2 : Hid (j3 = 0 → ∀ p V, SuiteAt V p false m → Calls Tryd.prog 13 #[.pointer (some ⟨p, 0, none⟩), .string kb, .string ⟨y3.toArray⟩] V fun e w' => e = .returned (.tuple #[.string tb, .int .i64 ((0 : Nat) : Int)]) ∧ Below V.heap.size V w') := Lib.hid (fun h p V hV => by
          subst h
          have := open8_any false m kb zki ⟨y3.toArray⟩ (ba_size20 z4) p V hV
          rwa [bl_mk y3, (back8 eY3.symm).1, st2_bl] at this)
        have JT := Lib.hid (fun p V (h : SuiteAt V p false m) => imaged8_any m t tb ht 0 eT.symm p V h)
        generalize (⟨x1.toArray⟩ : ByteArray) = xa at *
        generalize (⟨x2.toArray⟩ : ByteArray) = xb at *
        generalize (⟨x3.toArray⟩ : ByteArray) = xc at *
        generalize (⟨y1.toArray⟩ : ByteArray) = ya at *
        generalize (⟨y2.toArray⟩ : ByteArray) = yb at *
        generalize (⟨y3.toArray⟩ : ByteArray) = yc at *
        clear hhi hmi hsi z1 z2 z3 z4 eX1 eX2 eX3 eY1 eY2 eY3 eK eN eT zki zni zti hk hn ht
        by_cases hi1 : i1 = 0
        · subst hi1
          have JH1 := Lib.hid (JH.out rfl)
          by_cases hi2 : i2 = 0
          · subst hi2
            have JM1 := Lib.hid (JM.out rfl)
            by_cases hi3 : i3 = 0
            · subst hi3
              have JS1 := Lib.hid (JS.out rfl)
              have O11 := Lib.hid (O1.out rfl)
              by_cases hj3 : j3 = 0
              · subst hj3
                have O21 := Lib.hid (O2.out rfl)
                go_enter Tryd.func6, Tryd.ntmps6
                go_wp2_with fail
                refine (HN.out _ T0.out).mono ?_; rintro e w1 ⟨⟨p, rfl, s1⟩, b1⟩
                have B1 := Lib.hid b1
                have T1 := Lib.hid (T0.out.below b1)
                have S1 := Lib.hid s1
                clear b1 s1
                go_wp2_with fail
                refine (HG.out _ T1.out).mono ?_; rintro e w2 ⟨⟨q, rfl, s2⟩, b2⟩
                have B2 := Lib.hid (below_step B1.out b2)
                have T2 := Lib.hid (T1.out.below b2)
                have S2 := Lib.hid (S1.out.below b2)
                have G2 := Lib.hid s2
                clear b2 s2
                go_wp2_with fail
                refine (HL.out _).mono ?_; rintro e w3 ⟨rfl, rfl⟩
                go_wp2_with fail
                refine (K1.out _ _ S2.out).mono ?_; rintro e w4 ⟨rfl, b4⟩
                have B4 := Lib.hid (below_step B2.out b4)
                have T4 := Lib.hid (T2.out.below b4)
                have S4 := Lib.hid (S2.out.below b4)
                have G4 := Lib.hid (G2.out.below b4)
                clear b4
                go_wp2_with fail
                refine (K2.out _ _ G4.out).mono ?_; rintro e w5 ⟨rfl, b5⟩
                have B5 := Lib.hid (below_step B4.out b5)
                have T5 := Lib.hid (T4.out.below b5)
                have S5 := Lib.hid (S4.out.below b5)
                have G5 := Lib.hid (G4.out.below b5)
                clear b5
                go_wp2_with fail
                refine (I1.out _ _ G5.out).mono ?_; rintro e w6 ⟨rfl, b6⟩
                have B6 := Lib.hid (below_step B5.out b6)
                have T6 := Lib.hid (T5.out.below b6)
                have S6 := Lib.hid (S5.out.below b6)
                have G6 := Lib.hid (G5.out.below b6)
                clear b6
                go_wp2_with fail
                refine (I2.out _ _ G6.out).mono ?_; rintro e w7 ⟨rfl, b7⟩
                have B7 := Lib.hid (below_step B6.out b7)
                have T7 := Lib.hid (T6.out.below b7)
                have S7 := Lib.hid (S6.out.below b7)
                have G7 := Lib.hid (G6.out.below b7)
                clear b7
                go_wp2_with fail
                refine (I3.out _ _ G7.out).mono ?_; rintro e w8 ⟨rfl, b8⟩
                have B8 := Lib.hid (below_step B7.out b8)
                have T8 := Lib.hid (T7.out.below b8)
                have S8 := Lib.hid (S7.out.below b8)
                have G8 := Lib.hid (G7.out.below b8)
                clear b8
                go_wp2_with fail
                refine (H1.out _ _ S8.out).mono ?_; rintro e w9 ⟨rfl, b9⟩
                have B9 := Lib.hid (below_step B8.out b9)
                have T9 := Lib.hid (T8.out.below b9)
                have S9 := Lib.hid (S8.out.below b9)
                have G9 := Lib.hid (G8.out.below b9)
                clear b9
                go_wp2_with fail
                refine (H2.out _ _ G9.out).mono ?_; rintro e w10 ⟨rfl, b10⟩
                have B10 := Lib.hid (below_step B9.out b10)
                have T10 := Lib.hid (T9.out.below b10)
                have S10 := Lib.hid (S9.out.below b10)
                have G10 := Lib.hid (G9.out.below b10)
                clear b10
                go_wp2_with fail
                refine (JH1.out _ _ G10.out).mono ?_; rintro e w11 ⟨rfl, b11⟩
                have B11 := Lib.hid (below_step B10.out b11)
                have T11 := Lib.hid (T10.out.below b11)
                have S11 := Lib.hid (S10.out.below b11)
                have G11 := Lib.hid (G10.out.below b11)
                clear b11
                go_wp2_with fail
                refine (M1.out _ _ S11.out).mono ?_; rintro e w12 ⟨rfl, b12⟩
                have B12 := Lib.hid (below_step B11.out b12)
                have T12 := Lib.hid (T11.out.below b12)
                have S12 := Lib.hid (S11.out.below b12)
                have G12 := Lib.hid (G11.out.below b12)
                clear b12
                go_wp2_with fail
                refine (M2.out _ _ G12.out).mono ?_; rintro e w13 ⟨rfl, b13⟩
                have B13 := Lib.hid (below_step B12.out b13)
                have T13 := Lib.hid (T12.out.below b13)
                have S13 := Lib.hid (S12.out.below b13)
                have G13 := Lib.hid (G12.out.below b13)
                clear b13
                go_wp2_with fail
                refine (JM1.out _ _ G13.out).mono ?_; rintro e w14 ⟨rfl, b14⟩
                have B14 := Lib.hid (below_step B13.out b14)
                have T14 := Lib.hid (T13.out.below b14)
                have S14 := Lib.hid (S13.out.below b14)
                have G14 := Lib.hid (G13.out.below b14)
                clear b14
                go_wp2_with fail
                refine (SL1.out _ _ S14.out).mono ?_; rintro e w15 ⟨rfl, b15⟩
                have B15 := Lib.hid (below_step B14.out b15)
                have T15 := Lib.hid (T14.out.below b15)
                have S15 := Lib.hid (S14.out.below b15)
                have G15 := Lib.hid (G14.out.below b15)
                clear b15
                go_wp2_with fail
                refine (SL2.out _ _ G15.out).mono ?_; rintro e w16 ⟨rfl, b16⟩
                have B16 := Lib.hid (below_step B15.out b16)
                have T16 := Lib.hid (T15.out.below b16)
                have S16 := Lib.hid (S15.out.below b16)
                have G16 := Lib.hid (G15.out.below b16)
                clear b16
                go_wp2_with fail
                refine (JS1.out _ _ G16.out).mono ?_; rintro e w17 ⟨rfl, b17⟩
                have B17 := Lib.hid (below_step B16.out b17)
                have T17 := Lib.hid (T16.out.below b17)
                have S17 := Lib.hid (S16.out.below b17)
                have G17 := Lib.hid (G16.out.below b17)
                clear b17
                go_wp2_with fail
                refine (O11.out _ _ S17.out).mono ?_; rintro e w18 ⟨rfl, b18⟩
                have B18 := Lib.hid (below_step B17.out b18)
                have T18 := Lib.hid (T17.out.below b18)
                have S18 := Lib.hid (S17.out.below b18)
                have G18 := Lib.hid (G17.out.below b18)
                clear b18
                go_wp2_with fail
                refine (O21.out _ _ G18.out).mono ?_; rintro e w19 ⟨rfl, b19⟩
                have B19 := Lib.hid (below_step B18.out b19)
                have T19 := Lib.hid (T18.out.below b19)
                have S19 := Lib.hid (S18.out.below b19)
                have G19 := Lib.hid (G18.out.below b19)
                clear b19
                go_wp2_with fail
                refine (JT.out _ _ G19.out).mono ?_; rintro e w20 ⟨rfl, b20⟩
                have B20 := Lib.hid (below_step B19.out b20)
                have T20 := Lib.hid (T19.out.below b20)
                have S20 := Lib.hid (S19.out.below b20)
                have G20 := Lib.hid (G19.out.below b20)
                clear b20
                go_wp2_with fail
                refine (HA.out _ T20.out).mono ?_; rintro e w21 ⟨rfl, b21⟩
                have B21 := Lib.hid (below_step B20.out b21)
                have T21 := Lib.hid (T20.out.below b21)
                have S21 := Lib.hid (S20.out.below b21)
                have G21 := Lib.hid (G20.out.below b21)
                clear b21
                go_wp2_with fail
                go_ret
                exact ⟨rfl, B21.out⟩
              · have q3 := neq0_no hj3
                clear hj3 O2
                go_enter Tryd.func6, Tryd.ntmps6
                go_wp2_with fail
                refine (HN.out _ T0.out).mono ?_; rintro e w1 ⟨⟨p, rfl, s1⟩, b1⟩
                have B1 := Lib.hid b1
                have T1 := Lib.hid (T0.out.below b1)
                have S1 := Lib.hid s1
                clear b1 s1
                go_wp2_with fail
                refine (HG.out _ T1.out).mono ?_; rintro e w2 ⟨⟨q, rfl, s2⟩, b2⟩
                have B2 := Lib.hid (below_step B1.out b2)
                have T2 := Lib.hid (T1.out.below b2)
                have S2 := Lib.hid (S1.out.below b2)
                have G2 := Lib.hid s2
                clear b2 s2
                go_wp2_with fail
                refine (HL.out _).mono ?_; rintro e w3 ⟨rfl, rfl⟩
                go_wp2_with fail
                refine (K1.out _ _ S2.out).mono ?_; rintro e w4 ⟨rfl, b4⟩
                have B4 := Lib.hid (below_step B2.out b4)
                have T4 := Lib.hid (T2.out.below b4)
                have S4 := Lib.hid (S2.out.below b4)
                have G4 := Lib.hid (G2.out.below b4)
                clear b4
                go_wp2_with fail
                refine (K2.out _ _ G4.out).mono ?_; rintro e w5 ⟨rfl, b5⟩
                have B5 := Lib.hid (below_step B4.out b5)
                have T5 := Lib.hid (T4.out.below b5)
                have S5 := Lib.hid (S4.out.below b5)
                have G5 := Lib.hid (G4.out.below b5)
                clear b5
                go_wp2_with fail
                refine (I1.out _ _ G5.out).mono ?_; rintro e w6 ⟨rfl, b6⟩
                have B6 := Lib.hid (below_step B5.out b6)
                have T6 := Lib.hid (T5.out.below b6)
                have S6 := Lib.hid (S5.out.below b6)
                have G6 := Lib.hid (G5.out.below b6)
                clear b6
                go_wp2_with fail
                refine (I2.out _ _ G6.out).mono ?_; rintro e w7 ⟨rfl, b7⟩
                have B7 := Lib.hid (below_step B6.out b7)
                have T7 := Lib.hid (T6.out.below b7)
                have S7 := Lib.hid (S6.out.below b7)
                have G7 := Lib.hid (G6.out.below b7)
                clear b7
                go_wp2_with fail
                refine (I3.out _ _ G7.out).mono ?_; rintro e w8 ⟨rfl, b8⟩
                have B8 := Lib.hid (below_step B7.out b8)
                have T8 := Lib.hid (T7.out.below b8)
                have S8 := Lib.hid (S7.out.below b8)
                have G8 := Lib.hid (G7.out.below b8)
                clear b8
                go_wp2_with fail
                refine (H1.out _ _ S8.out).mono ?_; rintro e w9 ⟨rfl, b9⟩
                have B9 := Lib.hid (below_step B8.out b9)
                have T9 := Lib.hid (T8.out.below b9)
                have S9 := Lib.hid (S8.out.below b9)
                have G9 := Lib.hid (G8.out.below b9)
                clear b9
                go_wp2_with fail
                refine (H2.out _ _ G9.out).mono ?_; rintro e w10 ⟨rfl, b10⟩
                have B10 := Lib.hid (below_step B9.out b10)
                have T10 := Lib.hid (T9.out.below b10)
                have S10 := Lib.hid (S9.out.below b10)
                have G10 := Lib.hid (G9.out.below b10)
                clear b10
                go_wp2_with fail
                refine (JH1.out _ _ G10.out).mono ?_; rintro e w11 ⟨rfl, b11⟩
                have B11 := Lib.hid (below_step B10.out b11)
                have T11 := Lib.hid (T10.out.below b11)
                have S11 := Lib.hid (S10.out.below b11)
                have G11 := Lib.hid (G10.out.below b11)
                clear b11
                go_wp2_with fail
                refine (M1.out _ _ S11.out).mono ?_; rintro e w12 ⟨rfl, b12⟩
                have B12 := Lib.hid (below_step B11.out b12)
                have T12 := Lib.hid (T11.out.below b12)
                have S12 := Lib.hid (S11.out.below b12)
                have G12 := Lib.hid (G11.out.below b12)
                clear b12
                go_wp2_with fail
                refine (M2.out _ _ G12.out).mono ?_; rintro e w13 ⟨rfl, b13⟩
                have B13 := Lib.hid (below_step B12.out b13)
                have T13 := Lib.hid (T12.out.below b13)
                have S13 := Lib.hid (S12.out.below b13)
                have G13 := Lib.hid (G12.out.below b13)
                clear b13
                go_wp2_with fail
                refine (JM1.out _ _ G13.out).mono ?_; rintro e w14 ⟨rfl, b14⟩
                have B14 := Lib.hid (below_step B13.out b14)
                have T14 := Lib.hid (T13.out.below b14)
                have S14 := Lib.hid (S13.out.below b14)
                have G14 := Lib.hid (G13.out.below b14)
                clear b14
                go_wp2_with fail
                refine (SL1.out _ _ S14.out).mono ?_; rintro e w15 ⟨rfl, b15⟩
                have B15 := Lib.hid (below_step B14.out b15)
                have T15 := Lib.hid (T14.out.below b15)
                have S15 := Lib.hid (S14.out.below b15)
                have G15 := Lib.hid (G14.out.below b15)
                clear b15
                go_wp2_with fail
                refine (SL2.out _ _ G15.out).mono ?_; rintro e w16 ⟨rfl, b16⟩
                have B16 := Lib.hid (below_step B15.out b16)
                have T16 := Lib.hid (T15.out.below b16)
                have S16 := Lib.hid (S15.out.below b16)
                have G16 := Lib.hid (G15.out.below b16)
                clear b16
                go_wp2_with fail
                refine (JS1.out _ _ G16.out).mono ?_; rintro e w17 ⟨rfl, b17⟩
                have B17 := Lib.hid (below_step B16.out b17)
                have T17 := Lib.hid (T16.out.below b17)
                have S17 := Lib.hid (S16.out.below b17)
                have G17 := Lib.hid (G16.out.below b17)
                clear b17
                go_wp2_with fail
                refine (HA.out _ T17.out).mono ?_; rintro e w18 ⟨rfl, b18⟩
                have B18 := Lib.hid (below_step B17.out b18)
                have T18 := Lib.hid (T17.out.below b18)
                have S18 := Lib.hid (S17.out.below b18)
                have G18 := Lib.hid (G17.out.below b18)
                clear b18
                go_wp2_with fail
                go_ret
                exact ⟨rfl, B18.out⟩
            · have q4 := neq0_no hi3
              have q5 : ((i3 : Int) == 0) = false := by rw [beq_eq_false_iff_ne]; omega
              clear hi3 JS O1
              go_enter Tryd.func6, Tryd.ntmps6
              go_wp2_with fail
              refine (HN.out _ T0.out).mono ?_; rintro e w1 ⟨⟨p, rfl, s1⟩, b1⟩
              have B1 := Lib.hid b1
              have T1 := Lib.hid (T0.out.below b1)
              have S1 := Lib.hid s1
              clear b1 s1
              go_wp2_with fail
              refine (HG.out _ T1.out).mono ?_; rintro e w2 ⟨⟨q, rfl, s2⟩, b2⟩
              have B2 := Lib.hid (below_step B1.out b2)
              have T2 := Lib.hid (T1.out.below b2)
              have S2 := Lib.hid (S1.out.below b2)
              have G2 := Lib.hid s2
              clear b2 s2
              go_wp2_with fail
              refine (HL.out _).mono ?_; rintro e w3 ⟨rfl, rfl⟩
              go_wp2_with fail
              refine (K1.out _ _ S2.out).mono ?_; rintro e w4 ⟨rfl, b4⟩
              have B4 := Lib.hid (below_step B2.out b4)
              have T4 := Lib.hid (T2.out.below b4)
              have S4 := Lib.hid (S2.out.below b4)
              have G4 := Lib.hid (G2.out.below b4)
              clear b4
              go_wp2_with fail
              refine (K2.out _ _ G4.out).mono ?_; rintro e w5 ⟨rfl, b5⟩
              have B5 := Lib.hid (below_step B4.out b5)
              have T5 := Lib.hid (T4.out.below b5)
              have S5 := Lib.hid (S4.out.below b5)
              have G5 := Lib.hid (G4.out.below b5)
              clear b5
              go_wp2_with fail
              refine (I1.out _ _ G5.out).mono ?_; rintro e w6 ⟨rfl, b6⟩
              have B6 := Lib.hid (below_step B5.out b6)
              have T6 := Lib.hid (T5.out.below b6)
              have S6 := Lib.hid (S5.out.below b6)
              have G6 := Lib.hid (G5.out.below b6)
              clear b6
              go_wp2_with fail
              refine (I2.out _ _ G6.out).mono ?_; rintro e w7 ⟨rfl, b7⟩
              have B7 := Lib.hid (below_step B6.out b7)
              have T7 := Lib.hid (T6.out.below b7)
              have S7 := Lib.hid (S6.out.below b7)
              have G7 := Lib.hid (G6.out.below b7)
              clear b7
              go_wp2_with fail
              refine (I3.out _ _ G7.out).mono ?_; rintro e w8 ⟨rfl, b8⟩
              have B8 := Lib.hid (below_step B7.out b8)
              have T8 := Lib.hid (T7.out.below b8)
              have S8 := Lib.hid (S7.out.below b8)
              have G8 := Lib.hid (G7.out.below b8)
              clear b8
              go_wp2_with fail
              refine (H1.out _ _ S8.out).mono ?_; rintro e w9 ⟨rfl, b9⟩
              have B9 := Lib.hid (below_step B8.out b9)
              have T9 := Lib.hid (T8.out.below b9)
              have S9 := Lib.hid (S8.out.below b9)
              have G9 := Lib.hid (G8.out.below b9)
              clear b9
              go_wp2_with fail
              refine (H2.out _ _ G9.out).mono ?_; rintro e w10 ⟨rfl, b10⟩
              have B10 := Lib.hid (below_step B9.out b10)
              have T10 := Lib.hid (T9.out.below b10)
              have S10 := Lib.hid (S9.out.below b10)
              have G10 := Lib.hid (G9.out.below b10)
              clear b10
              go_wp2_with fail
              refine (JH1.out _ _ G10.out).mono ?_; rintro e w11 ⟨rfl, b11⟩
              have B11 := Lib.hid (below_step B10.out b11)
              have T11 := Lib.hid (T10.out.below b11)
              have S11 := Lib.hid (S10.out.below b11)
              have G11 := Lib.hid (G10.out.below b11)
              clear b11
              go_wp2_with fail
              refine (M1.out _ _ S11.out).mono ?_; rintro e w12 ⟨rfl, b12⟩
              have B12 := Lib.hid (below_step B11.out b12)
              have T12 := Lib.hid (T11.out.below b12)
              have S12 := Lib.hid (S11.out.below b12)
              have G12 := Lib.hid (G11.out.below b12)
              clear b12
              go_wp2_with fail
              refine (M2.out _ _ G12.out).mono ?_; rintro e w13 ⟨rfl, b13⟩
              have B13 := Lib.hid (below_step B12.out b13)
              have T13 := Lib.hid (T12.out.below b13)
              have S13 := Lib.hid (S12.out.below b13)
              have G13 := Lib.hid (G12.out.below b13)
              clear b13
              go_wp2_with fail
              refine (JM1.out _ _ G13.out).mono ?_; rintro e w14 ⟨rfl, b14⟩
              have B14 := Lib.hid (below_step B13.out b14)
              have T14 := Lib.hid (T13.out.below b14)
              have S14 := Lib.hid (S13.out.below b14)
              have G14 := Lib.hid (G13.out.below b14)
              clear b14
              go_wp2_with fail
              refine (SL1.out _ _ S14.out).mono ?_; rintro e w15 ⟨rfl, b15⟩
              have B15 := Lib.hid (below_step B14.out b15)
              have T15 := Lib.hid (T14.out.below b15)
              have S15 := Lib.hid (S14.out.below b15)
              have G15 := Lib.hid (G14.out.below b15)
              clear b15
              go_wp2_with fail
              refine (SL2.out _ _ G15.out).mono ?_; rintro e w16 ⟨rfl, b16⟩
              have B16 := Lib.hid (below_step B15.out b16)
              have T16 := Lib.hid (T15.out.below b16)
              have S16 := Lib.hid (S15.out.below b16)
              have G16 := Lib.hid (G15.out.below b16)
              clear b16
              go_wp2_with fail
              refine (HA.out _ T16.out).mono ?_; rintro e w17 ⟨rfl, b17⟩
              have B17 := Lib.hid (below_step B16.out b17)
              have T17 := Lib.hid (T16.out.below b17)
              have S17 := Lib.hid (S16.out.below b17)
              have G17 := Lib.hid (G16.out.below b17)
              clear b17
              go_wp2_with fail
              go_ret
              exact ⟨rfl, B17.out⟩
          · have q2 : ((i2 : Int) == 0) = false := by rw [beq_eq_false_iff_ne]; omega
            clear hi2 JM
            by_cases hi3 : i3 = 0
            · subst hi3
              have JS1 := Lib.hid (JS.out rfl)
              have O11 := Lib.hid (O1.out rfl)
              by_cases hj3 : j3 = 0
              · subst hj3
                have O21 := Lib.hid (O2.out rfl)
                go_enter Tryd.func6, Tryd.ntmps6
                go_wp2_with fail
                refine (HN.out _ T0.out).mono ?_; rintro e w1 ⟨⟨p, rfl, s1⟩, b1⟩
                have B1 := Lib.hid b1
                have T1 := Lib.hid (T0.out.below b1)
                have S1 := Lib.hid s1
                clear b1 s1
                go_wp2_with fail
                refine (HG.out _ T1.out).mono ?_; rintro e w2 ⟨⟨q, rfl, s2⟩, b2⟩
                have B2 := Lib.hid (below_step B1.out b2)
                have T2 := Lib.hid (T1.out.below b2)
                have S2 := Lib.hid (S1.out.below b2)
                have G2 := Lib.hid s2
                clear b2 s2
                go_wp2_with fail
                refine (HL.out _).mono ?_; rintro e w3 ⟨rfl, rfl⟩
                go_wp2_with fail
                refine (K1.out _ _ S2.out).mono ?_; rintro e w4 ⟨rfl, b4⟩
                have B4 := Lib.hid (below_step B2.out b4)
                have T4 := Lib.hid (T2.out.below b4)
                have S4 := Lib.hid (S2.out.below b4)
                have G4 := Lib.hid (G2.out.below b4)
                clear b4
                go_wp2_with fail
                refine (K2.out _ _ G4.out).mono ?_; rintro e w5 ⟨rfl, b5⟩
                have B5 := Lib.hid (below_step B4.out b5)
                have T5 := Lib.hid (T4.out.below b5)
                have S5 := Lib.hid (S4.out.below b5)
                have G5 := Lib.hid (G4.out.below b5)
                clear b5
                go_wp2_with fail
                refine (I1.out _ _ G5.out).mono ?_; rintro e w6 ⟨rfl, b6⟩
                have B6 := Lib.hid (below_step B5.out b6)
                have T6 := Lib.hid (T5.out.below b6)
                have S6 := Lib.hid (S5.out.below b6)
                have G6 := Lib.hid (G5.out.below b6)
                clear b6
                go_wp2_with fail
                refine (I2.out _ _ G6.out).mono ?_; rintro e w7 ⟨rfl, b7⟩
                have B7 := Lib.hid (below_step B6.out b7)
                have T7 := Lib.hid (T6.out.below b7)
                have S7 := Lib.hid (S6.out.below b7)
                have G7 := Lib.hid (G6.out.below b7)
                clear b7
                go_wp2_with fail
                refine (I3.out _ _ G7.out).mono ?_; rintro e w8 ⟨rfl, b8⟩
                have B8 := Lib.hid (below_step B7.out b8)
                have T8 := Lib.hid (T7.out.below b8)
                have S8 := Lib.hid (S7.out.below b8)
                have G8 := Lib.hid (G7.out.below b8)
                clear b8
                go_wp2_with fail
                refine (H1.out _ _ S8.out).mono ?_; rintro e w9 ⟨rfl, b9⟩
                have B9 := Lib.hid (below_step B8.out b9)
                have T9 := Lib.hid (T8.out.below b9)
                have S9 := Lib.hid (S8.out.below b9)
                have G9 := Lib.hid (G8.out.below b9)
                clear b9
                go_wp2_with fail
                refine (H2.out _ _ G9.out).mono ?_; rintro e w10 ⟨rfl, b10⟩
                have B10 := Lib.hid (below_step B9.out b10)
                have T10 := Lib.hid (T9.out.below b10)
                have S10 := Lib.hid (S9.out.below b10)
                have G10 := Lib.hid (G9.out.below b10)
                clear b10
                go_wp2_with fail
                refine (JH1.out _ _ G10.out).mono ?_; rintro e w11 ⟨rfl, b11⟩
                have B11 := Lib.hid (below_step B10.out b11)
                have T11 := Lib.hid (T10.out.below b11)
                have S11 := Lib.hid (S10.out.below b11)
                have G11 := Lib.hid (G10.out.below b11)
                clear b11
                go_wp2_with fail
                refine (M1.out _ _ S11.out).mono ?_; rintro e w12 ⟨rfl, b12⟩
                have B12 := Lib.hid (below_step B11.out b12)
                have T12 := Lib.hid (T11.out.below b12)
                have S12 := Lib.hid (S11.out.below b12)
                have G12 := Lib.hid (G11.out.below b12)
                clear b12
                go_wp2_with fail
                refine (M2.out _ _ G12.out).mono ?_; rintro e w13 ⟨rfl, b13⟩
                have B13 := Lib.hid (below_step B12.out b13)
                have T13 := Lib.hid (T12.out.below b13)
                have S13 := Lib.hid (S12.out.below b13)
                have G13 := Lib.hid (G12.out.below b13)
                clear b13
                go_wp2_with fail
                refine (SL1.out _ _ S13.out).mono ?_; rintro e w14 ⟨rfl, b14⟩
                have B14 := Lib.hid (below_step B13.out b14)
                have T14 := Lib.hid (T13.out.below b14)
                have S14 := Lib.hid (S13.out.below b14)
                have G14 := Lib.hid (G13.out.below b14)
                clear b14
                go_wp2_with fail
                refine (SL2.out _ _ G14.out).mono ?_; rintro e w15 ⟨rfl, b15⟩
                have B15 := Lib.hid (below_step B14.out b15)
                have T15 := Lib.hid (T14.out.below b15)
                have S15 := Lib.hid (S14.out.below b15)
                have G15 := Lib.hid (G14.out.below b15)
                clear b15
                go_wp2_with fail
                refine (JS1.out _ _ G15.out).mono ?_; rintro e w16 ⟨rfl, b16⟩
                have B16 := Lib.hid (below_step B15.out b16)
                have T16 := Lib.hid (T15.out.below b16)
                have S16 := Lib.hid (S15.out.below b16)
                have G16 := Lib.hid (G15.out.below b16)
                clear b16
                go_wp2_with fail
                refine (O11.out _ _ S16.out).mono ?_; rintro e w17 ⟨rfl, b17⟩
                have B17 := Lib.hid (below_step B16.out b17)
                have T17 := Lib.hid (T16.out.below b17)
                have S17 := Lib.hid (S16.out.below b17)
                have G17 := Lib.hid (G16.out.below b17)
                clear b17
                go_wp2_with fail
                refine (O21.out _ _ G17.out).mono ?_; rintro e w18 ⟨rfl, b18⟩
                have B18 := Lib.hid (below_step B17.out b18)
                have T18 := Lib.hid (T17.out.below b18)
                have S18 := Lib.hid (S17.out.below b18)
                have G18 := Lib.hid (G17.out.below b18)
                clear b18
                go_wp2_with fail
                refine (JT.out _ _ G18.out).mono ?_; rintro e w19 ⟨rfl, b19⟩
                have B19 := Lib.hid (below_step B18.out b19)
                have T19 := Lib.hid (T18.out.below b19)
                have S19 := Lib.hid (S18.out.below b19)
                have G19 := Lib.hid (G18.out.below b19)
                clear b19
                go_wp2_with fail
                refine (HA.out _ T19.out).mono ?_; rintro e w20 ⟨rfl, b20⟩
                have B20 := Lib.hid (below_step B19.out b20)
                have T20 := Lib.hid (T19.out.below b20)
                have S20 := Lib.hid (S19.out.below b20)
                have G20 := Lib.hid (G19.out.below b20)
                clear b20
                go_wp2_with fail
                go_ret
                exact ⟨rfl, B20.out⟩
              · have q3 := neq0_no hj3
                clear hj3 O2
                go_enter Tryd.func6, Tryd.ntmps6
                go_wp2_with fail
                refine (HN.out _ T0.out).mono ?_; rintro e w1 ⟨⟨p, rfl, s1⟩, b1⟩
                have B1 := Lib.hid b1
                have T1 := Lib.hid (T0.out.below b1)
                have S1 := Lib.hid s1
                clear b1 s1
                go_wp2_with fail
                refine (HG.out _ T1.out).mono ?_; rintro e w2 ⟨⟨q, rfl, s2⟩, b2⟩
                have B2 := Lib.hid (below_step B1.out b2)
                have T2 := Lib.hid (T1.out.below b2)
                have S2 := Lib.hid (S1.out.below b2)
                have G2 := Lib.hid s2
                clear b2 s2
                go_wp2_with fail
                refine (HL.out _).mono ?_; rintro e w3 ⟨rfl, rfl⟩
                go_wp2_with fail
                refine (K1.out _ _ S2.out).mono ?_; rintro e w4 ⟨rfl, b4⟩
                have B4 := Lib.hid (below_step B2.out b4)
                have T4 := Lib.hid (T2.out.below b4)
                have S4 := Lib.hid (S2.out.below b4)
                have G4 := Lib.hid (G2.out.below b4)
                clear b4
                go_wp2_with fail
                refine (K2.out _ _ G4.out).mono ?_; rintro e w5 ⟨rfl, b5⟩
                have B5 := Lib.hid (below_step B4.out b5)
                have T5 := Lib.hid (T4.out.below b5)
                have S5 := Lib.hid (S4.out.below b5)
                have G5 := Lib.hid (G4.out.below b5)
                clear b5
                go_wp2_with fail
                refine (I1.out _ _ G5.out).mono ?_; rintro e w6 ⟨rfl, b6⟩
                have B6 := Lib.hid (below_step B5.out b6)
                have T6 := Lib.hid (T5.out.below b6)
                have S6 := Lib.hid (S5.out.below b6)
                have G6 := Lib.hid (G5.out.below b6)
                clear b6
                go_wp2_with fail
                refine (I2.out _ _ G6.out).mono ?_; rintro e w7 ⟨rfl, b7⟩
                have B7 := Lib.hid (below_step B6.out b7)
                have T7 := Lib.hid (T6.out.below b7)
                have S7 := Lib.hid (S6.out.below b7)
                have G7 := Lib.hid (G6.out.below b7)
                clear b7
                go_wp2_with fail
                refine (I3.out _ _ G7.out).mono ?_; rintro e w8 ⟨rfl, b8⟩
                have B8 := Lib.hid (below_step B7.out b8)
                have T8 := Lib.hid (T7.out.below b8)
                have S8 := Lib.hid (S7.out.below b8)
                have G8 := Lib.hid (G7.out.below b8)
                clear b8
                go_wp2_with fail
                refine (H1.out _ _ S8.out).mono ?_; rintro e w9 ⟨rfl, b9⟩
                have B9 := Lib.hid (below_step B8.out b9)
                have T9 := Lib.hid (T8.out.below b9)
                have S9 := Lib.hid (S8.out.below b9)
                have G9 := Lib.hid (G8.out.below b9)
                clear b9
                go_wp2_with fail
                refine (H2.out _ _ G9.out).mono ?_; rintro e w10 ⟨rfl, b10⟩
                have B10 := Lib.hid (below_step B9.out b10)
                have T10 := Lib.hid (T9.out.below b10)
                have S10 := Lib.hid (S9.out.below b10)
                have G10 := Lib.hid (G9.out.below b10)
                clear b10
                go_wp2_with fail
                refine (JH1.out _ _ G10.out).mono ?_; rintro e w11 ⟨rfl, b11⟩
                have B11 := Lib.hid (below_step B10.out b11)
                have T11 := Lib.hid (T10.out.below b11)
                have S11 := Lib.hid (S10.out.below b11)
                have G11 := Lib.hid (G10.out.below b11)
                clear b11
                go_wp2_with fail
                refine (M1.out _ _ S11.out).mono ?_; rintro e w12 ⟨rfl, b12⟩
                have B12 := Lib.hid (below_step B11.out b12)
                have T12 := Lib.hid (T11.out.below b12)
                have S12 := Lib.hid (S11.out.below b12)
                have G12 := Lib.hid (G11.out.below b12)
                clear b12
                go_wp2_with fail
                refine (M2.out _ _ G12.out).mono ?_; rintro e w13 ⟨rfl, b13⟩
                have B13 := Lib.hid (below_step B12.out b13)
                have T13 := Lib.hid (T12.out.below b13)
                have S13 := Lib.hid (S12.out.below b13)
                have G13 := Lib.hid (G12.out.below b13)
                clear b13
                go_wp2_with fail
                refine (SL1.out _ _ S13.out).mono ?_; rintro e w14 ⟨rfl, b14⟩
                have B14 := Lib.hid (below_step B13.out b14)
                have T14 := Lib.hid (T13.out.below b14)
                have S14 := Lib.hid (S13.out.below b14)
                have G14 := Lib.hid (G13.out.below b14)
                clear b14
                go_wp2_with fail
                refine (SL2.out _ _ G14.out).mono ?_; rintro e w15 ⟨rfl, b15⟩
                have B15 := Lib.hid (below_step B14.out b15)
                have T15 := Lib.hid (T14.out.below b15)
                have S15 := Lib.hid (S14.out.below b15)
                have G15 := Lib.hid (G14.out.below b15)
                clear b15
                go_wp2_with fail
                refine (JS1.out _ _ G15.out).mono ?_; rintro e w16 ⟨rfl, b16⟩
                have B16 := Lib.hid (below_step B15.out b16)
                have T16 := Lib.hid (T15.out.below b16)
                have S16 := Lib.hid (S15.out.below b16)
                have G16 := Lib.hid (G15.out.below b16)
                clear b16
                go_wp2_with fail
                refine (HA.out _ T16.out).mono ?_; rintro e w17 ⟨rfl, b17⟩
                have B17 := Lib.hid (below_step B16.out b17)
                have T17 := Lib.hid (T16.out.below b17)
                have S17 := Lib.hid (S16.out.below b17)
                have G17 := Lib.hid (G16.out.below b17)
                clear b17
                go_wp2_with fail
                go_ret
                exact ⟨rfl, B17.out⟩
            · have q4 := neq0_no hi3
              have q5 : ((i3 : Int) == 0) = false := by rw [beq_eq_false_iff_ne]; omega
              clear hi3 JS O1
              go_enter Tryd.func6, Tryd.ntmps6
              go_wp2_with fail
              refine (HN.out _ T0.out).mono ?_; rintro e w1 ⟨⟨p, rfl, s1⟩, b1⟩
              have B1 := Lib.hid b1
              have T1 := Lib.hid (T0.out.below b1)
              have S1 := Lib.hid s1
              clear b1 s1
              go_wp2_with fail
              refine (HG.out _ T1.out).mono ?_; rintro e w2 ⟨⟨q, rfl, s2⟩, b2⟩
              have B2 := Lib.hid (below_step B1.out b2)
              have T2 := Lib.hid (T1.out.below b2)
              have S2 := Lib.hid (S1.out.below b2)
              have G2 := Lib.hid s2
              clear b2 s2
              go_wp2_with fail
              refine (HL.out _).mono ?_; rintro e w3 ⟨rfl, rfl⟩
              go_wp2_with fail
              refine (K1.out _ _ S2.out).mono ?_; rintro e w4 ⟨rfl, b4⟩
              have B4 := Lib.hid (below_step B2.out b4)
              have T4 := Lib.hid (T2.out.below b4)
              have S4 := Lib.hid (S2.out.below b4)
              have G4 := Lib.hid (G2.out.below b4)
              clear b4
              go_wp2_with fail
              refine (K2.out _ _ G4.out).mono ?_; rintro e w5 ⟨rfl, b5⟩
              have B5 := Lib.hid (below_step B4.out b5)
              have T5 := Lib.hid (T4.out.below b5)
              have S5 := Lib.hid (S4.out.below b5)
              have G5 := Lib.hid (G4.out.below b5)
              clear b5
              go_wp2_with fail
              refine (I1.out _ _ G5.out).mono ?_; rintro e w6 ⟨rfl, b6⟩
              have B6 := Lib.hid (below_step B5.out b6)
              have T6 := Lib.hid (T5.out.below b6)
              have S6 := Lib.hid (S5.out.below b6)
              have G6 := Lib.hid (G5.out.below b6)
              clear b6
              go_wp2_with fail
              refine (I2.out _ _ G6.out).mono ?_; rintro e w7 ⟨rfl, b7⟩
              have B7 := Lib.hid (below_step B6.out b7)
              have T7 := Lib.hid (T6.out.below b7)
              have S7 := Lib.hid (S6.out.below b7)
              have G7 := Lib.hid (G6.out.below b7)
              clear b7
              go_wp2_with fail
              refine (I3.out _ _ G7.out).mono ?_; rintro e w8 ⟨rfl, b8⟩
              have B8 := Lib.hid (below_step B7.out b8)
              have T8 := Lib.hid (T7.out.below b8)
              have S8 := Lib.hid (S7.out.below b8)
              have G8 := Lib.hid (G7.out.below b8)
              clear b8
              go_wp2_with fail
              refine (H1.out _ _ S8.out).mono ?_; rintro e w9 ⟨rfl, b9⟩
              have B9 := Lib.hid (below_step B8.out b9)
              have T9 := Lib.hid (T8.out.below b9)
              have S9 := Lib.hid (S8.out.below b9)
              have G9 := Lib.hid (G8.out.below b9)
              clear b9
              go_wp2_with fail
              refine (H2.out _ _ G9.out).mono ?_; rintro e w10 ⟨rfl, b10⟩
              have B10 := Lib.hid (below_step B9.out b10)
              have T10 := Lib.hid (T9.out.below b10)
              have S10 := Lib.hid (S9.out.below b10)
              have G10 := Lib.hid (G9.out.below b10)
              clear b10
              go_wp2_with fail
              refine (JH1.out _ _ G10.out).mono ?_; rintro e w11 ⟨rfl, b11⟩
              have B11 := Lib.hid (below_step B10.out b11)
              have T11 := Lib.hid (T10.out.below b11)
              have S11 := Lib.hid (S10.out.below b11)
              have G11 := Lib.hid (G10.out.below b11)
              clear b11
              go_wp2_with fail
              refine (M1.out _ _ S11.out).mono ?_; rintro e w12 ⟨rfl, b12⟩
              have B12 := Lib.hid (below_step B11.out b12)
              have T12 := Lib.hid (T11.out.below b12)
              have S12 := Lib.hid (S11.out.below b12)
              have G12 := Lib.hid (G11.out.below b12)
              clear b12
              go_wp2_with fail
              refine (M2.out _ _ G12.out).mono ?_; rintro e w13 ⟨rfl, b13⟩
              have B13 := Lib.hid (below_step B12.out b13)
              have T13 := Lib.hid (T12.out.below b13)
              have S13 := Lib.hid (S12.out.below b13)
              have G13 := Lib.hid (G12.out.below b13)
              clear b13
              go_wp2_with fail
              refine (SL1.out _ _ S13.out).mono ?_; rintro e w14 ⟨rfl, b14⟩
              have B14 := Lib.hid (below_step B13.out b14)
              have T14 := Lib.hid (T13.out.below b14)
              have S14 := Lib.hid (S13.out.below b14)
              have G14 := Lib.hid (G13.out.below b14)
              clear b14
              go_wp2_with fail
              refine (SL2.out _ _ G14.out).mono ?_; rintro e w15 ⟨rfl, b15⟩
              have B15 := Lib.hid (below_step B14.out b15)
              have T15 := Lib.hid (T14.out.below b15)
              have S15 := Lib.hid (S14.out.below b15)
              have G15 := Lib.hid (G14.out.below b15)
              clear b15
              go_wp2_with fail
              refine (HA.out _ T15.out).mono ?_; rintro e w16 ⟨rfl, b16⟩
              have B16 := Lib.hid (below_step B15.out b16)
              have T16 := Lib.hid (T15.out.below b16)
              have S16 := Lib.hid (S15.out.below b16)
              have G16 := Lib.hid (G15.out.below b16)
              clear b16
              go_wp2_with fail
              go_ret
              exact ⟨rfl, B16.out⟩
        · have q1 : ((i1 : Int) == 0) = false := by rw [beq_eq_false_iff_ne]; omega
          clear hi1 JH
          by_cases hi2 : i2 = 0
          · subst hi2
            have JM1 := Lib.hid (JM.out rfl)
            by_cases hi3 : i3 = 0
            · subst hi3
              have JS1 := Lib.hid (JS.out rfl)
              have O11 := Lib.hid (O1.out rfl)
              by_cases hj3 : j3 = 0
              · subst hj3
                have O21 := Lib.hid (O2.out rfl)
                go_enter Tryd.func6, Tryd.ntmps6
                go_wp2_with fail
                refine (HN.out _ T0.out).mono ?_; rintro e w1 ⟨⟨p, rfl, s1⟩, b1⟩
                have B1 := Lib.hid b1
                have T1 := Lib.hid (T0.out.below b1)
                have S1 := Lib.hid s1
                clear b1 s1
                go_wp2_with fail
                refine (HG.out _ T1.out).mono ?_; rintro e w2 ⟨⟨q, rfl, s2⟩, b2⟩
                have B2 := Lib.hid (below_step B1.out b2)
                have T2 := Lib.hid (T1.out.below b2)
                have S2 := Lib.hid (S1.out.below b2)
                have G2 := Lib.hid s2
                clear b2 s2
                go_wp2_with fail
                refine (HL.out _).mono ?_; rintro e w3 ⟨rfl, rfl⟩
                go_wp2_with fail
                refine (K1.out _ _ S2.out).mono ?_; rintro e w4 ⟨rfl, b4⟩
                have B4 := Lib.hid (below_step B2.out b4)
                have T4 := Lib.hid (T2.out.below b4)
                have S4 := Lib.hid (S2.out.below b4)
                have G4 := Lib.hid (G2.out.below b4)
                clear b4
                go_wp2_with fail
                refine (K2.out _ _ G4.out).mono ?_; rintro e w5 ⟨rfl, b5⟩
                have B5 := Lib.hid (below_step B4.out b5)
                have T5 := Lib.hid (T4.out.below b5)
                have S5 := Lib.hid (S4.out.below b5)
                have G5 := Lib.hid (G4.out.below b5)
                clear b5
                go_wp2_with fail
                refine (I1.out _ _ G5.out).mono ?_; rintro e w6 ⟨rfl, b6⟩
                have B6 := Lib.hid (below_step B5.out b6)
                have T6 := Lib.hid (T5.out.below b6)
                have S6 := Lib.hid (S5.out.below b6)
                have G6 := Lib.hid (G5.out.below b6)
                clear b6
                go_wp2_with fail
                refine (I2.out _ _ G6.out).mono ?_; rintro e w7 ⟨rfl, b7⟩
                have B7 := Lib.hid (below_step B6.out b7)
                have T7 := Lib.hid (T6.out.below b7)
                have S7 := Lib.hid (S6.out.below b7)
                have G7 := Lib.hid (G6.out.below b7)
                clear b7
                go_wp2_with fail
                refine (I3.out _ _ G7.out).mono ?_; rintro e w8 ⟨rfl, b8⟩
                have B8 := Lib.hid (below_step B7.out b8)
                have T8 := Lib.hid (T7.out.below b8)
                have S8 := Lib.hid (S7.out.below b8)
                have G8 := Lib.hid (G7.out.below b8)
                clear b8
                go_wp2_with fail
                refine (H1.out _ _ S8.out).mono ?_; rintro e w9 ⟨rfl, b9⟩
                have B9 := Lib.hid (below_step B8.out b9)
                have T9 := Lib.hid (T8.out.below b9)
                have S9 := Lib.hid (S8.out.below b9)
                have G9 := Lib.hid (G8.out.below b9)
                clear b9
                go_wp2_with fail
                refine (H2.out _ _ G9.out).mono ?_; rintro e w10 ⟨rfl, b10⟩
                have B10 := Lib.hid (below_step B9.out b10)
                have T10 := Lib.hid (T9.out.below b10)
                have S10 := Lib.hid (S9.out.below b10)
                have G10 := Lib.hid (G9.out.below b10)
                clear b10
                go_wp2_with fail
                refine (M1.out _ _ S10.out).mono ?_; rintro e w11 ⟨rfl, b11⟩
                have B11 := Lib.hid (below_step B10.out b11)
                have T11 := Lib.hid (T10.out.below b11)
                have S11 := Lib.hid (S10.out.below b11)
                have G11 := Lib.hid (G10.out.below b11)
                clear b11
                go_wp2_with fail
                refine (M2.out _ _ G11.out).mono ?_; rintro e w12 ⟨rfl, b12⟩
                have B12 := Lib.hid (below_step B11.out b12)
                have T12 := Lib.hid (T11.out.below b12)
                have S12 := Lib.hid (S11.out.below b12)
                have G12 := Lib.hid (G11.out.below b12)
                clear b12
                go_wp2_with fail
                refine (JM1.out _ _ G12.out).mono ?_; rintro e w13 ⟨rfl, b13⟩
                have B13 := Lib.hid (below_step B12.out b13)
                have T13 := Lib.hid (T12.out.below b13)
                have S13 := Lib.hid (S12.out.below b13)
                have G13 := Lib.hid (G12.out.below b13)
                clear b13
                go_wp2_with fail
                refine (SL1.out _ _ S13.out).mono ?_; rintro e w14 ⟨rfl, b14⟩
                have B14 := Lib.hid (below_step B13.out b14)
                have T14 := Lib.hid (T13.out.below b14)
                have S14 := Lib.hid (S13.out.below b14)
                have G14 := Lib.hid (G13.out.below b14)
                clear b14
                go_wp2_with fail
                refine (SL2.out _ _ G14.out).mono ?_; rintro e w15 ⟨rfl, b15⟩
                have B15 := Lib.hid (below_step B14.out b15)
                have T15 := Lib.hid (T14.out.below b15)
                have S15 := Lib.hid (S14.out.below b15)
                have G15 := Lib.hid (G14.out.below b15)
                clear b15
                go_wp2_with fail
                refine (JS1.out _ _ G15.out).mono ?_; rintro e w16 ⟨rfl, b16⟩
                have B16 := Lib.hid (below_step B15.out b16)
                have T16 := Lib.hid (T15.out.below b16)
                have S16 := Lib.hid (S15.out.below b16)
                have G16 := Lib.hid (G15.out.below b16)
                clear b16
                go_wp2_with fail
                refine (O11.out _ _ S16.out).mono ?_; rintro e w17 ⟨rfl, b17⟩
                have B17 := Lib.hid (below_step B16.out b17)
                have T17 := Lib.hid (T16.out.below b17)
                have S17 := Lib.hid (S16.out.below b17)
                have G17 := Lib.hid (G16.out.below b17)
                clear b17
                go_wp2_with fail
                refine (O21.out _ _ G17.out).mono ?_; rintro e w18 ⟨rfl, b18⟩
                have B18 := Lib.hid (below_step B17.out b18)
                have T18 := Lib.hid (T17.out.below b18)
                have S18 := Lib.hid (S17.out.below b18)
                have G18 := Lib.hid (G17.out.below b18)
                clear b18
                go_wp2_with fail
                refine (JT.out _ _ G18.out).mono ?_; rintro e w19 ⟨rfl, b19⟩
                have B19 := Lib.hid (below_step B18.out b19)
                have T19 := Lib.hid (T18.out.below b19)
                have S19 := Lib.hid (S18.out.below b19)
                have G19 := Lib.hid (G18.out.below b19)
                clear b19
                go_wp2_with fail
                refine (HA.out _ T19.out).mono ?_; rintro e w20 ⟨rfl, b20⟩
                have B20 := Lib.hid (below_step B19.out b20)
                have T20 := Lib.hid (T19.out.below b20)
                have S20 := Lib.hid (S19.out.below b20)
                have G20 := Lib.hid (G19.out.below b20)
                clear b20
                go_wp2_with fail
                go_ret
                exact ⟨rfl, B20.out⟩
              · have q3 := neq0_no hj3
                clear hj3 O2
                go_enter Tryd.func6, Tryd.ntmps6
                go_wp2_with fail
                refine (HN.out _ T0.out).mono ?_; rintro e w1 ⟨⟨p, rfl, s1⟩, b1⟩
                have B1 := Lib.hid b1
                have T1 := Lib.hid (T0.out.below b1)
                have S1 := Lib.hid s1
                clear b1 s1
                go_wp2_with fail
                refine (HG.out _ T1.out).mono ?_; rintro e w2 ⟨⟨q, rfl, s2⟩, b2⟩
                have B2 := Lib.hid (below_step B1.out b2)
                have T2 := Lib.hid (T1.out.below b2)
                have S2 := Lib.hid (S1.out.below b2)
                have G2 := Lib.hid s2
                clear b2 s2
                go_wp2_with fail
                refine (HL.out _).mono ?_; rintro e w3 ⟨rfl, rfl⟩
                go_wp2_with fail
                refine (K1.out _ _ S2.out).mono ?_; rintro e w4 ⟨rfl, b4⟩
                have B4 := Lib.hid (below_step B2.out b4)
                have T4 := Lib.hid (T2.out.below b4)
                have S4 := Lib.hid (S2.out.below b4)
                have G4 := Lib.hid (G2.out.below b4)
                clear b4
                go_wp2_with fail
                refine (K2.out _ _ G4.out).mono ?_; rintro e w5 ⟨rfl, b5⟩
                have B5 := Lib.hid (below_step B4.out b5)
                have T5 := Lib.hid (T4.out.below b5)
                have S5 := Lib.hid (S4.out.below b5)
                have G5 := Lib.hid (G4.out.below b5)
                clear b5
                go_wp2_with fail
                refine (I1.out _ _ G5.out).mono ?_; rintro e w6 ⟨rfl, b6⟩
                have B6 := Lib.hid (below_step B5.out b6)
                have T6 := Lib.hid (T5.out.below b6)
                have S6 := Lib.hid (S5.out.below b6)
                have G6 := Lib.hid (G5.out.below b6)
                clear b6
                go_wp2_with fail
                refine (I2.out _ _ G6.out).mono ?_; rintro e w7 ⟨rfl, b7⟩
                have B7 := Lib.hid (below_step B6.out b7)
                have T7 := Lib.hid (T6.out.below b7)
                have S7 := Lib.hid (S6.out.below b7)
                have G7 := Lib.hid (G6.out.below b7)
                clear b7
                go_wp2_with fail
                refine (I3.out _ _ G7.out).mono ?_; rintro e w8 ⟨rfl, b8⟩
                have B8 := Lib.hid (below_step B7.out b8)
                have T8 := Lib.hid (T7.out.below b8)
                have S8 := Lib.hid (S7.out.below b8)
                have G8 := Lib.hid (G7.out.below b8)
                clear b8
                go_wp2_with fail
                refine (H1.out _ _ S8.out).mono ?_; rintro e w9 ⟨rfl, b9⟩
                have B9 := Lib.hid (below_step B8.out b9)
                have T9 := Lib.hid (T8.out.below b9)
                have S9 := Lib.hid (S8.out.below b9)
                have G9 := Lib.hid (G8.out.below b9)
                clear b9
                go_wp2_with fail
                refine (H2.out _ _ G9.out).mono ?_; rintro e w10 ⟨rfl, b10⟩
                have B10 := Lib.hid (below_step B9.out b10)
                have T10 := Lib.hid (T9.out.below b10)
                have S10 := Lib.hid (S9.out.below b10)
                have G10 := Lib.hid (G9.out.below b10)
                clear b10
                go_wp2_with fail
                refine (M1.out _ _ S10.out).mono ?_; rintro e w11 ⟨rfl, b11⟩
                have B11 := Lib.hid (below_step B10.out b11)
                have T11 := Lib.hid (T10.out.below b11)
                have S11 := Lib.hid (S10.out.below b11)
                have G11 := Lib.hid (G10.out.below b11)
                clear b11
                go_wp2_with fail
                refine (M2.out _ _ G11.out).mono ?_; rintro e w12 ⟨rfl, b12⟩
                have B12 := Lib.hid (below_step B11.out b12)
                have T12 := Lib.hid (T11.out.below b12)
                have S12 := Lib.hid (S11.out.below b12)
                have G12 := Lib.hid (G11.out.below b12)
                clear b12
                go_wp2_with fail
                refine (JM1.out _ _ G12.out).mono ?_; rintro e w13 ⟨rfl, b13⟩
                have B13 := Lib.hid (below_step B12.out b13)
                have T13 := Lib.hid (T12.out.below b13)
                have S13 := Lib.hid (S12.out.below b13)
                have G13 := Lib.hid (G12.out.below b13)
                clear b13
                go_wp2_with fail
                refine (SL1.out _ _ S13.out).mono ?_; rintro e w14 ⟨rfl, b14⟩
                have B14 := Lib.hid (below_step B13.out b14)
                have T14 := Lib.hid (T13.out.below b14)
                have S14 := Lib.hid (S13.out.below b14)
                have G14 := Lib.hid (G13.out.below b14)
                clear b14
                go_wp2_with fail
                refine (SL2.out _ _ G14.out).mono ?_; rintro e w15 ⟨rfl, b15⟩
                have B15 := Lib.hid (below_step B14.out b15)
                have T15 := Lib.hid (T14.out.below b15)
                have S15 := Lib.hid (S14.out.below b15)
                have G15 := Lib.hid (G14.out.below b15)
                clear b15
                go_wp2_with fail
                refine (JS1.out _ _ G15.out).mono ?_; rintro e w16 ⟨rfl, b16⟩
                have B16 := Lib.hid (below_step B15.out b16)
                have T16 := Lib.hid (T15.out.below b16)
                have S16 := Lib.hid (S15.out.below b16)
                have G16 := Lib.hid (G15.out.below b16)
                clear b16
                go_wp2_with fail
                refine (HA.out _ T16.out).mono ?_; rintro e w17 ⟨rfl, b17⟩
                have B17 := Lib.hid (below_step B16.out b17)
                have T17 := Lib.hid (T16.out.below b17)
                have S17 := Lib.hid (S16.out.below b17)
                have G17 := Lib.hid (G16.out.below b17)
                clear b17
                go_wp2_with fail
                go_ret
                exact ⟨rfl, B17.out⟩
            · have q4 := neq0_no hi3
              have q5 : ((i3 : Int) == 0) = false := by rw [beq_eq_false_iff_ne]; omega
              clear hi3 JS O1
              go_enter Tryd.func6, Tryd.ntmps6
              go_wp2_with fail
              refine (HN.out _ T0.out).mono ?_; rintro e w1 ⟨⟨p, rfl, s1⟩, b1⟩
              have B1 := Lib.hid b1
              have T1 := Lib.hid (T0.out.below b1)
              have S1 := Lib.hid s1
              clear b1 s1
              go_wp2_with fail
              refine (HG.out _ T1.out).mono ?_; rintro e w2 ⟨⟨q, rfl, s2⟩, b2⟩
              have B2 := Lib.hid (below_step B1.out b2)
              have T2 := Lib.hid (T1.out.below b2)
              have S2 := Lib.hid (S1.out.below b2)
              have G2 := Lib.hid s2
              clear b2 s2
              go_wp2_with fail
              refine (HL.out _).mono ?_; rintro e w3 ⟨rfl, rfl⟩
              go_wp2_with fail
              refine (K1.out _ _ S2.out).mono ?_; rintro e w4 ⟨rfl, b4⟩
              have B4 := Lib.hid (below_step B2.out b4)
              have T4 := Lib.hid (T2.out.below b4)
              have S4 := Lib.hid (S2.out.below b4)
              have G4 := Lib.hid (G2.out.below b4)
              clear b4
              go_wp2_with fail
              refine (K2.out _ _ G4.out).mono ?_; rintro e w5 ⟨rfl, b5⟩
              have B5 := Lib.hid (below_step B4.out b5)
              have T5 := Lib.hid (T4.out.below b5)
              have S5 := Lib.hid (S4.out.below b5)
              have G5 := Lib.hid (G4.out.below b5)
              clear b5
              go_wp2_with fail
              refine (I1.out _ _ G5.out).mono ?_; rintro e w6 ⟨rfl, b6⟩
              have B6 := Lib.hid (below_step B5.out b6)
              have T6 := Lib.hid (T5.out.below b6)
              have S6 := Lib.hid (S5.out.below b6)
              have G6 := Lib.hid (G5.out.below b6)
              clear b6
              go_wp2_with fail
              refine (I2.out _ _ G6.out).mono ?_; rintro e w7 ⟨rfl, b7⟩
              have B7 := Lib.hid (below_step B6.out b7)
              have T7 := Lib.hid (T6.out.below b7)
              have S7 := Lib.hid (S6.out.below b7)
              have G7 := Lib.hid (G6.out.below b7)
              clear b7
              go_wp2_with fail
              refine (I3.out _ _ G7.out).mono ?_; rintro e w8 ⟨rfl, b8⟩
              have B8 := Lib.hid (below_step B7.out b8)
              have T8 := Lib.hid (T7.out.below b8)
              have S8 := Lib.hid (S7.out.below b8)
              have G8 := Lib.hid (G7.out.below b8)
              clear b8
              go_wp2_with fail
              refine (H1.out _ _ S8.out).mono ?_; rintro e w9 ⟨rfl, b9⟩
              have B9 := Lib.hid (below_step B8.out b9)
              have T9 := Lib.hid (T8.out.below b9)
              have S9 := Lib.hid (S8.out.below b9)
              have G9 := Lib.hid (G8.out.below b9)
              clear b9
              go_wp2_with fail
              refine (H2.out _ _ G9.out).mono ?_; rintro e w10 ⟨rfl, b10⟩
              have B10 := Lib.hid (below_step B9.out b10)
              have T10 := Lib.hid (T9.out.below b10)
              have S10 := Lib.hid (S9.out.below b10)
              have G10 := Lib.hid (G9.out.below b10)
              clear b10
              go_wp2_with fail
              refine (M1.out _ _ S10.out).mono ?_; rintro e w11 ⟨rfl, b11⟩
              have B11 := Lib.hid (below_step B10.out b11)
              have T11 := Lib.hid (T10.out.below b11)
              have S11 := Lib.hid (S10.out.below b11)
              have G11 := Lib.hid (G10.out.below b11)
              clear b11
              go_wp2_with fail
              refine (M2.out _ _ G11.out).mono ?_; rintro e w12 ⟨rfl, b12⟩
              have B12 := Lib.hid (below_step B11.out b12)
              have T12 := Lib.hid (T11.out.below b12)
              have S12 := Lib.hid (S11.out.below b12)
              have G12 := Lib.hid (G11.out.below b12)
              clear b12
              go_wp2_with fail
              refine (JM1.out _ _ G12.out).mono ?_; rintro e w13 ⟨rfl, b13⟩
              have B13 := Lib.hid (below_step B12.out b13)
              have T13 := Lib.hid (T12.out.below b13)
              have S13 := Lib.hid (S12.out.below b13)
              have G13 := Lib.hid (G12.out.below b13)
              clear b13
              go_wp2_with fail
              refine (SL1.out _ _ S13.out).mono ?_; rintro e w14 ⟨rfl, b14⟩
              have B14 := Lib.hid (below_step B13.out b14)
              have T14 := Lib.hid (T13.out.below b14)
              have S14 := Lib.hid (S13.out.below b14)
              have G14 := Lib.hid (G13.out.below b14)
              clear b14
              go_wp2_with fail
              refine (SL2.out _ _ G14.out).mono ?_; rintro e w15 ⟨rfl, b15⟩
              have B15 := Lib.hid (below_step B14.out b15)
              have T15 := Lib.hid (T14.out.below b15)
              have S15 := Lib.hid (S14.out.below b15)
              have G15 := Lib.hid (G14.out.below b15)
              clear b15
              go_wp2_with fail
              refine (HA.out _ T15.out).mono ?_; rintro e w16 ⟨rfl, b16⟩
              have B16 := Lib.hid (below_step B15.out b16)
              have T16 := Lib.hid (T15.out.below b16)
              have S16 := Lib.hid (S15.out.below b16)
              have G16 := Lib.hid (G15.out.below b16)
              clear b16
              go_wp2_with fail
              go_ret
              exact ⟨rfl, B16.out⟩
          · have q2 : ((i2 : Int) == 0) = false := by rw [beq_eq_false_iff_ne]; omega
            clear hi2 JM
            by_cases hi3 : i3 = 0
            · subst hi3
              have JS1 := Lib.hid (JS.out rfl)
              have O11 := Lib.hid (O1.out rfl)
              by_cases hj3 : j3 = 0
              · subst hj3
                have O21 := Lib.hid (O2.out rfl)
                go_enter Tryd.func6, Tryd.ntmps6
                go_wp2_with fail
                refine (HN.out _ T0.out).mono ?_; rintro e w1 ⟨⟨p, rfl, s1⟩, b1⟩
                have B1 := Lib.hid b1
                have T1 := Lib.hid (T0.out.below b1)
                have S1 := Lib.hid s1
                clear b1 s1
                go_wp2_with fail
                refine (HG.out _ T1.out).mono ?_; rintro e w2 ⟨⟨q, rfl, s2⟩, b2⟩
                have B2 := Lib.hid (below_step B1.out b2)
                have T2 := Lib.hid (T1.out.below b2)
                have S2 := Lib.hid (S1.out.below b2)
                have G2 := Lib.hid s2
                clear b2 s2
                go_wp2_with fail
                refine (HL.out _).mono ?_; rintro e w3 ⟨rfl, rfl⟩
                go_wp2_with fail
                refine (K1.out _ _ S2.out).mono ?_; rintro e w4 ⟨rfl, b4⟩
                have B4 := Lib.hid (below_step B2.out b4)
                have T4 := Lib.hid (T2.out.below b4)
                have S4 := Lib.hid (S2.out.below b4)
                have G4 := Lib.hid (G2.out.below b4)
                clear b4
                go_wp2_with fail
                refine (K2.out _ _ G4.out).mono ?_; rintro e w5 ⟨rfl, b5⟩
                have B5 := Lib.hid (below_step B4.out b5)
                have T5 := Lib.hid (T4.out.below b5)
                have S5 := Lib.hid (S4.out.below b5)
                have G5 := Lib.hid (G4.out.below b5)
                clear b5
                go_wp2_with fail
                refine (I1.out _ _ G5.out).mono ?_; rintro e w6 ⟨rfl, b6⟩
                have B6 := Lib.hid (below_step B5.out b6)
                have T6 := Lib.hid (T5.out.below b6)
                have S6 := Lib.hid (S5.out.below b6)
                have G6 := Lib.hid (G5.out.below b6)
                clear b6
                go_wp2_with fail
                refine (I2.out _ _ G6.out).mono ?_; rintro e w7 ⟨rfl, b7⟩
                have B7 := Lib.hid (below_step B6.out b7)
                have T7 := Lib.hid (T6.out.below b7)
                have S7 := Lib.hid (S6.out.below b7)
                have G7 := Lib.hid (G6.out.below b7)
                clear b7
                go_wp2_with fail
                refine (I3.out _ _ G7.out).mono ?_; rintro e w8 ⟨rfl, b8⟩
                have B8 := Lib.hid (below_step B7.out b8)
                have T8 := Lib.hid (T7.out.below b8)
                have S8 := Lib.hid (S7.out.below b8)
                have G8 := Lib.hid (G7.out.below b8)
                clear b8
                go_wp2_with fail
                refine (H1.out _ _ S8.out).mono ?_; rintro e w9 ⟨rfl, b9⟩
                have B9 := Lib.hid (below_step B8.out b9)
                have T9 := Lib.hid (T8.out.below b9)
                have S9 := Lib.hid (S8.out.below b9)
                have G9 := Lib.hid (G8.out.below b9)
                clear b9
                go_wp2_with fail
                refine (H2.out _ _ G9.out).mono ?_; rintro e w10 ⟨rfl, b10⟩
                have B10 := Lib.hid (below_step B9.out b10)
                have T10 := Lib.hid (T9.out.below b10)
                have S10 := Lib.hid (S9.out.below b10)
                have G10 := Lib.hid (G9.out.below b10)
                clear b10
                go_wp2_with fail
                refine (M1.out _ _ S10.out).mono ?_; rintro e w11 ⟨rfl, b11⟩
                have B11 := Lib.hid (below_step B10.out b11)
                have T11 := Lib.hid (T10.out.below b11)
                have S11 := Lib.hid (S10.out.below b11)
                have G11 := Lib.hid (G10.out.below b11)
                clear b11
                go_wp2_with fail
                refine (M2.out _ _ G11.out).mono ?_; rintro e w12 ⟨rfl, b12⟩
                have B12 := Lib.hid (below_step B11.out b12)
                have T12 := Lib.hid (T11.out.below b12)
                have S12 := Lib.hid (S11.out.below b12)
                have G12 := Lib.hid (G11.out.below b12)
                clear b12
                go_wp2_with fail
                refine (SL1.out _ _ S12.out).mono ?_; rintro e w13 ⟨rfl, b13⟩
                have B13 := Lib.hid (below_step B12.out b13)
                have T13 := Lib.hid (T12.out.below b13)
                have S13 := Lib.hid (S12.out.below b13)
                have G13 := Lib.hid (G12.out.below b13)
                clear b13
                go_wp2_with fail
                refine (SL2.out _ _ G13.out).mono ?_; rintro e w14 ⟨rfl, b14⟩
                have B14 := Lib.hid (below_step B13.out b14)
                have T14 := Lib.hid (T13.out.below b14)
                have S14 := Lib.hid (S13.out.below b14)
                have G14 := Lib.hid (G13.out.below b14)
                clear b14
                go_wp2_with fail
                refine (JS1.out _ _ G14.out).mono ?_; rintro e w15 ⟨rfl, b15⟩
                have B15 := Lib.hid (below_step B14.out b15)
                have T15 := Lib.hid (T14.out.below b15)
                have S15 := Lib.hid (S14.out.below b15)
                have G15 := Lib.hid (G14.out.below b15)
                clear b15
                go_wp2_with fail
                refine (O11.out _ _ S15.out).mono ?_; rintro e w16 ⟨rfl, b16⟩
                have B16 := Lib.hid (below_step B15.out b16)
                have T16 := Lib.hid (T15.out.below b16)
                have S16 := Lib.hid (S15.out.below b16)
                have G16 := Lib.hid (G15.out.below b16)
                clear b16
                go_wp2_with fail
                refine (O21.out _ _ G16.out).mono ?_; rintro e w17 ⟨rfl, b17⟩
                have B17 := Lib.hid (below_step B16.out b17)
                have T17 := Lib.hid (T16.out.below b17)
                have S17 := Lib.hid (S16.out.below b17)
                have G17 := Lib.hid (G16.out.below b17)
                clear b17
                go_wp2_with fail
                refine (JT.out _ _ G17.out).mono ?_; rintro e w18 ⟨rfl, b18⟩
                have B18 := Lib.hid (below_step B17.out b18)
                have T18 := Lib.hid (T17.out.below b18)
                have S18 := Lib.hid (S17.out.below b18)
                have G18 := Lib.hid (G17.out.below b18)
                clear b18
                go_wp2_with fail
                refine (HA.out _ T18.out).mono ?_; rintro e w19 ⟨rfl, b19⟩
                have B19 := Lib.hid (below_step B18.out b19)
                have T19 := Lib.hid (T18.out.below b19)
                have S19 := Lib.hid (S18.out.below b19)
                have G19 := Lib.hid (G18.out.below b19)
                clear b19
                go_wp2_with fail
                go_ret
                exact ⟨rfl, B19.out⟩
              · have q3 := neq0_no hj3
                clear hj3 O2
                go_enter Tryd.func6, Tryd.ntmps6
                go_wp2_with fail
                refine (HN.out _ T0.out).mono ?_; rintro e w1 ⟨⟨p, rfl, s1⟩, b1⟩
                have B1 := Lib.hid b1
                have T1 := Lib.hid (T0.out.below b1)
                have S1 := Lib.hid s1
                clear b1 s1
                go_wp2_with fail
                refine (HG.out _ T1.out).mono ?_; rintro e w2 ⟨⟨q, rfl, s2⟩, b2⟩
                have B2 := Lib.hid (below_step B1.out b2)
                have T2 := Lib.hid (T1.out.below b2)
                have S2 := Lib.hid (S1.out.below b2)
                have G2 := Lib.hid s2
                clear b2 s2
                go_wp2_with fail
                refine (HL.out _).mono ?_; rintro e w3 ⟨rfl, rfl⟩
                go_wp2_with fail
                refine (K1.out _ _ S2.out).mono ?_; rintro e w4 ⟨rfl, b4⟩
                have B4 := Lib.hid (below_step B2.out b4)
                have T4 := Lib.hid (T2.out.below b4)
                have S4 := Lib.hid (S2.out.below b4)
                have G4 := Lib.hid (G2.out.below b4)
                clear b4
                go_wp2_with fail
                refine (K2.out _ _ G4.out).mono ?_; rintro e w5 ⟨rfl, b5⟩
                have B5 := Lib.hid (below_step B4.out b5)
                have T5 := Lib.hid (T4.out.below b5)
                have S5 := Lib.hid (S4.out.below b5)
                have G5 := Lib.hid (G4.out.below b5)
                clear b5
                go_wp2_with fail
                refine (I1.out _ _ G5.out).mono ?_; rintro e w6 ⟨rfl, b6⟩
                have B6 := Lib.hid (below_step B5.out b6)
                have T6 := Lib.hid (T5.out.below b6)
                have S6 := Lib.hid (S5.out.below b6)
                have G6 := Lib.hid (G5.out.below b6)
                clear b6
                go_wp2_with fail
                refine (I2.out _ _ G6.out).mono ?_; rintro e w7 ⟨rfl, b7⟩
                have B7 := Lib.hid (below_step B6.out b7)
                have T7 := Lib.hid (T6.out.below b7)
                have S7 := Lib.hid (S6.out.below b7)
                have G7 := Lib.hid (G6.out.below b7)
                clear b7
                go_wp2_with fail
                refine (I3.out _ _ G7.out).mono ?_; rintro e w8 ⟨rfl, b8⟩
                have B8 := Lib.hid (below_step B7.out b8)
                have T8 := Lib.hid (T7.out.below b8)
                have S8 := Lib.hid (S7.out.below b8)
                have G8 := Lib.hid (G7.out.below b8)
                clear b8
                go_wp2_with fail
                refine (H1.out _ _ S8.out).mono ?_; rintro e w9 ⟨rfl, b9⟩
                have B9 := Lib.hid (below_step B8.out b9)
                have T9 := Lib.hid (T8.out.below b9)
                have S9 := Lib.hid (S8.out.below b9)
                have G9 := Lib.hid (G8.out.below b9)
                clear b9
                go_wp2_with fail
                refine (H2.out _ _ G9.out).mono ?_; rintro e w10 ⟨rfl, b10⟩
                have B10 := Lib.hid (below_step B9.out b10)
                have T10 := Lib.hid (T9.out.below b10)
                have S10 := Lib.hid (S9.out.below b10)
                have G10 := Lib.hid (G9.out.below b10)
                clear b10
                go_wp2_with fail
                refine (M1.out _ _ S10.out).mono ?_; rintro e w11 ⟨rfl, b11⟩
                have B11 := Lib.hid (below_step B10.out b11)
                have T11 := Lib.hid (T10.out.below b11)
                have S11 := Lib.hid (S10.out.below b11)
                have G11 := Lib.hid (G10.out.below b11)
                clear b11
                go_wp2_with fail
                refine (M2.out _ _ G11.out).mono ?_; rintro e w12 ⟨rfl, b12⟩
                have B12 := Lib.hid (below_step B11.out b12)
                have T12 := Lib.hid (T11.out.below b12)
                have S12 := Lib.hid (S11.out.below b12)
                have G12 := Lib.hid (G11.out.below b12)
                clear b12
                go_wp2_with fail
                refine (SL1.out _ _ S12.out).mono ?_; rintro e w13 ⟨rfl, b13⟩
                have B13 := Lib.hid (below_step B12.out b13)
                have T13 := Lib.hid (T12.out.below b13)
                have S13 := Lib.hid (S12.out.below b13)
                have G13 := Lib.hid (G12.out.below b13)
                clear b13
                go_wp2_with fail
                refine (SL2.out _ _ G13.out).mono ?_; rintro e w14 ⟨rfl, b14⟩
                have B14 := Lib.hid (below_step B13.out b14)
                have T14 := Lib.hid (T13.out.below b14)
                have S14 := Lib.hid (S13.out.below b14)
                have G14 := Lib.hid (G13.out.below b14)
                clear b14
                go_wp2_with fail
                refine (JS1.out _ _ G14.out).mono ?_; rintro e w15 ⟨rfl, b15⟩
                have B15 := Lib.hid (below_step B14.out b15)
                have T15 := Lib.hid (T14.out.below b15)
                have S15 := Lib.hid (S14.out.below b15)
                have G15 := Lib.hid (G14.out.below b15)
                clear b15
                go_wp2_with fail
                refine (HA.out _ T15.out).mono ?_; rintro e w16 ⟨rfl, b16⟩
                have B16 := Lib.hid (below_step B15.out b16)
                have T16 := Lib.hid (T15.out.below b16)
                have S16 := Lib.hid (S15.out.below b16)
                have G16 := Lib.hid (G15.out.below b16)
                clear b16
                go_wp2_with fail
                go_ret
                exact ⟨rfl, B16.out⟩
            · have q4 := neq0_no hi3
              have q5 : ((i3 : Int) == 0) = false := by rw [beq_eq_false_iff_ne]; omega
              clear hi3 JS O1
              go_enter Tryd.func6, Tryd.ntmps6
              go_wp2_with fail
              refine (HN.out _ T0.out).mono ?_; rintro e w1 ⟨⟨p, rfl, s1⟩, b1⟩
              have B1 := Lib.hid b1
              have T1 := Lib.hid (T0.out.below b1)
              have S1 := Lib.hid s1
              clear b1 s1
              go_wp2_with fail
              refine (HG.out _ T1.out).mono ?_; rintro e w2 ⟨⟨q, rfl, s2⟩, b2⟩
              have B2 := Lib.hid (below_step B1.out b2)
              have T2 := Lib.hid (T1.out.below b2)
              have S2 := Lib.hid (S1.out.below b2)
              have G2 := Lib.hid s2
              clear b2 s2
              go_wp2_with fail
              refine (HL.out _).mono ?_; rintro e w3 ⟨rfl, rfl⟩
              go_wp2_with fail
              refine (K1.out _ _ S2.out).mono ?_; rintro e w4 ⟨rfl, b4⟩
              have B4 := Lib.hid (below_step B2.out b4)
              have T4 := Lib.hid (T2.out.below b4)
              have S4 := Lib.hid (S2.out.below b4)
              have G4 := Lib.hid (G2.out.below b4)
              clear b4
              go_wp2_with fail
              refine (K2.out _ _ G4.out).mono ?_; rintro e w5 ⟨rfl, b5⟩
              have B5 := Lib.hid (below_step B4.out b5)
              have T5 := Lib.hid (T4.out.below b5)
              have S5 := Lib.hid (S4.out.below b5)
              have G5 := Lib.hid (G4.out.below b5)
              clear b5
              go_wp2_with fail
              refine (I1.out _ _ G5.out).mono ?_; rintro e w6 ⟨rfl, b6⟩
              have B6 := Lib.hid (below_step B5.out b6)
              have T6 := Lib.hid (T5.out.below b6)
              have S6 := Lib.hid (S5.out.below b6)
              have G6 := Lib.hid (G5.out.below b6)
              clear b6
              go_wp2_with fail
              refine (I2.out _ _ G6.out).mono ?_; rintro e w7 ⟨rfl, b7⟩
              have B7 := Lib.hid (below_step B6.out b7)
              have T7 := Lib.hid (T6.out.below b7)
              have S7 := Lib.hid (S6.out.below b7)
              have G7 := Lib.hid (G6.out.below b7)
              clear b7
              go_wp2_with fail
              refine (I3.out _ _ G7.out).mono ?_; rintro e w8 ⟨rfl, b8⟩
              have B8 := Lib.hid (below_step B7.out b8)
              have T8 := Lib.hid (T7.out.below b8)
              have S8 := Lib.hid (S7.out.below b8)
              have G8 := Lib.hid (G7.out.below b8)
              clear b8
              go_wp2_with fail
              refine (H1.out _ _ S8.out).mono ?_; rintro e w9 ⟨rfl, b9⟩
              have B9 := Lib.hid (below_step B8.out b9)
              have T9 := Lib.hid (T8.out.below b9)
              have S9 := Lib.hid (S8.out.below b9)
              have G9 := Lib.hid (G8.out.below b9)
              clear b9
              go_wp2_with fail
              refine (H2.out _ _ G9.out).mono ?_; rintro e w10 ⟨rfl, b10⟩
              have B10 := Lib.hid (below_step B9.out b10)
              have T10 := Lib.hid (T9.out.below b10)
              have S10 := Lib.hid (S9.out.below b10)
              have G10 := Lib.hid (G9.out.below b10)
              clear b10
              go_wp2_with fail
              refine (M1.out _ _ S10.out).mono ?_; rintro e w11 ⟨rfl, b11⟩
              have B11 := Lib.hid (below_step B10.out b11)
              have T11 := Lib.hid (T10.out.below b11)
              have S11 := Lib.hid (S10.out.below b11)
              have G11 := Lib.hid (G10.out.below b11)
              clear b11
              go_wp2_with fail
              refine (M2.out _ _ G11.out).mono ?_; rintro e w12 ⟨rfl, b12⟩
              have B12 := Lib.hid (below_step B11.out b12)
              have T12 := Lib.hid (T11.out.below b12)
              have S12 := Lib.hid (S11.out.below b12)
              have G12 := Lib.hid (G11.out.below b12)
              clear b12
              go_wp2_with fail
              refine (SL1.out _ _ S12.out).mono ?_; rintro e w13 ⟨rfl, b13⟩
              have B13 := Lib.hid (below_step B12.out b13)
              have T13 := Lib.hid (T12.out.below b13)
              have S13 := Lib.hid (S12.out.below b13)
              have G13 := Lib.hid (G12.out.below b13)
              clear b13
              go_wp2_with fail
              refine (SL2.out _ _ G13.out).mono ?_; rintro e w14 ⟨rfl, b14⟩
              have B14 := Lib.hid (below_step B13.out b14)
              have T14 := Lib.hid (T13.out.below b14)
              have S14 := Lib.hid (S13.out.below b14)
              have G14 := Lib.hid (G13.out.below b14)
              clear b14
              go_wp2_with fail
              refine (HA.out _ T14.out).mono ?_; rintro e w15 ⟨rfl, b15⟩
              have B15 := Lib.hid (below_step B14.out b15)
              have T15 := Lib.hid (T14.out.below b15)
              have S15 := Lib.hid (S14.out.below b15)
              have G15 := Lib.hid (G14.out.below b15)
              clear b15
              go_wp2_with fail
              go_ret
              exact ⟨rfl, B15.out⟩
      · have q6 := neq0_no h3
        clear h3 H1 M1 SL1 hk hn ht
        go_enter Tryd.func6, Tryd.ntmps6
        go_wp2_with fail
        refine (HN.out _ T0.out).mono ?_; rintro e w1 ⟨⟨p, rfl, s1⟩, b1⟩
        have B1 := Lib.hid b1
        have T1 := Lib.hid (T0.out.below b1)
        have S1 := Lib.hid s1
        clear b1 s1
        go_wp2_with fail
        refine (HG.out _ T1.out).mono ?_; rintro e w2 ⟨⟨q, rfl, s2⟩, b2⟩
        have B2 := Lib.hid (below_step B1.out b2)
        have T2 := Lib.hid (T1.out.below b2)
        have S2 := Lib.hid (S1.out.below b2)
        have G2 := Lib.hid s2
        clear b2 s2
        go_wp2_with fail
        refine (HL.out _).mono ?_; rintro e w3 ⟨rfl, rfl⟩
        go_wp2_with fail
        refine (K1.out _ _ S2.out).mono ?_; rintro e w4 ⟨rfl, b4⟩
        have B4 := Lib.hid (below_step B2.out b4)
        have T4 := Lib.hid (T2.out.below b4)
        have S4 := Lib.hid (S2.out.below b4)
        have G4 := Lib.hid (G2.out.below b4)
        clear b4
        go_wp2_with fail
        refine (K2.out _ _ G4.out).mono ?_; rintro e w5 ⟨rfl, b5⟩
        have B5 := Lib.hid (below_step B4.out b5)
        have T5 := Lib.hid (T4.out.below b5)
        have S5 := Lib.hid (S4.out.below b5)
        have G5 := Lib.hid (G4.out.below b5)
        clear b5
        go_wp2_with fail
        refine (I1.out _ _ G5.out).mono ?_; rintro e w6 ⟨rfl, b6⟩
        have B6 := Lib.hid (below_step B5.out b6)
        have T6 := Lib.hid (T5.out.below b6)
        have S6 := Lib.hid (S5.out.below b6)
        have G6 := Lib.hid (G5.out.below b6)
        clear b6
        go_wp2_with fail
        refine (I2.out _ _ G6.out).mono ?_; rintro e w7 ⟨rfl, b7⟩
        have B7 := Lib.hid (below_step B6.out b7)
        have T7 := Lib.hid (T6.out.below b7)
        have S7 := Lib.hid (S6.out.below b7)
        have G7 := Lib.hid (G6.out.below b7)
        clear b7
        go_wp2_with fail
        refine (I3.out _ _ G7.out).mono ?_; rintro e w8 ⟨rfl, b8⟩
        have B8 := Lib.hid (below_step B7.out b8)
        have T8 := Lib.hid (T7.out.below b8)
        have S8 := Lib.hid (S7.out.below b8)
        have G8 := Lib.hid (G7.out.below b8)
        clear b8
        go_wp2_with fail
        refine (HA.out _ T8.out).mono ?_; rintro e w9 ⟨rfl, b9⟩
        have B9 := Lib.hid (below_step B8.out b9)
        have T9 := Lib.hid (T8.out.below b9)
        have S9 := Lib.hid (S8.out.below b9)
        have G9 := Lib.hid (G8.out.below b9)
        clear b9
        go_wp2_with fail
        go_ret
        exact ⟨rfl, B9.out⟩
    · have q6 := neq0_no h2
      clear h2 H1 M1 SL1 hk hn ht
      go_enter Tryd.func6, Tryd.ntmps6
      go_wp2_with fail
      refine (HN.out _ T0.out).mono ?_; rintro e w1 ⟨⟨p, rfl, s1⟩, b1⟩
      have B1 := Lib.hid b1
      have T1 := Lib.hid (T0.out.below b1)
      have S1 := Lib.hid s1
      clear b1 s1
      go_wp2_with fail
      refine (HG.out _ T1.out).mono ?_; rintro e w2 ⟨⟨q, rfl, s2⟩, b2⟩
      have B2 := Lib.hid (below_step B1.out b2)
      have T2 := Lib.hid (T1.out.below b2)
      have S2 := Lib.hid (S1.out.below b2)
      have G2 := Lib.hid s2
      clear b2 s2
      go_wp2_with fail
      refine (HL.out _).mono ?_; rintro e w3 ⟨rfl, rfl⟩
      go_wp2_with fail
      refine (K1.out _ _ S2.out).mono ?_; rintro e w4 ⟨rfl, b4⟩
      have B4 := Lib.hid (below_step B2.out b4)
      have T4 := Lib.hid (T2.out.below b4)
      have S4 := Lib.hid (S2.out.below b4)
      have G4 := Lib.hid (G2.out.below b4)
      clear b4
      go_wp2_with fail
      refine (K2.out _ _ G4.out).mono ?_; rintro e w5 ⟨rfl, b5⟩
      have B5 := Lib.hid (below_step B4.out b5)
      have T5 := Lib.hid (T4.out.below b5)
      have S5 := Lib.hid (S4.out.below b5)
      have G5 := Lib.hid (G4.out.below b5)
      clear b5
      go_wp2_with fail
      refine (I1.out _ _ G5.out).mono ?_; rintro e w6 ⟨rfl, b6⟩
      have B6 := Lib.hid (below_step B5.out b6)
      have T6 := Lib.hid (T5.out.below b6)
      have S6 := Lib.hid (S5.out.below b6)
      have G6 := Lib.hid (G5.out.below b6)
      clear b6
      go_wp2_with fail
      refine (I2.out _ _ G6.out).mono ?_; rintro e w7 ⟨rfl, b7⟩
      have B7 := Lib.hid (below_step B6.out b7)
      have T7 := Lib.hid (T6.out.below b7)
      have S7 := Lib.hid (S6.out.below b7)
      have G7 := Lib.hid (G6.out.below b7)
      clear b7
      go_wp2_with fail
      refine (I3.out _ _ G7.out).mono ?_; rintro e w8 ⟨rfl, b8⟩
      have B8 := Lib.hid (below_step B7.out b8)
      have T8 := Lib.hid (T7.out.below b8)
      have S8 := Lib.hid (S7.out.below b8)
      have G8 := Lib.hid (G7.out.below b8)
      clear b8
      go_wp2_with fail
      refine (HA.out _ T8.out).mono ?_; rintro e w9 ⟨rfl, b9⟩
      have B9 := Lib.hid (below_step B8.out b9)
      have T9 := Lib.hid (T8.out.below b9)
      have S9 := Lib.hid (S8.out.below b9)
      have G9 := Lib.hid (G8.out.below b9)
      clear b9
      go_wp2_with fail
      go_ret
      exact ⟨rfl, B9.out⟩
  · have q6 := neq0_no h1
    clear h1 H1 M1 SL1 hk hn ht
    go_enter Tryd.func6, Tryd.ntmps6
    go_wp2_with fail
    refine (HN.out _ T0.out).mono ?_; rintro e w1 ⟨⟨p, rfl, s1⟩, b1⟩
    have B1 := Lib.hid b1
    have T1 := Lib.hid (T0.out.below b1)
    have S1 := Lib.hid s1
    clear b1 s1
    go_wp2_with fail
    refine (HG.out _ T1.out).mono ?_; rintro e w2 ⟨⟨q, rfl, s2⟩, b2⟩
    have B2 := Lib.hid (below_step B1.out b2)
    have T2 := Lib.hid (T1.out.below b2)
    have S2 := Lib.hid (S1.out.below b2)
    have G2 := Lib.hid s2
    clear b2 s2
    go_wp2_with fail
    refine (HL.out _).mono ?_; rintro e w3 ⟨rfl, rfl⟩
    go_wp2_with fail
    refine (K1.out _ _ S2.out).mono ?_; rintro e w4 ⟨rfl, b4⟩
    have B4 := Lib.hid (below_step B2.out b4)
    have T4 := Lib.hid (T2.out.below b4)
    have S4 := Lib.hid (S2.out.below b4)
    have G4 := Lib.hid (G2.out.below b4)
    clear b4
    go_wp2_with fail
    refine (K2.out _ _ G4.out).mono ?_; rintro e w5 ⟨rfl, b5⟩
    have B5 := Lib.hid (below_step B4.out b5)
    have T5 := Lib.hid (T4.out.below b5)
    have S5 := Lib.hid (S4.out.below b5)
    have G5 := Lib.hid (G4.out.below b5)
    clear b5
    go_wp2_with fail
    refine (I1.out _ _ G5.out).mono ?_; rintro e w6 ⟨rfl, b6⟩
    have B6 := Lib.hid (below_step B5.out b6)
    have T6 := Lib.hid (T5.out.below b6)
    have S6 := Lib.hid (S5.out.below b6)
    have G6 := Lib.hid (G5.out.below b6)
    clear b6
    go_wp2_with fail
    refine (I2.out _ _ G6.out).mono ?_; rintro e w7 ⟨rfl, b7⟩
    have B7 := Lib.hid (below_step B6.out b7)
    have T7 := Lib.hid (T6.out.below b7)
    have S7 := Lib.hid (S6.out.below b7)
    have G7 := Lib.hid (G6.out.below b7)
    clear b7
    go_wp2_with fail
    refine (I3.out _ _ G7.out).mono ?_; rintro e w8 ⟨rfl, b8⟩
    have B8 := Lib.hid (below_step B7.out b8)
    have T8 := Lib.hid (T7.out.below b8)
    have S8 := Lib.hid (S7.out.below b8)
    have G8 := Lib.hid (G7.out.below b8)
    clear b8
    go_wp2_with fail
    refine (HA.out _ T8.out).mono ?_; rintro e w9 ⟨rfl, b9⟩
    have B9 := Lib.hid (below_step B8.out b9)
    have T9 := Lib.hid (T8.out.below b9)
    have S9 := Lib.hid (S8.out.below b9)
    have G9 := Lib.hid (G8.out.below b9)
    clear b9
    go_wp2_with fail
    go_ret
    exact ⟨rfl, B9.out⟩
end Go.Proofs.YtedidoeoomijjaaDoor.Pl
