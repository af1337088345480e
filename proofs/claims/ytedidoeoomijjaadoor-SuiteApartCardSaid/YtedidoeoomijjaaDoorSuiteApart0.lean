/- SuiteApart answers true: one of three ways. -/
import Derived.Test.YtedidoeoomijjaaDoorSuiteApartF
namespace Go.Proofs.YtedidoeoomijjaaDoor.Pl
open Go.RowKit

set_option maxHeartbeats 4000000 in
set_option maxRecDepth 100000 in
theorem suiteapart_00 (a b k j n m t u : ByteArray) (h1 : longB k j n m = false) (h2 : longB t u a b = false) (g1 : (keyP cryP true [] (bl a)).2 = 0) (g2 : (keyP cryP true [] (bl b)).2 = 0) (g3 : (hash8P cryP true (bl t)).2 = 0) (g4 : (hash8P cryP true (bl u)).2 = 0) (w : World) (hT : Tab w) :
    Calls Tryd.prog 5 #[.string a, .string b, .string k, .string j, .string n, .string m, .string t, .string u] w fun e w' => e = .returned (.bool true) ∧ Below w.heap.size w w' := by
  have T0 := Lib.hid hT
  have HN := Lib.hid (fun V h => new_terms ⟨#[]⟩ V h)
  have HA := Lib.hid (fun V h => alive8_any V h)
  have HL := Lib.hid (fun V => long8_any k j n m V)
  have HM := Lib.hid (fun V => long8_any t u a b V)
  rw [h1] at HL
  rw [h2] at HM
  obtain ⟨hk, hj, hn, hm⟩ := longB_no h1
  obtain ⟨ht, hu, ha, hb⟩ := longB_no h2
  have K1 := Lib.hid (fun p V (h : SuiteAt V p true ⟨#[]⟩) => key8_any true ⟨#[]⟩ a ha p V h)
  have K2 := Lib.hid (fun p V (h : SuiteAt V p true ⟨#[]⟩) => key8_any true ⟨#[]⟩ b hb p V h)
  have K3 := Lib.hid (fun p V (h : SuiteAt V p true ⟨#[]⟩) => hash8_any true ⟨#[]⟩ t ht p V h)
  have K4 := Lib.hid (fun p V (h : SuiteAt V p true ⟨#[]⟩) => hash8_any true ⟨#[]⟩ u hu p V h)
  have K5 := Lib.hid (fun p V (h : SuiteAt V p true ⟨#[]⟩) => mac8_any true ⟨#[]⟩ k hk t ht p V h)
  have K6 := Lib.hid (fun p V (h : SuiteAt V p true ⟨#[]⟩) => mac8_any true ⟨#[]⟩ j hj u hu p V h)
  have K7 := Lib.hid (fun p V (h : SuiteAt V p true ⟨#[]⟩) => seal8_any true ⟨#[]⟩ k hk n hn t ht p V h)
  have K8 := Lib.hid (fun p V (h : SuiteAt V p true ⟨#[]⟩) => seal8_any true ⟨#[]⟩ j hj m hm u hu p V h)
  rw [show bl ⟨#[]⟩ = [] from rfl] at K1 K2
  obtain ⟨R1, e1⟩ : ∃ R, R = keyP cryP true [] (bl a) := ⟨_, rfl⟩
  obtain ⟨R2, e2⟩ : ∃ R, R = keyP cryP true [] (bl b) := ⟨_, rfl⟩
  obtain ⟨R3, e3⟩ : ∃ R, R = hash8P cryP true (bl t) := ⟨_, rfl⟩
  obtain ⟨R4, e4⟩ : ∃ R, R = hash8P cryP true (bl u) := ⟨_, rfl⟩
  obtain ⟨R5, e5⟩ : ∃ R, R = mac8P cryP true (bl k) (bl t) := ⟨_, rfl⟩
  obtain ⟨R6, e6⟩ : ∃ R, R = mac8P cryP true (bl j) (bl u) := ⟨_, rfl⟩
  obtain ⟨R7, e7⟩ : ∃ R, R = seal8P cryP true (bl k) (bl n) (bl t) := ⟨_, rfl⟩
  obtain ⟨R8, e8⟩ : ∃ R, R = seal8P cryP true (bl j) (bl m) (bl u) := ⟨_, rfl⟩
  rw [← e1] at K1 g1
  rw [← e2] at K2 g2
  rw [← e3] at K3 g3
  rw [← e4] at K4 g4
  rw [← e5] at K5
  rw [← e6] at K6
  rw [← e7] at K7
  rw [← e8] at K8
  obtain ⟨r1, x1⟩ := R1
  obtain ⟨r2, x2⟩ := R2
  obtain ⟨r3, x3⟩ := R3
  obtain ⟨r4, x4⟩ := R4
  obtain ⟨r5, x5⟩ := R5
  obtain ⟨r6, x6⟩ := R6
  obtain ⟨r7, x7⟩ := R7
  obtain ⟨r8, x8⟩ := R8
  unfold st2 at K1 K2 K3 K4 K5 K6 K7 K8
  dsimp only at K1 K2 K3 K4 K5 K6 K7 K8
  have F1 : Hid (((x1 : Int) == 0) = true → ((x2 : Int) == 0) = true → eqT ⟨r1.toArray⟩ ⟨r2.toArray⟩ = eqT a b) := Lib.hid (fun h h' => by
    have h := zero_of h; have h' := zero_of h'; subst h; subst h'
    exact eqT_of (mk_iff ((key_apart e1.symm e2.symm).trans bl_iff)))
  have F2 : Hid (((x3 : Int) == 0) = true → ((x4 : Int) == 0) = true → eqT ⟨r3.toArray⟩ ⟨r4.toArray⟩ = eqT t u) := Lib.hid (fun h h' => by
    have h := zero_of h; have h' := zero_of h'; subst h; subst h'
    exact eqT_of (mk_iff ((hash_apart e3.symm e4.symm).trans bl_iff)))
  have F3 : Hid (((x5 : Int) == 0) = true → ((x6 : Int) == 0) = true → eqT ⟨r5.toArray⟩ ⟨r6.toArray⟩ = (eqT k j && eqT t u)) := Lib.hid (fun h h' => by
    have h := zero_of h; have h' := zero_of h'; subst h; subst h'
    exact eqT_and (mk_iff ((mac_apart e5.symm e6.symm).trans (and_congr bl_iff bl_iff))))
  have F4 : Hid (((x7 : Int) == 0) = true → ((x8 : Int) == 0) = true → eqT ⟨r7.toArray⟩ ⟨r8.toArray⟩ = (eqT k j && eqT n m && eqT t u)) := Lib.hid (fun h h' => by
    have h := zero_of h; have h' := zero_of h'; subst h; subst h'
    exact eqT_and3 (mk_iff ((seal_apart e7.symm e8.symm).trans (and_congr bl_iff (and_congr bl_iff bl_iff)))))
  have F5 : Hid (((x3 : Int) == 0) = true → ((x5 : Int) == 0) = true → eqT ⟨r3.toArray⟩ ⟨r5.toArray⟩ = false) := Lib.hid (fun h h' => by
    have h := zero_of h; have h' := zero_of h'; subst h; subst h'
    exact eqT_no (fun e => hash_mac e3.symm e5.symm (by have := congrArg bl e; rwa [bl_mk, bl_mk] at this)))
  have F6 : Hid (((x5 : Int) == 0) = true → ((x7 : Int) == 0) = true → eqT ⟨r5.toArray⟩ ⟨r7.toArray⟩ = false) := Lib.hid (fun h h' => by
    have h := zero_of h; have h' := zero_of h'; subst h; subst h'
    exact eqT_no (fun e => mac_seal e5.symm e7.symm (by have := congrArg bl e; rwa [bl_mk, bl_mk] at this)))
  generalize (⟨r1.toArray⟩ : ByteArray) = a1 at *
  generalize (⟨r2.toArray⟩ : ByteArray) = b1 at *
  generalize (⟨r3.toArray⟩ : ByteArray) = a2 at *
  generalize (⟨r4.toArray⟩ : ByteArray) = b2 at *
  generalize (⟨r5.toArray⟩ : ByteArray) = a3 at *
  generalize (⟨r6.toArray⟩ : ByteArray) = b3 at *
  generalize (⟨r7.toArray⟩ : ByteArray) = a4 at *
  generalize (⟨r8.toArray⟩ : ByteArray) = b4 at *
  clear hT h1 h2 hk hj hn hm ht hu ha hb e1 e2 e3 e4 e5 e6 e7 e8
  go_enter Tryd.func5, Tryd.ntmps5
  go_wp2_with fail
  refine (HN.out _ T0.out).mono ?_; rintro e w1 ⟨⟨p, rfl, s1⟩, b1⟩
  have B1 := Lib.hid b1
  have T1 := Lib.hid (T0.out.below b1)
  have S1 := Lib.hid s1
  clear b1 s1
  go_wp2_with fail
  refine (HL.out _).mono ?_; rintro e w2 ⟨rfl, rfl⟩
  go_wp2_with fail
  refine (HM.out _).mono ?_; rintro e w3 ⟨rfl, rfl⟩
  go_wp2_with fail
  refine (K1.out _ _ S1.out).mono ?_; rintro e w4 ⟨rfl, b4⟩
  have B4 := Lib.hid (below_step B1.out b4)
  have T4 := Lib.hid (T1.out.below b4)
  have S4 := Lib.hid (S1.out.below b4)
  clear b4
  go_wp2_with fail
  refine (K2.out _ _ S4.out).mono ?_; rintro e w5 ⟨rfl, b5⟩
  have B5 := Lib.hid (below_step B4.out b5)
  have T5 := Lib.hid (T4.out.below b5)
  have S5 := Lib.hid (S4.out.below b5)
  clear b5
  go_wp2_with fail
  refine (K3.out _ _ S5.out).mono ?_; rintro e w6 ⟨rfl, b6⟩
  have B6 := Lib.hid (below_step B5.out b6)
  have T6 := Lib.hid (T5.out.below b6)
  have S6 := Lib.hid (S5.out.below b6)
  clear b6
  go_wp2_with fail
  refine (K4.out _ _ S6.out).mono ?_; rintro e w7 ⟨rfl, b7⟩
  have B7 := Lib.hid (below_step B6.out b7)
  have T7 := Lib.hid (T6.out.below b7)
  have S7 := Lib.hid (S6.out.below b7)
  clear b7
  go_wp2_with fail
  refine (K5.out _ _ S7.out).mono ?_; rintro e w8 ⟨rfl, b8⟩
  have B8 := Lib.hid (below_step B7.out b8)
  have T8 := Lib.hid (T7.out.below b8)
  have S8 := Lib.hid (S7.out.below b8)
  clear b8
  go_wp2_with fail
  refine (K6.out _ _ S8.out).mono ?_; rintro e w9 ⟨rfl, b9⟩
  have B9 := Lib.hid (below_step B8.out b9)
  have T9 := Lib.hid (T8.out.below b9)
  have S9 := Lib.hid (S8.out.below b9)
  clear b9
  go_wp2_with fail
  refine (K7.out _ _ S9.out).mono ?_; rintro e w10 ⟨rfl, b10⟩
  have B10 := Lib.hid (below_step B9.out b10)
  have T10 := Lib.hid (T9.out.below b10)
  have S10 := Lib.hid (S9.out.below b10)
  clear b10
  go_wp2_with fail
  refine (K8.out _ _ S10.out).mono ?_; rintro e w11 ⟨rfl, b11⟩
  have B11 := Lib.hid (below_step B10.out b11)
  have T11 := Lib.hid (T10.out.below b11)
  have S11 := Lib.hid (S10.out.below b11)
  clear b11
  clear HN HL HM K1 K2 K3 K4 K5 K6 K7 K8 S11 B1 T1 S1 B4 T4 S4 B5 T5 S5 B6 T6 S6 B7 T7 S7 B8 T8 S8 B9 T9 S9 B10 T10 S10 T0
  obtain ⟨s1, hs1⟩ : ∃ z, eqT a b = z := ⟨_, rfl⟩
  obtain ⟨s2, hs2⟩ : ∃ z, eqT t u = z := ⟨_, rfl⟩
  obtain ⟨s3, hs3⟩ : ∃ z, eqT k j = z := ⟨_, rfl⟩
  obtain ⟨s4, hs4⟩ : ∃ z, eqT n m = z := ⟨_, rfl⟩
  have hs1' : (a.toList == b.toList) = s1 := hs1
  have hs2' : (t.toList == u.toList) = s2 := hs2
  have hs3' : (k.toList == j.toList) = s3 := hs3
  have hs4' : (n.toList == m.toList) = s4 := hs4
  subst g1
  subst g2
  have c0 := F1.out rfl rfl
  rw [hs1] at c0
  unfold eqT at c0
  subst g3
  subst g4
  have c1 := F2.out rfl rfl
  rw [hs2] at c1
  unfold eqT at c1
  by_cases g5 : x5 = 0
  · subst g5
    by_cases g6 : x6 = 0
    · subst g6
      have c2 := F3.out rfl rfl
      rw [hs3, hs2] at c2
      unfold eqT at c2
      by_cases g7 : x7 = 0
      · subst g7
        by_cases g8 : x8 = 0
        · subst g8
          have c3 := F4.out rfl rfl
          rw [hs3, hs4, hs2] at c3
          unfold eqT at c3
          have f5 := F5.out rfl rfl
          have f6 := F6.out rfl rfl
          have f5n : ¬ a2.toList = a3.toList := beq_eq_false_iff_ne.1 f5
          have f5b : (a2.toList == a3.toList) = false := f5
          have f5m : (a2.toList != a3.toList) = true := bne_iff_ne.2 f5n
          clear f5
          have f6n : ¬ a3.toList = a4.toList := beq_eq_false_iff_ne.1 f6
          have f6b : (a3.toList == a4.toList) = false := f6
          have f6m : (a3.toList != a4.toList) = true := bne_iff_ne.2 f6n
          clear f6
          clear F1 F2 F3 F4 F5 F6
          go_wp2_with fail
          all_goals
            refine (HA.out _ T11.out).mono ?_; rintro e w12 ⟨rfl, b12⟩
            have B12 := Lib.hid (below_step B11.out b12)
            clear b12
            go_wp2_with fail
            go_ret
            exact ⟨rfl, B12.out⟩
        · have c3 : True := trivial
          have y8 : ((x8 : Int) == 0) = false := by rw [beq_eq_false_iff_ne]; omega
          have z8 := neq0_no g8
          clear g8
          have f5 := F5.out rfl rfl
          have f6 := F6.out rfl rfl
          have f5n : ¬ a2.toList = a3.toList := beq_eq_false_iff_ne.1 f5
          have f5b : (a2.toList == a3.toList) = false := f5
          have f5m : (a2.toList != a3.toList) = true := bne_iff_ne.2 f5n
          clear f5
          have f6n : ¬ a3.toList = a4.toList := beq_eq_false_iff_ne.1 f6
          have f6b : (a3.toList == a4.toList) = false := f6
          have f6m : (a3.toList != a4.toList) = true := bne_iff_ne.2 f6n
          clear f6
          clear F1 F2 F3 F4 F5 F6
          go_wp2_with fail
          all_goals
            refine (HA.out _ T11.out).mono ?_; rintro e w12 ⟨rfl, b12⟩
            have B12 := Lib.hid (below_step B11.out b12)
            clear b12
            go_wp2_with fail
            go_ret
            exact ⟨rfl, B12.out⟩
      · have c3 : True := trivial
        have y7 : ((x7 : Int) == 0) = false := by rw [beq_eq_false_iff_ne]; omega
        have z7 := neq0_no g7
        clear g7
        have f5 := F5.out rfl rfl
        have f5n : ¬ a2.toList = a3.toList := beq_eq_false_iff_ne.1 f5
        have f5b : (a2.toList == a3.toList) = false := f5
        have f5m : (a2.toList != a3.toList) = true := bne_iff_ne.2 f5n
        clear f5
        clear F1 F2 F3 F4 F5 F6
        go_wp2_with fail
        all_goals
          refine (HA.out _ T11.out).mono ?_; rintro e w12 ⟨rfl, b12⟩
          have B12 := Lib.hid (below_step B11.out b12)
          clear b12
          go_wp2_with fail
          go_ret
          exact ⟨rfl, B12.out⟩
    · have c2 : True := trivial
      have y6 : ((x6 : Int) == 0) = false := by rw [beq_eq_false_iff_ne]; omega
      have z6 := neq0_no g6
      clear g6
      by_cases g7 : x7 = 0
      · subst g7
        by_cases g8 : x8 = 0
        · subst g8
          have c3 := F4.out rfl rfl
          rw [hs3, hs4, hs2] at c3
          unfold eqT at c3
          have f5 := F5.out rfl rfl
          have f6 := F6.out rfl rfl
          have f5n : ¬ a2.toList = a3.toList := beq_eq_false_iff_ne.1 f5
          have f5b : (a2.toList == a3.toList) = false := f5
          have f5m : (a2.toList != a3.toList) = true := bne_iff_ne.2 f5n
          clear f5
          have f6n : ¬ a3.toList = a4.toList := beq_eq_false_iff_ne.1 f6
          have f6b : (a3.toList == a4.toList) = false := f6
          have f6m : (a3.toList != a4.toList) = true := bne_iff_ne.2 f6n
          clear f6
          clear F1 F2 F3 F4 F5 F6
          go_wp2_with fail
          all_goals
            refine (HA.out _ T11.out).mono ?_; rintro e w12 ⟨rfl, b12⟩
            have B12 := Lib.hid (below_step B11.out b12)
            clear b12
            go_wp2_with fail
            go_ret
            exact ⟨rfl, B12.out⟩
        · have c3 : True := trivial
          have y8 : ((x8 : Int) == 0) = false := by rw [beq_eq_false_iff_ne]; omega
          have z8 := neq0_no g8
          clear g8
          have f5 := F5.out rfl rfl
          have f6 := F6.out rfl rfl
          have f5n : ¬ a2.toList = a3.toList := beq_eq_false_iff_ne.1 f5
          have f5b : (a2.toList == a3.toList) = false := f5
          have f5m : (a2.toList != a3.toList) = true := bne_iff_ne.2 f5n
          clear f5
          have f6n : ¬ a3.toList = a4.toList := beq_eq_false_iff_ne.1 f6
          have f6b : (a3.toList == a4.toList) = false := f6
          have f6m : (a3.toList != a4.toList) = true := bne_iff_ne.2 f6n
          clear f6
          clear F1 F2 F3 F4 F5 F6
          go_wp2_with fail
          all_goals
            refine (HA.out _ T11.out).mono ?_; rintro e w12 ⟨rfl, b12⟩
            have B12 := Lib.hid (below_step B11.out b12)
            clear b12
            go_wp2_with fail
            go_ret
            exact ⟨rfl, B12.out⟩
      · have c3 : True := trivial
        have y7 : ((x7 : Int) == 0) = false := by rw [beq_eq_false_iff_ne]; omega
        have z7 := neq0_no g7
        clear g7
        have f5 := F5.out rfl rfl
        have f5n : ¬ a2.toList = a3.toList := beq_eq_false_iff_ne.1 f5
        have f5b : (a2.toList == a3.toList) = false := f5
        have f5m : (a2.toList != a3.toList) = true := bne_iff_ne.2 f5n
        clear f5
        clear F1 F2 F3 F4 F5 F6
        go_wp2_with fail
        all_goals
          refine (HA.out _ T11.out).mono ?_; rintro e w12 ⟨rfl, b12⟩
          have B12 := Lib.hid (below_step B11.out b12)
          clear b12
          go_wp2_with fail
          go_ret
          exact ⟨rfl, B12.out⟩
  · have c2 : True := trivial
    have y5 : ((x5 : Int) == 0) = false := by rw [beq_eq_false_iff_ne]; omega
    have z5 := neq0_no g5
    clear g5
    by_cases g7 : x7 = 0
    · subst g7
      by_cases g8 : x8 = 0
      · subst g8
        have c3 := F4.out rfl rfl
        rw [hs3, hs4, hs2] at c3
        unfold eqT at c3
        clear F1 F2 F3 F4 F5 F6
        go_wp2_with fail
        all_goals
          refine (HA.out _ T11.out).mono ?_; rintro e w12 ⟨rfl, b12⟩
          have B12 := Lib.hid (below_step B11.out b12)
          clear b12
          go_wp2_with fail
          go_ret
          exact ⟨rfl, B12.out⟩
      · have c3 : True := trivial
        have y8 : ((x8 : Int) == 0) = false := by rw [beq_eq_false_iff_ne]; omega
        have z8 := neq0_no g8
        clear g8
        clear F1 F2 F3 F4 F5 F6
        go_wp2_with fail
        all_goals
          refine (HA.out _ T11.out).mono ?_; rintro e w12 ⟨rfl, b12⟩
          have B12 := Lib.hid (below_step B11.out b12)
          clear b12
          go_wp2_with fail
          go_ret
          exact ⟨rfl, B12.out⟩
    · have c3 : True := trivial
      have y7 : ((x7 : Int) == 0) = false := by rw [beq_eq_false_iff_ne]; omega
      have z7 := neq0_no g7
      clear g7
      clear F1 F2 F3 F4 F5 F6
      go_wp2_with fail
      all_goals
        refine (HA.out _ T11.out).mono ?_; rintro e w12 ⟨rfl, b12⟩
        have B12 := Lib.hid (below_step B11.out b12)
        clear b12
        go_wp2_with fail
        go_ret
        exact ⟨rfl, B12.out⟩
set_option maxHeartbeats 4000000 in
set_option maxRecDepth 100000 in
theorem suiteapart_01 (a b k j n m t u : ByteArray) (h1 : longB k j n m = false) (h2 : longB t u a b = false) (g1 : (keyP cryP true [] (bl a)).2 = 0) (g2 : (keyP cryP true [] (bl b)).2 = 0) (g3 : (hash8P cryP true (bl t)).2 = 0) (g4 : (hash8P cryP true (bl u)).2 ≠ 0) (w : World) (hT : Tab w) :
    Calls Tryd.prog 5 #[.string a, .string b, .string k, .string j, .string n, .string m, .string t, .string u] w fun e w' => e = .returned (.bool true) ∧ Below w.heap.size w w' := by
  have T0 := Lib.hid hT
  have HN := Lib.hid (fun V h => new_terms ⟨#[]⟩ V h)
  have HA := Lib.hid (fun V h => alive8_any V h)
  have HL := Lib.hid (fun V => long8_any k j n m V)
  have HM := Lib.hid (fun V => long8_any t u a b V)
  rw [h1] at HL
  rw [h2] at HM
  obtain ⟨hk, hj, hn, hm⟩ := longB_no h1
  obtain ⟨ht, hu, ha, hb⟩ := longB_no h2
  have K1 := Lib.hid (fun p V (h : SuiteAt V p true ⟨#[]⟩) => key8_any true ⟨#[]⟩ a ha p V h)
  have K2 := Lib.hid (fun p V (h : SuiteAt V p true ⟨#[]⟩) => key8_any true ⟨#[]⟩ b hb p V h)
  have K3 := Lib.hid (fun p V (h : SuiteAt V p true ⟨#[]⟩) => hash8_any true ⟨#[]⟩ t ht p V h)
  have K4 := Lib.hid (fun p V (h : SuiteAt V p true ⟨#[]⟩) => hash8_any true ⟨#[]⟩ u hu p V h)
  have K5 := Lib.hid (fun p V (h : SuiteAt V p true ⟨#[]⟩) => mac8_any true ⟨#[]⟩ k hk t ht p V h)
  have K6 := Lib.hid (fun p V (h : SuiteAt V p true ⟨#[]⟩) => mac8_any true ⟨#[]⟩ j hj u hu p V h)
  have K7 := Lib.hid (fun p V (h : SuiteAt V p true ⟨#[]⟩) => seal8_any true ⟨#[]⟩ k hk n hn t ht p V h)
  have K8 := Lib.hid (fun p V (h : SuiteAt V p true ⟨#[]⟩) => seal8_any true ⟨#[]⟩ j hj m hm u hu p V h)
  rw [show bl ⟨#[]⟩ = [] from rfl] at K1 K2
  obtain ⟨R1, e1⟩ : ∃ R, R = keyP cryP true [] (bl a) := ⟨_, rfl⟩
  obtain ⟨R2, e2⟩ : ∃ R, R = keyP cryP true [] (bl b) := ⟨_, rfl⟩
  obtain ⟨R3, e3⟩ : ∃ R, R = hash8P cryP true (bl t) := ⟨_, rfl⟩
  obtain ⟨R4, e4⟩ : ∃ R, R = hash8P cryP true (bl u) := ⟨_, rfl⟩
  obtain ⟨R5, e5⟩ : ∃ R, R = mac8P cryP true (bl k) (bl t) := ⟨_, rfl⟩
  obtain ⟨R6, e6⟩ : ∃ R, R = mac8P cryP true (bl j) (bl u) := ⟨_, rfl⟩
  obtain ⟨R7, e7⟩ : ∃ R, R = seal8P cryP true (bl k) (bl n) (bl t) := ⟨_, rfl⟩
  obtain ⟨R8, e8⟩ : ∃ R, R = seal8P cryP true (bl j) (bl m) (bl u) := ⟨_, rfl⟩
  rw [← e1] at K1 g1
  rw [← e2] at K2 g2
  rw [← e3] at K3 g3
  rw [← e4] at K4 g4
  rw [← e5] at K5
  rw [← e6] at K6
  rw [← e7] at K7
  rw [← e8] at K8
  obtain ⟨r1, x1⟩ := R1
  obtain ⟨r2, x2⟩ := R2
  obtain ⟨r3, x3⟩ := R3
  obtain ⟨r4, x4⟩ := R4
  obtain ⟨r5, x5⟩ := R5
  obtain ⟨r6, x6⟩ := R6
  obtain ⟨r7, x7⟩ := R7
  obtain ⟨r8, x8⟩ := R8
  unfold st2 at K1 K2 K3 K4 K5 K6 K7 K8
  dsimp only at K1 K2 K3 K4 K5 K6 K7 K8
  have F1 : Hid (((x1 : Int) == 0) = true → ((x2 : Int) == 0) = true → eqT ⟨r1.toArray⟩ ⟨r2.toArray⟩ = eqT a b) := Lib.hid (fun h h' => by
    have h := zero_of h; have h' := zero_of h'; subst h; subst h'
    exact eqT_of (mk_iff ((key_apart e1.symm e2.symm).trans bl_iff)))
  have F2 : Hid (((x3 : Int) == 0) = true → ((x4 : Int) == 0) = true → eqT ⟨r3.toArray⟩ ⟨r4.toArray⟩ = eqT t u) := Lib.hid (fun h h' => by
    have h := zero_of h; have h' := zero_of h'; subst h; subst h'
    exact eqT_of (mk_iff ((hash_apart e3.symm e4.symm).trans bl_iff)))
  have F3 : Hid (((x5 : Int) == 0) = true → ((x6 : Int) == 0) = true → eqT ⟨r5.toArray⟩ ⟨r6.toArray⟩ = (eqT k j && eqT t u)) := Lib.hid (fun h h' => by
    have h := zero_of h; have h' := zero_of h'; subst h; subst h'
    exact eqT_and (mk_iff ((mac_apart e5.symm e6.symm).trans (and_congr bl_iff bl_iff))))
  have F4 : Hid (((x7 : Int) == 0) = true → ((x8 : Int) == 0) = true → eqT ⟨r7.toArray⟩ ⟨r8.toArray⟩ = (eqT k j && eqT n m && eqT t u)) := Lib.hid (fun h h' => by
    have h := zero_of h; have h' := zero_of h'; subst h; subst h'
    exact eqT_and3 (mk_iff ((seal_apart e7.symm e8.symm).trans (and_congr bl_iff (and_congr bl_iff bl_iff)))))
  have F5 : Hid (((x3 : Int) == 0) = true → ((x5 : Int) == 0) = true → eqT ⟨r3.toArray⟩ ⟨r5.toArray⟩ = false) := Lib.hid (fun h h' => by
    have h := zero_of h; have h' := zero_of h'; subst h; subst h'
    exact eqT_no (fun e => hash_mac e3.symm e5.symm (by have := congrArg bl e; rwa [bl_mk, bl_mk] at this)))
  have F6 : Hid (((x5 : Int) == 0) = true → ((x7 : Int) == 0) = true → eqT ⟨r5.toArray⟩ ⟨r7.toArray⟩ = false) := Lib.hid (fun h h' => by
    have h := zero_of h; have h' := zero_of h'; subst h; subst h'
    exact eqT_no (fun e => mac_seal e5.symm e7.symm (by have := congrArg bl e; rwa [bl_mk, bl_mk] at this)))
  generalize (⟨r1.toArray⟩ : ByteArray) = a1 at *
  generalize (⟨r2.toArray⟩ : ByteArray) = b1 at *
  generalize (⟨r3.toArray⟩ : ByteArray) = a2 at *
  generalize (⟨r4.toArray⟩ : ByteArray) = b2 at *
  generalize (⟨r5.toArray⟩ : ByteArray) = a3 at *
  generalize (⟨r6.toArray⟩ : ByteArray) = b3 at *
  generalize (⟨r7.toArray⟩ : ByteArray) = a4 at *
  generalize (⟨r8.toArray⟩ : ByteArray) = b4 at *
  clear hT h1 h2 hk hj hn hm ht hu ha hb e1 e2 e3 e4 e5 e6 e7 e8
  go_enter Tryd.func5, Tryd.ntmps5
  go_wp2_with fail
  refine (HN.out _ T0.out).mono ?_; rintro e w1 ⟨⟨p, rfl, s1⟩, b1⟩
  have B1 := Lib.hid b1
  have T1 := Lib.hid (T0.out.below b1)
  have S1 := Lib.hid s1
  clear b1 s1
  go_wp2_with fail
  refine (HL.out _).mono ?_; rintro e w2 ⟨rfl, rfl⟩
  go_wp2_with fail
  refine (HM.out _).mono ?_; rintro e w3 ⟨rfl, rfl⟩
  go_wp2_with fail
  refine (K1.out _ _ S1.out).mono ?_; rintro e w4 ⟨rfl, b4⟩
  have B4 := Lib.hid (below_step B1.out b4)
  have T4 := Lib.hid (T1.out.below b4)
  have S4 := Lib.hid (S1.out.below b4)
  clear b4
  go_wp2_with fail
  refine (K2.out _ _ S4.out).mono ?_; rintro e w5 ⟨rfl, b5⟩
  have B5 := Lib.hid (below_step B4.out b5)
  have T5 := Lib.hid (T4.out.below b5)
  have S5 := Lib.hid (S4.out.below b5)
  clear b5
  go_wp2_with fail
  refine (K3.out _ _ S5.out).mono ?_; rintro e w6 ⟨rfl, b6⟩
  have B6 := Lib.hid (below_step B5.out b6)
  have T6 := Lib.hid (T5.out.below b6)
  have S6 := Lib.hid (S5.out.below b6)
  clear b6
  go_wp2_with fail
  refine (K4.out _ _ S6.out).mono ?_; rintro e w7 ⟨rfl, b7⟩
  have B7 := Lib.hid (below_step B6.out b7)
  have T7 := Lib.hid (T6.out.below b7)
  have S7 := Lib.hid (S6.out.below b7)
  clear b7
  go_wp2_with fail
  refine (K5.out _ _ S7.out).mono ?_; rintro e w8 ⟨rfl, b8⟩
  have B8 := Lib.hid (below_step B7.out b8)
  have T8 := Lib.hid (T7.out.below b8)
  have S8 := Lib.hid (S7.out.below b8)
  clear b8
  go_wp2_with fail
  refine (K6.out _ _ S8.out).mono ?_; rintro e w9 ⟨rfl, b9⟩
  have B9 := Lib.hid (below_step B8.out b9)
  have T9 := Lib.hid (T8.out.below b9)
  have S9 := Lib.hid (S8.out.below b9)
  clear b9
  go_wp2_with fail
  refine (K7.out _ _ S9.out).mono ?_; rintro e w10 ⟨rfl, b10⟩
  have B10 := Lib.hid (below_step B9.out b10)
  have T10 := Lib.hid (T9.out.below b10)
  have S10 := Lib.hid (S9.out.below b10)
  clear b10
  go_wp2_with fail
  refine (K8.out _ _ S10.out).mono ?_; rintro e w11 ⟨rfl, b11⟩
  have B11 := Lib.hid (below_step B10.out b11)
  have T11 := Lib.hid (T10.out.below b11)
  have S11 := Lib.hid (S10.out.below b11)
  clear b11
  clear HN HL HM K1 K2 K3 K4 K5 K6 K7 K8 S11 B1 T1 S1 B4 T4 S4 B5 T5 S5 B6 T6 S6 B7 T7 S7 B8 T8 S8 B9 T9 S9 B10 T10 S10 T0
  obtain ⟨s1, hs1⟩ : ∃ z, eqT a b = z := ⟨_, rfl⟩
  obtain ⟨s2, hs2⟩ : ∃ z, eqT t u = z := ⟨_, rfl⟩
  obtain ⟨s3, hs3⟩ : ∃ z, eqT k j = z := ⟨_, rfl⟩
  obtain ⟨s4, hs4⟩ : ∃ z, eqT n m = z := ⟨_, rfl⟩
  have hs1' : (a.toList == b.toList) = s1 := hs1
  have hs2' : (t.toList == u.toList) = s2 := hs2
  have hs3' : (k.toList == j.toList) = s3 := hs3
  have hs4' : (n.toList == m.toList) = s4 := hs4
  subst g1
  subst g2
  have c0 := F1.out rfl rfl
  rw [hs1] at c0
  unfold eqT at c0
  subst g3
  have c1 : True := trivial
  have y4 : ((x4 : Int) == 0) = false := by rw [beq_eq_false_iff_ne]; omega
  have z4 := neq0_no g4
  clear g4
  by_cases g5 : x5 = 0
  · subst g5
    by_cases g6 : x6 = 0
    · subst g6
      have c2 := F3.out rfl rfl
      rw [hs3, hs2] at c2
      unfold eqT at c2
      by_cases g7 : x7 = 0
      · subst g7
        by_cases g8 : x8 = 0
        · subst g8
          have c3 := F4.out rfl rfl
          rw [hs3, hs4, hs2] at c3
          unfold eqT at c3
          have f5 := F5.out rfl rfl
          have f6 := F6.out rfl rfl
          have f5n : ¬ a2.toList = a3.toList := beq_eq_false_iff_ne.1 f5
          have f5b : (a2.toList == a3.toList) = false := f5
          have f5m : (a2.toList != a3.toList) = true := bne_iff_ne.2 f5n
          clear f5
          have f6n : ¬ a3.toList = a4.toList := beq_eq_false_iff_ne.1 f6
          have f6b : (a3.toList == a4.toList) = false := f6
          have f6m : (a3.toList != a4.toList) = true := bne_iff_ne.2 f6n
          clear f6
          clear F1 F2 F3 F4 F5 F6
          go_wp2_with fail
          all_goals
            refine (HA.out _ T11.out).mono ?_; rintro e w12 ⟨rfl, b12⟩
            have B12 := Lib.hid (below_step B11.out b12)
            clear b12
            go_wp2_with fail
            go_ret
            exact ⟨rfl, B12.out⟩
        · have c3 : True := trivial
          have y8 : ((x8 : Int) == 0) = false := by rw [beq_eq_false_iff_ne]; omega
          have z8 := neq0_no g8
          clear g8
          have f5 := F5.out rfl rfl
          have f6 := F6.out rfl rfl
          have f5n : ¬ a2.toList = a3.toList := beq_eq_false_iff_ne.1 f5
          have f5b : (a2.toList == a3.toList) = false := f5
          have f5m : (a2.toList != a3.toList) = true := bne_iff_ne.2 f5n
          clear f5
          have f6n : ¬ a3.toList = a4.toList := beq_eq_false_iff_ne.1 f6
          have f6b : (a3.toList == a4.toList) = false := f6
          have f6m : (a3.toList != a4.toList) = true := bne_iff_ne.2 f6n
          clear f6
          clear F1 F2 F3 F4 F5 F6
          go_wp2_with fail
          all_goals
            refine (HA.out _ T11.out).mono ?_; rintro e w12 ⟨rfl, b12⟩
            have B12 := Lib.hid (below_step B11.out b12)
            clear b12
            go_wp2_with fail
            go_ret
            exact ⟨rfl, B12.out⟩
      · have c3 : True := trivial
        have y7 : ((x7 : Int) == 0) = false := by rw [beq_eq_false_iff_ne]; omega
        have z7 := neq0_no g7
        clear g7
        have f5 := F5.out rfl rfl
        have f5n : ¬ a2.toList = a3.toList := beq_eq_false_iff_ne.1 f5
        have f5b : (a2.toList == a3.toList) = false := f5
        have f5m : (a2.toList != a3.toList) = true := bne_iff_ne.2 f5n
        clear f5
        clear F1 F2 F3 F4 F5 F6
        go_wp2_with fail
        all_goals
          refine (HA.out _ T11.out).mono ?_; rintro e w12 ⟨rfl, b12⟩
          have B12 := Lib.hid (below_step B11.out b12)
          clear b12
          go_wp2_with fail
          go_ret
          exact ⟨rfl, B12.out⟩
    · have c2 : True := trivial
      have y6 : ((x6 : Int) == 0) = false := by rw [beq_eq_false_iff_ne]; omega
      have z6 := neq0_no g6
      clear g6
      by_cases g7 : x7 = 0
      · subst g7
        by_cases g8 : x8 = 0
        · subst g8
          have c3 := F4.out rfl rfl
          rw [hs3, hs4, hs2] at c3
          unfold eqT at c3
          have f5 := F5.out rfl rfl
          have f6 := F6.out rfl rfl
          have f5n : ¬ a2.toList = a3.toList := beq_eq_false_iff_ne.1 f5
          have f5b : (a2.toList == a3.toList) = false := f5
          have f5m : (a2.toList != a3.toList) = true := bne_iff_ne.2 f5n
          clear f5
          have f6n : ¬ a3.toList = a4.toList := beq_eq_false_iff_ne.1 f6
          have f6b : (a3.toList == a4.toList) = false := f6
          have f6m : (a3.toList != a4.toList) = true := bne_iff_ne.2 f6n
          clear f6
          clear F1 F2 F3 F4 F5 F6
          go_wp2_with fail
          all_goals
            refine (HA.out _ T11.out).mono ?_; rintro e w12 ⟨rfl, b12⟩
            have B12 := Lib.hid (below_step B11.out b12)
            clear b12
            go_wp2_with fail
            go_ret
            exact ⟨rfl, B12.out⟩
        · have c3 : True := trivial
          have y8 : ((x8 : Int) == 0) = false := by rw [beq_eq_false_iff_ne]; omega
          have z8 := neq0_no g8
          clear g8
          have f5 := F5.out rfl rfl
          have f6 := F6.out rfl rfl
          have f5n : ¬ a2.toList = a3.toList := beq_eq_false_iff_ne.1 f5
          have f5b : (a2.toList == a3.toList) = false := f5
          have f5m : (a2.toList != a3.toList) = true := bne_iff_ne.2 f5n
          clear f5
          have f6n : ¬ a3.toList = a4.toList := beq_eq_false_iff_ne.1 f6
          have f6b : (a3.toList == a4.toList) = false := f6
          have f6m : (a3.toList != a4.toList) = true := bne_iff_ne.2 f6n
          clear f6
          clear F1 F2 F3 F4 F5 F6
          go_wp2_with fail
          all_goals
            refine (HA.out _ T11.out).mono ?_; rintro e w12 ⟨rfl, b12⟩
            have B12 := Lib.hid (below_step B11.out b12)
            clear b12
            go_wp2_with fail
            go_ret
            exact ⟨rfl, B12.out⟩
      · have c3 : True := trivial
        have y7 : ((x7 : Int) == 0) = false := by rw [beq_eq_false_iff_ne]; omega
        have z7 := neq0_no g7
        clear g7
        have f5 := F5.out rfl rfl
        have f5n : ¬ a2.toList = a3.toList := beq_eq_false_iff_ne.1 f5
        have f5b : (a2.toList == a3.toList) = false := f5
        have f5m : (a2.toList != a3.toList) = true := bne_iff_ne.2 f5n
        clear f5
        clear F1 F2 F3 F4 F5 F6
        go_wp2_with fail
        all_goals
          refine (HA.out _ T11.out).mono ?_; rintro e w12 ⟨rfl, b12⟩
          have B12 := Lib.hid (below_step B11.out b12)
          clear b12
          go_wp2_with fail
          go_ret
          exact ⟨rfl, B12.out⟩
  · have c2 : True := trivial
    have y5 : ((x5 : Int) == 0) = false := by rw [beq_eq_false_iff_ne]; omega
    have z5 := neq0_no g5
    clear g5
    by_cases g7 : x7 = 0
    · subst g7
      by_cases g8 : x8 = 0
      · subst g8
        have c3 := F4.out rfl rfl
        rw [hs3, hs4, hs2] at c3
        unfold eqT at c3
        clear F1 F2 F3 F4 F5 F6
        go_wp2_with fail
        all_goals
          refine (HA.out _ T11.out).mono ?_; rintro e w12 ⟨rfl, b12⟩
          have B12 := Lib.hid (below_step B11.out b12)
          clear b12
          go_wp2_with fail
          go_ret
          exact ⟨rfl, B12.out⟩
      · have c3 : True := trivial
        have y8 : ((x8 : Int) == 0) = false := by rw [beq_eq_false_iff_ne]; omega
        have z8 := neq0_no g8
        clear g8
        clear F1 F2 F3 F4 F5 F6
        go_wp2_with fail
        all_goals
          refine (HA.out _ T11.out).mono ?_; rintro e w12 ⟨rfl, b12⟩
          have B12 := Lib.hid (below_step B11.out b12)
          clear b12
          go_wp2_with fail
          go_ret
          exact ⟨rfl, B12.out⟩
    · have c3 : True := trivial
      have y7 : ((x7 : Int) == 0) = false := by rw [beq_eq_false_iff_ne]; omega
      have z7 := neq0_no g7
      clear g7
      clear F1 F2 F3 F4 F5 F6
      go_wp2_with fail
      all_goals
        refine (HA.out _ T11.out).mono ?_; rintro e w12 ⟨rfl, b12⟩
        have B12 := Lib.hid (below_step B11.out b12)
        clear b12
        go_wp2_with fail
        go_ret
        exact ⟨rfl, B12.out⟩
set_option maxHeartbeats 4000000 in
set_option maxRecDepth 100000 in
theorem suiteapart_02 (a b k j n m t u : ByteArray) (h1 : longB k j n m = false) (h2 : longB t u a b = false) (g1 : (keyP cryP true [] (bl a)).2 = 0) (g2 : (keyP cryP true [] (bl b)).2 = 0) (g3 : (hash8P cryP true (bl t)).2 ≠ 0) (w : World) (hT : Tab w) :
    Calls Tryd.prog 5 #[.string a, .string b, .string k, .string j, .string n, .string m, .string t, .string u] w fun e w' => e = .returned (.bool true) ∧ Below w.heap.size w w' := by
  have T0 := Lib.hid hT
  have HN := Lib.hid (fun V h => new_terms ⟨#[]⟩ V h)
  have HA := Lib.hid (fun V h => alive8_any V h)
  have HL := Lib.hid (fun V => long8_any k j n m V)
  have HM := Lib.hid (fun V => long8_any t u a b V)
  rw [h1] at HL
  rw [h2] at HM
  obtain ⟨hk, hj, hn, hm⟩ := longB_no h1
  obtain ⟨ht, hu, ha, hb⟩ := longB_no h2
  have K1 := Lib.hid (fun p V (h : SuiteAt V p true ⟨#[]⟩) => key8_any true ⟨#[]⟩ a ha p V h)
  have K2 := Lib.hid (fun p V (h : SuiteAt V p true ⟨#[]⟩) => key8_any true ⟨#[]⟩ b hb p V h)
  have K3 := Lib.hid (fun p V (h : SuiteAt V p true ⟨#[]⟩) => hash8_any true ⟨#[]⟩ t ht p V h)
  have K4 := Lib.hid (fun p V (h : SuiteAt V p true ⟨#[]⟩) => hash8_any true ⟨#[]⟩ u hu p V h)
  have K5 := Lib.hid (fun p V (h : SuiteAt V p true ⟨#[]⟩) => mac8_any true ⟨#[]⟩ k hk t ht p V h)
  have K6 := Lib.hid (fun p V (h : SuiteAt V p true ⟨#[]⟩) => mac8_any true ⟨#[]⟩ j hj u hu p V h)
  have K7 := Lib.hid (fun p V (h : SuiteAt V p true ⟨#[]⟩) => seal8_any true ⟨#[]⟩ k hk n hn t ht p V h)
  have K8 := Lib.hid (fun p V (h : SuiteAt V p true ⟨#[]⟩) => seal8_any true ⟨#[]⟩ j hj m hm u hu p V h)
  rw [show bl ⟨#[]⟩ = [] from rfl] at K1 K2
  obtain ⟨R1, e1⟩ : ∃ R, R = keyP cryP true [] (bl a) := ⟨_, rfl⟩
  obtain ⟨R2, e2⟩ : ∃ R, R = keyP cryP true [] (bl b) := ⟨_, rfl⟩
  obtain ⟨R3, e3⟩ : ∃ R, R = hash8P cryP true (bl t) := ⟨_, rfl⟩
  obtain ⟨R4, e4⟩ : ∃ R, R = hash8P cryP true (bl u) := ⟨_, rfl⟩
  obtain ⟨R5, e5⟩ : ∃ R, R = mac8P cryP true (bl k) (bl t) := ⟨_, rfl⟩
  obtain ⟨R6, e6⟩ : ∃ R, R = mac8P cryP true (bl j) (bl u) := ⟨_, rfl⟩
  obtain ⟨R7, e7⟩ : ∃ R, R = seal8P cryP true (bl k) (bl n) (bl t) := ⟨_, rfl⟩
  obtain ⟨R8, e8⟩ : ∃ R, R = seal8P cryP true (bl j) (bl m) (bl u) := ⟨_, rfl⟩
  rw [← e1] at K1 g1
  rw [← e2] at K2 g2
  rw [← e3] at K3 g3
  rw [← e4] at K4
  rw [← e5] at K5
  rw [← e6] at K6
  rw [← e7] at K7
  rw [← e8] at K8
  obtain ⟨r1, x1⟩ := R1
  obtain ⟨r2, x2⟩ := R2
  obtain ⟨r3, x3⟩ := R3
  obtain ⟨r4, x4⟩ := R4
  obtain ⟨r5, x5⟩ := R5
  obtain ⟨r6, x6⟩ := R6
  obtain ⟨r7, x7⟩ := R7
  obtain ⟨r8, x8⟩ := R8
  unfold st2 at K1 K2 K3 K4 K5 K6 K7 K8
  dsimp only at K1 K2 K3 K4 K5 K6 K7 K8
  have F1 : Hid (((x1 : Int) == 0) = true → ((x2 : Int) == 0) = true → eqT ⟨r1.toArray⟩ ⟨r2.toArray⟩ = eqT a b) := Lib.hid (fun h h' => by
    have h := zero_of h; have h' := zero_of h'; subst h; subst h'
    exact eqT_of (mk_iff ((key_apart e1.symm e2.symm).trans bl_iff)))
  have F2 : Hid (((x3 : Int) == 0) = true → ((x4 : Int) == 0) = true → eqT ⟨r3.toArray⟩ ⟨r4.toArray⟩ = eqT t u) := Lib.hid (fun h h' => by
    have h := zero_of h; have h' := zero_of h'; subst h; subst h'
    exact eqT_of (mk_iff ((hash_apart e3.symm e4.symm).trans bl_iff)))
  have F3 : Hid (((x5 : Int) == 0) = true → ((x6 : Int) == 0) = true → eqT ⟨r5.toArray⟩ ⟨r6.toArray⟩ = (eqT k j && eqT t u)) := Lib.hid (fun h h' => by
    have h := zero_of h; have h' := zero_of h'; subst h; subst h'
    exact eqT_and (mk_iff ((mac_apart e5.symm e6.symm).trans (and_congr bl_iff bl_iff))))
  have F4 : Hid (((x7 : Int) == 0) = true → ((x8 : Int) == 0) = true → eqT ⟨r7.toArray⟩ ⟨r8.toArray⟩ = (eqT k j && eqT n m && eqT t u)) := Lib.hid (fun h h' => by
    have h := zero_of h; have h' := zero_of h'; subst h; subst h'
    exact eqT_and3 (mk_iff ((seal_apart e7.symm e8.symm).trans (and_congr bl_iff (and_congr bl_iff bl_iff)))))
  have F5 : Hid (((x3 : Int) == 0) = true → ((x5 : Int) == 0) = true → eqT ⟨r3.toArray⟩ ⟨r5.toArray⟩ = false) := Lib.hid (fun h h' => by
    have h := zero_of h; have h' := zero_of h'; subst h; subst h'
    exact eqT_no (fun e => hash_mac e3.symm e5.symm (by have := congrArg bl e; rwa [bl_mk, bl_mk] at this)))
  have F6 : Hid (((x5 : Int) == 0) = true → ((x7 : Int) == 0) = true → eqT ⟨r5.toArray⟩ ⟨r7.toArray⟩ = false) := Lib.hid (fun h h' => by
    have h := zero_of h; have h' := zero_of h'; subst h; subst h'
    exact eqT_no (fun e => mac_seal e5.symm e7.symm (by have := congrArg bl e; rwa [bl_mk, bl_mk] at this)))
  generalize (⟨r1.toArray⟩ : ByteArray) = a1 at *
  generalize (⟨r2.toArray⟩ : ByteArray) = b1 at *
  generalize (⟨r3.toArray⟩ : ByteArray) = a2 at *
  generalize (⟨r4.toArray⟩ : ByteArray) = b2 at *
  generalize (⟨r5.toArray⟩ : ByteArray) = a3 at *
  generalize (⟨r6.toArray⟩ : ByteArray) = b3 at *
  generalize (⟨r7.toArray⟩ : ByteArray) = a4 at *
  generalize (⟨r8.toArray⟩ : ByteArray) = b4 at *
  clear hT h1 h2 hk hj hn hm ht hu ha hb e1 e2 e3 e4 e5 e6 e7 e8
  go_enter Tryd.func5, Tryd.ntmps5
  go_wp2_with fail
  refine (HN.out _ T0.out).mono ?_; rintro e w1 ⟨⟨p, rfl, s1⟩, b1⟩
  have B1 := Lib.hid b1
  have T1 := Lib.hid (T0.out.below b1)
  have S1 := Lib.hid s1
  clear b1 s1
  go_wp2_with fail
  refine (HL.out _).mono ?_; rintro e w2 ⟨rfl, rfl⟩
  go_wp2_with fail
  refine (HM.out _).mono ?_; rintro e w3 ⟨rfl, rfl⟩
  go_wp2_with fail
  refine (K1.out _ _ S1.out).mono ?_; rintro e w4 ⟨rfl, b4⟩
  have B4 := Lib.hid (below_step B1.out b4)
  have T4 := Lib.hid (T1.out.below b4)
  have S4 := Lib.hid (S1.out.below b4)
  clear b4
  go_wp2_with fail
  refine (K2.out _ _ S4.out).mono ?_; rintro e w5 ⟨rfl, b5⟩
  have B5 := Lib.hid (below_step B4.out b5)
  have T5 := Lib.hid (T4.out.below b5)
  have S5 := Lib.hid (S4.out.below b5)
  clear b5
  go_wp2_with fail
  refine (K3.out _ _ S5.out).mono ?_; rintro e w6 ⟨rfl, b6⟩
  have B6 := Lib.hid (below_step B5.out b6)
  have T6 := Lib.hid (T5.out.below b6)
  have S6 := Lib.hid (S5.out.below b6)
  clear b6
  go_wp2_with fail
  refine (K4.out _ _ S6.out).mono ?_; rintro e w7 ⟨rfl, b7⟩
  have B7 := Lib.hid (below_step B6.out b7)
  have T7 := Lib.hid (T6.out.below b7)
  have S7 := Lib.hid (S6.out.below b7)
  clear b7
  go_wp2_with fail
  refine (K5.out _ _ S7.out).mono ?_; rintro e w8 ⟨rfl, b8⟩
  have B8 := Lib.hid (below_step B7.out b8)
  have T8 := Lib.hid (T7.out.below b8)
  have S8 := Lib.hid (S7.out.below b8)
  clear b8
  go_wp2_with fail
  refine (K6.out _ _ S8.out).mono ?_; rintro e w9 ⟨rfl, b9⟩
  have B9 := Lib.hid (below_step B8.out b9)
  have T9 := Lib.hid (T8.out.below b9)
  have S9 := Lib.hid (S8.out.below b9)
  clear b9
  go_wp2_with fail
  refine (K7.out _ _ S9.out).mono ?_; rintro e w10 ⟨rfl, b10⟩
  have B10 := Lib.hid (below_step B9.out b10)
  have T10 := Lib.hid (T9.out.below b10)
  have S10 := Lib.hid (S9.out.below b10)
  clear b10
  go_wp2_with fail
  refine (K8.out _ _ S10.out).mono ?_; rintro e w11 ⟨rfl, b11⟩
  have B11 := Lib.hid (below_step B10.out b11)
  have T11 := Lib.hid (T10.out.below b11)
  have S11 := Lib.hid (S10.out.below b11)
  clear b11
  clear HN HL HM K1 K2 K3 K4 K5 K6 K7 K8 S11 B1 T1 S1 B4 T4 S4 B5 T5 S5 B6 T6 S6 B7 T7 S7 B8 T8 S8 B9 T9 S9 B10 T10 S10 T0
  obtain ⟨s1, hs1⟩ : ∃ z, eqT a b = z := ⟨_, rfl⟩
  obtain ⟨s2, hs2⟩ : ∃ z, eqT t u = z := ⟨_, rfl⟩
  obtain ⟨s3, hs3⟩ : ∃ z, eqT k j = z := ⟨_, rfl⟩
  obtain ⟨s4, hs4⟩ : ∃ z, eqT n m = z := ⟨_, rfl⟩
  have hs1' : (a.toList == b.toList) = s1 := hs1
  have hs2' : (t.toList == u.toList) = s2 := hs2
  have hs3' : (k.toList == j.toList) = s3 := hs3
  have hs4' : (n.toList == m.toList) = s4 := hs4
  subst g1
  subst g2
  have c0 := F1.out rfl rfl
  rw [hs1] at c0
  unfold eqT at c0
  have c1 : True := trivial
  have y3 : ((x3 : Int) == 0) = false := by rw [beq_eq_false_iff_ne]; omega
  have z3 := neq0_no g3
  clear g3
  by_cases g5 : x5 = 0
  · subst g5
    by_cases g6 : x6 = 0
    · subst g6
      have c2 := F3.out rfl rfl
      rw [hs3, hs2] at c2
      unfold eqT at c2
      by_cases g7 : x7 = 0
      · subst g7
        by_cases g8 : x8 = 0
        · subst g8
          have c3 := F4.out rfl rfl
          rw [hs3, hs4, hs2] at c3
          unfold eqT at c3
          have f6 := F6.out rfl rfl
          have f6n : ¬ a3.toList = a4.toList := beq_eq_false_iff_ne.1 f6
          have f6b : (a3.toList == a4.toList) = false := f6
          have f6m : (a3.toList != a4.toList) = true := bne_iff_ne.2 f6n
          clear f6
          clear F1 F2 F3 F4 F5 F6
          go_wp2_with fail
          all_goals
            refine (HA.out _ T11.out).mono ?_; rintro e w12 ⟨rfl, b12⟩
            have B12 := Lib.hid (below_step B11.out b12)
            clear b12
            go_wp2_with fail
            go_ret
            exact ⟨rfl, B12.out⟩
        · have c3 : True := trivial
          have y8 : ((x8 : Int) == 0) = false := by rw [beq_eq_false_iff_ne]; omega
          have z8 := neq0_no g8
          clear g8
          have f6 := F6.out rfl rfl
          have f6n : ¬ a3.toList = a4.toList := beq_eq_false_iff_ne.1 f6
          have f6b : (a3.toList == a4.toList) = false := f6
          have f6m : (a3.toList != a4.toList) = true := bne_iff_ne.2 f6n
          clear f6
          clear F1 F2 F3 F4 F5 F6
          go_wp2_with fail
          all_goals
            refine (HA.out _ T11.out).mono ?_; rintro e w12 ⟨rfl, b12⟩
            have B12 := Lib.hid (below_step B11.out b12)
            clear b12
            go_wp2_with fail
            go_ret
            exact ⟨rfl, B12.out⟩
      · have c3 : True := trivial
        have y7 : ((x7 : Int) == 0) = false := by rw [beq_eq_false_iff_ne]; omega
        have z7 := neq0_no g7
        clear g7
        clear F1 F2 F3 F4 F5 F6
        go_wp2_with fail
        all_goals
          refine (HA.out _ T11.out).mono ?_; rintro e w12 ⟨rfl, b12⟩
          have B12 := Lib.hid (below_step B11.out b12)
          clear b12
          go_wp2_with fail
          go_ret
          exact ⟨rfl, B12.out⟩
    · have c2 : True := trivial
      have y6 : ((x6 : Int) == 0) = false := by rw [beq_eq_false_iff_ne]; omega
      have z6 := neq0_no g6
      clear g6
      by_cases g7 : x7 = 0
      · subst g7
        by_cases g8 : x8 = 0
        · subst g8
          have c3 := F4.out rfl rfl
          rw [hs3, hs4, hs2] at c3
          unfold eqT at c3
          have f6 := F6.out rfl rfl
          have f6n : ¬ a3.toList = a4.toList := beq_eq_false_iff_ne.1 f6
          have f6b : (a3.toList == a4.toList) = false := f6
          have f6m : (a3.toList != a4.toList) = true := bne_iff_ne.2 f6n
          clear f6
          clear F1 F2 F3 F4 F5 F6
          go_wp2_with fail
          all_goals
            refine (HA.out _ T11.out).mono ?_; rintro e w12 ⟨rfl, b12⟩
            have B12 := Lib.hid (below_step B11.out b12)
            clear b12
            go_wp2_with fail
            go_ret
            exact ⟨rfl, B12.out⟩
        · have c3 : True := trivial
          have y8 : ((x8 : Int) == 0) = false := by rw [beq_eq_false_iff_ne]; omega
          have z8 := neq0_no g8
          clear g8
          have f6 := F6.out rfl rfl
          have f6n : ¬ a3.toList = a4.toList := beq_eq_false_iff_ne.1 f6
          have f6b : (a3.toList == a4.toList) = false := f6
          have f6m : (a3.toList != a4.toList) = true := bne_iff_ne.2 f6n
          clear f6
          clear F1 F2 F3 F4 F5 F6
          go_wp2_with fail
          all_goals
            refine (HA.out _ T11.out).mono ?_; rintro e w12 ⟨rfl, b12⟩
            have B12 := Lib.hid (below_step B11.out b12)
            clear b12
            go_wp2_with fail
            go_ret
            exact ⟨rfl, B12.out⟩
      · have c3 : True := trivial
        have y7 : ((x7 : Int) == 0) = false := by rw [beq_eq_false_iff_ne]; omega
        have z7 := neq0_no g7
        clear g7
        clear F1 F2 F3 F4 F5 F6
        go_wp2_with fail
        all_goals
          refine (HA.out _ T11.out).mono ?_; rintro e w12 ⟨rfl, b12⟩
          have B12 := Lib.hid (below_step B11.out b12)
          clear b12
          go_wp2_with fail
          go_ret
          exact ⟨rfl, B12.out⟩
  · have c2 : True := trivial
    have y5 : ((x5 : Int) == 0) = false := by rw [beq_eq_false_iff_ne]; omega
    have z5 := neq0_no g5
    clear g5
    by_cases g7 : x7 = 0
    · subst g7
      by_cases g8 : x8 = 0
      · subst g8
        have c3 := F4.out rfl rfl
        rw [hs3, hs4, hs2] at c3
        unfold eqT at c3
        clear F1 F2 F3 F4 F5 F6
        go_wp2_with fail
        all_goals
          refine (HA.out _ T11.out).mono ?_; rintro e w12 ⟨rfl, b12⟩
          have B12 := Lib.hid (below_step B11.out b12)
          clear b12
          go_wp2_with fail
          go_ret
          exact ⟨rfl, B12.out⟩
      · have c3 : True := trivial
        have y8 : ((x8 : Int) == 0) = false := by rw [beq_eq_false_iff_ne]; omega
        have z8 := neq0_no g8
        clear g8
        clear F1 F2 F3 F4 F5 F6
        go_wp2_with fail
        all_goals
          refine (HA.out _ T11.out).mono ?_; rintro e w12 ⟨rfl, b12⟩
          have B12 := Lib.hid (below_step B11.out b12)
          clear b12
          go_wp2_with fail
          go_ret
          exact ⟨rfl, B12.out⟩
    · have c3 : True := trivial
      have y7 : ((x7 : Int) == 0) = false := by rw [beq_eq_false_iff_ne]; omega
      have z7 := neq0_no g7
      clear g7
      clear F1 F2 F3 F4 F5 F6
      go_wp2_with fail
      all_goals
        refine (HA.out _ T11.out).mono ?_; rintro e w12 ⟨rfl, b12⟩
        have B12 := Lib.hid (below_step B11.out b12)
        clear b12
        go_wp2_with fail
        go_ret
        exact ⟨rfl, B12.out⟩
end Go.Proofs.YtedidoeoomijjaaDoor.Pl
