/- SuiteApart answers true, whatever it is given. -/
import Derived.Test.YtedidoeoomijjaaDoorSuiteApart0
import Derived.Test.YtedidoeoomijjaaDoorSuiteApart1
import Derived.Test.YtedidoeoomijjaaDoorSuiteApart2
namespace Go.Proofs.YtedidoeoomijjaaDoor.Pl
open Go.RowKit

set_option maxRecDepth 100000 in
theorem suiteapart_long (a b k j n m t u : ByteArray) (h : longB k j n m = true ∨ (longB k j n m = false ∧ longB t u a b = true)) (w : World) (hT : Tab w) :
    Calls Tryd.prog 5 #[.string a, .string b, .string k, .string j, .string n, .string m, .string t, .string u] w fun e w' => e = .returned (.bool true) ∧ Below w.heap.size w w' := by
  have T0 := Lib.hid hT
  have HN := Lib.hid (fun V h => new_terms ⟨#[]⟩ V h)
  have HA := Lib.hid (fun V h => alive8_any V h)
  have HL := Lib.hid (fun V => long8_any k j n m V)
  have HM := Lib.hid (fun V => long8_any t u a b V)
  rcases h with h | ⟨h, h2⟩
  · rw [h] at HL
    clear hT h HM
    go_enter Tryd.func5, Tryd.ntmps5
    go_wp2_with fail
    refine (HN.out _ T0.out).mono ?_; rintro e w1 ⟨⟨p, rfl, s1⟩, b1⟩
    have B1 := Lib.hid b1
    have T1 := Lib.hid (T0.out.below b1)
    have S1 := Lib.hid s1
    clear b1 s1
    go_wp2_with fail
    refine (HL.out _).mono ?_; rintro e w2 ⟨rfl, rfl⟩
    go_wp2_with fail
    refine (HA.out _ T1.out).mono ?_; rintro e w3 ⟨rfl, b3⟩
    have B3 := Lib.hid (below_step B1.out b3)
    have T3 := Lib.hid (T1.out.below b3)
    have S3 := Lib.hid (S1.out.below b3)
    clear b3
    go_wp2_with fail
    go_ret
    exact ⟨rfl, B3.out⟩
  · rw [h] at HL
    rw [h2] at HM
    clear hT h h2
    go_enter Tryd.func5, Tryd.ntmps5
    go_wp2_with fail
    refine (HN.out _ T0.out).mono ?_; rintro e w1 ⟨⟨p, rfl, s1⟩, b1⟩
    have B1 := Lib.hid b1
    have T1 := Lib.hid (T0.out.below b1)
    have S1 := Lib.hid s1
    clear b1 s1
    go_wp2_with fail
    refine (HL.out _).mono ?_; rintro e w2 ⟨rfl, rfl⟩
    go_wp2_with fail
    refine (HM.out _).mono ?_; rintro e w3 ⟨rfl, rfl⟩
    go_wp2_with fail
    refine (HA.out _ T1.out).mono ?_; rintro e w4 ⟨rfl, b4⟩
    have B4 := Lib.hid (below_step B1.out b4)
    have T4 := Lib.hid (T1.out.below b4)
    have S4 := Lib.hid (S1.out.below b4)
    clear b4
    go_wp2_with fail
    go_ret
    exact ⟨rfl, B4.out⟩
theorem suiteapart_any (a b k j n m t u : ByteArray) (w : World) (hT : Tab w) :
    Calls Tryd.prog 5 #[.string a, .string b, .string k, .string j, .string n, .string m, .string t, .string u] w fun e w' => e = .returned (.bool true) ∧ Below w.heap.size w w' := by
  cases h1 : longB k j n m with
  | true => exact suiteapart_long a b k j n m t u (.inl h1) w hT
  | false =>
    cases h2 : longB t u a b with
    | true => exact suiteapart_long a b k j n m t u (.inr ⟨h1, h2⟩) w hT
    | false =>
      by_cases g1 : (keyP cryP true [] (bl a)).2 = 0
      · by_cases g2 : (keyP cryP true [] (bl b)).2 = 0
        · by_cases g3 : (hash8P cryP true (bl t)).2 = 0
          · by_cases g4 : (hash8P cryP true (bl u)).2 = 0
            · exact suiteapart_00 a b k j n m t u h1 h2 g1 g2 g3 g4 w hT
            · exact suiteapart_01 a b k j n m t u h1 h2 g1 g2 g3 g4 w hT
          · exact suiteapart_02 a b k j n m t u h1 h2 g1 g2 g3 w hT
        · by_cases g3 : (hash8P cryP true (bl t)).2 = 0
          · by_cases g4 : (hash8P cryP true (bl u)).2 = 0
            · exact suiteapart_10 a b k j n m t u h1 h2 g1 g2 g3 g4 w hT
            · exact suiteapart_11 a b k j n m t u h1 h2 g1 g2 g3 g4 w hT
          · exact suiteapart_12 a b k j n m t u h1 h2 g1 g2 g3 w hT
      · by_cases g3 : (hash8P cryP true (bl t)).2 = 0
        · by_cases g4 : (hash8P cryP true (bl u)).2 = 0
          · exact suiteapart_20 a b k j n m t u h1 h2 g1 g3 g4 w hT
          · exact suiteapart_21 a b k j n m t u h1 h2 g1 g3 g4 w hT
        · exact suiteapart_22 a b k j n m t u h1 h2 g1 g3 w hT
end Go.Proofs.YtedidoeoomijjaaDoor.Pl
