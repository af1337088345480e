/- What the document's nonces are. -/
import Derived.Test.YtedidoeoomijjaaDoorSuiteNon
import Derived.Test.YtedidoeoomijjaaDoorSuiteD5
namespace Go.Proofs.YtedidoeoomijjaaDoor.Pl
open Go.RowKit

theorem four_lt (n : Nat) (hn : n < 2147483648) : ∀ j, (fourN n).getD j 0 < 256
  | 0 => by show n / 16777216 < 256; omega
  | 1 => by show n / 65536 % 256 < 256; omega
  | 2 => by show n / 256 % 256 < 256; omega
  | 3 => by show n % 256 < 256; omega
  | j + 4 => by show (0 : Nat) < 256; decide
set_option maxRecDepth 100000 in
theorem rfour8_any (n : Nat) (hn : n < 2147483648) (w : World) :
    Calls Tryd.prog 24 #[.int .i64 (n : Int)] w fun e w' => e = .returned (.string (bytesOf (fourN n))) ∧ Below w.heap.size w w' := by
  have hcv : (convert 41 9 (.slice (some ⟨w.heap.size, 0, none⟩) 4 4)).run Tryd.prog (w.alloc (.cells #[.int .u8 ((n : Int) / 16777216), .int .u8 ((n : Int) / 65536 % 256), .int .u8 ((n : Int) / 256 % 256), .int .u8 ((n : Int) % 256)] 5)) = .ok (.string (bytesOf (fourN n))) (w.alloc (.cells #[.int .u8 ((n : Int) / 16777216), .int .u8 ((n : Int) / 65536 % 256), .int .u8 ((n : Int) / 256 % 256), .int .u8 ((n : Int) % 256)] 5)) :=
    back_string _ w.heap.size 0 4 (fourN n) (four_lt n hn) (fun j hj => by
      have hj' : j < 4 := hj
      rw [Nat.zero_add]
      obtain rfl | rfl | rfl | rfl : j = 0 ∨ j = 1 ∨ j = 2 ∨ j = 3 := by omega
      all_goals simp [fourN])
  go_enter Tryd.func24, Tryd.ntmps24
  go_wp2_with fail
  go_ret
  exact ⟨rfl, (Below.refl w.heap.size w).alloc (Nat.le_refl _) _⟩
theorem bytes_cat (a b : List Nat) : bytesOf a ++ bytesOf b = bytesOf (a ++ b) := by apply bl_inj; simp [bl, bytesOf, ByteArray.data_append]
theorem size4 (n : Nat) : (bytesOf (fourN n)).size = 4 := by rw [bytesOf_size]; rfl
set_option maxHeartbeats 4000000 in
set_option maxRecDepth 100000 in
theorem rnonce8_any (a b d : Int) (w : World) :
    Calls Tryd.prog 8 #[.int .i64 a, .int .i64 b, .int .i64 d] w fun e w' => e = .returned (st2 (nonceP a b d)) ∧ Below w.heap.size w w' := by

  by_cases h0 : a < 0
  · have hz : nonceP a b d = ([], 2) := if_neg (fun e => by have := e.1; have := e.2.1; have := e.2.2; unfold inN at *; omega)
    rw [hz]
    clear hz
    go_enter Tryd.func8, Tryd.ntmps8
    go_wp2_with fail
    go_ret2
    exact ⟨rfl, Below.refl _ _⟩
  by_cases h1 : b < 0
  · have hz : nonceP a b d = ([], 2) := if_neg (fun e => by have := e.1; have := e.2.1; have := e.2.2; unfold inN at *; omega)
    rw [hz]
    clear hz
    go_enter Tryd.func8, Tryd.ntmps8
    go_wp2_with fail
    go_ret2
    exact ⟨rfl, Below.refl _ _⟩
  by_cases h2 : d < 0
  · have hz : nonceP a b d = ([], 2) := if_neg (fun e => by have := e.1; have := e.2.1; have := e.2.2; unfold inN at *; omega)
    rw [hz]
    clear hz
    go_enter Tryd.func8, Tryd.ntmps8
    go_wp2_with fail
    go_ret2
    exact ⟨rfl, Below.refl _ _⟩
  by_cases h3 : 2147483647 < a
  · have hz : nonceP a b d = ([], 2) := if_neg (fun e => by have := e.1; have := e.2.1; have := e.2.2; unfold inN at *; omega)
    rw [hz]
    clear hz
    go_enter Tryd.func8, Tryd.ntmps8
    go_wp2_with fail
    go_ret2
    exact ⟨rfl, Below.refl _ _⟩
  by_cases h4 : 2147483647 < b
  · have hz : nonceP a b d = ([], 2) := if_neg (fun e => by have := e.1; have := e.2.1; have := e.2.2; unfold inN at *; omega)
    rw [hz]
    clear hz
    go_enter Tryd.func8, Tryd.ntmps8
    go_wp2_with fail
    go_ret2
    exact ⟨rfl, Below.refl _ _⟩
  by_cases h5 : 2147483647 < d
  · have hz : nonceP a b d = ([], 2) := if_neg (fun e => by have := e.1; have := e.2.1; have := e.2.2; unfold inN at *; omega)
    rw [hz]
    clear hz
    go_enter Tryd.func8, Tryd.ntmps8
    go_wp2_with fail
    go_ret2
    exact ⟨rfl, Below.refl _ _⟩
  obtain ⟨x, rfl⟩ : ∃ x : Nat, a = x := ⟨a.toNat, by omega⟩
  obtain ⟨y, rfl⟩ : ∃ x : Nat, b = x := ⟨b.toNat, by omega⟩
  obtain ⟨z, rfl⟩ : ∃ x : Nat, d = x := ⟨d.toNat, by omega⟩
  have HX := Lib.hid (fun V => rfour8_any x (by omega) V)
  have HY := Lib.hid (fun V => rfour8_any y (by omega) V)
  have HZ := Lib.hid (fun V => rfour8_any z (by omega) V)
  have hz : nonceP x y z = dataP (bl (bytesOf (fourN x) ++ bytesOf (fourN y) ++ bytesOf (fourN z))) := by
    rw [bytes_cat, bytes_cat]
    exact if_pos ⟨⟨by omega, by omega⟩, ⟨by omega, by omega⟩, by omega, by omega⟩
  have s4 := size4 x
  have s5 := size4 y
  have s6 := size4 z
  rw [hz]
  generalize bytesOf (fourN x) = X at *
  generalize bytesOf (fourN y) = Y at *
  generalize bytesOf (fourN z) = Z at *
  have hc1 : X.size + Y.size ≤ 9223372036854775807 := by omega
  have hc2 : (X ++ Y).size + Z.size ≤ 9223372036854775807 := by rw [ByteArray.size_append]; omega
  have HD := Lib.hid (fun V => rdata_any (X ++ Y ++ Z) (by rw [ByteArray.size_append, ByteArray.size_append]; omega) V)
  generalize dataP (bl (X ++ Y ++ Z)) = R at *
  obtain ⟨r, o⟩ := R
  unfold st2 at HD ⊢
  dsimp only at HD ⊢
  have hs1 : (X ++ Y).size = X.size + Y.size := ByteArray.size_append
  clear hz s4 s5 s6
  go_enter Tryd.func8, Tryd.ntmps8
  go_wp2_with fail
  refine (HX.out _).mono ?_; rintro e w1 ⟨rfl, b1⟩
  have B1 := Lib.hid b1
  clear b1
  go_wp2_with fail
  refine (HY.out _).mono ?_; rintro e w2 ⟨rfl, b2⟩
  have B2 := Lib.hid (below_step B1.out b2)
  clear b2
  go_wp2_with fail
  refine (HZ.out _).mono ?_; rintro e w3 ⟨rfl, b3⟩
  have B3 := Lib.hid (below_step B2.out b3)
  clear b3
  go_wp2_with fail
  refine (HD.out _).mono ?_; rintro e w4 ⟨rfl, b4⟩
  have B4 := Lib.hid (below_step B3.out b4)
  clear b4
  go_wp2_with fail
  go_ret2
  exact ⟨rfl, B4.out⟩
end Go.Proofs.YtedidoeoomijjaaDoor.Pl
