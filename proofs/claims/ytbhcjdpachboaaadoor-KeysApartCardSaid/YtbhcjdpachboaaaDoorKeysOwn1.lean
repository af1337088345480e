/- The program's own keys: who is an organisation, who is in a set, the name of the key that two share, under the laid tables. -/
import Derived.Test.YtbhcjdpachboaaaDoorKeysRefD
import Derived.Test.YtbhcjdpachboaaaDoorKeysSure
namespace Go.Proofs.YtbhcjdpachboaaaDoor.Pl
open Go.RowKit

/-- The tables of letters and of kinds are laid. -/
def KeyTab (w : World) : Prop :=
  (0 < w.heap.size ∧ w.cell? ⟨0, 0, none⟩ = some (.int .u8 1) ∧ w.cell? ⟨0, 1, none⟩ = some (.int .u8 2)) ∧
  (1 < w.heap.size ∧ w.cell? ⟨1, 1, none⟩ = some (.int .u8 107) ∧ w.cell? ⟨1, 2, none⟩ = some (.int .u8 115))
theorem KeyTab.below {w w' : World} (h : KeyTab w) (hb : Below w.heap.size w w') : KeyTab w' := by
  obtain ⟨⟨h0, h1, h2⟩, h3, h4, h5⟩ := h
  have hs := hb.size
  exact ⟨⟨by omega, (hb.cell (p := ⟨0, 0, none⟩) h0).trans h1, (hb.cell (p := ⟨0, 1, none⟩) h0).trans h2⟩,
    by omega, (hb.cell (p := ⟨1, 1, none⟩) h3).trans h4, (hb.cell (p := ⟨1, 2, none⟩) h3).trans h5⟩

set_option maxRecDepth 100000 in
theorem isorg_any (a : Int) (w : World) : Calls Tryd.prog 30 #[.int .i64 a] w fun e w' => e = .returned (.bool (decide (inO a))) ∧ w = w' := by
  by_cases h0 : 0 ≤ a
  · by_cases h1 : a < 8
    · rw [decide_eq_true (show inO a from ⟨h0, h1⟩)]
      go_enter Tryd.func30, Tryd.ntmps30
      go_wp2_with fail
      go_ret
      exact ⟨rfl, rfl⟩
    · rw [decide_eq_false (show ¬ inO a from fun e => h1 e.2)]
      go_enter Tryd.func30, Tryd.ntmps30
      go_wp2_with fail
      go_ret
      exact ⟨rfl, rfl⟩
  · rw [decide_eq_false (show ¬ inO a from fun e => h0 e.1)]
    go_enter Tryd.func30, Tryd.ntmps30
    go_wp2_with fail
    go_ret
    exact ⟨rfl, rfl⟩
/-- How many they are, or none. -/
def amongK (n : Int) : Int := if 1 ≤ n ∧ n ≤ 8 then n else 0
set_option maxRecDepth 100000 in
theorem among_any (n : Int) (w : World) : Calls Tryd.prog 34 #[.int .i64 n] w fun e w' => e = .returned (.int .i64 (amongK n)) ∧ w = w' := by
  by_cases h0 : n < 1
  · rw [show amongK n = 0 from if_neg (fun e => by have := e.1; omega)]
    go_enter Tryd.func34, Tryd.ntmps34
    go_wp2_with fail
    go_ret
    exact ⟨rfl, rfl⟩
  · by_cases h1 : 8 < n
    · rw [show amongK n = 0 from if_neg (fun e => by have := e.2; omega)]
      go_enter Tryd.func34, Tryd.ntmps34
      go_wp2_with fail
      go_ret
      exact ⟨rfl, rfl⟩
    · rw [show amongK n = n from if_pos ⟨by omega, by omega⟩]
      go_enter Tryd.func34, Tryd.ntmps34
      go_wp2_with fail
      go_ret
      exact ⟨rfl, rfl⟩
theorem and_one8 : ∀ x : Fin 256, bits .and .u8 ((x.val : Nat) : Int) 1 = ((x.val % 2 : Nat) : Int) := by decide +kernel
theorem and_one (x : Nat) (h : x < 256) : bits .and .u8 (x : Int) 1 = ((x % 2 : Nat) : Int) := and_one8 ⟨x, h⟩
set_option maxHeartbeats 1000000 in
set_option maxRecDepth 100000 in
theorem kin0_any (s : Nat) (hs : s < 256) (a : Int) (w : World) : Calls Tryd.prog 19 #[.int .u8 (s : Int), .int .i64 a] w fun e w' => e = .returned (.bool (setB s a)) ∧ w = w' := by
  have HO := isorg_any a
  by_cases h : inO a
  · rw [decide_eq_true h] at HO
    have H := Lib.hid HO
    obtain ⟨k, rfl⟩ : ∃ k : Nat, a = k := ⟨a.toNat, by have := h.1; omega⟩
    have hy := setB_yes s k (by have := h.2; omega)
    obtain rfl | rfl | rfl | rfl | rfl | rfl | rfl | rfl : k = 0 ∨ k = 1 ∨ k = 2 ∨ k = 3 ∨ k = 4 ∨ k = 5 ∨ k = 6 ∨ k = 7 := by have := h.2; omega
    · have q : bits .and .u8 ((s : Int)) 1 = (s : Int) % 2 := by
        have := and_one (s) (by omega)
        rw [show (((s : Nat)) : Int) = (s : Int) by omega] at this
        rw [this]
        omega
      have hz : setB s ((0 : Nat) : Int) = (((s : Int) % 2) == 1) := by
        rw [hy, Bool.eq_iff_iff, beq_iff_eq, beq_iff_eq]
        omega
      rw [hz]
      clear h HO hy hz
      go_enter Tryd.func19, Tryd.ntmps19
      go_wp2_with fail
      refine (H.out _).mono ?_; rintro e w1 ⟨rfl, rfl⟩
      go_wp2_with fail
      go_ret
      exact ⟨rfl, rfl⟩
    · have q : bits .and .u8 ((s : Int) / 2) 1 = (s : Int) / 2 % 2 := by
        have := and_one (s / 2) (by omega)
        rw [show (((s / 2 : Nat)) : Int) = (s : Int) / 2 by omega] at this
        rw [this]
        omega
      have hz : setB s ((1 : Nat) : Int) = (((s : Int) / 2 % 2) == 1) := by
        rw [hy, Bool.eq_iff_iff, beq_iff_eq, beq_iff_eq]
        omega
      rw [hz]
      clear h HO hy hz
      go_enter Tryd.func19, Tryd.ntmps19
      go_wp2_with fail
      refine (H.out _).mono ?_; rintro e w1 ⟨rfl, rfl⟩
      go_wp2_with fail
      go_ret
      exact ⟨rfl, rfl⟩
    · have q : bits .and .u8 ((s : Int) / 4) 1 = (s : Int) / 4 % 2 := by
        have := and_one (s / 4) (by omega)
        rw [show (((s / 4 : Nat)) : Int) = (s : Int) / 4 by omega] at this
        rw [this]
        omega
      have hz : setB s ((2 : Nat) : Int) = (((s : Int) / 4 % 2) == 1) := by
        rw [hy, Bool.eq_iff_iff, beq_iff_eq, beq_iff_eq]
        omega
      rw [hz]
      clear h HO hy hz
      go_enter Tryd.func19, Tryd.ntmps19
      go_wp2_with fail
      refine (H.out _).mono ?_; rintro e w1 ⟨rfl, rfl⟩
      go_wp2_with fail
      go_ret
      exact ⟨rfl, rfl⟩
    · have q : bits .and .u8 ((s : Int) / 8) 1 = (s : Int) / 8 % 2 := by
        have := and_one (s / 8) (by omega)
        rw [show (((s / 8 : Nat)) : Int) = (s : Int) / 8 by omega] at this
        rw [this]
        omega
      have hz : setB s ((3 : Nat) : Int) = (((s : Int) / 8 % 2) == 1) := by
        rw [hy, Bool.eq_iff_iff, beq_iff_eq, beq_iff_eq]
        omega
      rw [hz]
      clear h HO hy hz
      go_enter Tryd.func19, Tryd.ntmps19
      go_wp2_with fail
      refine (H.out _).mono ?_; rintro e w1 ⟨rfl, rfl⟩
      go_wp2_with fail
      go_ret
      exact ⟨rfl, rfl⟩
    · have q : bits .and .u8 ((s : Int) / 16) 1 = (s : Int) / 16 % 2 := by
        have := and_one (s / 16) (by omega)
        rw [show (((s / 16 : Nat)) : Int) = (s : Int) / 16 by omega] at this
        rw [this]
        omega
      have hz : setB s ((4 : Nat) : Int) = (((s : Int) / 16 % 2) == 1) := by
        rw [hy, Bool.eq_iff_iff, beq_iff_eq, beq_iff_eq]
        omega
      rw [hz]
      clear h HO hy hz
      go_enter Tryd.func19, Tryd.ntmps19
      go_wp2_with fail
      refine (H.out _).mono ?_; rintro e w1 ⟨rfl, rfl⟩
      go_wp2_with fail
      go_ret
      exact ⟨rfl, rfl⟩
    · have q : bits .and .u8 ((s : Int) / 32) 1 = (s : Int) / 32 % 2 := by
        have := and_one (s / 32) (by omega)
        rw [show (((s / 32 : Nat)) : Int) = (s : Int) / 32 by omega] at this
        rw [this]
        omega
      have hz : setB s ((5 : Nat) : Int) = (((s : Int) / 32 % 2) == 1) := by
        rw [hy, Bool.eq_iff_iff, beq_iff_eq, beq_iff_eq]
        omega
      rw [hz]
      clear h HO hy hz
      go_enter Tryd.func19, Tryd.ntmps19
      go_wp2_with fail
      refine (H.out _).mono ?_; rintro e w1 ⟨rfl, rfl⟩
      go_wp2_with fail
      go_ret
      exact ⟨rfl, rfl⟩
    · have q : bits .and .u8 ((s : Int) / 64) 1 = (s : Int) / 64 % 2 := by
        have := and_one (s / 64) (by omega)
        rw [show (((s / 64 : Nat)) : Int) = (s : Int) / 64 by omega] at this
        rw [this]
        omega
      have hz : setB s ((6 : Nat) : Int) = (((s : Int) / 64 % 2) == 1) := by
        rw [hy, Bool.eq_iff_iff, beq_iff_eq, beq_iff_eq]
        omega
      rw [hz]
      clear h HO hy hz
      go_enter Tryd.func19, Tryd.ntmps19
      go_wp2_with fail
      refine (H.out _).mono ?_; rintro e w1 ⟨rfl, rfl⟩
      go_wp2_with fail
      go_ret
      exact ⟨rfl, rfl⟩
    · have q : bits .and .u8 ((s : Int) / 128) 1 = (s : Int) / 128 % 2 := by
        have := and_one (s / 128) (by omega)
        rw [show (((s / 128 : Nat)) : Int) = (s : Int) / 128 by omega] at this
        rw [this]
        omega
      have hz : setB s ((7 : Nat) : Int) = (((s : Int) / 128 % 2) == 1) := by
        rw [hy, Bool.eq_iff_iff, beq_iff_eq, beq_iff_eq]
        omega
      rw [hz]
      clear h HO hy hz
      go_enter Tryd.func19, Tryd.ntmps19
      go_wp2_with fail
      refine (H.out _).mono ?_; rintro e w1 ⟨rfl, rfl⟩
      go_wp2_with fail
      go_ret
      exact ⟨rfl, rfl⟩
  · rw [decide_eq_false h] at HO
    have H := Lib.hid HO
    rw [setB_no h]
    clear h HO
    go_enter Tryd.func19, Tryd.ntmps19
    go_wp2_with fail
    refine (H.out _).mono ?_; rintro e w1 ⟨rfl, rfl⟩
    go_wp2_with fail
    go_ret
    exact ⟨rfl, rfl⟩
theorem kin_any (s : Nat) (hs : s < 256) (a : Int) (w : World) : Calls Tryd.prog 19 #[.int .u8 (s : Int), .int .i64 a] w fun e w' => e = .returned (.bool (setB s a)) ∧ Below w.heap.size w w' :=
  (kin0_any s hs a w).mono fun _ _ h => ⟨h.1, h.2 ▸ Below.refl _ _⟩
end Go.Proofs.YtbhcjdpachboaaaDoor.Pl
