/- What the program's own Of answers; Terms of no suite. -/
import Derived.Test.YtbhcjdpachboaaaDoorKeysOwn6
import Derived.Test.YtbhcjdpachboaaaDoorKeysRefF
namespace Go.Proofs.YtbhcjdpachboaaaDoor.Pl
open Go.RowKit

theorem of_is8 : ∀ a : Fin 8, ∀ n : Fin 9, knownK (2 ^ a.val) ((n.val : Nat) : Int) = ofK ((a.val : Nat) : Int) ((n.val : Nat) : Int) := by decide +kernel
theorem of_is (a : Nat) (ha : a < 8) (n : Int) : knownK (2 ^ a) n = ofK (a : Int) n := by
  by_cases h : 0 ≤ n ∧ n ≤ 8
  · have := of_is8 ⟨a, ha⟩ ⟨n.toNat, by omega⟩
    dsimp only at this
    rwa [Int.toNat_of_nonneg h.1] at this
  · unfold knownK ofK
    rw [if_neg (fun e => h ⟨by omega, e.2⟩), if_neg (fun e => h ⟨by omega, e.2.1⟩)]
set_option maxHeartbeats 1000000 in
set_option maxRecDepth 100000 in
theorem kof_any (a n : Int) (w : World) (hT : KeyTab w) : Calls Tryd.prog 15 #[.int .i64 a, .int .i64 n] w fun e w' => GivesT w (ofK a n) e w' ∧ Below w.heap.size w w' := by
  have HO := isorg_any a
  by_cases h : inO a
  · rw [decide_eq_true h] at HO
    have H := Lib.hid HO
    obtain ⟨k, rfl⟩ : ∃ k : Nat, a = k := ⟨a.toNat, by have := h.1; omega⟩
    have hk8 : k < 8 := by have := h.2; omega
    rw [← of_is k hk8 n]
    have HK := Lib.hid (kknown_any (2 ^ k) (by obtain rfl | rfl | rfl | rfl | rfl | rfl | rfl | rfl : k = 0 ∨ k = 1 ∨ k = 2 ∨ k = 3 ∨ k = 4 ∨ k = 5 ∨ k = 6 ∨ k = 7 := by omega
                                               all_goals decide) n w hT)
    clear hT h HO
    obtain rfl | rfl | rfl | rfl | rfl | rfl | rfl | rfl : k = 0 ∨ k = 1 ∨ k = 2 ∨ k = 3 ∨ k = 4 ∨ k = 5 ∨ k = 6 ∨ k = 7 := by omega
    all_goals
      clear hk8
      go_enter Tryd.func15, Tryd.ntmps15
      go_wp2_with fail
      refine (H.out _).mono ?_; rintro e w1 ⟨rfl, rfl⟩
      go_wp2_with fail
      refine HK.out.mono ?_; rintro e w1 ⟨⟨v, L, rfl, hown, hL⟩, b1⟩
      obtain ⟨ao, cap, rfl, _⟩ := ownT_row hown
      have HOW := Lib.hid hown
      have B1 := Lib.hid b1
      clear b1 hown
      go_wp2_with fail
      go_ret
      exact ⟨⟨_, L, rfl, HOW.out, hL⟩, B1.out⟩
  · rw [decide_eq_false h] at HO
    have H := Lib.hid HO
    rw [show ofK a n = [] from if_neg (fun e => h ⟨e.2.2.1, by have := e.2.1; have := e.2.2.2; omega⟩)]
    clear h HO hT
    go_enter Tryd.func15, Tryd.ntmps15
    go_wp2_with fail
    refine (H.out _).mono ?_; rintro e w1 ⟨rfl, rfl⟩
    go_wp2_with fail
    go_ret
    exact ⟨⟨.slice none 0 0, [], rfl, ownT_nil _ _, rfl⟩, Below.refl _ _⟩
set_option maxRecDepth 100000 in
theorem kterms_nil (w : World) : Calls Tryd.prog 25 #[.pointer none, .slice none 0 0] w fun e w' => e = .returned (.tuple #[.slice none 0 0, .int .i64 1]) ∧ Below w.heap.size w w' := by
  go_enter Tryd.func25, Tryd.ntmps25
  go_wp2_with fail
  go_ret2
  exact ⟨rfl, Below.refl _ _⟩
end Go.Proofs.YtbhcjdpachboaaaDoor.Pl
