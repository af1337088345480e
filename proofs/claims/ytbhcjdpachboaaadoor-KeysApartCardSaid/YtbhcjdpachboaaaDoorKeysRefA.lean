/- What the document's names of keys are, and who is in a set. -/
import Derived.Test.YtbhcjdpachboaaaDoorKeysPlain
import Derived.Test.YtbhcjdpachboaaaDoorKeysBase1
namespace Go.Proofs.YtbhcjdpachboaaaDoor.Pl
open Go.RowKit

theorem digit_at (k : Nat) (hk : k < 8) (V : World) : (Instr.sliceAt 9 (.string ⟨#[48, 49, 50, 51, 52, 53, 54, 55]⟩) (some (.int .i64 (k : Int))) (some (.int .i64 ((k : Int) + 1))) none).run Tryd.prog V = .ok (.string ⟨#[UInt8.ofNat (48 + k)]⟩) V := by
  obtain rfl | rfl | rfl | rfl | rfl | rfl | rfl | rfl : k = 0 ∨ k = 1 ∨ k = 2 ∨ k = 3 ∨ k = 4 ∨ k = 5 ∨ k = 6 ∨ k = 7 := by omega
  all_goals kernel_rfl
theorem nm_cat (c d e : UInt8) : (⟨#[c]⟩ ++ ⟨#[47]⟩ ++ ⟨#[d]⟩ ++ ⟨#[47]⟩ ++ ⟨#[e]⟩ : ByteArray) = ⟨#[c, 47, d, 47, e]⟩ := rfl
set_option maxHeartbeats 1000000 in
set_option maxRecDepth 100000 in
theorem rname9_any (c : UInt8) (a b : Int) (w : World) :
    Calls Tryd.prog 29 #[.string ⟨#[c]⟩, .int .i64 a, .int .i64 b] w fun e w' => e = .returned (st2 (nameK c a b)) ∧ Below w.heap.size w w' := by
  by_cases h0 : a < 0
  · have hz : nameK c a b = ([], 2) := if_neg (fun e => by have := e.1.1; omega)
    rw [hz]
    clear hz
    go_enter Tryd.func29, Tryd.ntmps29
    go_wp2_with fail
    go_ret2
    exact ⟨rfl, Below.refl _ _⟩
  by_cases h1 : b < 0
  · have hz : nameK c a b = ([], 2) := if_neg (fun e => by have := e.2.1; omega)
    rw [hz]
    clear hz
    go_enter Tryd.func29, Tryd.ntmps29
    go_wp2_with fail
    go_ret2
    exact ⟨rfl, Below.refl _ _⟩
  by_cases h2 : 8 ≤ a
  · have hz : nameK c a b = ([], 2) := if_neg (fun e => by have := e.1.2; omega)
    rw [hz]
    clear hz
    go_enter Tryd.func29, Tryd.ntmps29
    go_wp2_with fail
    go_ret2
    exact ⟨rfl, Below.refl _ _⟩
  by_cases h3 : 8 ≤ b
  · have hz : nameK c a b = ([], 2) := if_neg (fun e => by have := e.2.2; omega)
    rw [hz]
    clear hz
    go_enter Tryd.func29, Tryd.ntmps29
    go_wp2_with fail
    go_ret2
    exact ⟨rfl, Below.refl _ _⟩
  obtain ⟨x, rfl⟩ : ∃ x : Nat, a = x := ⟨a.toNat, by omega⟩
  obtain ⟨y, rfl⟩ : ∃ x : Nat, b = x := ⟨b.toNat, by omega⟩
  have hz : nameK c x y = (nm c x y, 0) := if_pos ⟨⟨by omega, by omega⟩, by omega, by omega⟩
  rw [hz]
  by_cases hxy : x < y
  · have q : (x : Int) < (y : Int) := by omega
    have q2 : ¬ (y : Int) < (x : Int) := by omega
    have hx := digit_at x (by omega)
    have hy := digit_at y (by omega)
    have e1 : min x y = x := by omega
    have e2 : max x y = y := by omega
    unfold nm
    rw [e1, e2]
    generalize UInt8.ofNat (48 + x) = d at *
    generalize UInt8.ofNat (48 + y) = f at *
    clear hz e1 e2
    go_enter Tryd.func29, Tryd.ntmps29
    go_wp2_with fail
    all_goals
      go_quiet (fail)
      go_wp2_with fail
      go_ret2
      exact ⟨rfl, below_drewN (Below.refl _ _) _⟩
  by_cases hyx : x = y
  · subst hyx
    have hx := digit_at x (by omega)
    have e1 : min x x = x := by omega
    have e2 : max x x = x := by omega
    unfold nm
    rw [e1, e2]
    generalize UInt8.ofNat (48 + x) = d at *
    clear hz e1 e2
    go_enter Tryd.func29, Tryd.ntmps29
    go_wp2_with fail
    all_goals
      go_quiet (fail)
      go_wp2_with fail
      go_ret2
      exact ⟨rfl, below_drewN (Below.refl _ _) _⟩
  · have q : (y : Int) < (x : Int) := by omega
    have q2 : ¬ (x : Int) < (y : Int) := by omega
    have hx := digit_at y (by omega)
    have hy := digit_at x (by omega)
    have e1 : min x y = y := by omega
    have e2 : max x y = x := by omega
    unfold nm
    rw [e1, e2]
    generalize UInt8.ofNat (48 + y) = d at *
    generalize UInt8.ofNat (48 + x) = f at *
    clear hz e1 e2
    go_enter Tryd.func29, Tryd.ntmps29
    go_wp2_with fail
    all_goals
      go_quiet (fail)
      go_wp2_with fail
      go_ret2
      exact ⟨rfl, below_drewN (Below.refl _ _) _⟩
set_option maxRecDepth 100000 in
theorem rtag9_any (a b : Int) (w : World) : Calls Tryd.prog 9 #[.int .i64 a, .int .i64 b] w fun e w' => e = .returned (st2 (nameK 107 a b)) ∧ Below w.heap.size w w' := by
  have H := Lib.hid (rname9_any 107 a b w)
  generalize nameK 107 a b = R at *
  obtain ⟨r, x⟩ := R
  unfold st2 at H ⊢
  dsimp only at H ⊢
  go_enter Tryd.func9, Tryd.ntmps9
  go_wp2_with fail
  refine H.out.mono ?_; rintro e w1 ⟨rfl, b1⟩
  have B1 := Lib.hid b1
  clear b1
  go_wp2_with fail
  go_ret2
  exact ⟨rfl, B1.out⟩
set_option maxRecDepth 100000 in
theorem rkseal9_any (a b : Int) (w : World) : Calls Tryd.prog 11 #[.int .i64 a, .int .i64 b] w fun e w' => e = .returned (st2 (nameK 115 a b)) ∧ Below w.heap.size w w' := by
  have H := Lib.hid (rname9_any 115 a b w)
  generalize nameK 115 a b = R at *
  obtain ⟨r, x⟩ := R
  unfold st2 at H ⊢
  dsimp only at H ⊢
  go_enter Tryd.func11, Tryd.ntmps11
  go_wp2_with fail
  refine H.out.mono ?_; rintro e w1 ⟨rfl, b1⟩
  have B1 := Lib.hid b1
  clear b1
  go_wp2_with fail
  go_ret2
  exact ⟨rfl, B1.out⟩
/-- A key's name as a text. -/
def nmT (c : UInt8) (x y : Nat) : ByteArray := ⟨(nm c x y).toArray⟩
theorem nameK_ok (c : UInt8) {x y : Nat} (hx : x < 8) (hy : y < 8) : st2 (nameK c x y) = .tuple #[.string (nmT c x y), .int .i64 0] := by
  unfold nameK
  rw [if_pos ⟨⟨by omega, by omega⟩, by omega, by omega⟩]
  rfl
def bothT (x y : Nat) : List ByteArray := [nmT 107 x y, nmT 115 x y]
theorem bothT_bl (x y : Nat) : (bothT x y).map bl = bothK x y := rfl
set_option maxRecDepth 100000 in
theorem rboth9_any (x y : Nat) (hx : x < 8) (hy : y < 8) (w : World) :
    Calls Tryd.prog 31 #[.int .i64 (x : Int), .int .i64 (y : Int)] w fun e w' => (∃ g, e = .returned (.slice (some ⟨g, 0, none⟩) 2 2) ∧ w'.cell? ⟨g, 0, none⟩ = some (.string (nmT 107 x y)) ∧ w'.cell? ⟨g, 1, none⟩ = some (.string (nmT 115 x y))) ∧ Below w.heap.size w w' := by
  have H1 := Lib.hid (fun V => rtag9_any x y V)
  have H2 := Lib.hid (fun V => rkseal9_any x y V)
  rw [nameK_ok 107 hx hy] at H1
  rw [nameK_ok 115 hx hy] at H2
  generalize nmT 107 x y = s at *
  generalize nmT 115 x y = t at *
  clear hx hy
  go_enter Tryd.func31, Tryd.ntmps31
  go_wp2_with fail
  refine (H1.out _).mono ?_; rintro e w1 ⟨rfl, b1⟩
  have B1 := Lib.hid b1
  clear b1
  go_wp2_with fail
  refine (H2.out _).mono ?_; rintro e w2 ⟨rfl, b2⟩
  have B2 := Lib.hid (below_step B1.out b2)
  clear b2
  go_wp2_with fail
  go_ret
  exact ⟨⟨_, rfl, by simp, by simp⟩, B2.out.alloc B2.out.size _⟩
theorem setB_no {s : Nat} {a : Int} (h : ¬ inO a) : setB s a = false := by
  unfold setB
  rw [decide_eq_false h, Bool.false_and]
theorem setB_yes (s k : Nat) (h : k < 8) : setB s (k : Int) = (s / 2 ^ k % 2 == 1) := by
  unfold setB
  rw [decide_eq_true (show inO (k : Int) from ⟨by omega, by omega⟩), Bool.true_and, Int.toNat_natCast]
set_option maxHeartbeats 1000000 in
set_option maxRecDepth 100000 in
theorem rin9_any (s : Nat) (a : Int) (w : World) :
    Calls Tryd.prog 20 #[.int .u8 (s : Int), .int .i64 a] w fun e w' => e = .returned (.bool (setB s a)) ∧ w = w' := by
  by_cases h0 : a < 0
  · have hz : setB s a = false := setB_no (fun h => by have h1 := h.1; have h2 := h.2; omega)
    rw [hz]
    clear hz
    go_enter Tryd.func20, Tryd.ntmps20
    go_wp2_with fail
    go_ret
    exact ⟨rfl, rfl⟩
  by_cases h8 : 8 ≤ a
  · have hz : setB s a = false := setB_no (fun h => by have h1 := h.1; have h2 := h.2; omega)
    rw [hz]
    clear hz
    go_enter Tryd.func20, Tryd.ntmps20
    go_wp2_with fail
    go_ret
    exact ⟨rfl, rfl⟩
  obtain rfl | rfl | rfl | rfl | rfl | rfl | rfl | rfl : a = 0 ∨ a = 1 ∨ a = 2 ∨ a = 3 ∨ a = 4 ∨ a = 5 ∨ a = 6 ∨ a = 7 := by omega
  · have hz : setB s 0 = (((s : Int) % 2) == 1) := by
      rw [show setB s 0 = (s / 1 % 2 == 1) from setB_yes s 0 (by decide), Bool.eq_iff_iff, beq_iff_eq, beq_iff_eq]
      omega
    rw [hz]
    clear hz h0 h8
    go_enter Tryd.func20, Tryd.ntmps20
    go_wp2_with fail
    go_ret
    exact ⟨rfl, rfl⟩
  · have hz : setB s 1 = (((s : Int) / 2 % 2) == 1) := by
      rw [show setB s 1 = (s / 2 % 2 == 1) from setB_yes s 1 (by decide), Bool.eq_iff_iff, beq_iff_eq, beq_iff_eq]
      omega
    rw [hz]
    clear hz h0 h8
    go_enter Tryd.func20, Tryd.ntmps20
    go_wp2_with fail
    go_ret
    exact ⟨rfl, rfl⟩
  · have hz : setB s 2 = (((s : Int) / 4 % 2) == 1) := by
      rw [show setB s 2 = (s / 4 % 2 == 1) from setB_yes s 2 (by decide), Bool.eq_iff_iff, beq_iff_eq, beq_iff_eq]
      omega
    rw [hz]
    clear hz h0 h8
    go_enter Tryd.func20, Tryd.ntmps20
    go_wp2_with fail
    go_ret
    exact ⟨rfl, rfl⟩
  · have hz : setB s 3 = (((s : Int) / 8 % 2) == 1) := by
      rw [show setB s 3 = (s / 8 % 2 == 1) from setB_yes s 3 (by decide), Bool.eq_iff_iff, beq_iff_eq, beq_iff_eq]
      omega
    rw [hz]
    clear hz h0 h8
    go_enter Tryd.func20, Tryd.ntmps20
    go_wp2_with fail
    go_ret
    exact ⟨rfl, rfl⟩
  · have hz : setB s 4 = (((s : Int) / 16 % 2) == 1) := by
      rw [show setB s 4 = (s / 16 % 2 == 1) from setB_yes s 4 (by decide), Bool.eq_iff_iff, beq_iff_eq, beq_iff_eq]
      omega
    rw [hz]
    clear hz h0 h8
    go_enter Tryd.func20, Tryd.ntmps20
    go_wp2_with fail
    go_ret
    exact ⟨rfl, rfl⟩
  · have hz : setB s 5 = (((s : Int) / 32 % 2) == 1) := by
      rw [show setB s 5 = (s / 32 % 2 == 1) from setB_yes s 5 (by decide), Bool.eq_iff_iff, beq_iff_eq, beq_iff_eq]
      omega
    rw [hz]
    clear hz h0 h8
    go_enter Tryd.func20, Tryd.ntmps20
    go_wp2_with fail
    go_ret
    exact ⟨rfl, rfl⟩
  · have hz : setB s 6 = (((s : Int) / 64 % 2) == 1) := by
      rw [show setB s 6 = (s / 64 % 2 == 1) from setB_yes s 6 (by decide), Bool.eq_iff_iff, beq_iff_eq, beq_iff_eq]
      omega
    rw [hz]
    clear hz h0 h8
    go_enter Tryd.func20, Tryd.ntmps20
    go_wp2_with fail
    go_ret
    exact ⟨rfl, rfl⟩
  · have hz : setB s 7 = (((s : Int) / 128 % 2) == 1) := by
      rw [show setB s 7 = (s / 128 % 2 == 1) from setB_yes s 7 (by decide), Bool.eq_iff_iff, beq_iff_eq, beq_iff_eq]
      omega
    rw [hz]
    clear hz h0 h8
    go_enter Tryd.func20, Tryd.ntmps20
    go_wp2_with fail
    go_ret
    exact ⟨rfl, rfl⟩
end Go.Proofs.YtbhcjdpachboaaaDoor.Pl
