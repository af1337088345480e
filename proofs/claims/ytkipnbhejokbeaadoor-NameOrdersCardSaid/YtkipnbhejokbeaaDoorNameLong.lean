/- What long of layer 5 tells of one text, of two, of three. -/
import Derived.Test.YtkipnbhejokbeaaDoorProg
import Derived.Test.YtkipnbhejokbeaaDoorCommon
import Derived.Handy
import Derived.Lib.Hide
namespace Go.Proofs.YtkipnbhejokbeaaDoor.Pl
open Go.RowKit

def Lg (s : ByteArray) : Prop := 1024 < s.size
instance (s : ByteArray) : Decidable (Lg s) := inferInstanceAs (Decidable (1024 < s.size))
set_option maxHeartbeats 1000000 in
set_option maxRecDepth 100000 in
theorem long1_any (q : Nat) (a : ByteArray) (w : World) (h0 : w.cell? ⟨q, 0, none⟩ = some (.string a)) (b : Bool) (hb : b = true ↔ Lg a) :
    Calls Tryd.prog 7 #[.slice (some ⟨q, 0, none⟩) 1 1] w fun e w' => e = .returned (.bool b) ∧ w = w' := by
  cases b with
  | true =>
    have q1 : (1024 : Int) < (a.size : Int) := by have := hb.1 rfl; unfold Lg at this; omega
    clear hb
    go_enter Tryd.func7, Tryd.ntmps7
    go_wp2_with fail
    refine wp_loop_rounds 2 ?_; repeat any_goals (rw [rounds_succ]; go_wp2_with fail)
    go_ret
    exact ⟨rfl, rfl⟩
  | false =>
    have q1 : ¬ (1024 : Int) < (a.size : Int) := by
      intro h
      have := hb.2 (by unfold Lg; omega)
      exact absurd this (by decide)
    clear hb
    go_enter Tryd.func7, Tryd.ntmps7
    go_wp2_with fail
    refine wp_loop_rounds 2 ?_; repeat any_goals (rw [rounds_succ]; go_wp2_with fail)
    go_ret
    exact ⟨rfl, rfl⟩
set_option maxHeartbeats 1000000 in
set_option maxRecDepth 100000 in
theorem long2_any (q : Nat) (a c : ByteArray) (w : World) (h0 : w.cell? ⟨q, 0, none⟩ = some (.string a)) (h1 : w.cell? ⟨q, 1, none⟩ = some (.string c)) (b : Bool) (hb : b = true ↔ (Lg a ∨ Lg c)) :
    Calls Tryd.prog 7 #[.slice (some ⟨q, 0, none⟩) 2 2] w fun e w' => e = .returned (.bool b) ∧ w = w' := by
  unfold Lg at hb
  have hc : (1024 < a.size ∧ b = true) ∨ (¬ 1024 < a.size ∧ 1024 < c.size ∧ b = true) ∨ (¬ 1024 < a.size ∧ ¬ 1024 < c.size ∧ b = false) := by
    cases b with
    | true => have := hb.1 rfl; simp; omega
    | false => have h : ¬ (1024 < a.size ∨ 1024 < c.size) := fun h => absurd (hb.2 h) (by decide); simp; omega
  clear hb
  rcases hc with ⟨g1, rfl⟩ | ⟨g1, g2, rfl⟩ | ⟨g1, g2, rfl⟩
  · have q1 : (1024 : Int) < (a.size : Int) := by omega
    clear g1
    go_enter Tryd.func7, Tryd.ntmps7
    go_wp2_with fail
    refine wp_loop_rounds 3 ?_; repeat any_goals (rw [rounds_succ]; go_wp2_with fail)
    go_ret
    exact ⟨rfl, rfl⟩
  · have q1 : ¬ (1024 : Int) < (a.size : Int) := by omega
    have q2 : (1024 : Int) < (c.size : Int) := by omega
    clear g1 g2
    go_enter Tryd.func7, Tryd.ntmps7
    go_wp2_with fail
    refine wp_loop_rounds 3 ?_; repeat any_goals (rw [rounds_succ]; go_wp2_with fail)
    go_ret
    exact ⟨rfl, rfl⟩
  · have q1 : ¬ (1024 : Int) < (a.size : Int) := by omega
    have q2 : ¬ (1024 : Int) < (c.size : Int) := by omega
    clear g1 g2
    go_enter Tryd.func7, Tryd.ntmps7
    go_wp2_with fail
    refine wp_loop_rounds 3 ?_; repeat any_goals (rw [rounds_succ]; go_wp2_with fail)
    go_ret
    exact ⟨rfl, rfl⟩
set_option maxHeartbeats 1000000 in
set_option maxRecDepth 100000 in
theorem long3_any (q : Nat) (a c d : ByteArray) (w : World) (h0 : w.cell? ⟨q, 0, none⟩ = some (.string a)) (h1 : w.cell? ⟨q, 1, none⟩ = some (.string c)) (h2 : w.cell? ⟨q, 2, none⟩ = some (.string d)) (b : Bool) (hb : b = true ↔ (Lg a ∨ Lg c ∨ Lg d)) :
    Calls Tryd.prog 7 #[.slice (some ⟨q, 0, none⟩) 3 3] w fun e w' => e = .returned (.bool b) ∧ w = w' := by
  unfold Lg at hb
  have hc : (1024 < a.size ∧ b = true) ∨ (¬ 1024 < a.size ∧ 1024 < c.size ∧ b = true) ∨ (¬ 1024 < a.size ∧ ¬ 1024 < c.size ∧ 1024 < d.size ∧ b = true) ∨ (¬ 1024 < a.size ∧ ¬ 1024 < c.size ∧ ¬ 1024 < d.size ∧ b = false) := by
    cases b with
    | true => have := hb.1 rfl; simp; omega
    | false => have h : ¬ (1024 < a.size ∨ 1024 < c.size ∨ 1024 < d.size) := fun h => absurd (hb.2 h) (by decide); simp; omega
  clear hb
  rcases hc with ⟨g1, rfl⟩ | ⟨g1, g2, rfl⟩ | ⟨g1, g2, g3, rfl⟩ | ⟨g1, g2, g3, rfl⟩
  · have q1 : (1024 : Int) < (a.size : Int) := by omega
    clear g1
    go_enter Tryd.func7, Tryd.ntmps7
    go_wp2_with fail
    refine wp_loop_rounds 4 ?_; repeat any_goals (rw [rounds_succ]; go_wp2_with fail)
    go_ret
    exact ⟨rfl, rfl⟩
  · have q1 : ¬ (1024 : Int) < (a.size : Int) := by omega
    have q2 : (1024 : Int) < (c.size : Int) := by omega
    clear g1 g2
    go_enter Tryd.func7, Tryd.ntmps7
    go_wp2_with fail
    refine wp_loop_rounds 4 ?_; repeat any_goals (rw [rounds_succ]; go_wp2_with fail)
    go_ret
    exact ⟨rfl, rfl⟩
  · have q1 : ¬ (1024 : Int) < (a.size : Int) := by omega
    have q2 : ¬ (1024 : Int) < (c.size : Int) := by omega
    have q3 : (1024 : Int) < (d.size : Int) := by omega
    clear g1 g2 g3
    go_enter Tryd.func7, Tryd.ntmps7
    go_wp2_with fail
    refine wp_loop_rounds 4 ?_; repeat any_goals (rw [rounds_succ]; go_wp2_with fail)
    go_ret
    exact ⟨rfl, rfl⟩
  · have q1 : ¬ (1024 : Int) < (a.size : Int) := by omega
    have q2 : ¬ (1024 : Int) < (c.size : Int) := by omega
    have q3 : ¬ (1024 : Int) < (d.size : Int) := by omega
    clear g1 g2 g3
    go_enter Tryd.func7, Tryd.ntmps7
    go_wp2_with fail
    refine wp_loop_rounds 4 ?_; repeat any_goals (rw [rounds_succ]; go_wp2_with fail)
    go_ret
    exact ⟨rfl, rfl⟩
end Go.Proofs.YtkipnbhejokbeaaDoor.Pl
