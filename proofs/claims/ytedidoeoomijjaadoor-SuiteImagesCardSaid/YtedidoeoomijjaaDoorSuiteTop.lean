/- What suite.New, Kind and Image answer. -/
import Derived.Test.YtedidoeoomijjaaDoorSuitePub
namespace Go.Proofs.YtedidoeoomijjaaDoor.Pl
open Go.RowKit

set_option maxRecDepth 100000 in
theorem new_terms (m : ByteArray) (w : World) (hT : Tab w) :
    Calls Tryd.prog 10 #[.int .u8 1, .string m] w fun e w' => (∃ p, e = .returned (.tuple #[.pointer (some ⟨p, 0, none⟩), .int .i64 0]) ∧ SuiteAt w' p true m) ∧ Below w.heap.size w w' := by
  have HT := Lib.hid hT
  clear hT
  go_enter Tryd.func10, Tryd.ntmps10
  go_wp2_with fail
  go_ret2
  have A0 := (Below.refl w.heap.size w).alloc (Nat.le_refl _) (.cells #[.iface 48 (.agg #[])] 52)
  exact ⟨⟨_, rfl, HT.out.below A0, .inl ⟨rfl, Go.heap_alloc_new w _⟩⟩, A0⟩
set_option maxRecDepth 100000 in
theorem new_bytes (m : ByteArray) (h1 : 1 ≤ m.size) (h2 : m.size ≤ 64) (w : World) (hT : Tab w) :
    Calls Tryd.prog 10 #[.int .u8 2, .string m] w fun e w' => (∃ p, e = .returned (.tuple #[.pointer (some ⟨p, 0, none⟩), .int .i64 0]) ∧ SuiteAt w' p false m) ∧ Below w.heap.size w w' := by
  have HT := Lib.hid hT
  have HN := Lib.hid (hnew_any m (by omega) w hT)
  have q1 : (0 : Int) < (m.size : Int) := by omega
  have q2 : (m.size : Int) ≤ 64 := by omega
  clear hT h1 h2
  go_enter Tryd.func10, Tryd.ntmps10
  go_wp2_with fail
  refine HN.out.mono ?_; rintro e w1 ⟨g, rfl, hk, hg, b1⟩
  have HK := Lib.hid hk
  have B1 := Lib.hid b1
  clear hk hg b1
  go_wp2_with fail
  go_ret2
  have A0 := (Below.refl w1.heap.size w1).alloc (Nat.le_refl _) (.cells #[.iface 56 (.agg #[.pointer (some ⟨g, 0, none⟩)])] 52)
  exact ⟨⟨_, rfl, (HT.out.below B1.out).below A0, .inr ⟨rfl, g, Go.heap_alloc_new w1 _, HK.out.below A0⟩⟩, below_step B1.out A0⟩
set_option maxRecDepth 100000 in
theorem new_none (k : Nat) (m : ByteArray) (h1 : k ≠ 1) (h2 : ¬ (k = 2 ∧ 1 ≤ m.size ∧ m.size ≤ 64)) (w : World) :
    Calls Tryd.prog 10 #[.int .u8 k, .string m] w fun e w' => e = .returned (.tuple #[.pointer none, .int .i64 2]) ∧ w = w' := by
  have q1 : ((k : Int) == 1) = false := by rw [beq_eq_false_iff_ne]; omega
  by_cases hk : k = 2
  · subst hk
    by_cases h3 : 1 ≤ m.size
    · have q2 : (0 : Int) < (m.size : Int) := by omega
      have q3 : ¬ (m.size : Int) ≤ 64 := by omega
      clear h1 h2 h3 q1
      go_enter Tryd.func10, Tryd.ntmps10
      go_wp2_with fail
      go_ret2
      exact ⟨rfl, rfl⟩
    · have q2 : ¬ (0 : Int) < (m.size : Int) := by omega
      clear h1 h2 h3 q1
      go_enter Tryd.func10, Tryd.ntmps10
      go_wp2_with fail
      go_ret2
      exact ⟨rfl, rfl⟩
  · have q2 : ((k : Int) == 2) = false := by rw [beq_eq_false_iff_ne]; omega
    clear h1 h2 hk
    go_enter Tryd.func10, Tryd.ntmps10
    go_wp2_with fail
    go_ret2
    exact ⟨rfl, rfl⟩
/-- Which of the two kinds stands behind the interface. -/
theorem told_no (w : World) : (Instr.typeAssert (.iface 48 (.agg #[])) 50 56 true).run Tryd.prog w = .ok (.tuple #[.agg #[.pointer none], .bool false]) w := by kernel_rfl
theorem told_yes (q : Nat) (w : World) : (Instr.typeAssert (.iface 56 (.agg #[.pointer (some ⟨q, 0, none⟩)])) 50 56 true).run Tryd.prog w = .ok (.tuple #[.agg #[.pointer (some ⟨q, 0, none⟩)], .bool true]) w := by kernel_rfl
set_option maxRecDepth 100000 in
theorem skind_any (b : Bool) (m : ByteArray) (p : Nat) (w : World) (hS : SuiteAt w p b m) :
    Calls Tryd.prog 14 #[.pointer (some ⟨p, 0, none⟩)] w fun e w' => e = .returned (.int .u8 (if b = true then 1 else 2)) ∧ Below w.heap.size w w' := by
  obtain ⟨hT, ⟨rfl, hc⟩ | ⟨rfl, q, hc, hkk⟩⟩ := hS
  · have c0 : w.cell? ⟨p, 0, none⟩ = some (.iface 48 (.agg #[])) := cell_of_row _ _ _ _ _ _ hc
    have hn := told_no
    clear hc hT
    go_enter Tryd.func14, Tryd.ntmps14
    go_wp2_with fail
    go_ret
    exact ⟨rfl, (Below.refl w.heap.size w).alloc (Nat.le_refl _) _⟩
  · have c0 : w.cell? ⟨p, 0, none⟩ = some (.iface 56 (.agg #[.pointer (some ⟨q, 0, none⟩)])) := cell_of_row _ _ _ _ _ _ hc
    have hy := told_yes q
    clear hc hT hkk
    go_enter Tryd.func14, Tryd.ntmps14
    go_wp2_with fail
    go_ret
    exact ⟨rfl, (Below.refl w.heap.size w).alloc (Nat.le_refl _) _⟩
theorem image_terms {m t : List UInt8} (h : checkP t = 0) : image8P cryP true m t = (t, 0) := by
  obtain ⟨T, _, _, h3⟩ := treeOf_some h
  simp [image8P, h3]
set_option maxHeartbeats 2000000 in
set_option maxRecDepth 100000 in
theorem pimage8_any (b : Bool) (m t : ByteArray) (ht : t.size ≤ 20000) (p : Nat) (w : World) (hS : SuiteAt w p b m) :
    Calls Tryd.prog 21 #[.pointer (some ⟨p, 0, none⟩), .string t] w fun e w' => e = .returned (st2 (image8P cryP b (bl m) (bl t))) ∧ Below w.heap.size w w' := by
  have HI := Lib.hid (fun V => isterm8_any t (by omega) V)
  by_cases hc : checkP (bl t) = 0
  · rw [zero_yes hc] at HI
    obtain ⟨hT, ⟨rfl, hp⟩ | ⟨rfl, q, hp, hkk⟩⟩ := hS
    · rw [image_terms hc]
      have hS : (⟨(bl t).toArray⟩ : ByteArray) = t := bl_inj (bl_mk _)
      rw [show st2 (bl t, 0) = .tuple #[.string t, .int .i64 0] by show Value.tuple #[.string ⟨(bl t).toArray⟩, _] = _; rw [hS]; rfl]
      have HC := Lib.hid (fun V => clone_any t V (by omega))
      have hn := told_no
      have P0 := Lib.hid hp
      clear hS hT hp hc ht
      go_enter Tryd.func21, Tryd.ntmps21
      go_wp2_with fail
      refine (HI.out w).mono ?_; rintro e w1 ⟨rfl, b1⟩
      have B1 := Lib.hid b1
      have c0 : w1.cell? ⟨p, 0, none⟩ = some (.iface 48 (.agg #[])) := cell_of_row _ _ _ _ _ _ (heap_below b1 P0.out)
      clear b1
      go_wp2_with fail
      refine (HC.out _).mono ?_; rintro e w2 ⟨rfl, b2⟩
      have B2 := Lib.hid (below_step (B1.out.alloc B1.out.size (.cells #[.pointer none] 56)) b2)
      clear b2
      go_wp2_with fail
      go_ret2
      exact ⟨rfl, B2.out⟩
    · obtain ⟨T, tv, te, tr⟩ := treeOf_some hc
      rw [image_tree tr]
      have HC := Lib.hid (fun V (hV : Keyed V q m) => image8_any q m T tv t te.symm V hV)
      have HK : Hid (Keyed w q m) := Lib.hid ⟨hT, hkk⟩
      have hy := told_yes q
      have P0 := Lib.hid hp
      generalize imgT cryP (bl m) T = Z at *
      obtain ⟨r, x⟩ := Z
      unfold st2 conV at HC
      unfold st2
      dsimp only at HC ⊢
      clear hT hp hc ht te tr tv hkk
      go_enter Tryd.func21, Tryd.ntmps21
      go_wp2_with fail
      refine (HI.out w).mono ?_; rintro e w1 ⟨rfl, b1⟩
      have B1 := Lib.hid b1
      have K1 := Lib.hid (HK.out.below b1)
      have c0 : w1.cell? ⟨p, 0, none⟩ = some (.iface 56 (.agg #[.pointer (some ⟨q, 0, none⟩)])) := cell_of_row _ _ _ _ _ _ (heap_below b1 P0.out)
      clear b1
      have A2 := (Below.refl w1.heap.size w1).alloc (Nat.le_refl _) (.cells #[.pointer (some ⟨q, 0, none⟩)] 56)
      have B2 := Lib.hid (below_step B1.out A2)
      have K2 := Lib.hid (K1.out.below A2)
      clear A2
      go_wp2_with fail
      refine (HC.out _ K2.out).mono ?_; rintro e w2 ⟨rfl, b2⟩
      have B3 := Lib.hid (below_step B2.out b2)
      clear b2
      go_wp2_with fail
      go_ret2
      exact ⟨rfl, B3.out⟩
  · rw [zero_no hc] at HI
    have hz : image8P cryP b (bl m) (bl t) = ([], 2) := by simp [image8P, treeOf_none hc]
    rw [hz]
    clear hz hc ht hS
    go_enter Tryd.func21, Tryd.ntmps21
    go_wp2_with fail
    refine (HI.out w).mono ?_; rintro e w1 ⟨rfl, b1⟩
    have B1 := Lib.hid b1
    clear b1
    go_wp2_with fail
    go_ret2
    exact ⟨rfl, B1.out⟩
end Go.Proofs.YtedidoeoomijjaaDoor.Pl
