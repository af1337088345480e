/- What the methods of a suite answer, of either kind: the call through its interface. -/
import Derived.Test.YtedidoeoomijjaaDoorSuiteImg
import Derived.Handy
namespace Go.Proofs.YtedidoeoomijjaaDoor.Pl
open Go.RowKit

/-- Block p is a suite: of terms (b), or of bytes under the master m. -/
def SuiteAt (w : World) (p : Nat) (b : Bool) (m : ByteArray) : Prop :=
  Tab w ∧ ((b = true ∧ w.heap[p]? = some (.cells #[.iface 48 (.agg #[])] 52 (0, 0))) ∨
    (b = false ∧ ∃ q, w.heap[p]? = some (.cells #[.iface 56 (.agg #[.pointer (some ⟨q, 0, none⟩)])] 52 (0, 0)) ∧ KeyAt w q (nums m)))
theorem SuiteAt.below {w w' : World} {p : Nat} {b : Bool} {m : ByteArray} (h : SuiteAt w p b m) (hb : Below w.heap.size w w') : SuiteAt w' p b m :=
  ⟨h.1.below hb, h.2.elim (fun k => .inl ⟨k.1, heap_below hb k.2⟩) (fun ⟨k, q, h1, h2⟩ => .inr ⟨k, q, heap_below hb h1, h2.below hb⟩)⟩

set_option maxHeartbeats 1000000 in
set_option maxRecDepth 100000 in
theorem key8_any (b : Bool) (m : ByteArray) (n : ByteArray) (hn : n.size ≤ 20000) (p : Nat) (w : World) (hS : SuiteAt w p b m) :
    Calls Tryd.prog 17 #[.pointer (some ⟨p, 0, none⟩), .string n] w fun e w' => e = .returned (st2 (keyP cryP b (bl m) (bl n))) ∧ Below w.heap.size w w' := by
  obtain ⟨hT, ⟨rfl, hc⟩ | ⟨rfl, q, hc, hkk⟩⟩ := hS
  · have H := Lib.hid (skey8_any cryP (bl m) n hn w)
    generalize keyP cryP true (bl m) (bl n) = Z at *
    obtain ⟨r, x⟩ := Z
    unfold st2 symV at H
    unfold st2
    dsimp only at H ⊢
    have c0 : w.cell? ⟨p, 0, none⟩ = some (.iface 48 (.agg #[])) := cell_of_row _ _ _ _ _ _ hc
    clear hc hT hn
    go_enter Tryd.func17, Tryd.ntmps17
    go_wp2_with fail
    refine H.out.mono ?_; rintro e w1 ⟨rfl, b1⟩
    have B1 := Lib.hid b1
    clear b1
    go_wp2_with fail
    go_ret2
    exact ⟨rfl, B1.out⟩
  · have H := Lib.hid (ckey8_any q m n hn w ⟨hT, hkk⟩)
    generalize keyP cryP false (bl m) (bl n) = Z at *
    obtain ⟨r, x⟩ := Z
    unfold st2 conV at H
    unfold st2
    dsimp only at H ⊢
    have c0 : w.cell? ⟨p, 0, none⟩ = some (.iface 56 (.agg #[.pointer (some ⟨q, 0, none⟩)])) := cell_of_row _ _ _ _ _ _ hc
    clear hc hT hkk hn
    go_enter Tryd.func17, Tryd.ntmps17
    go_wp2_with fail
    refine H.out.mono ?_; rintro e w1 ⟨rfl, b1⟩
    have B1 := Lib.hid b1
    clear b1
    go_wp2_with fail
    go_ret2
    exact ⟨rfl, B1.out⟩

set_option maxHeartbeats 1000000 in
set_option maxRecDepth 100000 in
theorem hash8_any (b : Bool) (m : ByteArray) (t : ByteArray) (ht : t.size ≤ 20000) (p : Nat) (w : World) (hS : SuiteAt w p b m) :
    Calls Tryd.prog 18 #[.pointer (some ⟨p, 0, none⟩), .string t] w fun e w' => e = .returned (st2 (hash8P cryP b (bl t))) ∧ Below w.heap.size w w' := by
  obtain ⟨hT, ⟨rfl, hc⟩ | ⟨rfl, q, hc, hkk⟩⟩ := hS
  · have H := Lib.hid (shash8_any cryP t ht w)
    generalize hash8P cryP true (bl t) = Z at *
    obtain ⟨r, x⟩ := Z
    unfold st2 symV at H
    unfold st2
    dsimp only at H ⊢
    have c0 : w.cell? ⟨p, 0, none⟩ = some (.iface 48 (.agg #[])) := cell_of_row _ _ _ _ _ _ hc
    clear hc hT ht
    go_enter Tryd.func18, Tryd.ntmps18
    go_wp2_with fail
    refine H.out.mono ?_; rintro e w1 ⟨rfl, b1⟩
    have B1 := Lib.hid b1
    clear b1
    go_wp2_with fail
    go_ret2
    exact ⟨rfl, B1.out⟩
  · have H := Lib.hid (chash8_any q m t ht w ⟨hT, hkk⟩)
    generalize hash8P cryP false (bl t) = Z at *
    obtain ⟨r, x⟩ := Z
    unfold st2 conV at H
    unfold st2
    dsimp only at H ⊢
    have c0 : w.cell? ⟨p, 0, none⟩ = some (.iface 56 (.agg #[.pointer (some ⟨q, 0, none⟩)])) := cell_of_row _ _ _ _ _ _ hc
    clear hc hT hkk ht
    go_enter Tryd.func18, Tryd.ntmps18
    go_wp2_with fail
    refine H.out.mono ?_; rintro e w1 ⟨rfl, b1⟩
    have B1 := Lib.hid b1
    clear b1
    go_wp2_with fail
    go_ret2
    exact ⟨rfl, B1.out⟩

set_option maxHeartbeats 1000000 in
set_option maxRecDepth 100000 in
theorem mac8_any (b : Bool) (m : ByteArray) (k : ByteArray) (hk : k.size ≤ 20000) (t : ByteArray) (ht : t.size ≤ 20000) (p : Nat) (w : World) (hS : SuiteAt w p b m) :
    Calls Tryd.prog 19 #[.pointer (some ⟨p, 0, none⟩), .string k, .string t] w fun e w' => e = .returned (st2 (mac8P cryP b (bl k) (bl t))) ∧ Below w.heap.size w w' := by
  obtain ⟨hT, ⟨rfl, hc⟩ | ⟨rfl, q, hc, hkk⟩⟩ := hS
  · have H := Lib.hid (smac8_any cryP k t hk ht w)
    generalize mac8P cryP true (bl k) (bl t) = Z at *
    obtain ⟨r, x⟩ := Z
    unfold st2 symV at H
    unfold st2
    dsimp only at H ⊢
    have c0 : w.cell? ⟨p, 0, none⟩ = some (.iface 48 (.agg #[])) := cell_of_row _ _ _ _ _ _ hc
    clear hc hT hk ht
    go_enter Tryd.func19, Tryd.ntmps19
    go_wp2_with fail
    refine H.out.mono ?_; rintro e w1 ⟨rfl, b1⟩
    have B1 := Lib.hid b1
    clear b1
    go_wp2_with fail
    go_ret2
    exact ⟨rfl, B1.out⟩
  · have H := Lib.hid (cmac8_any q m k t hk ht w ⟨hT, hkk⟩)
    generalize mac8P cryP false (bl k) (bl t) = Z at *
    obtain ⟨r, x⟩ := Z
    unfold st2 conV at H
    unfold st2
    dsimp only at H ⊢
    have c0 : w.cell? ⟨p, 0, none⟩ = some (.iface 56 (.agg #[.pointer (some ⟨q, 0, none⟩)])) := cell_of_row _ _ _ _ _ _ hc
    clear hc hT hkk hk ht
    go_enter Tryd.func19, Tryd.ntmps19
    go_wp2_with fail
    refine H.out.mono ?_; rintro e w1 ⟨rfl, b1⟩
    have B1 := Lib.hid b1
    clear b1
    go_wp2_with fail
    go_ret2
    exact ⟨rfl, B1.out⟩

set_option maxHeartbeats 1000000 in
set_option maxRecDepth 100000 in
theorem seal8_any (b : Bool) (m : ByteArray) (k : ByteArray) (hk : k.size ≤ 20000) (n : ByteArray) (hn : n.size ≤ 20000) (t : ByteArray) (ht : t.size ≤ 20000) (p : Nat) (w : World) (hS : SuiteAt w p b m) :
    Calls Tryd.prog 12 #[.pointer (some ⟨p, 0, none⟩), .string k, .string n, .string t] w fun e w' => e = .returned (st2 (seal8P cryP b (bl k) (bl n) (bl t))) ∧ Below w.heap.size w w' := by
  obtain ⟨hT, ⟨rfl, hc⟩ | ⟨rfl, q, hc, hkk⟩⟩ := hS
  · have H := Lib.hid (sseal8_any cryP k n t hk hn ht w)
    generalize seal8P cryP true (bl k) (bl n) (bl t) = Z at *
    obtain ⟨r, x⟩ := Z
    unfold st2 symV at H
    unfold st2
    dsimp only at H ⊢
    have c0 : w.cell? ⟨p, 0, none⟩ = some (.iface 48 (.agg #[])) := cell_of_row _ _ _ _ _ _ hc
    clear hc hT hk hn ht
    go_enter Tryd.func12, Tryd.ntmps12
    go_wp2_with fail
    refine H.out.mono ?_; rintro e w1 ⟨rfl, b1⟩
    have B1 := Lib.hid b1
    clear b1
    go_wp2_with fail
    go_ret2
    exact ⟨rfl, B1.out⟩
  · have H := Lib.hid (cseal8_any q m k n t hk hn ht w ⟨hT, hkk⟩)
    generalize seal8P cryP false (bl k) (bl n) (bl t) = Z at *
    obtain ⟨r, x⟩ := Z
    unfold st2 conV at H
    unfold st2
    dsimp only at H ⊢
    have c0 : w.cell? ⟨p, 0, none⟩ = some (.iface 56 (.agg #[.pointer (some ⟨q, 0, none⟩)])) := cell_of_row _ _ _ _ _ _ hc
    clear hc hT hkk hk hn ht
    go_enter Tryd.func12, Tryd.ntmps12
    go_wp2_with fail
    refine H.out.mono ?_; rintro e w1 ⟨rfl, b1⟩
    have B1 := Lib.hid b1
    clear b1
    go_wp2_with fail
    go_ret2
    exact ⟨rfl, B1.out⟩

set_option maxHeartbeats 1000000 in
set_option maxRecDepth 100000 in
theorem open8_any (b : Bool) (m : ByteArray) (k : ByteArray) (hk : k.size ≤ 20000) (x : ByteArray) (hx : x.size ≤ 20000) (p : Nat) (w : World) (hS : SuiteAt w p b m) :
    Calls Tryd.prog 13 #[.pointer (some ⟨p, 0, none⟩), .string k, .string x] w fun e w' => e = .returned (st2 (open8P cryP b (bl k) (bl x))) ∧ Below w.heap.size w w' := by
  obtain ⟨hT, ⟨rfl, hc⟩ | ⟨rfl, q, hc, hkk⟩⟩ := hS
  · have H := Lib.hid (sopen8_any cryP k x hk hx w)
    generalize open8P cryP true (bl k) (bl x) = Z at *
    obtain ⟨r, x⟩ := Z
    unfold st2 symV at H
    unfold st2
    dsimp only at H ⊢
    have c0 : w.cell? ⟨p, 0, none⟩ = some (.iface 48 (.agg #[])) := cell_of_row _ _ _ _ _ _ hc
    clear hc hT hk hx
    go_enter Tryd.func13, Tryd.ntmps13
    go_wp2_with fail
    refine H.out.mono ?_; rintro e w1 ⟨rfl, b1⟩
    have B1 := Lib.hid b1
    clear b1
    go_wp2_with fail
    go_ret2
    exact ⟨rfl, B1.out⟩
  · have H := Lib.hid (copen8_any q m k x hk hx w ⟨hT, hkk⟩)
    generalize open8P cryP false (bl k) (bl x) = Z at *
    obtain ⟨r, x⟩ := Z
    unfold st2 conV at H
    unfold st2
    dsimp only at H ⊢
    have c0 : w.cell? ⟨p, 0, none⟩ = some (.iface 56 (.agg #[.pointer (some ⟨q, 0, none⟩)])) := cell_of_row _ _ _ _ _ _ hc
    clear hc hT hkk hk hx
    go_enter Tryd.func13, Tryd.ntmps13
    go_wp2_with fail
    refine H.out.mono ?_; rintro e w1 ⟨rfl, b1⟩
    have B1 := Lib.hid b1
    clear b1
    go_wp2_with fail
    go_ret2
    exact ⟨rfl, B1.out⟩

end Go.Proofs.YtedidoeoomijjaaDoor.Pl
