/- The program's own keys, where the table of letters alone is laid: the name of the key that two share. -/
import Derived.Test.YtbdlegjklfkdmaaGreatDoorBallC15
import Derived.Test.YtbdlegjklfkdmaaGreatDoorBallC1
import Derived.Test.YtbdlegjklfkdmaaGreatDoorBallC3
import Derived.Deep.RegionHeld3
namespace Go.Proofs.YtbdlegjklfkdmaaGreatDoor.Pl
open Go.RowKit

/-- The table of letters is laid. -/
def KeyTab (w : World) : Prop :=
  True ∧ (0 < w.heap.size ∧ w.cell? ⟨0, 1, none⟩ = some (.int .u8 107) ∧ w.cell? ⟨0, 2, none⟩ = some (.int .u8 115))
theorem KeyTab.below {w w' : World} (h : KeyTab w) (hb : Below w.heap.size w w') : KeyTab w' := by
  obtain ⟨_, h3, h4, h5⟩ := h
  have hs := hb.size
  exact ⟨trivial, by omega, (hb.cell (p := ⟨0, 1, none⟩) h3).trans h4, (hb.cell (p := ⟨0, 2, none⟩) h3).trans h5⟩
theorem drew9 (w : World) : Below w.heap.size w w.drew := below_drewN (Below.refl w.heap.size w) 1

set_option maxRecDepth 100000 in
theorem korg_any (a : Int) (w : World) : Calls Tryz.prog 129 #[.int .i64 a] w fun e w' => e = .returned (.bool (decide (inO a))) ∧ w = w' := by
  by_cases h0 : 0 ≤ a
  · by_cases h1 : a < 8
    · rw [decide_eq_true (show inO a from ⟨h0, h1⟩)]
      go_enter Tryz.func129, Tryz.ntmps129
      go_wp2_with fail
      go_ret
      exact ⟨rfl, rfl⟩
    · rw [decide_eq_false (show ¬ inO a from fun e => h1 e.2)]
      go_enter Tryz.func129, Tryz.ntmps129
      go_wp2_with fail
      go_ret
      exact ⟨rfl, rfl⟩
  · rw [decide_eq_false (show ¬ inO a from fun e => h0 e.1)]
    go_enter Tryz.func129, Tryz.ntmps129
    go_wp2_with fail
    go_ret
    exact ⟨rfl, rfl⟩


theorem u8_small (x : Nat) (h : x < 8) : IntKind.u8.wrap (x : Int) = (x : Int) := by
  obtain rfl | rfl | rfl | rfl | rfl | rfl | rfl | rfl : x = 0 ∨ x = 1 ∨ x = 2 ∨ x = 3 ∨ x = 4 ∨ x = 5 ∨ x = 6 ∨ x = 7 := by omega
  all_goals rfl
theorem u8_digit (x : Nat) (h : x < 8) : IntKind.u8.wrap (48 + (x : Int)) = 48 + (x : Int) := by
  obtain rfl | rfl | rfl | rfl | rfl | rfl | rfl | rfl : x = 0 ∨ x = 1 ∨ x = 2 ∨ x = 3 ∨ x = 4 ∨ x = 5 ∨ x = 6 ∨ x = 7 := by omega
  all_goals rfl
theorem key_keep {W1 W V : World} {b : Nat} {x y l : Int} {o : Nat}
    (h : W.cell? ⟨0, o, none⟩ = some (.int .u8 l) ∧ W.cell? ⟨b, 0, none⟩ = some (.int .i64 x) ∧ W.cell? ⟨b, 1, none⟩ = some (.int .i64 y) ∧ Hid (Below W1.heap.size W1 W)) (hb : Below W.heap.size W V) :
    V.cell? ⟨0, o, none⟩ = some (.int .u8 l) ∧ V.cell? ⟨b, 0, none⟩ = some (.int .i64 x) ∧ V.cell? ⟨b, 1, none⟩ = some (.int .i64 y) ∧ Hid (Below W1.heap.size W1 V) := by
  obtain ⟨h0, h1, h2, h3⟩ := h
  exact ⟨(hb.cell (p := ⟨0, o, none⟩) (World.block_lt_of_cell? _ _ h0)).trans h0, (hb.cell (p := ⟨b, 0, none⟩) (World.block_lt_of_cell? _ _ h1)).trans h1, (hb.cell (p := ⟨b, 1, none⟩) (World.block_lt_of_cell? _ _ h2)).trans h2, Lib.hid (h3.out.trans (hb.mono h3.out.size))⟩
theorem key_bytes (l x y : Nat) (hl : l < 256) (hx : x < 8) (hy : y < 8) : ∀ j, [l, 47, 48 + x, 47, 48 + y].getD j 0 < 256
  | 0 => hl
  | 1 => by show 47 < 256; decide
  | 2 => by show 48 + x < 256; omega
  | 3 => by show 47 < 256; decide
  | 4 => by show 48 + y < 256; omega
  | j + 5 => by show (0 : Nat) < 256; decide
set_option maxHeartbeats 1000000 in
set_option maxRecDepth 100000 in
theorem key_tag (x y : Nat) (hx : x < 8) (hy : y < 8) (w : World) (hT : KeyTab w) :
    Calls Tryz.prog 130 #[.agg #[.int .i64 (x : Int), .int .i64 (y : Int)], .int .u8 1] w fun e w' => e = .returned (.string (bytesOf [107, 47, 48 + x, 47, 48 + y])) ∧ Below w.heap.size w w' := by
  have q1 := u8_small x hx
  have q2 := u8_small y hy
  have q3 := u8_digit x hx
  have q4 := u8_digit y hy
  have B0 := Lib.hid ((Below.refl w.heap.size w).alloc (Nat.le_refl _) (.cells #[.int .i64 (x : Int), .int .i64 (y : Int)] 155))
  have cl := (hT.below B0.out).2.2.1
  have C0 := Go.heap_alloc_new w (.cells #[.int .i64 (x : Int), .int .i64 (y : Int)] 155)
  have c0 : (w.alloc (.cells #[.int .i64 (x : Int), .int .i64 (y : Int)] 155)).cell? ⟨w.heap.size, 0, none⟩ = some (.int .i64 (x : Int)) := cell_of_row _ _ _ _ _ _ C0
  have c1 : (w.alloc (.cells #[.int .i64 (x : Int), .int .i64 (y : Int)] 155)).cell? ⟨w.heap.size, 1, none⟩ = some (.int .i64 (y : Int)) := cell_of_row _ _ _ _ _ _ C0
  have KB := key_bytes 107 x y (by decide) hx hy
  clear hT C0 hx hy
  go_enter Tryz.func130, Tryz.ntmps130
  go_wp2_with fail
  generalize hW1 : w.alloc (.cells #[.int .i64 (x : Int), .int .i64 (y : Int)] 155) = W1 at *
  clear hW1
  have KS := key_keep (W1 := W1) (W := W1) (b := w.heap.size) (o := 1) ⟨cl, c0, c1, Lib.hid (Below.refl _ _)⟩ (drew9 W1)
  have BA : Below W1.heap.size W1 (W1.alloc (.cells #[.int .u8 107, .int .u8 47, .int .u8 (48 + (x : Int)), .int .u8 47, .int .u8 (48 + (y : Int))] 5)).drew := below_drewN ((Below.refl _ W1).alloc (Nat.le_refl _) _) 1
  have KA := key_keep (W1 := W1) (W := W1) (b := w.heap.size) (o := 1) ⟨cl, c0, c1, Lib.hid (Below.refl _ _)⟩ BA
  have hcv : (convert 121 9 (.slice (some ⟨W1.heap.size, 0, none⟩) 5 5)).run Tryz.prog (W1.alloc (.cells #[.int .u8 107, .int .u8 47, .int .u8 (48 + (x : Int)), .int .u8 47, .int .u8 (48 + (y : Int))] 5)).drew = .ok (.string (bytesOf [107, 47, 48 + x, 47, 48 + y])) (W1.alloc (.cells #[.int .u8 107, .int .u8 47, .int .u8 (48 + (x : Int)), .int .u8 47, .int .u8 (48 + (y : Int))] 5)).drew :=
    back_string _ W1.heap.size 0 5 [107, 47, 48 + x, 47, 48 + y] KB (fun j hj => by
      have hj' : j < 5 := hj
      rw [Nat.zero_add]
      obtain rfl | rfl | rfl | rfl | rfl : j = 0 ∨ j = 1 ∨ j = 2 ∨ j = 3 ∨ j = 4 := by omega
      all_goals simp [World.cell?_drew])
  have B1 := Lib.hid (B0.out.trans (BA.mono B0.out.size))
  clear KB BA cl c0 c1
  refine wp_region_held_drew (S := fun W => W.cell? ⟨0, 1, none⟩ = some (.int .u8 107) ∧ W.cell? ⟨w.heap.size, 0, none⟩ = some (.int .i64 (x : Int)) ∧ W.cell? ⟨w.heap.size, 1, none⟩ = some (.int .i64 (y : Int)) ∧ Hid (Below W1.heap.size W1 W)) (by kernel_rfl) KS (fun hHeld => ?_)
  refine wpAnyH_take (i := 0) (oi := { dst := some 5, op := Op.move (Operand.tmp 1), type := 5, pos := "keys.go:126", after := #[], guard := none }) (v := .int .u8 1) rfl (by kernel_rfl) (by kernel_rfl) (by kernel_rfl) (fun _ _ _ h => h) (Or.inl ⟨by rfl, fun w hS => by obtain ⟨s0, s1, s2, _⟩ := hS; go_simp⟩) hHeld ?_
  (try simp only [Act.put, List.setIfInBounds_toArray, List.set_cons_zero, List.set_cons_succ])
  refine wpAnyH_take (i := 1) (oi := { dst := some 6, op := Op.indexAddr 165 (Operand.global 0) (Operand.tmp 5), type := 0, pos := "keys.go:126", after := #[{ on := 0, ground := Ground.data }], guard := none }) (v := .pointer (some ⟨0, 1, none⟩)) rfl (by kernel_rfl) (by kernel_rfl) (by kernel_rfl) (fun _ _ _ h => h) (Or.inl ⟨by rfl, fun w hS => by obtain ⟨s0, s1, s2, _⟩ := hS; go_simp⟩) hHeld ?_
  (try simp only [Act.put, List.setIfInBounds_toArray, List.set_cons_zero, List.set_cons_succ])
  refine wpAnyH_take (i := 2) (oi := { dst := some 7, op := Op.load 5 (Operand.tmp 6), type := 5, pos := "keys.go:126", after := #[{ on := 1, ground := Ground.data }], guard := none }) (v := .int .u8 107) rfl (by kernel_rfl) (by kernel_rfl) (by kernel_rfl) (fun _ _ _ h => h) (Or.inl ⟨by rfl, fun w hS => by obtain ⟨s0, s1, s2, _⟩ := hS; go_simp⟩) hHeld ?_
  (try simp only [Act.put, List.setIfInBounds_toArray, List.set_cons_zero, List.set_cons_succ])
  refine wpAnyH_take (i := 3) (oi := { dst := some 8, op := Op.fieldAddr 155 (Operand.tmp 2) 0, type := 0, pos := "keys.go:126", after := #[], guard := none }) (v := .pointer (some ⟨w.heap.size, 0, none⟩)) rfl (by kernel_rfl) (by kernel_rfl) (by kernel_rfl) (fun _ _ _ h => h) (Or.inl ⟨by rfl, fun w hS => by obtain ⟨s0, s1, s2, _⟩ := hS; go_simp⟩) hHeld ?_
  (try simp only [Act.put, List.setIfInBounds_toArray, List.set_cons_zero, List.set_cons_succ])
  refine wpAnyH_take (i := 4) (oi := { dst := some 9, op := Op.load 3 (Operand.tmp 8), type := 3, pos := "keys.go:126", after := #[{ on := 3, ground := Ground.data }], guard := none }) (v := .int .i64 (x : Int)) rfl (by kernel_rfl) (by kernel_rfl) (by kernel_rfl) (fun _ _ _ h => h) (Or.inl ⟨by rfl, fun w hS => by obtain ⟨s0, s1, s2, _⟩ := hS; go_simp⟩) hHeld ?_
  (try simp only [Act.put, List.setIfInBounds_toArray, List.set_cons_zero, List.set_cons_succ])
  refine wpAnyH_take (i := 5) (oi := { dst := some 10, op := Op.convert 3 5 (Operand.tmp 9), type := 5, pos := "keys.go:126", after := #[{ on := 4, ground := Ground.data }], guard := none }) (v := .int .u8 (x : Int)) rfl (by kernel_rfl) (by kernel_rfl) (by kernel_rfl) (fun _ _ _ h => h) (Or.inl ⟨by rfl, fun w hS => by obtain ⟨s0, s1, s2, _⟩ := hS; go_simp⟩) hHeld ?_
  (try simp only [Act.put, List.setIfInBounds_toArray, List.set_cons_zero, List.set_cons_succ])
  refine wpAnyH_take (i := 6) (oi := { dst := some 11, op := Op.binOp BinOp.add 5 (Operand.const (Value.int IntKind.u8 48)) (Operand.tmp 10) 5, type := 5, pos := "keys.go:126", after := #[{ on := 5, ground := Ground.data }], guard := none }) (v := .int .u8 (48 + (x : Int))) rfl (by kernel_rfl) (by kernel_rfl) (by kernel_rfl) (fun _ _ _ h => h) (Or.inl ⟨by rfl, fun w hS => by obtain ⟨s0, s1, s2, _⟩ := hS; go_simp⟩) hHeld ?_
  (try simp only [Act.put, List.setIfInBounds_toArray, List.set_cons_zero, List.set_cons_succ])
  refine wpAnyH_take (i := 7) (oi := { dst := some 12, op := Op.fieldAddr 155 (Operand.tmp 2) 1, type := 0, pos := "keys.go:126", after := #[], guard := none }) (v := .pointer (some ⟨w.heap.size, 1, none⟩)) rfl (by kernel_rfl) (by kernel_rfl) (by kernel_rfl) (fun _ _ _ h => h) (Or.inl ⟨by rfl, fun w hS => by obtain ⟨s0, s1, s2, _⟩ := hS; go_simp⟩) hHeld ?_
  (try simp only [Act.put, List.setIfInBounds_toArray, List.set_cons_zero, List.set_cons_succ])
  refine wpAnyH_take (i := 8) (oi := { dst := some 13, op := Op.load 3 (Operand.tmp 12), type := 3, pos := "keys.go:126", after := #[{ on := 7, ground := Ground.data }], guard := none }) (v := .int .i64 (y : Int)) rfl (by kernel_rfl) (by kernel_rfl) (by kernel_rfl) (fun _ _ _ h => h) (Or.inl ⟨by rfl, fun w hS => by obtain ⟨s0, s1, s2, _⟩ := hS; go_simp⟩) hHeld ?_
  (try simp only [Act.put, List.setIfInBounds_toArray, List.set_cons_zero, List.set_cons_succ])
  refine wpAnyH_take (i := 9) (oi := { dst := some 14, op := Op.convert 3 5 (Operand.tmp 13), type := 5, pos := "keys.go:126", after := #[{ on := 8, ground := Ground.data }], guard := none }) (v := .int .u8 (y : Int)) rfl (by kernel_rfl) (by kernel_rfl) (by kernel_rfl) (fun _ _ _ h => h) (Or.inl ⟨by rfl, fun w hS => by obtain ⟨s0, s1, s2, _⟩ := hS; go_simp⟩) hHeld ?_
  (try simp only [Act.put, List.setIfInBounds_toArray, List.set_cons_zero, List.set_cons_succ])
  refine wpAnyH_take (i := 10) (oi := { dst := some 15, op := Op.binOp BinOp.add 5 (Operand.const (Value.int IntKind.u8 48)) (Operand.tmp 14) 5, type := 5, pos := "keys.go:126", after := #[{ on := 9, ground := Ground.data }], guard := none }) (v := .int .u8 (48 + (y : Int))) rfl (by kernel_rfl) (by kernel_rfl) (by kernel_rfl) (fun _ _ _ h => h) (Or.inl ⟨by rfl, fun w hS => by obtain ⟨s0, s1, s2, _⟩ := hS; go_simp⟩) hHeld ?_
  (try simp only [Act.put, List.setIfInBounds_toArray, List.set_cons_zero, List.set_cons_succ])
  refine wpAnyH_ready (rs := [11]) (by kernel_rfl) (by simp) ?_
  refine AllReadyH.cons (o := { dst := some 16, op := Op.buildSlice 121 5 #[(0, Operand.tmp 7), (1, Operand.const (Value.int IntKind.u8 47)), (2, Operand.tmp 11), (3, Operand.const (Value.int IntKind.u8 47)), (4, Operand.tmp 15)], type := 121, pos := "keys.go:126", after := #[{ on := 2, ground := Ground.data }, { on := 6, ground := Ground.data }, { on := 10, ground := Ground.data }], guard := none }) rfl (fun K hK => ?_) AllReadyH.nil
  go_simp
  refine hK.out _ _ KA (fun hHeld => ?_)
  clear hK K
  (try simp only [Act.put, List.setIfInBounds_toArray, List.set_cons_zero, List.set_cons_succ])
  refine wpAnyH_ready (rs := [12]) (by kernel_rfl) (by simp) ?_
  refine AllReadyH.cons (o := { dst := some 17, op := Op.convert 121 9 (Operand.tmp 16), type := 9, pos := "keys.go:126", after := #[{ on := 11, ground := Ground.data }], guard := none }) rfl (fun K hK => ?_) AllReadyH.nil
  rw [if_pos (by rfl)]
  go_simp
  refine hK.out _ _ KA (fun hHeld => ?_)
  clear hK K
  (try simp only [Act.put, List.setIfInBounds_toArray, List.set_cons_zero, List.set_cons_succ])
  refine wpAnyH_take (i := 13) (oi := { dst := some 4, op := Op.assign (Operand.tmp 17), type := 9, pos := "keys.go:126", after := #[{ on := 12, ground := Ground.data }, { on := 0, ground := Ground.phase }, { on := 1, ground := Ground.phase }, { on := 2, ground := Ground.phase }, { on := 3, ground := Ground.phase }, { on := 4, ground := Ground.phase }, { on := 5, ground := Ground.phase }, { on := 6, ground := Ground.phase }, { on := 7, ground := Ground.phase }, { on := 8, ground := Ground.phase }, { on := 9, ground := Ground.phase }, { on := 10, ground := Ground.phase }, { on := 11, ground := Ground.phase }, { on := 12, ground := Ground.phase }], guard := none }) (v := .string (bytesOf [107, 47, 48 + x, 47, 48 + y])) rfl (by kernel_rfl) (by kernel_rfl) (by kernel_rfl) (fun _ _ _ h => h) (Or.inl ⟨by rfl, fun w hS => by go_simp⟩) hHeld ?_
  (try simp only [Act.put, List.setIfInBounds_toArray, List.set_cons_zero, List.set_cons_succ])
  refine wpAnyH_done (by kernel_rfl) ?_ _
  go_wp2_with fail
  go_ret
  exact ⟨rfl, B1.out⟩
set_option maxHeartbeats 1000000 in
set_option maxRecDepth 100000 in
theorem key_seal (x y : Nat) (hx : x < 8) (hy : y < 8) (w : World) (hT : KeyTab w) :
    Calls Tryz.prog 130 #[.agg #[.int .i64 (x : Int), .int .i64 (y : Int)], .int .u8 2] w fun e w' => e = .returned (.string (bytesOf [115, 47, 48 + x, 47, 48 + y])) ∧ Below w.heap.size w w' := by
  have q1 := u8_small x hx
  have q2 := u8_small y hy
  have q3 := u8_digit x hx
  have q4 := u8_digit y hy
  have B0 := Lib.hid ((Below.refl w.heap.size w).alloc (Nat.le_refl _) (.cells #[.int .i64 (x : Int), .int .i64 (y : Int)] 155))
  have cl := (hT.below B0.out).2.2.2
  have C0 := Go.heap_alloc_new w (.cells #[.int .i64 (x : Int), .int .i64 (y : Int)] 155)
  have c0 : (w.alloc (.cells #[.int .i64 (x : Int), .int .i64 (y : Int)] 155)).cell? ⟨w.heap.size, 0, none⟩ = some (.int .i64 (x : Int)) := cell_of_row _ _ _ _ _ _ C0
  have c1 : (w.alloc (.cells #[.int .i64 (x : Int), .int .i64 (y : Int)] 155)).cell? ⟨w.heap.size, 1, none⟩ = some (.int .i64 (y : Int)) := cell_of_row _ _ _ _ _ _ C0
  have KB := key_bytes 115 x y (by decide) hx hy
  clear hT C0 hx hy
  go_enter Tryz.func130, Tryz.ntmps130
  go_wp2_with fail
  generalize hW1 : w.alloc (.cells #[.int .i64 (x : Int), .int .i64 (y : Int)] 155) = W1 at *
  clear hW1
  have KS := key_keep (W1 := W1) (W := W1) (b := w.heap.size) (o := 2) ⟨cl, c0, c1, Lib.hid (Below.refl _ _)⟩ (drew9 W1)
  have BA : Below W1.heap.size W1 (W1.alloc (.cells #[.int .u8 115, .int .u8 47, .int .u8 (48 + (x : Int)), .int .u8 47, .int .u8 (48 + (y : Int))] 5)).drew := below_drewN ((Below.refl _ W1).alloc (Nat.le_refl _) _) 1
  have KA := key_keep (W1 := W1) (W := W1) (b := w.heap.size) (o := 2) ⟨cl, c0, c1, Lib.hid (Below.refl _ _)⟩ BA
  have hcv : (convert 121 9 (.slice (some ⟨W1.heap.size, 0, none⟩) 5 5)).run Tryz.prog (W1.alloc (.cells #[.int .u8 115, .int .u8 47, .int .u8 (48 + (x : Int)), .int .u8 47, .int .u8 (48 + (y : Int))] 5)).drew = .ok (.string (bytesOf [115, 47, 48 + x, 47, 48 + y])) (W1.alloc (.cells #[.int .u8 115, .int .u8 47, .int .u8 (48 + (x : Int)), .int .u8 47, .int .u8 (48 + (y : Int))] 5)).drew :=
    back_string _ W1.heap.size 0 5 [115, 47, 48 + x, 47, 48 + y] KB (fun j hj => by
      have hj' : j < 5 := hj
      rw [Nat.zero_add]
      obtain rfl | rfl | rfl | rfl | rfl : j = 0 ∨ j = 1 ∨ j = 2 ∨ j = 3 ∨ j = 4 := by omega
      all_goals simp [World.cell?_drew])
  have B1 := Lib.hid (B0.out.trans (BA.mono B0.out.size))
  clear KB BA cl c0 c1
  refine wp_region_held_drew (S := fun W => W.cell? ⟨0, 2, none⟩ = some (.int .u8 115) ∧ W.cell? ⟨w.heap.size, 0, none⟩ = some (.int .i64 (x : Int)) ∧ W.cell? ⟨w.heap.size, 1, none⟩ = some (.int .i64 (y : Int)) ∧ Hid (Below W1.heap.size W1 W)) (by kernel_rfl) KS (fun hHeld => ?_)
  refine wpAnyH_take (i := 0) (oi := { dst := some 5, op := Op.move (Operand.tmp 1), type := 5, pos := "keys.go:126", after := #[], guard := none }) (v := .int .u8 2) rfl (by kernel_rfl) (by kernel_rfl) (by kernel_rfl) (fun _ _ _ h => h) (Or.inl ⟨by rfl, fun w hS => by obtain ⟨s0, s1, s2, _⟩ := hS; go_simp⟩) hHeld ?_
  (try simp only [Act.put, List.setIfInBounds_toArray, List.set_cons_zero, List.set_cons_succ])
  refine wpAnyH_take (i := 1) (oi := { dst := some 6, op := Op.indexAddr 165 (Operand.global 0) (Operand.tmp 5), type := 0, pos := "keys.go:126", after := #[{ on := 0, ground := Ground.data }], guard := none }) (v := .pointer (some ⟨0, 2, none⟩)) rfl (by kernel_rfl) (by kernel_rfl) (by kernel_rfl) (fun _ _ _ h => h) (Or.inl ⟨by rfl, fun w hS => by obtain ⟨s0, s1, s2, _⟩ := hS; go_simp⟩) hHeld ?_
  (try simp only [Act.put, List.setIfInBounds_toArray, List.set_cons_zero, List.set_cons_succ])
  refine wpAnyH_take (i := 2) (oi := { dst := some 7, op := Op.load 5 (Operand.tmp 6), type := 5, pos := "keys.go:126", after := #[{ on := 1, ground := Ground.data }], guard := none }) (v := .int .u8 115) rfl (by kernel_rfl) (by kernel_rfl) (by kernel_rfl) (fun _ _ _ h => h) (Or.inl ⟨by rfl, fun w hS => by obtain ⟨s0, s1, s2, _⟩ := hS; go_simp⟩) hHeld ?_
  (try simp only [Act.put, List.setIfInBounds_toArray, List.set_cons_zero, List.set_cons_succ])
  refine wpAnyH_take (i := 3) (oi := { dst := some 8, op := Op.fieldAddr 155 (Operand.tmp 2) 0, type := 0, pos := "keys.go:126", after := #[], guard := none }) (v := .pointer (some ⟨w.heap.size, 0, none⟩)) rfl (by kernel_rfl) (by kernel_rfl) (by kernel_rfl) (fun _ _ _ h => h) (Or.inl ⟨by rfl, fun w hS => by obtain ⟨s0, s1, s2, _⟩ := hS; go_simp⟩) hHeld ?_
  (try simp only [Act.put, List.setIfInBounds_toArray, List.set_cons_zero, List.set_cons_succ])
  refine wpAnyH_take (i := 4) (oi := { dst := some 9, op := Op.load 3 (Operand.tmp 8), type := 3, pos := "keys.go:126", after := #[{ on := 3, ground := Ground.data }], guard := none }) (v := .int .i64 (x : Int)) rfl (by kernel_rfl) (by kernel_rfl) (by kernel_rfl) (fun _ _ _ h => h) (Or.inl ⟨by rfl, fun w hS => by obtain ⟨s0, s1, s2, _⟩ := hS; go_simp⟩) hHeld ?_
  (try simp only [Act.put, List.setIfInBounds_toArray, List.set_cons_zero, List.set_cons_succ])
  refine wpAnyH_take (i := 5) (oi := { dst := some 10, op := Op.convert 3 5 (Operand.tmp 9), type := 5, pos := "keys.go:126", after := #[{ on := 4, ground := Ground.data }], guard := none }) (v := .int .u8 (x : Int)) rfl (by kernel_rfl) (by kernel_rfl) (by kernel_rfl) (fun _ _ _ h => h) (Or.inl ⟨by rfl, fun w hS => by obtain ⟨s0, s1, s2, _⟩ := hS; go_simp⟩) hHeld ?_
  (try simp only [Act.put, List.setIfInBounds_toArray, List.set_cons_zero, List.set_cons_succ])
  refine wpAnyH_take (i := 6) (oi := { dst := some 11, op := Op.binOp BinOp.add 5 (Operand.const (Value.int IntKind.u8 48)) (Operand.tmp 10) 5, type := 5, pos := "keys.go:126", after := #[{ on := 5, ground := Ground.data }], guard := none }) (v := .int .u8 (48 + (x : Int))) rfl (by kernel_rfl) (by kernel_rfl) (by kernel_rfl) (fun _ _ _ h => h) (Or.inl ⟨by rfl, fun w hS => by obtain ⟨s0, s1, s2, _⟩ := hS; go_simp⟩) hHeld ?_
  (try simp only [Act.put, List.setIfInBounds_toArray, List.set_cons_zero, List.set_cons_succ])
  refine wpAnyH_take (i := 7) (oi := { dst := some 12, op := Op.fieldAddr 155 (Operand.tmp 2) 1, type := 0, pos := "keys.go:126", after := #[], guard := none }) (v := .pointer (some ⟨w.heap.size, 1, none⟩)) rfl (by kernel_rfl) (by kernel_rfl) (by kernel_rfl) (fun _ _ _ h => h) (Or.inl ⟨by rfl, fun w hS => by obtain ⟨s0, s1, s2, _⟩ := hS; go_simp⟩) hHeld ?_
  (try simp only [Act.put, List.setIfInBounds_toArray, List.set_cons_zero, List.set_cons_succ])
  refine wpAnyH_take (i := 8) (oi := { dst := some 13, op := Op.load 3 (Operand.tmp 12), type := 3, pos := "keys.go:126", after := #[{ on := 7, ground := Ground.data }], guard := none }) (v := .int .i64 (y : Int)) rfl (by kernel_rfl) (by kernel_rfl) (by kernel_rfl) (fun _ _ _ h => h) (Or.inl ⟨by rfl, fun w hS => by obtain ⟨s0, s1, s2, _⟩ := hS; go_simp⟩) hHeld ?_
  (try simp only [Act.put, List.setIfInBounds_toArray, List.set_cons_zero, List.set_cons_succ])
  refine wpAnyH_take (i := 9) (oi := { dst := some 14, op := Op.convert 3 5 (Operand.tmp 13), type := 5, pos := "keys.go:126", after := #[{ on := 8, ground := Ground.data }], guard := none }) (v := .int .u8 (y : Int)) rfl (by kernel_rfl) (by kernel_rfl) (by kernel_rfl) (fun _ _ _ h => h) (Or.inl ⟨by rfl, fun w hS => by obtain ⟨s0, s1, s2, _⟩ := hS; go_simp⟩) hHeld ?_
  (try simp only [Act.put, List.setIfInBounds_toArray, List.set_cons_zero, List.set_cons_succ])
  refine wpAnyH_take (i := 10) (oi := { dst := some 15, op := Op.binOp BinOp.add 5 (Operand.const (Value.int IntKind.u8 48)) (Operand.tmp 14) 5, type := 5, pos := "keys.go:126", after := #[{ on := 9, ground := Ground.data }], guard := none }) (v := .int .u8 (48 + (y : Int))) rfl (by kernel_rfl) (by kernel_rfl) (by kernel_rfl) (fun _ _ _ h => h) (Or.inl ⟨by rfl, fun w hS => by obtain ⟨s0, s1, s2, _⟩ := hS; go_simp⟩) hHeld ?_
  (try simp only [Act.put, List.setIfInBounds_toArray, List.set_cons_zero, List.set_cons_succ])
  refine wpAnyH_ready (rs := [11]) (by kernel_rfl) (by simp) ?_
  refine AllReadyH.cons (o := { dst := some 16, op := Op.buildSlice 121 5 #[(0, Operand.tmp 7), (1, Operand.const (Value.int IntKind.u8 47)), (2, Operand.tmp 11), (3, Operand.const (Value.int IntKind.u8 47)), (4, Operand.tmp 15)], type := 121, pos := "keys.go:126", after := #[{ on := 2, ground := Ground.data }, { on := 6, ground := Ground.data }, { on := 10, ground := Ground.data }], guard := none }) rfl (fun K hK => ?_) AllReadyH.nil
  go_simp
  refine hK.out _ _ KA (fun hHeld => ?_)
  clear hK K
  (try simp only [Act.put, List.setIfInBounds_toArray, List.set_cons_zero, List.set_cons_succ])
  refine wpAnyH_ready (rs := [12]) (by kernel_rfl) (by simp) ?_
  refine AllReadyH.cons (o := { dst := some 17, op := Op.convert 121 9 (Operand.tmp 16), type := 9, pos := "keys.go:126", after := #[{ on := 11, ground := Ground.data }], guard := none }) rfl (fun K hK => ?_) AllReadyH.nil
  rw [if_pos (by rfl)]
  go_simp
  refine hK.out _ _ KA (fun hHeld => ?_)
  clear hK K
  (try simp only [Act.put, List.setIfInBounds_toArray, List.set_cons_zero, List.set_cons_succ])
  refine wpAnyH_take (i := 13) (oi := { dst := some 4, op := Op.assign (Operand.tmp 17), type := 9, pos := "keys.go:126", after := #[{ on := 12, ground := Ground.data }, { on := 0, ground := Ground.phase }, { on := 1, ground := Ground.phase }, { on := 2, ground := Ground.phase }, { on := 3, ground := Ground.phase }, { on := 4, ground := Ground.phase }, { on := 5, ground := Ground.phase }, { on := 6, ground := Ground.phase }, { on := 7, ground := Ground.phase }, { on := 8, ground := Ground.phase }, { on := 9, ground := Ground.phase }, { on := 10, ground := Ground.phase }, { on := 11, ground := Ground.phase }, { on := 12, ground := Ground.phase }], guard := none }) (v := .string (bytesOf [115, 47, 48 + x, 47, 48 + y])) rfl (by kernel_rfl) (by kernel_rfl) (by kernel_rfl) (fun _ _ _ h => h) (Or.inl ⟨by rfl, fun w hS => by go_simp⟩) hHeld ?_
  (try simp only [Act.put, List.setIfInBounds_toArray, List.set_cons_zero, List.set_cons_succ])
  refine wpAnyH_done (by kernel_rfl) ?_ _
  go_wp2_with fail
  go_ret
  exact ⟨rfl, B1.out⟩
/-- A kind of keys and its letter. -/
def IsKind (kd : Nat) (c : UInt8) : Prop := (kd = 1 ∧ c = 107) ∨ (kd = 2 ∧ c = 115)
theorem name_bytes (c : UInt8) (x y : Nat) : bytesOf [c.toNat, 47, 48 + min x y, 47, 48 + max x y] = nmT c x y := by
  have h : UInt8.ofNat c.toNat = c := by apply UInt8.toNat_inj.1; rw [UInt8.toNat_ofNat']; have := c.toNat_lt; omega
  unfold bytesOf nmT nm
  simp only [List.map_cons, List.map_nil, h]
  rfl
theorem key_any (kd : Nat) (c : UInt8) (hk : IsKind kd c) (x y : Nat) (hx : x < 8) (hy : y < 8) (hxy : x ≤ y) (w : World) (hT : KeyTab w) :
    Calls Tryz.prog 130 #[.agg #[.int .i64 (x : Int), .int .i64 (y : Int)], .int .u8 (kd : Int)] w fun e w' => e = .returned (.string (nmT c x y)) ∧ Below w.heap.size w w' := by
  rw [← name_bytes c x y, Nat.min_eq_left hxy, Nat.max_eq_right hxy]
  rcases hk with ⟨rfl, rfl⟩ | ⟨rfl, rfl⟩
  · exact key_tag x y hx hy w hT
  · exact key_seal x y hx hy w hT
theorem nmT_sort (c : UInt8) (x y : Nat) : nmT c (min x y) (max x y) = nmT c x y := by
  rw [← name_bytes, ← name_bytes]
  congr 1
  simp only [List.cons.injEq, true_and, and_true]
  omega
set_option maxHeartbeats 1000000 in
set_option maxRecDepth 100000 in
theorem shared_any (kd : Nat) (c : UInt8) (hk : IsKind kd c) (a b : Int) (w : World) (hT : KeyTab w) :
    Calls Tryz.prog 96 #[.int .u8 (kd : Int), .int .i64 a, .int .i64 b] w fun e w' => e = .returned (st2 (nameK c a b)) ∧ Below w.heap.size w w' := by
  have HA := korg_any a
  have HB := korg_any b
  by_cases h1 : inO a
  · rw [decide_eq_true h1] at HA
    by_cases h2 : inO b
    · rw [decide_eq_true h2] at HB
      obtain ⟨x, rfl⟩ : ∃ x : Nat, a = x := ⟨a.toNat, by have := h1.1; omega⟩
      obtain ⟨y, rfl⟩ : ∃ x : Nat, b = x := ⟨b.toNat, by have := h2.1; omega⟩
      have hx : x < 8 := by have := h1.2; omega
      have hy : y < 8 := by have := h2.2; omega
      rw [nameK_ok c hx hy]
      have HK := Lib.hid (key_any kd c hk (min x y) (max x y) (by omega) (by omega) (by omega) w hT)
      rw [nmT_sort] at HK
      have HA := Lib.hid HA
      have HB := Lib.hid HB
      rcases Nat.lt_trichotomy x y with h | h | h
      · have q : (x : Int) < (y : Int) := by omega
        have m1 : min (x : Int) (y : Int) = (x : Int) := by omega
        have m2 : max (x : Int) (y : Int) = (y : Int) := by omega
        rw [Nat.min_eq_left (Nat.le_of_lt h), Nat.max_eq_right (Nat.le_of_lt h)] at HK
        clear h1 h2 hT hx hy h
        go_enter Tryz.func96, Tryz.ntmps96
        go_wp2_with fail
        refine (HA.out _).mono ?_; rintro e w1 ⟨rfl, rfl⟩
        go_wp2_with fail
        refine (HB.out _).mono ?_; rintro e w1 ⟨rfl, rfl⟩
        go_wp2_with fail
        refine HK.out.mono ?_; rintro e w1 ⟨rfl, b1⟩
        have B1 := Lib.hid b1
        clear b1
        go_wp2_with fail
        go_ret2
        exact ⟨rfl, B1.out⟩
      · subst h
        have m1 : min (x : Int) (x : Int) = (x : Int) := by omega
        have m2 : max (x : Int) (x : Int) = (x : Int) := by omega
        rw [Nat.min_self, Nat.max_self] at HK
        clear h1 h2 hT hx hy
        go_enter Tryz.func96, Tryz.ntmps96
        go_wp2_with fail
        refine (HA.out _).mono ?_; rintro e w1 ⟨rfl, rfl⟩
        go_wp2_with fail
        refine (HB.out _).mono ?_; rintro e w1 ⟨rfl, rfl⟩
        go_wp2_with fail
        refine HK.out.mono ?_; rintro e w1 ⟨rfl, b1⟩
        have B1 := Lib.hid b1
        clear b1
        go_wp2_with fail
        go_ret2
        exact ⟨rfl, B1.out⟩
      · have q : (y : Int) < (x : Int) := by omega
        have m1 : min (x : Int) (y : Int) = (y : Int) := by omega
        have m2 : max (x : Int) (y : Int) = (x : Int) := by omega
        rw [Nat.min_eq_right (Nat.le_of_lt h), Nat.max_eq_left (Nat.le_of_lt h)] at HK
        clear h1 h2 hT hx hy h
        go_enter Tryz.func96, Tryz.ntmps96
        go_wp2_with fail
        refine (HA.out _).mono ?_; rintro e w1 ⟨rfl, rfl⟩
        go_wp2_with fail
        refine (HB.out _).mono ?_; rintro e w1 ⟨rfl, rfl⟩
        go_wp2_with fail
        refine HK.out.mono ?_; rintro e w1 ⟨rfl, b1⟩
        have B1 := Lib.hid b1
        clear b1
        go_wp2_with fail
        go_ret2
        exact ⟨rfl, B1.out⟩
    · rw [decide_eq_false h2] at HB
      rw [show nameK c a b = ([], 2) from if_neg (fun e => h2 e.2)]
      have HA := Lib.hid HA
      have HB := Lib.hid HB
      clear h1 h2 hT
      go_enter Tryz.func96, Tryz.ntmps96
      go_wp2_with fail
      refine (HA.out _).mono ?_; rintro e w1 ⟨rfl, rfl⟩
      go_wp2_with fail
      refine (HB.out _).mono ?_; rintro e w1 ⟨rfl, rfl⟩
      go_wp2_with fail
      go_ret2
      exact ⟨rfl, Below.refl _ _⟩
  · rw [decide_eq_false h1] at HA
    rw [show nameK c a b = ([], 2) from if_neg (fun e => h1 e.1)]
    have HA := Lib.hid HA
    clear h1 hT HB
    go_enter Tryz.func96, Tryz.ntmps96
    go_wp2_with fail
    refine (HA.out _).mono ?_; rintro e w1 ⟨rfl, rfl⟩
    go_wp2_with fail
    go_ret2
    exact ⟨rfl, Below.refl _ _⟩
set_option maxRecDepth 100000 in
theorem ktag_any (a b : Int) (w : World) (hT : KeyTab w) : Calls Tryz.prog 58 #[.int .i64 a, .int .i64 b] w fun e w' => e = .returned (st2 (nameK 107 a b)) ∧ Below w.heap.size w w' := by
  have H := Lib.hid (shared_any 1 107 (.inl ⟨rfl, rfl⟩) a b w hT)
  generalize nameK 107 a b = R at *
  obtain ⟨r, x⟩ := R
  unfold st2 at H ⊢
  dsimp only at H ⊢
  clear hT
  go_enter Tryz.func58, Tryz.ntmps58
  go_wp2_with fail
  refine H.out.mono ?_; rintro e w1 ⟨rfl, b1⟩
  have B1 := Lib.hid b1
  clear b1
  go_wp2_with fail
  go_ret2
  exact ⟨rfl, B1.out⟩
end Go.Proofs.YtbdlegjklfkdmaaGreatDoor.Pl
