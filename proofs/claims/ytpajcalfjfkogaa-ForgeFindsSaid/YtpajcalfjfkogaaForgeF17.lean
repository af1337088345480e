/- The program's own run of steps: what was seen, parts, nonces. -/
import Derived.Test.YtpajcalfjfkogaaForgeF15
import Derived.Test.YtpajcalfjfkogaaForgeF8
namespace Go.Proofs.Ytpajcalfjfkogaa.Pl
open Go.RowKit

theorem kind_check {s : List UInt8} (h : kindP s ≠ 0) : checkP s = 0 := by
  unfold kindP at h
  split at h
  · assumption
  · exact absurd rfl h
theorem seal_parts {s : List UInt8} (h : kindP s = 6) : ∃ k n x, (partsP s).1 = [k, n, x] := by
  obtain ⟨⟨hd, l⟩, hv, rfl⟩ := check_iff.1 (kind_check (s := s) (by omega))
  obtain ⟨c, hk, e⟩ := kd_node hv
  obtain rfl : c = 6 := by omega
  obtain ⟨k, n, x, rfl⟩ := three hv.1 ((kd_first hk).2.2.2.1 rfl)
  exact ⟨k.enc, n.enc, x.enc, by rw [parts_node hv]; rfl⟩
theorem map_three {L : List ByteArray} {a b c : List UInt8} (h : L.map bl = [a, b, c]) : ∃ x0 x1 x2, L = [x0, x1, x2] ∧ bl x0 = a ∧ bl x1 = b ∧ bl x2 = c := by
  match L, h with
  | [x0, x1, x2], h =>
    simp only [List.map_cons, List.map_nil, List.cons.injEq, and_true] at h
    exact ⟨x0, x1, x2, rfl, h.1, h.2.1, h.2.2⟩
theorem getD_map (l : List ByteArray) (k : Nat) : (l.map bl).getD k [] = bl (l.getD k ByteArray.empty) := by
  rw [List.getD_eq_getElem?_getD, List.getElem?_map, List.getD_eq_getElem?_getD]
  cases l[k]? <;> rfl
set_option maxHeartbeats 8000000 in
set_option maxRecDepth 100000 in
theorem do11_none (r : Nat) (s : Stp) (lo : Option Addr) (lc : Nat) (was : List ByteArray) (wo : Option Addr) (wc : Nat) (l : List ByteArray) (ao : Option Addr) (cap : Nat) (hn : ¬ (0 ≤ s.n ∧ s.n < was.length)) (e : s.fn = 1) (w : World) (h : RunAt w r was wo wc l ao cap) :
    Calls Try.prog 63 #[ptr11 r, stpV s lo lc] w (DoPost (stepP (was.map bl) (l.map bl) s) w) := by
  rw [step1 _ _ e, if_neg (by rw [List.length_map]; exact hn)]
  unfold stpV
  obtain ⟨f, a, b, c, n, tx, li⟩ := s
  simp only at e hn ⊢
  subst e
  obtain ⟨cr, _⟩ := h.cell
  have hrl := World.block_lt_of_cell? _ _ cr
  generalize was.length = m at *
  generalize li.length = z at *
  clear h
  obtain ⟨W1, hW1⟩ : ∃ V, V = w.alloc (.cells #[.int .u8 1, .int .i64 a, .int .i64 b, .int .i64 c, .int .i64 n, .string tx, .slice lo z lc] 46) := ⟨_, rfl⟩
  have BW : Hid (Below w.heap.size w W1) := Lib.hid (by rw [hW1]; exact (Below.refl _ _).alloc (Nat.le_refl _) _)
  have KS : W1.cell? ⟨r, 0, none⟩ = some (.slice wo m wc) ∧ W1.cell? ⟨w.heap.size, 4, none⟩ = some (.int .i64 n) := by
    refine ⟨(BW.out.cell (p := ⟨r, 0, none⟩) hrl).trans cr, ?_⟩
    rw [hW1]
    simp
  clear cr hrl
  have hW2 := Lib.hid hW1
  clear hW1
  have BD : Hid (Below w.heap.size w W1.drew) := Lib.hid (below_step BW.out (drew11 W1))
  by_cases h0 : 0 ≤ n
  · have h1 : ¬ n < (m : Int) := fun k => hn ⟨h0, k⟩
    clear hn
    go_enter Try.func63, Try.ntmps63
    go_wp2_with fail
    rw [← hW2.out]
    clear BW hW2
    -- region n>=m
    refine wp_region_held_drew (S := fun W => W.cell? ⟨r, 0, none⟩ = some (.slice wo m wc) ∧ W.cell? ⟨w.heap.size, 4, none⟩ = some (.int .i64 n)) (by kernel_rfl) (by first | assumption | (exact KS)) (fun hHeld => ?_)
    refine wpAnyH_take (i := 0) (oi := { dst := some 5, op := Op.fieldAddr 46 (Operand.tmp 3) 4, type := 0, pos := "forge.go:72", after := #[], guard := none }) (v := ?_) rfl (by kernel_rfl) (by kernel_rfl) (by kernel_rfl) (fun _ _ _ h => h) (Or.inl ⟨by rfl, ?_⟩) (by assumption) ?_
    rotate_left 1
    · (intro w hSw; (try dsimp only at hSw); go_simp; try with_reducible rfl)
    (try simp only [Act.put, List.setIfInBounds_toArray, List.set_cons_zero, List.set_cons_succ])
    refine wpAnyH_take (i := 1) (oi := { dst := some 6, op := Op.load 3 (Operand.tmp 5), type := 3, pos := "forge.go:72", after := #[{ on := 0, ground := Ground.data }], guard := none }) (v := ?_) rfl (by kernel_rfl) (by kernel_rfl) (by kernel_rfl) (fun _ _ _ h => h) (Or.inl ⟨by rfl, ?_⟩) (by assumption) ?_
    rotate_left 1
    · (intro w hSw; (try dsimp only at hSw); go_simp; try with_reducible rfl)
    (try simp only [Act.put, List.setIfInBounds_toArray, List.set_cons_zero, List.set_cons_succ])
    refine wpAnyH_take (i := 2) (oi := { dst := some 7, op := Op.binOp BinOp.leq 3 (Operand.const (Value.int IntKind.i64 0)) (Operand.tmp 6) 3, type := 4, pos := "forge.go:72", after := #[{ on := 1, ground := Ground.data }], guard := none }) (v := ?_) rfl (by kernel_rfl) (by kernel_rfl) (by kernel_rfl) (fun _ _ _ h => h) (Or.inl ⟨by rfl, ?_⟩) (by assumption) ?_
    rotate_left 1
    · (intro w hSw; (try dsimp only at hSw); go_simp; try with_reducible rfl)
    (try simp only [Act.put, List.setIfInBounds_toArray, List.set_cons_zero, List.set_cons_succ])
    refine wpAnyH_take (i := 3) (oi := { dst := some 8, op := Op.move (Operand.tmp 7), type := 4, pos := "forge.go:72", after := #[{ on := 2, ground := Ground.data }], guard := none }) (v := ?_) rfl (by kernel_rfl) (by kernel_rfl) (by kernel_rfl) (fun _ _ _ h => h) (Or.inl ⟨by rfl, ?_⟩) (by assumption) ?_
    rotate_left 1
    · (intro w hSw; (try dsimp only at hSw); go_simp; try with_reducible rfl)
    (try simp only [Act.put, List.setIfInBounds_toArray, List.set_cons_zero, List.set_cons_succ])
    refine wpAnyH_take (i := 4) (oi := { dst := some 9, op := Op.fieldAddr 46 (Operand.tmp 3) 4, type := 0, pos := "forge.go:72", after := #[{ on := 3, ground := Ground.guard }], guard := some (3, true) }) (v := ?_) rfl (by kernel_rfl) (by kernel_rfl) (by kernel_rfl) (fun _ _ _ h => h) (Or.inl ⟨by rfl, ?_⟩) (by assumption) ?_
    rotate_left 1
    · (intro w hSw; (try dsimp only at hSw); go_simp; try with_reducible rfl)
    (try simp only [Act.put, List.setIfInBounds_toArray, List.set_cons_zero, List.set_cons_succ])
    refine wpAnyH_take (i := 5) (oi := { dst := some 10, op := Op.load 3 (Operand.tmp 9), type := 3, pos := "forge.go:72", after := #[{ on := 4, ground := Ground.data }, { on := 3, ground := Ground.guard }], guard := some (3, true) }) (v := ?_) rfl (by kernel_rfl) (by kernel_rfl) (by kernel_rfl) (fun _ _ _ h => h) (Or.inl ⟨by rfl, ?_⟩) (by assumption) ?_
    rotate_left 1
    · (intro w hSw; (try dsimp only at hSw); go_simp; try with_reducible rfl)
    (try simp only [Act.put, List.setIfInBounds_toArray, List.set_cons_zero, List.set_cons_succ])
    refine wpAnyH_take (i := 6) (oi := { dst := some 11, op := Op.move (Operand.tmp 0), type := 67, pos := "forge.go:72", after := #[{ on := 3, ground := Ground.guard }], guard := some (3, true) }) (v := ?_) rfl (by kernel_rfl) (by kernel_rfl) (by kernel_rfl) (fun _ _ _ h => h) (Or.inl ⟨by rfl, ?_⟩) (by assumption) ?_
    rotate_left 1
    · (intro w hSw; (try dsimp only at hSw); go_simp; try with_reducible rfl)
    (try simp only [Act.put, List.setIfInBounds_toArray, List.set_cons_zero, List.set_cons_succ])
    refine wpAnyH_take (i := 7) (oi := { dst := some 12, op := Op.nilCheck (Operand.tmp 11), type := 0, pos := "forge.go:72", after := #[{ on := 6, ground := Ground.data }, { on := 3, ground := Ground.guard }], guard := some (3, true) }) (v := ?_) rfl (by kernel_rfl) (by kernel_rfl) (by kernel_rfl) (fun _ _ _ h => h) (Or.inl ⟨by rfl, ?_⟩) (by assumption) ?_
    rotate_left 1
    · (intro w hSw; (try dsimp only at hSw); go_simp; try with_reducible rfl)
    (try simp only [Act.put, List.setIfInBounds_toArray, List.set_cons_zero, List.set_cons_succ])
    refine wpAnyH_take (i := 8) (oi := { dst := some 13, op := Op.fieldAddr 69 (Operand.tmp 12) 0, type := 0, pos := "forge.go:72", after := #[{ on := 7, ground := Ground.data }, { on := 3, ground := Ground.guard }], guard := some (3, true) }) (v := ?_) rfl (by kernel_rfl) (by kernel_rfl) (by kernel_rfl) (fun _ _ _ h => h) (Or.inl ⟨by rfl, ?_⟩) (by assumption) ?_
    rotate_left 1
    · (intro w hSw; (try dsimp only at hSw); go_simp; try with_reducible rfl)
    (try simp only [Act.put, List.setIfInBounds_toArray, List.set_cons_zero, List.set_cons_succ])
    refine wpAnyH_take (i := 9) (oi := { dst := some 14, op := Op.load 22 (Operand.tmp 13), type := 22, pos := "forge.go:72", after := #[{ on := 8, ground := Ground.data }, { on := 3, ground := Ground.guard }], guard := some (3, true) }) (v := ?_) rfl (by kernel_rfl) (by kernel_rfl) (by kernel_rfl) (fun _ _ _ h => h) (Or.inl ⟨by rfl, ?_⟩) (by assumption) ?_
    rotate_left 1
    · (intro w hSw; (try dsimp only at hSw); go_simp; try with_reducible rfl)
    (try simp only [Act.put, List.setIfInBounds_toArray, List.set_cons_zero, List.set_cons_succ])
    refine wpAnyH_take (i := 10) (oi := { dst := some 15, op := Op.call { callee := Callee.builtin Builtin.len, args := #[Operand.tmp 14], argTypes := #[22] }, type := 3, pos := "forge.go:72", after := #[{ on := 9, ground := Ground.data }, { on := 3, ground := Ground.guard }], guard := some (3, true) }) (v := ?_) rfl (by kernel_rfl) (by kernel_rfl) (by kernel_rfl) (fun _ _ _ h => h) (Or.inl ⟨by rfl, ?_⟩) (by assumption) ?_
    rotate_left 1
    · (intro w hSw; (try dsimp only at hSw); go_simp; try with_reducible rfl)
    (try simp only [Act.put, List.setIfInBounds_toArray, List.set_cons_zero, List.set_cons_succ])
    refine wpAnyH_take (i := 11) (oi := { dst := some 16, op := Op.binOp BinOp.lss 3 (Operand.tmp 10) (Operand.tmp 15) 3, type := 4, pos := "forge.go:72", after := #[{ on := 5, ground := Ground.data }, { on := 10, ground := Ground.data }, { on := 3, ground := Ground.guard }], guard := some (3, true) }) (v := .bool false) rfl (by kernel_rfl) (by kernel_rfl) (by kernel_rfl) (fun _ _ _ h => h) (Or.inl ⟨by rfl, ?_⟩) (by assumption) ?_
    · (intro w hSw; (try dsimp only at hSw); go_simp; first | done | exact H1.out _ | (have := H0.out; omega))
    (try simp only [Act.put, List.setIfInBounds_toArray, List.set_cons_zero, List.set_cons_succ])
    refine wpAnyH_take (i := 12) (oi := { dst := some 17, op := Op.pick (Operand.tmp 8) (Operand.tmp 16) (Operand.const (Value.bool false)), type := 4, pos := "forge.go:72", after := #[{ on := 3, ground := Ground.data }, { on := 11, ground := Ground.data }], guard := none }) (v := ?_) rfl (by kernel_rfl) (by kernel_rfl) (by kernel_rfl) (fun _ _ _ h => h) (Or.inl ⟨by rfl, ?_⟩) (by assumption) ?_
    rotate_left 1
    · (intro w hSw; (try dsimp only at hSw); go_simp; try with_reducible rfl)
    (try simp only [Act.put, List.setIfInBounds_toArray, List.set_cons_zero, List.set_cons_succ])
    refine wpAnyH_ready (rs := [13]) (by kernel_rfl) (by simp) ?_
    refine AllReadyH.cons (o := { dst := some 18, op := Op.call { callee := Callee.value (Operand.func 40), args := #[Operand.tmp 17, Operand.const (Value.int IntKind.i64 3)], argTypes := #[4, 27] }, type := 0, pos := "forge.go:72", after := #[{ on := 12, ground := Ground.data }, { on := 3, ground := Ground.chain }], guard := none }) rfl (fun K hK => ?_) AllReadyH.nil
    go_simp
    go_at_call 40
    refine (need11_bad 3 _).mono ?_; rintro e w2 ⟨rfl, rfl⟩
    exact ⟨rfl, doPost_bad (by decide) BD.out⟩
    -- end2
  · have H1 := Lib.hid (fun (inst : Decidable ((0 : Int) ≤ n)) => @decide_eq_false _ inst h0)
    have H0 := Lib.hid h0
    clear hn h0
    go_enter Try.func63, Try.ntmps63
    go_wp2_with fail
    rw [← hW2.out]
    clear BW hW2
    -- region n<0
    refine wp_region_held_drew (S := fun W => W.cell? ⟨r, 0, none⟩ = some (.slice wo m wc) ∧ W.cell? ⟨w.heap.size, 4, none⟩ = some (.int .i64 n)) (by kernel_rfl) (by first | assumption | (exact KS)) (fun hHeld => ?_)
    refine wpAnyH_take (i := 0) (oi := { dst := some 5, op := Op.fieldAddr 46 (Operand.tmp 3) 4, type := 0, pos := "forge.go:72", after := #[], guard := none }) (v := ?_) rfl (by kernel_rfl) (by kernel_rfl) (by kernel_rfl) (fun _ _ _ h => h) (Or.inl ⟨by rfl, ?_⟩) (by assumption) ?_
    rotate_left 1
    · (intro w hSw; (try dsimp only at hSw); go_simp; try with_reducible rfl)
    (try simp only [Act.put, List.setIfInBounds_toArray, List.set_cons_zero, List.set_cons_succ])
    refine wpAnyH_take (i := 1) (oi := { dst := some 6, op := Op.load 3 (Operand.tmp 5), type := 3, pos := "forge.go:72", after := #[{ on := 0, ground := Ground.data }], guard := none }) (v := ?_) rfl (by kernel_rfl) (by kernel_rfl) (by kernel_rfl) (fun _ _ _ h => h) (Or.inl ⟨by rfl, ?_⟩) (by assumption) ?_
    rotate_left 1
    · (intro w hSw; (try dsimp only at hSw); go_simp; try with_reducible rfl)
    (try simp only [Act.put, List.setIfInBounds_toArray, List.set_cons_zero, List.set_cons_succ])
    refine wpAnyH_take (i := 2) (oi := { dst := some 7, op := Op.binOp BinOp.leq 3 (Operand.const (Value.int IntKind.i64 0)) (Operand.tmp 6) 3, type := 4, pos := "forge.go:72", after := #[{ on := 1, ground := Ground.data }], guard := none }) (v := .bool false) rfl (by kernel_rfl) (by kernel_rfl) (by kernel_rfl) (fun _ _ _ h => h) (Or.inl ⟨by rfl, ?_⟩) (by assumption) ?_
    · (intro w hSw; (try dsimp only at hSw); go_simp; first | done | exact H1.out _ | (have := H0.out; omega))
    (try simp only [Act.put, List.setIfInBounds_toArray, List.set_cons_zero, List.set_cons_succ])
    refine wpAnyH_take (i := 3) (oi := { dst := some 8, op := Op.move (Operand.tmp 7), type := 4, pos := "forge.go:72", after := #[{ on := 2, ground := Ground.data }], guard := none }) (v := ?_) rfl (by kernel_rfl) (by kernel_rfl) (by kernel_rfl) (fun _ _ _ h => h) (Or.inl ⟨by rfl, ?_⟩) (by assumption) ?_
    rotate_left 1
    · (intro w hSw; (try dsimp only at hSw); go_simp; try with_reducible rfl)
    (try simp only [Act.put, List.setIfInBounds_toArray, List.set_cons_zero, List.set_cons_succ])
    refine wpAnyH_take (i := 4) (oi := { dst := some 9, op := Op.fieldAddr 46 (Operand.tmp 3) 4, type := 0, pos := "forge.go:72", after := #[{ on := 3, ground := Ground.guard }], guard := some (3, true) }) (v := undef) rfl (by kernel_rfl) (by kernel_rfl) (by kernel_rfl) (fun _ _ _ h => h) (Or.inr ⟨by rfl, rfl⟩) (by assumption) ?_
    (try simp only [Act.put, List.setIfInBounds_toArray, List.set_cons_zero, List.set_cons_succ])
    refine wpAnyH_take (i := 5) (oi := { dst := some 10, op := Op.load 3 (Operand.tmp 9), type := 3, pos := "forge.go:72", after := #[{ on := 4, ground := Ground.data }, { on := 3, ground := Ground.guard }], guard := some (3, true) }) (v := undef) rfl (by kernel_rfl) (by kernel_rfl) (by kernel_rfl) (fun _ _ _ h => h) (Or.inr ⟨by rfl, rfl⟩) (by assumption) ?_
    (try simp only [Act.put, List.setIfInBounds_toArray, List.set_cons_zero, List.set_cons_succ])
    refine wpAnyH_take (i := 6) (oi := { dst := some 11, op := Op.move (Operand.tmp 0), type := 67, pos := "forge.go:72", after := #[{ on := 3, ground := Ground.guard }], guard := some (3, true) }) (v := undef) rfl (by kernel_rfl) (by kernel_rfl) (by kernel_rfl) (fun _ _ _ h => h) (Or.inr ⟨by rfl, rfl⟩) (by assumption) ?_
    (try simp only [Act.put, List.setIfInBounds_toArray, List.set_cons_zero, List.set_cons_succ])
    refine wpAnyH_take (i := 7) (oi := { dst := some 12, op := Op.nilCheck (Operand.tmp 11), type := 0, pos := "forge.go:72", after := #[{ on := 6, ground := Ground.data }, { on := 3, ground := Ground.guard }], guard := some (3, true) }) (v := undef) rfl (by kernel_rfl) (by kernel_rfl) (by kernel_rfl) (fun _ _ _ h => h) (Or.inr ⟨by rfl, rfl⟩) (by assumption) ?_
    (try simp only [Act.put, List.setIfInBounds_toArray, List.set_cons_zero, List.set_cons_succ])
    refine wpAnyH_take (i := 8) (oi := { dst := some 13, op := Op.fieldAddr 69 (Operand.tmp 12) 0, type := 0, pos := "forge.go:72", after := #[{ on := 7, ground := Ground.data }, { on := 3, ground := Ground.guard }], guard := some (3, true) }) (v := undef) rfl (by kernel_rfl) (by kernel_rfl) (by kernel_rfl) (fun _ _ _ h => h) (Or.inr ⟨by rfl, rfl⟩) (by assumption) ?_
    (try simp only [Act.put, List.setIfInBounds_toArray, List.set_cons_zero, List.set_cons_succ])
    refine wpAnyH_take (i := 9) (oi := { dst := some 14, op := Op.load 22 (Operand.tmp 13), type := 22, pos := "forge.go:72", after := #[{ on := 8, ground := Ground.data }, { on := 3, ground := Ground.guard }], guard := some (3, true) }) (v := undef) rfl (by kernel_rfl) (by kernel_rfl) (by kernel_rfl) (fun _ _ _ h => h) (Or.inr ⟨by rfl, rfl⟩) (by assumption) ?_
    (try simp only [Act.put, List.setIfInBounds_toArray, List.set_cons_zero, List.set_cons_succ])
    refine wpAnyH_take (i := 10) (oi := { dst := some 15, op := Op.call { callee := Callee.builtin Builtin.len, args := #[Operand.tmp 14], argTypes := #[22] }, type := 3, pos := "forge.go:72", after := #[{ on := 9, ground := Ground.data }, { on := 3, ground := Ground.guard }], guard := some (3, true) }) (v := undef) rfl (by kernel_rfl) (by kernel_rfl) (by kernel_rfl) (fun _ _ _ h => h) (Or.inr ⟨by rfl, rfl⟩) (by assumption) ?_
    (try simp only [Act.put, List.setIfInBounds_toArray, List.set_cons_zero, List.set_cons_succ])
    refine wpAnyH_take (i := 11) (oi := { dst := some 16, op := Op.binOp BinOp.lss 3 (Operand.tmp 10) (Operand.tmp 15) 3, type := 4, pos := "forge.go:72", after := #[{ on := 5, ground := Ground.data }, { on := 10, ground := Ground.data }, { on := 3, ground := Ground.guard }], guard := some (3, true) }) (v := undef) rfl (by kernel_rfl) (by kernel_rfl) (by kernel_rfl) (fun _ _ _ h => h) (Or.inr ⟨by rfl, rfl⟩) (by assumption) ?_
    (try simp only [Act.put, List.setIfInBounds_toArray, List.set_cons_zero, List.set_cons_succ])
    refine wpAnyH_take (i := 12) (oi := { dst := some 17, op := Op.pick (Operand.tmp 8) (Operand.tmp 16) (Operand.const (Value.bool false)), type := 4, pos := "forge.go:72", after := #[{ on := 3, ground := Ground.data }, { on := 11, ground := Ground.data }], guard := none }) (v := ?_) rfl (by kernel_rfl) (by kernel_rfl) (by kernel_rfl) (fun _ _ _ h => h) (Or.inl ⟨by rfl, ?_⟩) (by assumption) ?_
    rotate_left 1
    · (intro w hSw; (try dsimp only at hSw); go_simp; try with_reducible rfl)
    (try simp only [Act.put, List.setIfInBounds_toArray, List.set_cons_zero, List.set_cons_succ])
    refine wpAnyH_ready (rs := [13]) (by kernel_rfl) (by simp) ?_
    refine AllReadyH.cons (o := { dst := some 18, op := Op.call { callee := Callee.value (Operand.func 40), args := #[Operand.tmp 17, Operand.const (Value.int IntKind.i64 3)], argTypes := #[4, 27] }, type := 0, pos := "forge.go:72", after := #[{ on := 12, ground := Ground.data }, { on := 3, ground := Ground.chain }], guard := none }) rfl (fun K hK => ?_) AllReadyH.nil
    go_simp
    go_at_call 40
    refine (need11_bad 3 _).mono ?_; rintro e w2 ⟨rfl, rfl⟩
    exact ⟨rfl, doPost_bad (by decide) BD.out⟩
    -- end
set_option maxHeartbeats 8000000 in
set_option maxRecDepth 100000 in
theorem do11_seen (r : Nat) (s : Stp) (lo : Option Addr) (lc : Nat) (was : List ByteArray) (wo : Option Addr) (wc : Nat) (l : List ByteArray) (ao : Option Addr) (cap : Nat) (hx : ∀ x ∈ was, x.size ≤ 281474976710656) (hn : 0 ≤ s.n ∧ s.n < was.length) (e : s.fn = 1) (w : World) (h : RunAt w r was wo wc l ao cap) :
    Calls Try.prog 63 #[ptr11 r, stpV s lo lc] w (DoPost (stepP (was.map bl) (l.map bl) s) w) := by
  rw [step1 _ _ e, if_pos (by rw [List.length_map]; exact hn), termAt_map]
  unfold stpV
  obtain ⟨f, a, b, c, n, tx, li⟩ := s
  simp only at e hn ⊢
  subst e
  obtain ⟨k, rfl⟩ := Int.eq_ofNat_of_zero_le hn.1
  have hk : k < was.length := by omega
  rw [Int.toNat_natCast]
  have hs := hx _ (getD_mem6 was k hk)
  have HC := Lib.hid (fun V => check_any (was.getD k ByteArray.empty) hs V)
  have HCL := Lib.hid (fun V => clone_any (was.getD k ByteArray.empty) V hs)
  obtain ⟨m, hm⟩ : ∃ m, m = was.length := ⟨_, rfl⟩
  have hk2 : (k : Int) < (m : Int) := by omega
  have hk3 : k < m := by omega
  have hk4 : (0 : Int) ≤ (k : Int) := by omega
  obtain ⟨cr, _⟩ := h.cell
  have hrl := World.block_lt_of_cell? _ _ cr
  rcases h.seen with e | ⟨g, off, rfl, hlt, hrow⟩
  · exfalso
    rw [e] at hk
    exact absurd hk (Nat.not_lt_zero _)
  have ck := hrow k hk
  rw [← hm] at cr
  have hbl : (bl (was.getD k ByteArray.empty)).toArray = (was.getD k ByteArray.empty).data := by simp [bl]
  generalize was.getD k ByteArray.empty = t at *
  generalize li.length = z at *
  clear hx h hrow hk hm hn hs
  obtain ⟨W1, hW1⟩ : ∃ V, V = w.alloc (.cells #[.int .u8 1, .int .i64 a, .int .i64 b, .int .i64 c, .int .i64 k, .string tx, .slice lo z lc] 46) := ⟨_, rfl⟩
  have BW : Hid (Below w.heap.size w W1) := Lib.hid (by rw [hW1]; exact (Below.refl _ _).alloc (Nat.le_refl _) _)
  have KS : W1.cell? ⟨r, 0, none⟩ = some (.slice (some ⟨g, off, none⟩) m wc) ∧ W1.cell? ⟨w.heap.size, 4, none⟩ = some (.int .i64 k) ∧ W1.cell? ⟨g, off + k, none⟩ = some (.string t) := by
    refine ⟨(BW.out.cell (p := ⟨r, 0, none⟩) hrl).trans cr, ?_, (BW.out.cell (p := ⟨g, off + k, none⟩) hlt).trans ck⟩
    rw [hW1]
    simp
  clear cr hrl ck hlt
  have hW2 := Lib.hid hW1
  clear hW1
  have BD : Hid (Below w.heap.size w W1.drew.drew) := Lib.hid (below_step (below_step BW.out (drew11 W1)) (drew11 W1.drew))
  have HC2 := Lib.hid (HC.out W1.drew.drew)
  clear HC
  by_cases hc : checkP (bl t) = 0
  · rw [hc] at HC2
    rw [if_pos hc]
    have HBL := Lib.hid hbl
    clear hc hbl
    go_enter Try.func63, Try.ntmps63
    go_wp2_with fail
    rw [← hW2.out]
    clear BW hW2
    go_region_held3 (fun W => W.cell? ⟨r, 0, none⟩ = some (.slice (some ⟨g, off, none⟩) m wc) ∧ W.cell? ⟨w.heap.size, 4, none⟩ = some (.int .i64 k) ∧ W.cell? ⟨g, off + k, none⟩ = some (.string t)) (first | assumption) (first | (go_at_call 40; refine (need11_ok 3 _).mono ?_; rintro e w2 ⟨rfl, rfl⟩))
    have KS2 : W1.drew.cell? ⟨r, 0, none⟩ = some (.slice (some ⟨g, off, none⟩) m wc) ∧ W1.drew.cell? ⟨w.heap.size, 4, none⟩ = some (.int .i64 k) ∧ W1.drew.cell? ⟨g, off + k, none⟩ = some (.string t) := KS
    clear KS
    go_wp2_with fail
    go_region_held3 (fun W => W.cell? ⟨r, 0, none⟩ = some (.slice (some ⟨g, off, none⟩) m wc) ∧ W.cell? ⟨w.heap.size, 4, none⟩ = some (.int .i64 k) ∧ W.cell? ⟨g, off + k, none⟩ = some (.string t)) (first | assumption) (first | (go_at_call 27; (with_reducible refine HC2.out.mono ?_); rintro e wa ⟨rfl, ba⟩; have KA : wa.cell? ⟨r, 0, none⟩ = some (.slice (some ⟨g, off, none⟩) m wc) ∧ wa.cell? ⟨w.heap.size, 4, none⟩ = some (.int .i64 k) ∧ wa.cell? ⟨g, off + k, none⟩ = some (.string t) := ⟨cell_keep ba KS2.1, cell_keep ba KS2.2.1, cell_keep ba KS2.2.2⟩; have BA := Lib.hid (below_step BD.out ba); clear ba) | (go_at_call 40; refine (need11_ok 2 _).mono ?_; rintro e w2 ⟨rfl, h2⟩; rw [h2]; clear h2 w2))
    have KS3 : wa.drew.cell? ⟨r, 0, none⟩ = some (.slice (some ⟨g, off, none⟩) m wc) ∧ wa.drew.cell? ⟨w.heap.size, 4, none⟩ = some (.int .i64 k) ∧ wa.drew.cell? ⟨g, off + k, none⟩ = some (.string t) := KA
    have BA2 := Lib.hid (below_step BA.out (drew11 wa))
    have HCL2 := Lib.hid (HCL.out wa.drew)
    clear KS2 KA HCL
    go_wp2_with fail
    go_region_held3 (fun W => W.cell? ⟨r, 0, none⟩ = some (.slice (some ⟨g, off, none⟩) m wc) ∧ W.cell? ⟨w.heap.size, 4, none⟩ = some (.int .i64 k) ∧ W.cell? ⟨g, off + k, none⟩ = some (.string t)) (first | assumption) (first | (go_at_call 53; (with_reducible refine HCL2.out.mono ?_); rintro e wb ⟨rfl, bb⟩; have KB : wb.cell? ⟨r, 0, none⟩ = some (.slice (some ⟨g, off, none⟩) m wc) ∧ wb.cell? ⟨w.heap.size, 4, none⟩ = some (.int .i64 k) ∧ wb.cell? ⟨g, off + k, none⟩ = some (.string t) := ⟨cell_keep bb KS3.1, cell_keep bb KS3.2.1, cell_keep bb KS3.2.2⟩; have BB := Lib.hid (below_step BA2.out bb); clear bb))
    go_wp2_with fail
    go_ret
    refine ⟨?_, BB.out⟩
    rw [if_pos rfl]
    simp only [HBL.out]
    rfl
  · have hz : ((checkP (bl t) : Int) == 0) = false := by rw [beq_eq_false_iff_ne]; omega
    rw [if_neg hc]
    generalize checkP (bl t) = y at *
    clear hc hbl HCL
    go_enter Try.func63, Try.ntmps63
    go_wp2_with fail
    rw [← hW2.out]
    clear BW hW2
    go_region_held3 (fun W => W.cell? ⟨r, 0, none⟩ = some (.slice (some ⟨g, off, none⟩) m wc) ∧ W.cell? ⟨w.heap.size, 4, none⟩ = some (.int .i64 k) ∧ W.cell? ⟨g, off + k, none⟩ = some (.string t)) (first | assumption) (first | (go_at_call 40; refine (need11_ok 3 _).mono ?_; rintro e w2 ⟨rfl, rfl⟩))
    have KS2 : W1.drew.cell? ⟨r, 0, none⟩ = some (.slice (some ⟨g, off, none⟩) m wc) ∧ W1.drew.cell? ⟨w.heap.size, 4, none⟩ = some (.int .i64 k) ∧ W1.drew.cell? ⟨g, off + k, none⟩ = some (.string t) := KS
    clear KS
    go_wp2_with fail
    go_region_held2 (fun W => W.cell? ⟨r, 0, none⟩ = some (.slice (some ⟨g, off, none⟩) m wc) ∧ W.cell? ⟨w.heap.size, 4, none⟩ = some (.int .i64 k) ∧ W.cell? ⟨g, off + k, none⟩ = some (.string t)) (first | assumption) (first | (go_at_call 27; (with_reducible refine HC2.out.mono ?_); rintro e wa ⟨rfl, ba⟩; have KA : wa.cell? ⟨r, 0, none⟩ = some (.slice (some ⟨g, off, none⟩) m wc) ∧ wa.cell? ⟨w.heap.size, 4, none⟩ = some (.int .i64 k) ∧ wa.cell? ⟨g, off + k, none⟩ = some (.string t) := ⟨cell_keep ba KS2.1, cell_keep ba KS2.2.1, cell_keep ba KS2.2.2⟩; have BA := Lib.hid (below_step BD.out ba); clear ba) | (go_at_call 40; refine calls_boom (.tuple #[]) (need11_bad 2 _) (by exact ⟨rfl, doPost_bad (by decide) BA.out⟩) (fun hno => ?_)))
    exact hno.out.elim
/-- The parts of what a step made, or what is thrown. -/
theorem parts11_any (r : Nat) (was : List ByteArray) (wo : Option Addr) (wc : Nat) (l : List ByteArray) (ao : Option Addr) (cap : Nat) (hx : ∀ x ∈ l, checkP (bl x) = 0) (k c : Nat) (hk : k < l.length) (w : World) (h : RunAt w r was wo wc l ao cap) :
    (kindP (bl (l.getD k ByteArray.empty)) = c → Calls Try.prog 91 #[ptr11 r, .int .i64 k, .int .u8 c] w fun e w' => (∃ v L, e = .returned v ∧ OwnT w' w.heap.size v L ∧ L.map bl = (partsP (bl (l.getD k ByteArray.empty))).1) ∧ Below w.heap.size w w') ∧
    (kindP (bl (l.getD k ByteArray.empty)) ≠ c → Calls Try.prog 91 #[ptr11 r, .int .i64 k, .int .u8 c] w fun e w' => e = boom11 8 ∧ Below w.heap.size w w') :=
  have hx' : ∀ x ∈ l, x.size ≤ 16384 := fun x hx1 => by rw [size_bl]; exact check_len (hx x hx1)
  ⟨fun hc => parts11_ok r was wo wc l ao cap hx' k c hk hc w h, fun hc => parts11_bad r was wo wc l ao cap hx' k c hk hc w h⟩
set_option maxHeartbeats 8000000 in
set_option maxRecDepth 100000 in
theorem do11_nonce (r : Nat) (s : Stp) (lo : Option Addr) (lc : Nat) (was : List ByteArray) (wo : Option Addr) (wc : Nat) (l : List ByteArray) (ao : Option Addr) (cap : Nat) (hx : ∀ x ∈ l, checkP (bl x) = 0) (ha : 0 ≤ s.a ∧ s.a < l.length) (e : s.fn = 4) (w : World) (h : RunAt w r was wo wc l ao cap) :
    Calls Try.prog 66 #[ptr11 r, stpV s lo lc] w (DoPost (stepP (was.map bl) (l.map bl) s) w) := by
  rw [step4 _ _ e, termAt_map]
  unfold stpV
  obtain ⟨f, a, b, c, n, tx, li⟩ := s
  simp only at e ha ⊢
  subst e
  obtain ⟨k, rfl⟩ := Int.eq_ofNat_of_zero_le ha.1
  rw [Int.toNat_natCast]
  have hk : k < l.length := by omega
  have BW : Hid (∀ v, Below w.heap.size w (w.alloc (.cells v 46))) := Lib.hid (fun v => (Below.refl _ _).alloc (Nat.le_refl _) _)
  have HP := Lib.hid (fun V (hV : Below w.heap.size w V) => parts11_any r was wo wc l ao cap hx k 6 hk V (h.below hV))
  generalize li.length = z at *
  by_cases h6 : kindP (bl (l.getD k ByteArray.empty)) = 6
  · have HP2 := Lib.hid (fun V hV => (HP.out V hV).1 h6)
    obtain ⟨pk, pn, px, e3⟩ := seal_parts h6
    rw [if_pos h6, e3]
    rw [e3] at HP2
    clear HP e3 h6 hx ha hk h
    go_enter Try.func66, Try.ntmps66
    go_wp2_with fail
    refine (HP2.out _ (BW.out _)).mono ?_; rintro e w1 ⟨⟨v, L, rfl, ho, hL⟩, b1⟩
    have B1 := Lib.hid (below_step (BW.out _) b1)
    obtain ⟨x0, x1, x2, rfl, rfl, rfl, rfl⟩ := map_three hL
    obtain ⟨po, pcap, rfl, hrow⟩ := ownT_row ho
    rcases hrow with e | ⟨g, off, rfl, hlt, hr⟩
    · cases e
    have c1 := hr 1 (by simp)
    simp only [List.getD_cons_succ, List.getD_cons_zero] at c1
    have hbl : (bl x1).toArray = x1.data := by simp [bl]
    have HBL := Lib.hid hbl
    clear hr ho b1 hbl HP2
    go_wp2_with fail
    go_ret
    refine ⟨?_, B1.out⟩
    simp only [List.getD_cons_succ, List.getD_cons_zero, if_true, HBL.out]
    rfl
  · have HP2 := Lib.hid (fun V hV => (HP.out V hV).2 h6)
    rw [if_neg h6]
    clear HP h6 hx ha hk h
    go_enter Try.func66, Try.ntmps66
    go_wp2_with fail
    refine (HP2.out _ (BW.out _)).mono ?_; rintro e w1 ⟨rfl, b1⟩
    exact ⟨rfl, doPost_bad (by decide) (below_step (BW.out _) b1)⟩
set_option maxHeartbeats 8000000 in
set_option maxRecDepth 100000 in
theorem do11_part (r : Nat) (s : Stp) (lo : Option Addr) (lc : Nat) (was : List ByteArray) (wo : Option Addr) (wc : Nat) (l : List ByteArray) (ao : Option Addr) (cap : Nat) (hx : ∀ x ∈ l, checkP (bl x) = 0) (ha : 0 ≤ s.a ∧ s.a < l.length) (e : s.fn = 3) (w : World) (h : RunAt w r was wo wc l ao cap) :
    Calls Try.prog 65 #[ptr11 r, stpV s lo lc] w (DoPost (stepP (was.map bl) (l.map bl) s) w) := by
  rw [step3 _ _ e, termAt_map]
  unfold stpV
  obtain ⟨f, a, b, c, n, tx, li⟩ := s
  simp only at e ha ⊢
  subst e
  obtain ⟨k, rfl⟩ := Int.eq_ofNat_of_zero_le ha.1
  rw [Int.toNat_natCast]
  have hk : k < l.length := by omega
  have BW : Hid (∀ v, Below w.heap.size w (w.alloc (.cells v 46))) := Lib.hid (fun v => (Below.refl _ _).alloc (Nat.le_refl _) _)
  have HP := Lib.hid (fun V (hV : Below w.heap.size w V) => parts11_any r was wo wc l ao cap hx k 3 hk V (h.below hV))
  generalize li.length = z at *
  by_cases h6 : kindP (bl (l.getD k ByteArray.empty)) = 3
  · have HP2 := Lib.hid (fun V hV => (HP.out V hV).1 h6)
    rw [if_pos h6]
    generalize (partsP (bl (l.getD k ByteArray.empty))).1 = P at *
    clear HP h6 hx ha hk h
    obtain ⟨W1, hW1⟩ : ∃ V, V = w.alloc (.cells #[.int .u8 3, .int .i64 k, .int .i64 b, .int .i64 c, .int .i64 n, .string tx, .slice lo z lc] 46) := ⟨_, rfl⟩
    have cn : W1.cell? ⟨w.heap.size, 4, none⟩ = some (.int .i64 n) := by rw [hW1]; simp
    have B0 : Hid (Below w.heap.size w W1) := Lib.hid (by rw [hW1]; exact BW.out _)
    have hW2 := Lib.hid hW1
    clear hW1 BW
    by_cases hn : 0 ≤ n ∧ n < P.length
    · obtain ⟨j, rfl⟩ := Int.eq_ofNat_of_zero_le hn.1
      rw [if_pos hn, Int.toNat_natCast]
      have hj : j < P.length := by omega
      clear hn
      go_enter Try.func65, Try.ntmps65
      go_wp2_with fail
      rw [← hW2.out]
      clear hW2
      refine (HP2.out _ B0.out).mono ?_; rintro e w1 ⟨⟨v, L, rfl, ho, hL⟩, b1⟩
      have B1 := Lib.hid (below_step B0.out b1)
      have cn1 := cell_keep b1 cn
      obtain ⟨po, pcap, rfl, hrow⟩ := ownT_row ho
      have HPJ : Hid (P.getD j [] = bl (L.getD j ByteArray.empty)) := Lib.hid (by rw [← hL, getD_map])
      rw [← hL, List.length_map] at hj
      clear hL
      obtain ⟨q, hq⟩ : ∃ q, q = L.length := ⟨_, rfl⟩
      have hj2 : (j : Int) < (q : Int) := by omega
      have hj3 : j < q := by omega
      have hj4 : (0 : Int) ≤ (j : Int) := by omega
      rcases hrow with e | ⟨g, off, rfl, hlt, hr⟩
      · exfalso
        rw [e] at hj
        exact absurd hj (Nat.not_lt_zero _)
      have cj := hr j hj
      rw [← hq]
      have hbl : (bl (L.getD j ByteArray.empty)).toArray = (L.getD j ByteArray.empty).data := by simp [bl]
      have HBL := Lib.hid hbl
      generalize L.getD j ByteArray.empty = t at *
      generalize P.getD j [] = pj at *
      clear hr ho b1 hbl HP2 hq hj cn
      go_wp2_with (go_at_call 40; refine (need11_ok 3 _).mono ?_; rintro e w2 ⟨rfl, rfl⟩)
      go_ret
      refine ⟨?_, B1.out⟩
      simp only [if_true, HPJ.out, HBL.out]
      rfl
    · rw [if_neg hn]
      by_cases h0 : 0 ≤ n
      · have hn1 : ¬ n < (P.length : Int) := fun k => hn ⟨h0, k⟩
        clear hn
        go_enter Try.func65, Try.ntmps65
        go_wp2_with fail
        rw [← hW2.out]
        clear hW2
        refine (HP2.out _ B0.out).mono ?_; rintro e w1 ⟨⟨v, L, rfl, ho, hL⟩, b1⟩
        have B1 := Lib.hid (below_step B0.out b1)
        have cn1 := cell_keep b1 cn
        obtain ⟨po, pcap, rfl, hrow⟩ := ownT_row ho
        rw [← hL, List.length_map] at hn1
        clear hL
        generalize L.length = q at *
        have H1 := Lib.hid (fun (inst : Decidable (n < (q : Int))) => @decide_eq_false _ inst (by omega))
        clear ho hrow b1 HP2 cn hn1
        go_wp2_with (go_at_call 40; rw [H1.out _]; refine (need11_bad 3 _).mono ?_; rintro e w2 ⟨rfl, rfl⟩)
        exact ⟨rfl, doPost_bad (by decide) B1.out⟩
      · clear hn
        go_enter Try.func65, Try.ntmps65
        go_wp2_with fail
        rw [← hW2.out]
        clear hW2
        refine (HP2.out _ B0.out).mono ?_; rintro e w1 ⟨⟨v, L, rfl, ho, hL⟩, b1⟩
        have B1 := Lib.hid (below_step B0.out b1)
        have cn1 := cell_keep b1 cn
        obtain ⟨po, pcap, rfl, hrow⟩ := ownT_row ho
        clear hL
        generalize L.length = q at *
        clear ho hrow b1 HP2 cn
        go_wp2_with (go_at_call 40; refine (need11_bad 3 _).mono ?_; rintro e w2 ⟨rfl, rfl⟩)
        exact ⟨rfl, doPost_bad (by decide) B1.out⟩
  · have HP2 := Lib.hid (fun V hV => (HP.out V hV).2 h6)
    rw [if_neg h6]
    clear HP h6 hx ha hk h
    go_enter Try.func65, Try.ntmps65
    go_wp2_with fail
    refine (HP2.out _ (BW.out _)).mono ?_; rintro e w1 ⟨rfl, b1⟩
    exact ⟨rfl, doPost_bad (by decide) (below_step (BW.out _) b1)⟩
end Go.Proofs.Ytpajcalfjfkogaa.Pl
