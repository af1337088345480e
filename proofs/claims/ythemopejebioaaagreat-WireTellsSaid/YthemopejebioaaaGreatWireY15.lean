/- The parts of what is asked; the parts of any message. What Encode's closure does. Encode of wire. -/
import Derived.Test.YthemopejebioaaaGreatWireY14
namespace Go.Proofs.YthemopejebioaaaGreat.Pl
open Go.RowKit

set_option maxHeartbeats 8000000 in
set_option maxRecDepth 100000 in
theorem putprep_any (m : Ms) (hx : mayX m.c m.e m.q = true) (ho : orgP m.aud = true) (hl : mayL m.c m.mem = true) (hsz : ∀ x ∈ m.mem, x.2.size ≤ 30000) (hlen : m.mem.length ≤ 9223372036854775807) (ao : Option Addr) (cap : Nat) (w : World) (hrow : MemRow w ao m.mem) : Calls Tryz.prog 68 #[.agg (msC m (.slice ao m.mem.length cap))] w
    fun e w' => (if (membersT m.mem).2 = 0 then ∃ v, e = .returned v ∧ OwnT w' w.heap.size v [tb (txnT m.c m.e m.q), numT m.aud, tb (membersT m.mem).1, m.body] else e = boom12 5) ∧ Below w.heap.size w w' := by
  have hor := orgP_iff.1 ho
  have HPX := Lib.hid (fun V => puttxn_any m hx (.slice ao m.mem.length cap) V)
  have HNM := Lib.hid (fun V => num12_any m.aud hor.1 (by omega) V)
  have HMB := fun V (hV : Below w.heap.size w V) => members12x_any m.c m.e m.q m.mem ao cap hsz hlen V (hrow.below hV)
  rw [show mtP m.c m.mem = if (membersT m.mem).2 = 0 then ((membersT m.mem).1, 0) else ([], 5) by unfold mtP; rw [if_pos hl]] at HMB
  obtain ⟨W0, hW0⟩ : ∃ V, V = w.alloc (.cells (msC m (.slice ao m.mem.length cap)) 26) := ⟨_, rfl⟩
  have g0 : GAt W0 w.heap.size m (.slice ao m.mem.length cap) := by rw [hW0]; exact gat_new _ _ _
  have b0 : Below w.heap.size w W0 := by rw [hW0]; exact (Below.refl _ _).alloc (Nat.le_refl _) _
  have GG := Lib.hid (g0.below (drew12 W0))
  have BB := Lib.hid (below_step b0 (drew12 W0))
  have HCE : Hid (∀ V, GAt V w.heap.size m (.slice ao m.mem.length cap) → V.cell? ⟨w.heap.size, 0, none⟩ = some (.int .u8 m.kind) ∧ V.cell? ⟨w.heap.size, 1, none⟩ = some (.int .i64 m.c) ∧ V.cell? ⟨w.heap.size, 2, none⟩ = some (.int .i64 m.e) ∧ V.cell? ⟨w.heap.size, 3, none⟩ = some (.int .i64 m.q) ∧ V.cell? ⟨w.heap.size, 4, none⟩ = some (.int .i64 m.aud) ∧ V.cell? ⟨w.heap.size, 5, none⟩ = some (.slice ao m.mem.length cap) ∧ V.cell? ⟨w.heap.size, 6, none⟩ = some (.string m.body) ∧ V.cell? ⟨w.heap.size, 7, none⟩ = some (.bool m.yes) ∧ V.cell? ⟨w.heap.size, 8, none⟩ = some (.string m.tag)) := Lib.hid (fun V h => h.cells)
  have KS := HCE.out _ GG.out
  have HLT : Hid (w.heap.size + 1 ≤ W0.drew.heap.size) := Lib.hid GG.out.lt
  have HW0 := Lib.hid hW0
  clear hW0 g0 b0 hx ho hl hsz hlen hrow hor
  generalize tb (txnT m.c m.e m.q) = tx at *
  generalize numT m.aud = nb at *
  generalize membersT m.mem = mr at *
  obtain ⟨mt, me⟩ := mr
  dsimp only at *
  by_cases h0 : me = 0
  · simp only [h0, if_true] at HMB ⊢
    rw [show st2 (mt, 0) = .tuple #[.string (tb mt), .int .i64 0] from rfl] at HMB
    have HMB := Lib.hid HMB
    go_enter Tryz.func68, Tryz.ntmps68
    go_wp2_with fail
    rw [← HW0.out]
    clear HW0
    refine wp_region_held_drew (S := fun W => W.cell? ⟨w.heap.size, 0, none⟩ = some (.int .u8 m.kind) ∧ W.cell? ⟨w.heap.size, 1, none⟩ = some (.int .i64 m.c) ∧ W.cell? ⟨w.heap.size, 2, none⟩ = some (.int .i64 m.e) ∧ W.cell? ⟨w.heap.size, 3, none⟩ = some (.int .i64 m.q) ∧ W.cell? ⟨w.heap.size, 4, none⟩ = some (.int .i64 m.aud) ∧ W.cell? ⟨w.heap.size, 5, none⟩ = some (.slice ao m.mem.length cap) ∧ W.cell? ⟨w.heap.size, 6, none⟩ = some (.string m.body) ∧ W.cell? ⟨w.heap.size, 7, none⟩ = some (.bool m.yes) ∧ W.cell? ⟨w.heap.size, 8, none⟩ = some (.string m.tag)) (by kernel_rfl) (by first | assumption | exact KS) (fun hHeld => ?_)
    generalize W0.drew = wz at *
    refine wpAnyH_take (i := 0) (oi := { dst := some 3, op := Op.load 26 (Operand.tmp 1), type := 26, pos := "wire.go:200", after := #[], guard := none }) (v := ?_) rfl (by kernel_rfl) (by kernel_rfl) (by kernel_rfl) (fun _ _ _ h => h) (Or.inl ⟨by rfl, ?_⟩) (by assumption) ?_
    rotate_left 1
    · (intro w hSw; (try dsimp only at hSw); go_simp; try with_reducible rfl)
    (try simp only [Act.put, List.setIfInBounds_toArray, List.set_cons_zero, List.set_cons_succ])
    refine wpAnyH_take (i := 2) (oi := { dst := some 5, op := Op.fieldAddr 26 (Operand.tmp 1) 2, type := 0, pos := "wire.go:200", after := #[], guard := none }) (v := ?_) rfl (by kernel_rfl) (by kernel_rfl) (by kernel_rfl) (fun _ _ _ h => h) (Or.inl ⟨by rfl, ?_⟩) (by assumption) ?_
    rotate_left 1
    · (intro w hSw; (try dsimp only at hSw); go_simp; try with_reducible rfl)
    (try simp only [Act.put, List.setIfInBounds_toArray, List.set_cons_zero, List.set_cons_succ])
    refine wpAnyH_take (i := 3) (oi := { dst := some 6, op := Op.load 3 (Operand.tmp 5), type := 3, pos := "wire.go:200", after := #[{ on := 2, ground := Ground.data }], guard := none }) (v := ?_) rfl (by kernel_rfl) (by kernel_rfl) (by kernel_rfl) (fun _ _ _ h => h) (Or.inl ⟨by rfl, ?_⟩) (by assumption) ?_
    rotate_left 1
    · (intro w hSw; (try dsimp only at hSw); go_simp; try with_reducible rfl)
    (try simp only [Act.put, List.setIfInBounds_toArray, List.set_cons_zero, List.set_cons_succ])
    refine wpAnyH_take (i := 8) (oi := { dst := some 11, op := Op.fieldAddr 26 (Operand.tmp 1) 1, type := 0, pos := "wire.go:200", after := #[], guard := none }) (v := ?_) rfl (by kernel_rfl) (by kernel_rfl) (by kernel_rfl) (fun _ _ _ h => h) (Or.inl ⟨by rfl, ?_⟩) (by assumption) ?_
    rotate_left 1
    · (intro w hSw; (try dsimp only at hSw); go_simp; try with_reducible rfl)
    (try simp only [Act.put, List.setIfInBounds_toArray, List.set_cons_zero, List.set_cons_succ])
    refine wpAnyH_take (i := 9) (oi := { dst := some 12, op := Op.load 23 (Operand.tmp 11), type := 23, pos := "wire.go:200", after := #[{ on := 8, ground := Ground.data }], guard := none }) (v := ?_) rfl (by kernel_rfl) (by kernel_rfl) (by kernel_rfl) (fun _ _ _ h => h) (Or.inl ⟨by rfl, ?_⟩) (by assumption) ?_
    rotate_left 1
    · (intro w hSw; (try dsimp only at hSw); go_simp; try with_reducible rfl)
    (try simp only [Act.put, List.setIfInBounds_toArray, List.set_cons_zero, List.set_cons_succ])
    refine wpAnyH_take (i := 10) (oi := { dst := some 13, op := Op.fieldAddr 26 (Operand.tmp 1) 3, type := 0, pos := "wire.go:200", after := #[], guard := none }) (v := ?_) rfl (by kernel_rfl) (by kernel_rfl) (by kernel_rfl) (fun _ _ _ h => h) (Or.inl ⟨by rfl, ?_⟩) (by assumption) ?_
    rotate_left 1
    · (intro w hSw; (try dsimp only at hSw); go_simp; try with_reducible rfl)
    (try simp only [Act.put, List.setIfInBounds_toArray, List.set_cons_zero, List.set_cons_succ])
    refine wpAnyH_take (i := 11) (oi := { dst := some 14, op := Op.load 24 (Operand.tmp 13), type := 24, pos := "wire.go:200", after := #[{ on := 10, ground := Ground.data }], guard := none }) (v := ?_) rfl (by kernel_rfl) (by kernel_rfl) (by kernel_rfl) (fun _ _ _ h => h) (Or.inl ⟨by rfl, ?_⟩) (by assumption) ?_
    rotate_left 1
    · (intro w hSw; (try dsimp only at hSw); go_simp; try with_reducible rfl)
    (try simp only [Act.put, List.setIfInBounds_toArray, List.set_cons_zero, List.set_cons_succ])
    refine wpAnyH_take (i := 16) (oi := { dst := some 19, op := Op.fieldAddr 26 (Operand.tmp 1) 4, type := 0, pos := "wire.go:200", after := #[], guard := none }) (v := ?_) rfl (by kernel_rfl) (by kernel_rfl) (by kernel_rfl) (fun _ _ _ h => h) (Or.inl ⟨by rfl, ?_⟩) (by assumption) ?_
    rotate_left 1
    · (intro w hSw; (try dsimp only at hSw); go_simp; try with_reducible rfl)
    (try simp only [Act.put, List.setIfInBounds_toArray, List.set_cons_zero, List.set_cons_succ])
    refine wpAnyH_take (i := 17) (oi := { dst := some 20, op := Op.load 9 (Operand.tmp 19), type := 9, pos := "wire.go:200", after := #[{ on := 16, ground := Ground.data }], guard := none }) (v := ?_) rfl (by kernel_rfl) (by kernel_rfl) (by kernel_rfl) (fun _ _ _ h => h) (Or.inl ⟨by rfl, ?_⟩) (by assumption) ?_
    rotate_left 1
    · (intro w hSw; (try dsimp only at hSw); go_simp; try with_reducible rfl)
    (try simp only [Act.put, List.setIfInBounds_toArray, List.set_cons_zero, List.set_cons_succ])
    refine wpAnyH_ready (rs := [1]) (by kernel_rfl) (by simp) ?_
    refine AllReadyH.cons (o := { dst := some 4, op := Op.call { callee := Callee.value (Operand.func 77), args := #[Operand.tmp 3], argTypes := #[26] }, type := 53, pos := "wire.go:200", after := #[{ on := 0, ground := Ground.data }], guard := none }) rfl (fun K hK => ?_) AllReadyH.nil
    go_simp
    refine (HPX.out _).mono ?_; rintro e w1 ⟨⟨pv, rfl, ho⟩, b1⟩
    have GG := Lib.hid (GG.out.below b1)
    have OO := Lib.hid (ownT_low ho HLT.out)
    have BB := Lib.hid (below_step BB.out b1)
    clear ho b1
    refine hK.out _ _ (HCE.out _ GG.out) (fun hHeld => ?_)
    clear hK K
    (try simp only [Act.put, List.setIfInBounds_toArray, List.set_cons_zero, List.set_cons_succ])
    refine wpAnyH_ready (rs := [4]) (by kernel_rfl) (by simp) ?_
    refine AllReadyH.cons (o := { dst := some 7, op := Op.call { callee := Callee.value (Operand.func 57), args := #[Operand.tmp 6], argTypes := #[3] }, type := 31, pos := "wire.go:200", after := #[{ on := 3, ground := Ground.data }, { on := 1, ground := Ground.chain }], guard := none }) rfl (fun K hK => ?_) AllReadyH.nil
    go_simp
    refine (HNM.out _).mono ?_; rintro e w3 ⟨rfl, b3⟩
    have GG := Lib.hid (GG.out.below b3)
    have OO := Lib.hid (ownT_below OO.out b3)
    have BB := Lib.hid (below_step BB.out b3)
    clear b3
    refine hK.out _ _ (HCE.out _ GG.out) (fun hHeld => ?_)
    clear hK K
    (try simp only [Act.put, List.setIfInBounds_toArray, List.set_cons_zero, List.set_cons_succ])
    refine wpAnyH_take (i := 5) (oi := { dst := some 8, op := Op.extract (Operand.tmp 7) 0, type := 9, pos := "wire.go:200", after := #[{ on := 4, ground := Ground.data }], guard := none }) (v := ?_) rfl (by kernel_rfl) (by kernel_rfl) (by kernel_rfl) (fun _ _ _ h => h) (Or.inl ⟨by rfl, ?_⟩) (by assumption) ?_
    rotate_left 1
    · (intro w hSw; (try dsimp only at hSw); go_simp; try with_reducible rfl)
    (try simp only [Act.put, List.setIfInBounds_toArray, List.set_cons_zero, List.set_cons_succ])
    refine wpAnyH_take (i := 6) (oi := { dst := some 9, op := Op.extract (Operand.tmp 7) 1, type := 30, pos := "wire.go:200", after := #[{ on := 4, ground := Ground.data }], guard := none }) (v := ?_) rfl (by kernel_rfl) (by kernel_rfl) (by kernel_rfl) (fun _ _ _ h => h) (Or.inl ⟨by rfl, ?_⟩) (by assumption) ?_
    rotate_left 1
    · (intro w hSw; (try dsimp only at hSw); go_simp; try with_reducible rfl)
    (try simp only [Act.put, List.setIfInBounds_toArray, List.set_cons_zero, List.set_cons_succ])
    refine wpAnyH_ready (rs := [7]) (by kernel_rfl) (by simp) ?_
    refine AllReadyH.cons (o := { dst := some 10, op := Op.call { callee := Callee.value (Operand.func 55), args := #[Operand.tmp 8, Operand.tmp 9], argTypes := #[9, 30] }, type := 9, pos := "wire.go:200", after := #[{ on := 5, ground := Ground.data }, { on := 6, ground := Ground.data }, { on := 4, ground := Ground.chain }], guard := none }) rfl (fun K hK => ?_) AllReadyH.nil
    go_simp
    refine (made12_ok _ _).mono ?_; rintro e w4 ⟨rfl, hw⟩; rw [hw]; clear hw w4
    refine hK.out _ _ (HCE.out _ GG.out) (fun hHeld => ?_)
    clear hK K
    (try simp only [Act.put, List.setIfInBounds_toArray, List.set_cons_zero, List.set_cons_succ])
    refine wpAnyH_ready (rs := [12]) (by kernel_rfl) (by simp) ?_
    refine AllReadyH.cons (o := { dst := some 15, op := Op.call { callee := Callee.value (Operand.func 21), args := #[Operand.tmp 12, Operand.tmp 14], argTypes := #[23, 24] }, type := 31, pos := "wire.go:200", after := #[{ on := 9, ground := Ground.data }, { on := 11, ground := Ground.data }, { on := 7, ground := Ground.chain }], guard := none }) rfl (fun K hK => ?_) AllReadyH.nil
    go_simp
    refine (HMB.out _ BB.out).mono ?_; rintro e w5 ⟨rfl, b5⟩
    have GG := Lib.hid (GG.out.below b5)
    have OO := Lib.hid (ownT_below OO.out b5)
    have BB := Lib.hid (below_step BB.out b5)
    clear b5
    refine hK.out _ _ (HCE.out _ GG.out) (fun hHeld => ?_)
    clear hK K
    (try simp only [Act.put, List.setIfInBounds_toArray, List.set_cons_zero, List.set_cons_succ])
    refine wpAnyH_take (i := 13) (oi := { dst := some 16, op := Op.extract (Operand.tmp 15) 0, type := 9, pos := "wire.go:200", after := #[{ on := 12, ground := Ground.data }], guard := none }) (v := ?_) rfl (by kernel_rfl) (by kernel_rfl) (by kernel_rfl) (fun _ _ _ h => h) (Or.inl ⟨by rfl, ?_⟩) (by assumption) ?_
    rotate_left 1
    · (intro w hSw; (try dsimp only at hSw); go_simp; try with_reducible rfl)
    (try simp only [Act.put, List.setIfInBounds_toArray, List.set_cons_zero, List.set_cons_succ])
    refine wpAnyH_take (i := 14) (oi := { dst := some 17, op := Op.extract (Operand.tmp 15) 1, type := 30, pos := "wire.go:200", after := #[{ on := 12, ground := Ground.data }], guard := none }) (v := ?_) rfl (by kernel_rfl) (by kernel_rfl) (by kernel_rfl) (fun _ _ _ h => h) (Or.inl ⟨by rfl, ?_⟩) (by assumption) ?_
    rotate_left 1
    · (intro w hSw; (try dsimp only at hSw); go_simp; try with_reducible rfl)
    (try simp only [Act.put, List.setIfInBounds_toArray, List.set_cons_zero, List.set_cons_succ])
    refine wpAnyH_ready (rs := [15]) (by kernel_rfl) (by simp) ?_
    refine AllReadyH.cons (o := { dst := some 18, op := Op.call { callee := Callee.value (Operand.func 55), args := #[Operand.tmp 16, Operand.tmp 17], argTypes := #[9, 30] }, type := 9, pos := "wire.go:200", after := #[{ on := 13, ground := Ground.data }, { on := 14, ground := Ground.data }, { on := 12, ground := Ground.chain }], guard := none }) rfl (fun K hK => ?_) AllReadyH.nil
    go_simp
    refine (made12_ok _ _).mono ?_; rintro e w6 ⟨rfl, hw⟩; rw [hw]; clear hw w6
    refine hK.out _ _ (HCE.out _ GG.out) (fun hHeld => ?_)
    clear hK K
    (try simp only [Act.put, List.setIfInBounds_toArray, List.set_cons_zero, List.set_cons_succ])
    refine wpAnyH_ready (rs := [18]) (by kernel_rfl) (by simp) ?_
    refine AllReadyH.cons (o := { dst := some 21, op := Op.buildSlice 53 3 #[(0, Operand.tmp 10), (1, Operand.tmp 18), (2, Operand.tmp 20)], type := 53, pos := "wire.go:200", after := #[{ on := 7, ground := Ground.data }, { on := 15, ground := Ground.data }, { on := 17, ground := Ground.data }], guard := none }) rfl (fun K hK => ?_) AllReadyH.nil
    go_simp
    have G5 := Lib.hid (GG.out.below ((Below.refl w5.heap.size w5).alloc (Nat.le_refl _) (.cells #[.string nb, .string (tb mt), .string m.body] 9)))
    have O5 := Lib.hid (ownT_below OO.out ((Below.refl w5.heap.size w5).alloc (Nat.le_refl _) (.cells #[.string nb, .string (tb mt), .string m.body] 9)))
    refine hK.out _ _ (HCE.out _ G5.out) (fun hHeld => ?_)
    clear hK K
    (try simp only [Act.put, List.setIfInBounds_toArray, List.set_cons_zero, List.set_cons_succ])
    refine wpAnyH_ready (rs := [19]) (by kernel_rfl) (by simp) ?_
    refine AllReadyH.cons (o := { dst := some 22, op := Op.call { callee := Callee.builtin Builtin.append, args := #[Operand.tmp 4, Operand.tmp 21], argTypes := #[53, 53] }, type := 53, pos := "wire.go:200", after := #[{ on := 1, ground := Ground.data }, { on := 18, ground := Ground.data }, { on := 15, ground := Ground.chain }], guard := none }) rfl (fun K hK => ?_) AllReadyH.nil
    refine wpOp_appT (by kernel_rfl) _ _ rfl rfl (B := w.heap.size + 1) (v := pv) (l := [tx]) (m := [nb, tb mt, m.body]) (ao := some ⟨w5.heap.size, 0, none⟩) (cap := 3) rfl rfl O5.out (by have := GG.out.lt; rw [World.size_alloc]; omega) (txt_three w5 nb (tb mt) m.body) (by intro e; cases e) (by simp) ?_
    intro v' w' ho' hg'
    have G6 := Lib.hid (G5.out.grown O5.out (Nat.lt_succ_self _) hg')
    have B6 := Lib.hid ((BB.out.alloc BB.out.size (.cells #[.string nb, .string (tb mt), .string m.body] 9)).grown hg' (by have := BB.out.size; rw [World.size_alloc]; omega) (fun k e => by have := ownT_blk O5.out k e; omega))
    have O6 := Lib.hid (ownT_low ho' (Nat.le_succ _))
    clear ho' hg'
    refine hK.out _ _ (HCE.out _ G6.out) (fun hHeld => ?_)
    clear hK K
    (try simp only [Act.put, List.setIfInBounds_toArray, List.set_cons_zero, List.set_cons_succ])
    refine wpAnyH_take (i := 20) (oi := { dst := some 2, op := Op.assign (Operand.tmp 22), type := 53, pos := "wire.go:200", after := #[{ on := 19, ground := Ground.data }, { on := 19, ground := Ground.chain }, { on := 0, ground := Ground.phase }, { on := 1, ground := Ground.phase }, { on := 2, ground := Ground.phase }, { on := 3, ground := Ground.phase }, { on := 4, ground := Ground.phase }, { on := 5, ground := Ground.phase }, { on := 6, ground := Ground.phase }, { on := 7, ground := Ground.phase }, { on := 8, ground := Ground.phase }, { on := 9, ground := Ground.phase }, { on := 10, ground := Ground.phase }, { on := 11, ground := Ground.phase }, { on := 12, ground := Ground.phase }, { on := 13, ground := Ground.phase }, { on := 14, ground := Ground.phase }, { on := 15, ground := Ground.phase }, { on := 16, ground := Ground.phase }, { on := 17, ground := Ground.phase }, { on := 18, ground := Ground.phase }, { on := 19, ground := Ground.phase }], guard := none }) (v := ?_) rfl (by kernel_rfl) (by kernel_rfl) (by kernel_rfl) (fun _ _ _ h => h) (Or.inl ⟨by rfl, ?_⟩) (by assumption) ?_
    rotate_left 1
    · (intro w hSw; (try dsimp only at hSw); go_simp; try with_reducible rfl)
    (try simp only [Act.put, List.setIfInBounds_toArray, List.set_cons_zero, List.set_cons_succ])
    refine wpAnyH_done (by kernel_rfl) ?_ _
    go_wp2_with fail
    go_ret
    exact ⟨⟨_, rfl, O6.out⟩, B6.out⟩
  · simp only [h0, if_false] at HMB ⊢
    rw [show st2 (([] : List UInt8), 5) = .tuple #[.string ⟨#[]⟩, .int .i64 5] from rfl] at HMB
    have HMB := Lib.hid HMB
    go_enter Tryz.func68, Tryz.ntmps68
    go_wp2_with fail
    rw [← HW0.out]
    clear HW0
    refine wp_region_held_drew (S := fun W => W.cell? ⟨w.heap.size, 0, none⟩ = some (.int .u8 m.kind) ∧ W.cell? ⟨w.heap.size, 1, none⟩ = some (.int .i64 m.c) ∧ W.cell? ⟨w.heap.size, 2, none⟩ = some (.int .i64 m.e) ∧ W.cell? ⟨w.heap.size, 3, none⟩ = some (.int .i64 m.q) ∧ W.cell? ⟨w.heap.size, 4, none⟩ = some (.int .i64 m.aud) ∧ W.cell? ⟨w.heap.size, 5, none⟩ = some (.slice ao m.mem.length cap) ∧ W.cell? ⟨w.heap.size, 6, none⟩ = some (.string m.body) ∧ W.cell? ⟨w.heap.size, 7, none⟩ = some (.bool m.yes) ∧ W.cell? ⟨w.heap.size, 8, none⟩ = some (.string m.tag)) (by kernel_rfl) (by first | assumption | exact KS) (fun hHeld => ?_)
    generalize W0.drew = wz at *
    refine wpAnyH_take (i := 0) (oi := { dst := some 3, op := Op.load 26 (Operand.tmp 1), type := 26, pos := "wire.go:200", after := #[], guard := none }) (v := ?_) rfl (by kernel_rfl) (by kernel_rfl) (by kernel_rfl) (fun _ _ _ h => h) (Or.inl ⟨by rfl, ?_⟩) (by assumption) ?_
    rotate_left 1
    · (intro w hSw; (try dsimp only at hSw); go_simp; try with_reducible rfl)
    (try simp only [Act.put, List.setIfInBounds_toArray, List.set_cons_zero, List.set_cons_succ])
    refine wpAnyH_take (i := 2) (oi := { dst := some 5, op := Op.fieldAddr 26 (Operand.tmp 1) 2, type := 0, pos := "wire.go:200", after := #[], guard := none }) (v := ?_) rfl (by kernel_rfl) (by kernel_rfl) (by kernel_rfl) (fun _ _ _ h => h) (Or.inl ⟨by rfl, ?_⟩) (by assumption) ?_
    rotate_left 1
    · (intro w hSw; (try dsimp only at hSw); go_simp; try with_reducible rfl)
    (try simp only [Act.put, List.setIfInBounds_toArray, List.set_cons_zero, List.set_cons_succ])
    refine wpAnyH_take (i := 3) (oi := { dst := some 6, op := Op.load 3 (Operand.tmp 5), type := 3, pos := "wire.go:200", after := #[{ on := 2, ground := Ground.data }], guard := none }) (v := ?_) rfl (by kernel_rfl) (by kernel_rfl) (by kernel_rfl) (fun _ _ _ h => h) (Or.inl ⟨by rfl, ?_⟩) (by assumption) ?_
    rotate_left 1
    · (intro w hSw; (try dsimp only at hSw); go_simp; try with_reducible rfl)
    (try simp only [Act.put, List.setIfInBounds_toArray, List.set_cons_zero, List.set_cons_succ])
    refine wpAnyH_take (i := 8) (oi := { dst := some 11, op := Op.fieldAddr 26 (Operand.tmp 1) 1, type := 0, pos := "wire.go:200", after := #[], guard := none }) (v := ?_) rfl (by kernel_rfl) (by kernel_rfl) (by kernel_rfl) (fun _ _ _ h => h) (Or.inl ⟨by rfl, ?_⟩) (by assumption) ?_
    rotate_left 1
    · (intro w hSw; (try dsimp only at hSw); go_simp; try with_reducible rfl)
    (try simp only [Act.put, List.setIfInBounds_toArray, List.set_cons_zero, List.set_cons_succ])
    refine wpAnyH_take (i := 9) (oi := { dst := some 12, op := Op.load 23 (Operand.tmp 11), type := 23, pos := "wire.go:200", after := #[{ on := 8, ground := Ground.data }], guard := none }) (v := ?_) rfl (by kernel_rfl) (by kernel_rfl) (by kernel_rfl) (fun _ _ _ h => h) (Or.inl ⟨by rfl, ?_⟩) (by assumption) ?_
    rotate_left 1
    · (intro w hSw; (try dsimp only at hSw); go_simp; try with_reducible rfl)
    (try simp only [Act.put, List.setIfInBounds_toArray, List.set_cons_zero, List.set_cons_succ])
    refine wpAnyH_take (i := 10) (oi := { dst := some 13, op := Op.fieldAddr 26 (Operand.tmp 1) 3, type := 0, pos := "wire.go:200", after := #[], guard := none }) (v := ?_) rfl (by kernel_rfl) (by kernel_rfl) (by kernel_rfl) (fun _ _ _ h => h) (Or.inl ⟨by rfl, ?_⟩) (by assumption) ?_
    rotate_left 1
    · (intro w hSw; (try dsimp only at hSw); go_simp; try with_reducible rfl)
    (try simp only [Act.put, List.setIfInBounds_toArray, List.set_cons_zero, List.set_cons_succ])
    refine wpAnyH_take (i := 11) (oi := { dst := some 14, op := Op.load 24 (Operand.tmp 13), type := 24, pos := "wire.go:200", after := #[{ on := 10, ground := Ground.data }], guard := none }) (v := ?_) rfl (by kernel_rfl) (by kernel_rfl) (by kernel_rfl) (fun _ _ _ h => h) (Or.inl ⟨by rfl, ?_⟩) (by assumption) ?_
    rotate_left 1
    · (intro w hSw; (try dsimp only at hSw); go_simp; try with_reducible rfl)
    (try simp only [Act.put, List.setIfInBounds_toArray, List.set_cons_zero, List.set_cons_succ])
    refine wpAnyH_take (i := 16) (oi := { dst := some 19, op := Op.fieldAddr 26 (Operand.tmp 1) 4, type := 0, pos := "wire.go:200", after := #[], guard := none }) (v := ?_) rfl (by kernel_rfl) (by kernel_rfl) (by kernel_rfl) (fun _ _ _ h => h) (Or.inl ⟨by rfl, ?_⟩) (by assumption) ?_
    rotate_left 1
    · (intro w hSw; (try dsimp only at hSw); go_simp; try with_reducible rfl)
    (try simp only [Act.put, List.setIfInBounds_toArray, List.set_cons_zero, List.set_cons_succ])
    refine wpAnyH_take (i := 17) (oi := { dst := some 20, op := Op.load 9 (Operand.tmp 19), type := 9, pos := "wire.go:200", after := #[{ on := 16, ground := Ground.data }], guard := none }) (v := ?_) rfl (by kernel_rfl) (by kernel_rfl) (by kernel_rfl) (fun _ _ _ h => h) (Or.inl ⟨by rfl, ?_⟩) (by assumption) ?_
    rotate_left 1
    · (intro w hSw; (try dsimp only at hSw); go_simp; try with_reducible rfl)
    (try simp only [Act.put, List.setIfInBounds_toArray, List.set_cons_zero, List.set_cons_succ])
    refine wpAnyH_ready (rs := [1]) (by kernel_rfl) (by simp) ?_
    refine AllReadyH.cons (o := { dst := some 4, op := Op.call { callee := Callee.value (Operand.func 77), args := #[Operand.tmp 3], argTypes := #[26] }, type := 53, pos := "wire.go:200", after := #[{ on := 0, ground := Ground.data }], guard := none }) rfl (fun K hK => ?_) AllReadyH.nil
    go_simp
    refine (HPX.out _).mono ?_; rintro e w1 ⟨⟨pv, rfl, ho⟩, b1⟩
    have GG := Lib.hid (GG.out.below b1)
    have OO := Lib.hid (ownT_low ho HLT.out)
    have BB := Lib.hid (below_step BB.out b1)
    clear ho b1
    refine hK.out _ _ (HCE.out _ GG.out) (fun hHeld => ?_)
    clear hK K
    (try simp only [Act.put, List.setIfInBounds_toArray, List.set_cons_zero, List.set_cons_succ])
    refine wpAnyH_ready (rs := [4]) (by kernel_rfl) (by simp) ?_
    refine AllReadyH.cons (o := { dst := some 7, op := Op.call { callee := Callee.value (Operand.func 57), args := #[Operand.tmp 6], argTypes := #[3] }, type := 31, pos := "wire.go:200", after := #[{ on := 3, ground := Ground.data }, { on := 1, ground := Ground.chain }], guard := none }) rfl (fun K hK => ?_) AllReadyH.nil
    go_simp
    refine (HNM.out _).mono ?_; rintro e w3 ⟨rfl, b3⟩
    have GG := Lib.hid (GG.out.below b3)
    have OO := Lib.hid (ownT_below OO.out b3)
    have BB := Lib.hid (below_step BB.out b3)
    clear b3
    refine hK.out _ _ (HCE.out _ GG.out) (fun hHeld => ?_)
    clear hK K
    (try simp only [Act.put, List.setIfInBounds_toArray, List.set_cons_zero, List.set_cons_succ])
    refine wpAnyH_take (i := 5) (oi := { dst := some 8, op := Op.extract (Operand.tmp 7) 0, type := 9, pos := "wire.go:200", after := #[{ on := 4, ground := Ground.data }], guard := none }) (v := ?_) rfl (by kernel_rfl) (by kernel_rfl) (by kernel_rfl) (fun _ _ _ h => h) (Or.inl ⟨by rfl, ?_⟩) (by assumption) ?_
    rotate_left 1
    · (intro w hSw; (try dsimp only at hSw); go_simp; try with_reducible rfl)
    (try simp only [Act.put, List.setIfInBounds_toArray, List.set_cons_zero, List.set_cons_succ])
    refine wpAnyH_take (i := 6) (oi := { dst := some 9, op := Op.extract (Operand.tmp 7) 1, type := 30, pos := "wire.go:200", after := #[{ on := 4, ground := Ground.data }], guard := none }) (v := ?_) rfl (by kernel_rfl) (by kernel_rfl) (by kernel_rfl) (fun _ _ _ h => h) (Or.inl ⟨by rfl, ?_⟩) (by assumption) ?_
    rotate_left 1
    · (intro w hSw; (try dsimp only at hSw); go_simp; try with_reducible rfl)
    (try simp only [Act.put, List.setIfInBounds_toArray, List.set_cons_zero, List.set_cons_succ])
    refine wpAnyH_ready (rs := [7]) (by kernel_rfl) (by simp) ?_
    refine AllReadyH.cons (o := { dst := some 10, op := Op.call { callee := Callee.value (Operand.func 55), args := #[Operand.tmp 8, Operand.tmp 9], argTypes := #[9, 30] }, type := 9, pos := "wire.go:200", after := #[{ on := 5, ground := Ground.data }, { on := 6, ground := Ground.data }, { on := 4, ground := Ground.chain }], guard := none }) rfl (fun K hK => ?_) AllReadyH.nil
    go_simp
    refine (made12_ok _ _).mono ?_; rintro e w4 ⟨rfl, hw⟩; rw [hw]; clear hw w4
    refine hK.out _ _ (HCE.out _ GG.out) (fun hHeld => ?_)
    clear hK K
    (try simp only [Act.put, List.setIfInBounds_toArray, List.set_cons_zero, List.set_cons_succ])
    refine wpAnyH_ready (rs := [12]) (by kernel_rfl) (by simp) ?_
    refine AllReadyH.cons (o := { dst := some 15, op := Op.call { callee := Callee.value (Operand.func 21), args := #[Operand.tmp 12, Operand.tmp 14], argTypes := #[23, 24] }, type := 31, pos := "wire.go:200", after := #[{ on := 9, ground := Ground.data }, { on := 11, ground := Ground.data }, { on := 7, ground := Ground.chain }], guard := none }) rfl (fun K hK => ?_) AllReadyH.nil
    go_simp
    refine (HMB.out _ BB.out).mono ?_; rintro e w5 ⟨rfl, b5⟩
    have GG := Lib.hid (GG.out.below b5)
    have OO := Lib.hid (ownT_below OO.out b5)
    have BB := Lib.hid (below_step BB.out b5)
    clear b5
    refine hK.out _ _ (HCE.out _ GG.out) (fun hHeld => ?_)
    clear hK K
    (try simp only [Act.put, List.setIfInBounds_toArray, List.set_cons_zero, List.set_cons_succ])
    refine wpAnyH_take (i := 13) (oi := { dst := some 16, op := Op.extract (Operand.tmp 15) 0, type := 9, pos := "wire.go:200", after := #[{ on := 12, ground := Ground.data }], guard := none }) (v := ?_) rfl (by kernel_rfl) (by kernel_rfl) (by kernel_rfl) (fun _ _ _ h => h) (Or.inl ⟨by rfl, ?_⟩) (by assumption) ?_
    rotate_left 1
    · (intro w hSw; (try dsimp only at hSw); go_simp; try with_reducible rfl)
    (try simp only [Act.put, List.setIfInBounds_toArray, List.set_cons_zero, List.set_cons_succ])
    refine wpAnyH_take (i := 14) (oi := { dst := some 17, op := Op.extract (Operand.tmp 15) 1, type := 30, pos := "wire.go:200", after := #[{ on := 12, ground := Ground.data }], guard := none }) (v := ?_) rfl (by kernel_rfl) (by kernel_rfl) (by kernel_rfl) (fun _ _ _ h => h) (Or.inl ⟨by rfl, ?_⟩) (by assumption) ?_
    rotate_left 1
    · (intro w hSw; (try dsimp only at hSw); go_simp; try with_reducible rfl)
    (try simp only [Act.put, List.setIfInBounds_toArray, List.set_cons_zero, List.set_cons_succ])
    refine wpAnyH_ready (rs := [15]) (by kernel_rfl) (by simp) ?_
    refine AllReadyH.cons (o := { dst := some 18, op := Op.call { callee := Callee.value (Operand.func 55), args := #[Operand.tmp 16, Operand.tmp 17], argTypes := #[9, 30] }, type := 9, pos := "wire.go:200", after := #[{ on := 13, ground := Ground.data }, { on := 14, ground := Ground.data }, { on := 12, ground := Ground.chain }], guard := none }) rfl (fun K hK => ?_) AllReadyH.nil
    go_simp
    refine (made12_bad _ 5 (by decide) _).mono ?_; rintro e w6 ⟨rfl, hw⟩; rw [hw]; clear hw w6
    clear hK
    go_wp2_with fail
    exact ⟨by first | rfl | trivial, rfl, BB.out⟩
theorem putnone_any (m : Ms) (v : Value) (w : World) : Calls Tryz.prog 80 #[.agg (msC m v)] w (PutP w []) := by
  have B0 := Lib.hid ((Below.refl w.heap.size w).alloc (Nat.le_refl _) (.cells (msC m v) 26))
  obtain ⟨k, c, e, q, aud, mem, body, yes, tag⟩ := m
  dsimp only [msC] at *
  go_enter Tryz.func80, Tryz.ntmps80
  go_wp2_with fail
  go_ret
  exact ⟨⟨_, rfl, ownT_nil _ _⟩, B0.out⟩
theorem call_putF (k : Nat) (args : Array Value) (V : World) : (callFunc (putF k) args).run Tryz.prog V = .ok (.enter (putF k) args) V := by
  unfold putF
  repeat' split
  all_goals kernel_rfl
/-- What the parts of a message come to. -/
def PutE (m : Ms) (w : World) : Ending → World → Prop := fun e w' => (if m.kind = 1 ∧ (membersT m.mem).2 ≠ 0 then e = boom12 5 else ∃ v, e = .returned v ∧ OwnT w' w.heap.size v ((fieldsP m).map tb)) ∧ Below w.heap.size w w'
theorem putE_of {m : Ms} {w : World} {l : List ByteArray} (h1 : m.kind ≠ 1) (hl : (fieldsP m).map tb = l) {e : Ending} {w' : World} (h : PutP w l e w') : PutE m w e w' := by
  unfold PutE
  rw [if_neg (fun k => h1 k.1), hl]
  exact h
theorem putF_any (m : Ms) (hm : mayP m = true) (hsz : ∀ x ∈ m.mem, x.2.size ≤ 30000) (hlen : m.mem.length ≤ 9223372036854775807) (ao : Option Addr) (cap : Nat) (w : World) (hrow : MemRow w ao m.mem) :
    Calls Tryz.prog (putF m.kind) #[.agg (msC m (.slice ao m.mem.length cap))] w (PutE m w) := by
  have hk := may_kind hm
  have hc : m.kind = 1 ∨ m.kind = 2 ∨ m.kind = 3 ∨ (m.kind = 4 ∨ m.kind = 5) ∨ m.kind = 6 := by omega
  rcases hc with e | e | e | e | e
  · rw [show putF m.kind = 68 by rw [e]; rfl]
    have h := hm
    simp only [mayP, e, if_true, Bool.and_eq_true] at h
    refine (putprep_any m h.1.1.1.1 h.1.1.1.2 h.1.1.2 hsz hlen ao cap w hrow).mono ?_
    rintro x w' ⟨h1, h2⟩
    refine ⟨?_, h2⟩
    by_cases h0 : (membersT m.mem).2 = 0
    · rw [if_pos h0] at h1
      rw [if_neg (fun k => k.2 h0), show (fieldsP m).map tb = [tb (txnT m.c m.e m.q), numT m.aud, tb (membersT m.mem).1, m.body] by simp [fieldsP, e, numT, tb_bl]]
      exact h1
    · rw [if_neg h0] at h1
      rw [if_pos ⟨e, h0⟩]
      exact h1
  · rw [show putF m.kind = 71 by rw [e]; rfl]
    have h := hm
    simp [mayP, e] at h
    refine (putvote_any m h.1.1 ao m.mem.length cap w).mono fun x w' h1 => putE_of (by omega) ?_ h1
    unfold fieldsP
    rw [if_neg (by omega), if_pos e]
    cases m.yes <;> rfl
  · rw [show putF m.kind = 74 by rw [e]; rfl]
    have h := hm
    simp [mayP, e] at h
    refine (putdec_any m h.1.1 ao m.mem.length cap w).mono fun x w' h1 => putE_of (by omega) ?_ h1
    simp [fieldsP, e, numT]
  · rw [show putF m.kind = 77 by rcases e with e | e <;> (rw [e]; rfl)]
    have h : mayX m.c m.e m.q = true := by
      have h := hm
      rcases e with e | e <;> (simp [mayP, e] at h; exact h.1.1)
    refine (puttxn_any m h _ w).mono fun x w' h1 => putE_of (by omega) ?_ h1
    rcases e with e | e <;> simp [fieldsP, e]
  · rw [show putF m.kind = 80 by rw [e]; rfl]
    refine (putnone_any m _ w).mono fun x w' h1 => putE_of (by omega) ?_ h1
    simp [fieldsP, e]
end Go.Proofs.YthemopejebioaaaGreat.Pl

namespace Go.Proofs.YthemopejebioaaaGreat.Pl
open Go.RowKit

theorem own_shape13 {W : World} {B : Nat} {v : Value} {O : List ByteArray} (h : OwnT W B v O) : ∃ oo cap, v = .slice oo O.length cap ∧ (oo = none → cap = 0) ∧ TxtRow W oo O := by
  obtain ⟨a, c, e, hr⟩ := ownT_row h
  rcases h.2 with ⟨rfl, h0⟩ | ⟨g, cap, cur, rfl, _⟩
  · injection e with e1 e2 e3
    exact ⟨a, c, by rw [← e1, ← e2, ← e3], fun _ => e3.symm, hr⟩
  · injection e with e1 e2 e3
    exact ⟨a, c, by rw [← e1, ← e3], (fun k => by rw [← e1] at k; cases k), hr⟩
theorem fields_ok {m : Ms} (hm : mayP m = true) (hl : m.kind = 1 → (membersT m.mem).2 = 0) : ∀ x ∈ fieldsP m, checkP x = 0 := by
  have hk := may_kind hm
  have hc : m.kind = 1 ∨ m.kind = 2 ∨ m.kind = 3 ∨ (m.kind = 4 ∨ m.kind = 5) ∨ m.kind = 6 := by omega
  have hb : checkP (numP (bitP m.yes)).1 = 0 := (bit_ok _).2
  rcases hc with e | e | e | e | e
  · have h := hm
    simp only [mayP, e, if_true, Bool.and_eq_true] at h
    obtain ⟨⟨⟨⟨hx, ho⟩, hml⟩, ht⟩, _⟩ := h
    have ho' := orgP_iff.1 ho
    intro x hx2
    simp only [fieldsP, e, if_true, List.mem_cons, List.not_mem_nil, or_false] at hx2
    rcases hx2 with rfl | rfl | rfl | rfl
    · exact (txn_ok hx).2
    · exact (rdN_num (by omega) (by omega)).2
    · have hmm := mayL_iff.1 hml
      exact (row_read (by rw [List.length_map]; omega) (membersT_is (hl e)).2).2.2
    · exact beq_iff_eq.1 ht
  · have h := hm
    simp only [mayP, e, if_true, if_neg (show ¬ (2 = 1) by decide), Bool.and_eq_true] at h
    obtain ⟨⟨hx, _⟩, hy⟩ := h
    intro x hx2
    unfold fieldsP at hx2
    rw [if_neg (by omega), if_pos e] at hx2
    cases hyes : m.yes with
    | false =>
      rw [hyes] at hx2
      simp only [List.mem_append, List.mem_cons, List.not_mem_nil, or_false, Bool.false_eq_true, if_false] at hx2
      rcases hx2 with rfl | rfl
      · exact (txn_ok hx).2
      · exact (bit_ok _).2
    | true =>
      rw [hyes] at hx2 hy
      simp only [List.mem_append, List.mem_cons, List.not_mem_nil, or_false, if_true] at hx2
      rcases hx2 with (rfl | rfl) | rfl
      · exact (txn_ok hx).2
      · exact (bit_ok _).2
      · simp [votesP, hyes] at hy
        exact beq_iff_eq.1 hy
  · have h := hm
    simp [mayP, e] at h
    intro x hx2
    simp only [fieldsP, e, if_true, if_neg (show ¬ (3 = 1) by decide), if_neg (show ¬ (3 = 2) by decide), List.mem_cons, List.not_mem_nil, or_false] at hx2
    rcases hx2 with rfl | rfl
    · exact (txn_ok h.1.1).2
    · exact hb
  · have h : mayX m.c m.e m.q = true := by
      have h := hm
      rcases e with e | e <;> (simp [mayP, e] at h; exact h.1.1)
    intro x hx2
    unfold fieldsP at hx2
    rw [if_neg (by omega), if_neg (by omega), if_neg (by omega), if_pos e] at hx2
    rw [List.mem_singleton.1 hx2]
    exact (txn_ok h).2
  · intro x hx2
    unfold fieldsP at hx2
    rw [if_neg (by omega), if_neg (by omega), if_neg (by omega), if_neg (by omega)] at hx2
    cases hx2
theorem enc_cases {m : Ms} (hm : mayP m = true) : (m.kind = 1 ∧ (membersT m.mem).2 ≠ 0 ∧ encP m = ([], 5)) ∨ (¬ (m.kind = 1 ∧ (membersT m.mem).2 ≠ 0) ∧ (∀ x ∈ fieldsP m, checkP x = 0) ∧ (((rowP ((dataP (wordP m.kind)).1 :: fieldsP m)).2 = 0 ∧ encP m = ((rowP ((dataP (wordP m.kind)).1 :: fieldsP m)).1, 0)) ∨ ((rowP ((dataP (wordP m.kind)).1 :: fieldsP m)).2 ≠ 0 ∧ encP m = ([], 5)))) := by
  have e1 : ¬ mayP m = false := by rw [hm]; decide
  by_cases h : m.kind = 1 ∧ (membersT m.mem).2 ≠ 0
  · exact .inl ⟨h.1, h.2, by unfold encP; rw [if_neg e1, if_pos h]⟩
  · refine .inr ⟨h, ?_⟩
    have hf := fields_ok hm (fun k => by
      by_cases z : (membersT m.mem).2 = 0
      · exact z
      · exact absurd ⟨k, z⟩ h)
    have e2 : encP m = rowP ((dataP (wordP m.kind)).1 :: fieldsP m) := by unfold encP; rw [if_neg e1, if_neg h]
    have hd := data_read (x := wordP m.kind) (by have := word_len m.kind; omega)
    have herr := row_err (l := (dataP (wordP m.kind)).1 :: fieldsP m) (fun x hx => by
      rcases List.mem_cons.1 hx with rfl | hx
      · rw [hd.1]; exact hd.2.2.2
      · exact hf x hx)
    refine ⟨hf, ?_⟩
    rw [e2]
    rcases herr with h0 | h5
    · exact .inl ⟨h0, Prod.ext rfl h0⟩
    · exact .inr ⟨by rw [h5]; decide, h5⟩
/-- What Encode's closure leaves. -/
def RdEn (m : Ms) (s : Nat) (W : World) (z : Nat) (V : World) : Prop := z = (encP m).2 ∧ Boxed V s 9 (.string (tb (encP m).1)) ∧ Turn (· = s) W V

set_option maxHeartbeats 8000000 in
set_option maxRecDepth 100000 in
theorem enc1_any (m : Ms) (hm : mayP m = true) (hsz : ∀ x ∈ m.mem, x.2.size ≤ 30000) (hlen : m.mem.length ≤ 9223372036854775807) (ao : Option Addr) (cap p g s eb : Nat) (W : World) (f1 f3 : FuncId)
    (hp : W.heap[p]? = some (.cells #[.string (tb (wordP m.kind)), .func (.func f1) #[] #[], .func (.func (putF m.kind)) #[] #[], .func (.func f3) #[] #[]] 59 (0, 0))) (hg : GAt W g m (.slice ao m.mem.length cap)) (hs : Boxed W s 9 (.string ⟨#[]⟩)) (he : Boxed W eb 30 (.int .i64 0)) (hne : eb ≠ s) (hps : p ≠ s) (hgs : g ≠ s) (hrow : MemRow W ao m.mem) :
    Calls Tryz.prog 35 #[ptr12 p, ptr12 g, ptr12 s] W (DonePost eb (RdEn m s W)) := by
  have hk := may_kind hm
  have HPF := fun V (hV : Below W.heap.size W V) => putF_any m hm hsz hlen ao cap V (hrow.below hV)
  have hcf := call_putF m.kind
  have HMS := fun (l : List ByteArray) (po : Option Addr) (pc : Nat) (V : World) hl hx hp hr => message_any (tb (wordP m.kind)) (by have := word_len m.kind; unfold tb; rw [size_lit]; omega) l po pc hl hx hp V hr
  have HKEEP : Hid (∀ V, Below W.heap.size W V → Boxed V s 9 (.string ⟨#[]⟩) ∧ Boxed V eb 30 (.int .i64 0)) := Lib.hid (fun V h => ⟨(h.block _ (Array.getElem?_eq_some_iff.1 hs).1).trans hs, (h.block _ (Array.getElem?_eq_some_iff.1 he).1).trans he⟩)
  have HRE : Hid (∀ z V, RdEn m s W z V ↔ z = (encP m).2 ∧ Boxed V s 9 (.string (tb (encP m).1)) ∧ Turn (· = s) W V) := Lib.hid (fun _ _ => Iff.rfl)
  generalize hwd : tb (wordP m.kind) = wd at *
  have hbw : bl wd = wordP m.kind := by rw [← hwd]; rfl
  rw [hbw] at HMS
  generalize putF m.kind = f2 at *
  have KS0 : ∀ V, Below W.heap.size W V → V.cell? ⟨p, 0, none⟩ = some (.string wd) ∧ V.cell? ⟨p, 2, none⟩ = some (.func (.func f2) #[] #[]) ∧ V.cell? ⟨g, 0, none⟩ = some (.int .u8 m.kind) ∧ V.cell? ⟨g, 1, none⟩ = some (.int .i64 m.c) ∧ V.cell? ⟨g, 2, none⟩ = some (.int .i64 m.e) ∧ V.cell? ⟨g, 3, none⟩ = some (.int .i64 m.q) ∧ V.cell? ⟨g, 4, none⟩ = some (.int .i64 m.aud) ∧ V.cell? ⟨g, 5, none⟩ = some (.slice ao m.mem.length cap) ∧ V.cell? ⟨g, 6, none⟩ = some (.string m.body) ∧ V.cell? ⟨g, 7, none⟩ = some (.bool m.yes) ∧ V.cell? ⟨g, 8, none⟩ = some (.string m.tag) := fun V hV => by
    have q : V.heap[p]? = _ := (hV.block p (Array.getElem?_eq_some_iff.1 hp).1).trans hp
    exact ⟨cell_of_row _ _ _ _ _ _ q, cell_of_row _ _ _ _ _ _ q, (hg.below hV).cells⟩
  have KS1 := KS0 W.drew (drew12 W)
  have KT : ∀ V, Below W.heap.size W V → ∀ x, (V.setCell ⟨s, 0, none⟩ x).cell? ⟨p, 0, none⟩ = some (.string wd) ∧ (V.setCell ⟨s, 0, none⟩ x).cell? ⟨p, 2, none⟩ = some (.func (.func f2) #[] #[]) ∧ (V.setCell ⟨s, 0, none⟩ x).cell? ⟨g, 0, none⟩ = some (.int .u8 m.kind) ∧ (V.setCell ⟨s, 0, none⟩ x).cell? ⟨g, 1, none⟩ = some (.int .i64 m.c) ∧ (V.setCell ⟨s, 0, none⟩ x).cell? ⟨g, 2, none⟩ = some (.int .i64 m.e) ∧ (V.setCell ⟨s, 0, none⟩ x).cell? ⟨g, 3, none⟩ = some (.int .i64 m.q) ∧ (V.setCell ⟨s, 0, none⟩ x).cell? ⟨g, 4, none⟩ = some (.int .i64 m.aud) ∧ (V.setCell ⟨s, 0, none⟩ x).cell? ⟨g, 5, none⟩ = some (.slice ao m.mem.length cap) ∧ (V.setCell ⟨s, 0, none⟩ x).cell? ⟨g, 6, none⟩ = some (.string m.body) ∧ (V.setCell ⟨s, 0, none⟩ x).cell? ⟨g, 7, none⟩ = some (.bool m.yes) ∧ (V.setCell ⟨s, 0, none⟩ x).cell? ⟨g, 8, none⟩ = some (.string m.tag) := fun V hV x => by
    have tr := turn_cell V s 0 x
    have hlt := (Array.getElem?_eq_some_iff.1 hp).1
    have hVs := hV.size
    have q : (V.setCell ⟨s, 0, none⟩ x).heap[p]? = _ := (tr.block p (by omega) hps).trans ((hV.block p hlt).trans hp)
    exact ⟨cell_of_row _ _ _ _ _ _ q, cell_of_row _ _ _ _ _ _ q, ((hg.below hV).turn tr hgs).cells⟩
  have HSP := Lib.hid KS0
  have HST := Lib.hid KT
  have KS := KS1
  have BB := Lib.hid (drew12 W)
  have HNE := Lib.hid hne
  have hcase := enc_cases hm
  clear KS0 KS1 KT hp hg hs he hne hps hgs hrow hsz hlen hk
  rcases hcase with ⟨hk1, hmt, henc⟩ | ⟨hnk, hfo, hcase⟩
  · have HPF2 := Lib.hid (fun V hV => (HPF V hV).mono (fun e w' (h : PutE m V e w') => (show e = boom12 5 ∧ Below V.heap.size V w' from ⟨(by have q := h.1; rwa [if_pos ⟨hk1, hmt⟩] at q), h.2⟩)))
    clear HPF HMS hk1 hmt
    go_enter Tryz.func35, Tryz.ntmps35
    go_wp2_with fail
    refine wp_region_held_drew (S := fun W => W.cell? ⟨p, 0, none⟩ = some (.string wd) ∧ W.cell? ⟨p, 2, none⟩ = some (.func (.func f2) #[] #[]) ∧ W.cell? ⟨g, 0, none⟩ = some (.int .u8 m.kind) ∧ W.cell? ⟨g, 1, none⟩ = some (.int .i64 m.c) ∧ W.cell? ⟨g, 2, none⟩ = some (.int .i64 m.e) ∧ W.cell? ⟨g, 3, none⟩ = some (.int .i64 m.q) ∧ W.cell? ⟨g, 4, none⟩ = some (.int .i64 m.aud) ∧ W.cell? ⟨g, 5, none⟩ = some (.slice ao m.mem.length cap) ∧ W.cell? ⟨g, 6, none⟩ = some (.string m.body) ∧ W.cell? ⟨g, 7, none⟩ = some (.bool m.yes) ∧ W.cell? ⟨g, 8, none⟩ = some (.string m.tag)) (by kernel_rfl) (by first | assumption | exact KS) (fun hHeld => ?_)
    generalize W.drew = wz at *
    refine wpAnyH_take (i := 0) (oi := { dst := some 3, op := Op.fieldAddr 59 (Operand.tmp 0) 0, type := 0, pos := "wire.go:271", after := #[], guard := none }) (v := ?_) rfl (by kernel_rfl) (by kernel_rfl) (by kernel_rfl) (fun _ _ _ h => h) (Or.inl ⟨by rfl, ?_⟩) (by assumption) ?_
    rotate_left 1
    · (intro w hSw; (try dsimp only at hSw); go_simp; try with_reducible rfl)
    (try simp only [Act.put, List.setIfInBounds_toArray, List.set_cons_zero, List.set_cons_succ])
    refine wpAnyH_take (i := 1) (oi := { dst := some 4, op := Op.load 9 (Operand.tmp 3), type := 9, pos := "wire.go:271", after := #[{ on := 0, ground := Ground.data }], guard := none }) (v := ?_) rfl (by kernel_rfl) (by kernel_rfl) (by kernel_rfl) (fun _ _ _ h => h) (Or.inl ⟨by rfl, ?_⟩) (by assumption) ?_
    rotate_left 1
    · (intro w hSw; (try dsimp only at hSw); go_simp; try with_reducible rfl)
    (try simp only [Act.put, List.setIfInBounds_toArray, List.set_cons_zero, List.set_cons_succ])
    refine wpAnyH_take (i := 2) (oi := { dst := some 5, op := Op.fieldAddr 59 (Operand.tmp 0) 2, type := 0, pos := "wire.go:271", after := #[], guard := none }) (v := ?_) rfl (by kernel_rfl) (by kernel_rfl) (by kernel_rfl) (fun _ _ _ h => h) (Or.inl ⟨by rfl, ?_⟩) (by assumption) ?_
    rotate_left 1
    · (intro w hSw; (try dsimp only at hSw); go_simp; try with_reducible rfl)
    (try simp only [Act.put, List.setIfInBounds_toArray, List.set_cons_zero, List.set_cons_succ])
    refine wpAnyH_take (i := 3) (oi := { dst := some 6, op := Op.load 56 (Operand.tmp 5), type := 56, pos := "wire.go:271", after := #[{ on := 2, ground := Ground.data }], guard := none }) (v := ?_) rfl (by kernel_rfl) (by kernel_rfl) (by kernel_rfl) (fun _ _ _ h => h) (Or.inl ⟨by rfl, ?_⟩) (by assumption) ?_
    rotate_left 1
    · (intro w hSw; (try dsimp only at hSw); go_simp; try with_reducible rfl)
    (try simp only [Act.put, List.setIfInBounds_toArray, List.set_cons_zero, List.set_cons_succ])
    refine wpAnyH_take (i := 4) (oi := { dst := some 7, op := Op.load 26 (Operand.tmp 1), type := 26, pos := "wire.go:271", after := #[], guard := none }) (v := ?_) rfl (by kernel_rfl) (by kernel_rfl) (by kernel_rfl) (fun _ _ _ h => h) (Or.inl ⟨by rfl, ?_⟩) (by assumption) ?_
    rotate_left 1
    · (intro w hSw; (try dsimp only at hSw); go_simp; try with_reducible rfl)
    (try simp only [Act.put, List.setIfInBounds_toArray, List.set_cons_zero, List.set_cons_succ])
    refine wpAnyH_ready (rs := [5]) (by kernel_rfl) (by simp) ?_
    refine AllReadyH.cons (o := { dst := some 8, op := Op.call { callee := Callee.value (Operand.tmp 6), args := #[Operand.tmp 7], argTypes := #[26] }, type := 53, pos := "wire.go:271", after := #[{ on := 3, ground := Ground.data }, { on := 4, ground := Ground.data }], guard := none }) rfl (fun K hK => ?_) AllReadyH.nil
    go_simp
    refine (HPF2.out _ BB.out).mono ?_; rintro e w1 ⟨rfl, b1⟩
    have BB := Lib.hid (below_step BB.out b1)
    obtain ⟨k1, k2⟩ := HKEEP.out _ BB.out
    have K1 := Lib.hid k1
    have K2 := Lib.hid k2
    clear hK b1 k1 k2
    go_wp2_with fail
    exact ⟨by first | rfl | trivial, K2.out, .inr ⟨5, rfl, (HRE.out _ _).2 ⟨by rw [henc], by rw [henc]; exact K1.out, turn_below BB.out⟩⟩⟩
  · have HPF2 := Lib.hid (fun V hV => (HPF V hV).mono (fun e w' (h : PutE m V e w') => (show (∃ v, e = .returned v ∧ OwnT w' V.heap.size v ((fieldsP m).map tb)) ∧ Below V.heap.size V w' from ⟨(by have q := h.1; rwa [if_neg hnk] at q), h.2⟩)))
    clear HPF
    have HMM := fun (po : Option Addr) (pc : Nat) V hp (hr : TxtRow V po ((fieldsP m).map tb)) => HMS ((fieldsP m).map tb) po pc V (by rw [List.length_map]; have := fields_len m; omega) (fun x hx => by
      obtain ⟨y, hy, rfl⟩ := List.mem_map.1 hx
      have := check_len (hfo y hy)
      unfold tb; rw [size_lit]; omega) hp hr
    rw [map_bl_tb] at HMM
    clear HMS hfo
    generalize (fieldsP m).map tb = FL at *
    generalize rowP ((dataP (wordP m.kind)).1 :: fieldsP m) = R at *
    rcases hcase with ⟨h0, henc⟩ | ⟨h0, henc⟩
    · simp only [h0, if_true] at HMM
      have HMM := Lib.hid HMM
      go_enter Tryz.func35, Tryz.ntmps35
      go_wp2_with fail
      refine wp_region_held_drew (S := fun W => W.cell? ⟨p, 0, none⟩ = some (.string wd) ∧ W.cell? ⟨p, 2, none⟩ = some (.func (.func f2) #[] #[]) ∧ W.cell? ⟨g, 0, none⟩ = some (.int .u8 m.kind) ∧ W.cell? ⟨g, 1, none⟩ = some (.int .i64 m.c) ∧ W.cell? ⟨g, 2, none⟩ = some (.int .i64 m.e) ∧ W.cell? ⟨g, 3, none⟩ = some (.int .i64 m.q) ∧ W.cell? ⟨g, 4, none⟩ = some (.int .i64 m.aud) ∧ W.cell? ⟨g, 5, none⟩ = some (.slice ao m.mem.length cap) ∧ W.cell? ⟨g, 6, none⟩ = some (.string m.body) ∧ W.cell? ⟨g, 7, none⟩ = some (.bool m.yes) ∧ W.cell? ⟨g, 8, none⟩ = some (.string m.tag)) (by kernel_rfl) (by first | assumption | exact KS) (fun hHeld => ?_)
      generalize W.drew = wz at *
      refine wpAnyH_take (i := 0) (oi := { dst := some 3, op := Op.fieldAddr 59 (Operand.tmp 0) 0, type := 0, pos := "wire.go:271", after := #[], guard := none }) (v := ?_) rfl (by kernel_rfl) (by kernel_rfl) (by kernel_rfl) (fun _ _ _ h => h) (Or.inl ⟨by rfl, ?_⟩) (by assumption) ?_
      rotate_left 1
      · (intro w hSw; (try dsimp only at hSw); go_simp; try with_reducible rfl)
      (try simp only [Act.put, List.setIfInBounds_toArray, List.set_cons_zero, List.set_cons_succ])
      refine wpAnyH_take (i := 1) (oi := { dst := some 4, op := Op.load 9 (Operand.tmp 3), type := 9, pos := "wire.go:271", after := #[{ on := 0, ground := Ground.data }], guard := none }) (v := ?_) rfl (by kernel_rfl) (by kernel_rfl) (by kernel_rfl) (fun _ _ _ h => h) (Or.inl ⟨by rfl, ?_⟩) (by assumption) ?_
      rotate_left 1
      · (intro w hSw; (try dsimp only at hSw); go_simp; try with_reducible rfl)
      (try simp only [Act.put, List.setIfInBounds_toArray, List.set_cons_zero, List.set_cons_succ])
      refine wpAnyH_take (i := 2) (oi := { dst := some 5, op := Op.fieldAddr 59 (Operand.tmp 0) 2, type := 0, pos := "wire.go:271", after := #[], guard := none }) (v := ?_) rfl (by kernel_rfl) (by kernel_rfl) (by kernel_rfl) (fun _ _ _ h => h) (Or.inl ⟨by rfl, ?_⟩) (by assumption) ?_
      rotate_left 1
      · (intro w hSw; (try dsimp only at hSw); go_simp; try with_reducible rfl)
      (try simp only [Act.put, List.setIfInBounds_toArray, List.set_cons_zero, List.set_cons_succ])
      refine wpAnyH_take (i := 3) (oi := { dst := some 6, op := Op.load 56 (Operand.tmp 5), type := 56, pos := "wire.go:271", after := #[{ on := 2, ground := Ground.data }], guard := none }) (v := ?_) rfl (by kernel_rfl) (by kernel_rfl) (by kernel_rfl) (fun _ _ _ h => h) (Or.inl ⟨by rfl, ?_⟩) (by assumption) ?_
      rotate_left 1
      · (intro w hSw; (try dsimp only at hSw); go_simp; try with_reducible rfl)
      (try simp only [Act.put, List.setIfInBounds_toArray, List.set_cons_zero, List.set_cons_succ])
      refine wpAnyH_take (i := 4) (oi := { dst := some 7, op := Op.load 26 (Operand.tmp 1), type := 26, pos := "wire.go:271", after := #[], guard := none }) (v := ?_) rfl (by kernel_rfl) (by kernel_rfl) (by kernel_rfl) (fun _ _ _ h => h) (Or.inl ⟨by rfl, ?_⟩) (by assumption) ?_
      rotate_left 1
      · (intro w hSw; (try dsimp only at hSw); go_simp; try with_reducible rfl)
      (try simp only [Act.put, List.setIfInBounds_toArray, List.set_cons_zero, List.set_cons_succ])
      refine wpAnyH_ready (rs := [5]) (by kernel_rfl) (by simp) ?_
      refine AllReadyH.cons (o := { dst := some 8, op := Op.call { callee := Callee.value (Operand.tmp 6), args := #[Operand.tmp 7], argTypes := #[26] }, type := 53, pos := "wire.go:271", after := #[{ on := 3, ground := Ground.data }, { on := 4, ground := Ground.data }], guard := none }) rfl (fun K hK => ?_) AllReadyH.nil
      go_simp
      refine (HPF2.out _ BB.out).mono ?_; rintro e w1 ⟨⟨pv, rfl, ho⟩, b1⟩
      have BB := Lib.hid (below_step BB.out b1)
      obtain ⟨po, pc, rfl, hpn, hpr⟩ := own_shape13 ho
      have HPN := Lib.hid hpn
      have HPR := Lib.hid hpr
      clear ho b1 hpn hpr
      refine hK.out _ _ (HSP.out _ BB.out) (fun hHeld => ?_)
      clear hK K
      (try simp only [Act.put, List.setIfInBounds_toArray, List.set_cons_zero, List.set_cons_succ])
      refine wpAnyH_ready (rs := [6]) (by kernel_rfl) (by simp) ?_
      refine AllReadyH.cons (o := { dst := some 9, op := Op.call { callee := Callee.value (Operand.func 36), args := #[Operand.tmp 4, Operand.tmp 8], argTypes := #[9, 53] }, type := 9, pos := "wire.go:271", after := #[{ on := 1, ground := Ground.data }, { on := 5, ground := Ground.data }, { on := 5, ground := Ground.chain }], guard := none }) rfl (fun K hK => ?_) AllReadyH.nil
      go_simp
      refine (HMM.out po pc _ HPN.out HPR.out).mono ?_; rintro e w2 ⟨rfl, b2⟩
      have BB := Lib.hid (below_step BB.out b2)
      clear b2
      refine hK.out _ _ (HSP.out _ BB.out) (fun hHeld => ?_)
      clear hK K
      (try simp only [Act.put, List.setIfInBounds_toArray, List.set_cons_zero, List.set_cons_succ])
      refine wpAnyH_ready (rs := [7]) (by kernel_rfl) (by simp) ?_
      refine AllReadyH.cons (o := { dst := none, op := Op.store 9 (Operand.tmp 2) (Operand.tmp 9), type := 0, pos := "wire.go:271", after := #[{ on := 6, ground := Ground.data }, { on := 6, ground := Ground.chain }, { on := 0, ground := Ground.phase }, { on := 1, ground := Ground.phase }, { on := 2, ground := Ground.phase }, { on := 3, ground := Ground.phase }, { on := 4, ground := Ground.phase }, { on := 5, ground := Ground.phase }, { on := 6, ground := Ground.phase }], guard := none }) rfl (fun K hK => ?_) AllReadyH.nil
      obtain ⟨k1, k2⟩ := HKEEP.out _ BB.out
      have q2 := k1.cell
      have q3 := k1.frozen
      have K1 := Lib.hid k1
      have K2 := Lib.hid k2
      clear k1 k2
      go_simp
      refine hK.out _ _ (HST.out _ BB.out _) (fun hHeld => ?_)
      clear hK K
      (try simp only [Act.put, List.setIfInBounds_toArray, List.set_cons_zero, List.set_cons_succ])
      refine wpAnyH_done (by kernel_rfl) ?_ _
      go_wp2_with fail
      go_end0
      have tr := turn_cell w2 s 0 (.string (tb R.1))
      exact ⟨(tr.block _ (Array.getElem?_eq_some_iff.1 K2.out).1 HNE.out).trans K2.out, .inl ⟨rfl, (HRE.out _ _).2 ⟨by rw [henc], by rw [henc]; exact K1.out.set _, turn_trans (turn_below BB.out) tr (fun _ e => .inl e)⟩⟩⟩
    · simp only [h0, if_false] at HMM
      have HMM := Lib.hid HMM
      go_enter Tryz.func35, Tryz.ntmps35
      go_wp2_with fail
      refine wp_region_held_drew (S := fun W => W.cell? ⟨p, 0, none⟩ = some (.string wd) ∧ W.cell? ⟨p, 2, none⟩ = some (.func (.func f2) #[] #[]) ∧ W.cell? ⟨g, 0, none⟩ = some (.int .u8 m.kind) ∧ W.cell? ⟨g, 1, none⟩ = some (.int .i64 m.c) ∧ W.cell? ⟨g, 2, none⟩ = some (.int .i64 m.e) ∧ W.cell? ⟨g, 3, none⟩ = some (.int .i64 m.q) ∧ W.cell? ⟨g, 4, none⟩ = some (.int .i64 m.aud) ∧ W.cell? ⟨g, 5, none⟩ = some (.slice ao m.mem.length cap) ∧ W.cell? ⟨g, 6, none⟩ = some (.string m.body) ∧ W.cell? ⟨g, 7, none⟩ = some (.bool m.yes) ∧ W.cell? ⟨g, 8, none⟩ = some (.string m.tag)) (by kernel_rfl) (by first | assumption | exact KS) (fun hHeld => ?_)
      generalize W.drew = wz at *
      refine wpAnyH_take (i := 0) (oi := { dst := some 3, op := Op.fieldAddr 59 (Operand.tmp 0) 0, type := 0, pos := "wire.go:271", after := #[], guard := none }) (v := ?_) rfl (by kernel_rfl) (by kernel_rfl) (by kernel_rfl) (fun _ _ _ h => h) (Or.inl ⟨by rfl, ?_⟩) (by assumption) ?_
      rotate_left 1
      · (intro w hSw; (try dsimp only at hSw); go_simp; try with_reducible rfl)
      (try simp only [Act.put, List.setIfInBounds_toArray, List.set_cons_zero, List.set_cons_succ])
      refine wpAnyH_take (i := 1) (oi := { dst := some 4, op := Op.load 9 (Operand.tmp 3), type := 9, pos := "wire.go:271", after := #[{ on := 0, ground := Ground.data }], guard := none }) (v := ?_) rfl (by kernel_rfl) (by kernel_rfl) (by kernel_rfl) (fun _ _ _ h => h) (Or.inl ⟨by rfl, ?_⟩) (by assumption) ?_
      rotate_left 1
      · (intro w hSw; (try dsimp only at hSw); go_simp; try with_reducible rfl)
      (try simp only [Act.put, List.setIfInBounds_toArray, List.set_cons_zero, List.set_cons_succ])
      refine wpAnyH_take (i := 2) (oi := { dst := some 5, op := Op.fieldAddr 59 (Operand.tmp 0) 2, type := 0, pos := "wire.go:271", after := #[], guard := none }) (v := ?_) rfl (by kernel_rfl) (by kernel_rfl) (by kernel_rfl) (fun _ _ _ h => h) (Or.inl ⟨by rfl, ?_⟩) (by assumption) ?_
      rotate_left 1
      · (intro w hSw; (try dsimp only at hSw); go_simp; try with_reducible rfl)
      (try simp only [Act.put, List.setIfInBounds_toArray, List.set_cons_zero, List.set_cons_succ])
      refine wpAnyH_take (i := 3) (oi := { dst := some 6, op := Op.load 56 (Operand.tmp 5), type := 56, pos := "wire.go:271", after := #[{ on := 2, ground := Ground.data }], guard := none }) (v := ?_) rfl (by kernel_rfl) (by kernel_rfl) (by kernel_rfl) (fun _ _ _ h => h) (Or.inl ⟨by rfl, ?_⟩) (by assumption) ?_
      rotate_left 1
      · (intro w hSw; (try dsimp only at hSw); go_simp; try with_reducible rfl)
      (try simp only [Act.put, List.setIfInBounds_toArray, List.set_cons_zero, List.set_cons_succ])
      refine wpAnyH_take (i := 4) (oi := { dst := some 7, op := Op.load 26 (Operand.tmp 1), type := 26, pos := "wire.go:271", after := #[], guard := none }) (v := ?_) rfl (by kernel_rfl) (by kernel_rfl) (by kernel_rfl) (fun _ _ _ h => h) (Or.inl ⟨by rfl, ?_⟩) (by assumption) ?_
      rotate_left 1
      · (intro w hSw; (try dsimp only at hSw); go_simp; try with_reducible rfl)
      (try simp only [Act.put, List.setIfInBounds_toArray, List.set_cons_zero, List.set_cons_succ])
      refine wpAnyH_ready (rs := [5]) (by kernel_rfl) (by simp) ?_
      refine AllReadyH.cons (o := { dst := some 8, op := Op.call { callee := Callee.value (Operand.tmp 6), args := #[Operand.tmp 7], argTypes := #[26] }, type := 53, pos := "wire.go:271", after := #[{ on := 3, ground := Ground.data }, { on := 4, ground := Ground.data }], guard := none }) rfl (fun K hK => ?_) AllReadyH.nil
      go_simp
      refine (HPF2.out _ BB.out).mono ?_; rintro e w1 ⟨⟨pv, rfl, ho⟩, b1⟩
      have BB := Lib.hid (below_step BB.out b1)
      obtain ⟨po, pc, rfl, hpn, hpr⟩ := own_shape13 ho
      have HPN := Lib.hid hpn
      have HPR := Lib.hid hpr
      clear ho b1 hpn hpr
      refine hK.out _ _ (HSP.out _ BB.out) (fun hHeld => ?_)
      clear hK K
      (try simp only [Act.put, List.setIfInBounds_toArray, List.set_cons_zero, List.set_cons_succ])
      refine wpAnyH_ready (rs := [6]) (by kernel_rfl) (by simp) ?_
      refine AllReadyH.cons (o := { dst := some 9, op := Op.call { callee := Callee.value (Operand.func 36), args := #[Operand.tmp 4, Operand.tmp 8], argTypes := #[9, 53] }, type := 9, pos := "wire.go:271", after := #[{ on := 1, ground := Ground.data }, { on := 5, ground := Ground.data }, { on := 5, ground := Ground.chain }], guard := none }) rfl (fun K hK => ?_) AllReadyH.nil
      go_simp
      refine (HMM.out po pc _ HPN.out HPR.out).mono ?_; rintro e w2 ⟨rfl, b2⟩
      have BB := Lib.hid (below_step BB.out b2)
      obtain ⟨k1, k2⟩ := HKEEP.out _ BB.out
      have K1 := Lib.hid k1
      have K2 := Lib.hid k2
      clear hK b2 k1 k2
      go_wp2_with fail
      exact ⟨by first | rfl | trivial, K2.out, .inr ⟨5, rfl, (HRE.out _ _).2 ⟨by rw [henc], by rw [henc]; exact K1.out, turn_below BB.out⟩⟩⟩
end Go.Proofs.YthemopejebioaaaGreat.Pl

namespace Go.Proofs.YthemopejebioaaaGreat.Pl
open Go.RowKit

theorem call_enc1 (args : Array Value) (V : World) : (callFunc 35 args).run Tryz.prog V = .ok (.enter 35 args) V := by kernel_rfl
theorem enc1c_any (m : Ms) (hm : mayP m = true) (hsz : ∀ x ∈ m.mem, x.2.size ≤ 30000) (hlen : m.mem.length ≤ 9223372036854775807) (ao : Option Addr) (cap p g s : Nat) (f1 f3 : FuncId) (V : World)
    (hp : V.heap[p]? = some (.cells #[.string (tb (wordP m.kind)), .func (.func f1) #[] #[], .func (.func (putF m.kind)) #[] #[], .func (.func f3) #[] #[]] 59 (0, 0))) (hg : GAt V g m (.slice ao m.mem.length cap)) (hs : Boxed V s 9 (.string ⟨#[]⟩)) (hps : p ≠ s) (hgs : g ≠ s) (hrow : MemRow V ao m.mem) :
    Calls Tryz.prog 34 #[.func (.func 35) #[] #[ptr12 p, ptr12 g, ptr12 s]] V fun x V2 => x = .returned (.int .i64 ((encP m).2 : Nat)) ∧ Boxed V2 s 9 (.string (tb (encP m).1)) ∧ Turn (· = s) V V2 := by
  have ba := (Below.refl V.heap.size V).alloc (Nat.le_refl _) (.cells #[.int .i64 0] 30)
  have hsl := (Array.getElem?_eq_some_iff.1 hs).1
  refine (caught_any 35 #[ptr12 p, ptr12 g, ptr12 s] call_enc1 V (RdEn m s (V.alloc (.cells #[.int .i64 0] 30)))
    (enc1_any m hm hsz hlen ao cap p g s V.heap.size _ f1 f3 ((ba.block p (Array.getElem?_eq_some_iff.1 hp).1).trans hp) (hg.below ba) ((ba.block s hsl).trans hs) (Boxed.new _ _ _) (by omega) hps hgs (hrow.below ba))).mono ?_
  rintro e V2 ⟨z, V1, rfl, ⟨rfl, q1, t1⟩, rfl⟩
  have tc := turn_cell V1 V.heap.size 0 (.int .i64 ((encP m).2 : Nat))
  refine ⟨rfl, (tc.block _ (Array.getElem?_eq_some_iff.1 q1).1 (by omega)).trans q1, ?_⟩
  exact turn_trans (turn_trans (turn_below ba) t1 (fun _ e => .inl e)) tc (fun b e => .inr (by rw [e]; exact Nat.le_refl _))

set_option maxHeartbeats 8000000 in
set_option maxRecDepth 100000 in
theorem enc12_any (m : Ms) (hk : m.kind ≤ 255) (ao : Option Addr) (cap : Nat) (hb : m.body.size ≤ 281474976710656) (ht : m.tag.size ≤ 281474976710656) (hms : ∀ x ∈ m.mem, x.2.size ≤ 30000) (hml : m.mem.length ≤ 9223372036854775807) (w : World) (hrow : MemRow w ao m.mem) :
    Calls Tryz.prog 9 #[.agg (msC m (.slice ao m.mem.length cap))] w fun x w' => x = .returned (st2 (encP m)) ∧ Below w.heap.size w w' := by
  have HN := Lib.hid (fun V => namings_any V)
  have HK := Lib.hid hk
  obtain ⟨W0, hW0⟩ : ∃ V, V = (w.alloc (.cells (msC m (.slice ao m.mem.length cap)) 26)).alloc (.cells #[.string ⟨#[]⟩] 9) := ⟨_, rfl⟩
  have g0 : GAt W0 w.heap.size m (.slice ao m.mem.length cap) := by rw [hW0]; exact (gat_new _ _ _).below ((Below.refl _ _).alloc (Nat.le_refl _) _)
  have s0 : Boxed W0 (w.heap.size + 1) 9 (.string ⟨#[]⟩) := by rw [hW0]; have h := Boxed.new (w.alloc (.cells (msC m (.slice ao m.mem.length cap)) 26)) 9 (.string ⟨#[]⟩); simpa using h
  have b0 : Below w.heap.size w W0 := by rw [hW0]; exact ((Below.refl _ _).alloc (Nat.le_refl _) _).alloc (by simp) _
  have z0 : W0.heap.size = w.heap.size + 2 := by rw [hW0]; simp
  have HCK := fun V (hV : Below w.heap.size w V) => check12_any m hk ao cap hb ht (fun x hx => by have := hms x hx; omega) hml V (hrow.below hV)
  have HKQ : Hid (∀ V, Below W0.heap.size W0 V → GAt V w.heap.size m (.slice ao m.mem.length cap) ∧ Boxed V (w.heap.size + 1) 9 (.string ⟨#[]⟩) ∧ MemRow V ao m.mem ∧ Below w.heap.size w V) := Lib.hid (fun V hV => ⟨g0.below hV, (hV.block _ (by omega)).trans s0, hrow.below (below_step b0 hV), below_step b0 hV⟩)
  have HCE : Hid (∀ V, GAt V w.heap.size m (.slice ao m.mem.length cap) → V.cell? ⟨w.heap.size, 0, none⟩ = some (.int .u8 m.kind) ∧ V.cell? ⟨w.heap.size, 1, none⟩ = some (.int .i64 m.c) ∧ V.cell? ⟨w.heap.size, 2, none⟩ = some (.int .i64 m.e) ∧ V.cell? ⟨w.heap.size, 3, none⟩ = some (.int .i64 m.q) ∧ V.cell? ⟨w.heap.size, 4, none⟩ = some (.int .i64 m.aud) ∧ V.cell? ⟨w.heap.size, 5, none⟩ = some (.slice ao m.mem.length cap) ∧ V.cell? ⟨w.heap.size, 6, none⟩ = some (.string m.body) ∧ V.cell? ⟨w.heap.size, 7, none⟩ = some (.bool m.yes) ∧ V.cell? ⟨w.heap.size, 8, none⟩ = some (.string m.tag)) := Lib.hid (fun V h => h.cells)
  obtain ⟨x0, x1, x2, x3, x4, x5, x6, x7, x8⟩ := HCE.out _ g0
  rw [hW0] at x0 x1 x2 x3 x4 x5 x6 x7 x8
  have HW0 := Lib.hid hW0
  have HB0 := Lib.hid b0
  have HZ0 := Lib.hid z0
  have HE1 := fun (hm : mayP m = true) p f1 f3 V => enc1c_any m hm hms hml ao cap p w.heap.size (w.heap.size + 1) f1 f3 V
  have hkm : mayP m = true → 1 ≤ m.kind ∧ m.kind ≤ 6 := may_kind
  have henc : mayP m = false → encP m = ([], 2) := fun h => by unfold encP; rw [if_pos h]
  clear g0 s0 b0 z0 hrow hms hml hb ht hk
  cases hm : mayP m with
  | false =>
    rw [hm] at HCK
    simp only [Bool.false_eq_true, if_false] at HCK
    have HCK := Lib.hid HCK
    rw [henc hm, show st2 (([] : List UInt8), 2) = .tuple #[.string ⟨#[]⟩, .int .i64 2] from rfl]
    clear hm henc hkm HE1 hW0
    go_enter Tryz.func9, Tryz.ntmps9
    go_wp2_with (first | (go_at_call 11; rw [← HW0.out]; refine (HCK.out _ HB0.out).mono ?_; rintro e1 V ⟨rfl, b1⟩; obtain ⟨-, q1, -, bV⟩ := HKQ.out _ b1; have q2 := q1.cell; have q3 := q1.frozen) | fail)
    have q4 := (q1.set (.string ⟨#[]⟩)).cell
    refine bodyPost_ret (results_str_tmp (fn := Tryz.f9) (p := 2) (u := 3) (ty := 9) rfl _ _ (w.heap.size + 1) (.string ⟨#[]⟩) rfl (by simp [go_sem, q4])) rfl ?_
    exact ⟨rfl, bV.trans (turn_to (turn_cell V (w.heap.size + 1) 0 _) (fun b e => by omega) bV.size)⟩
  | true =>
    rw [hm] at HCK
    simp only [if_true] at HCK
    have HCK := Lib.hid HCK
    have hk1 := hkm hm
    have HE := Lib.hid (fun p f1 f3 V => HE1 hm p f1 f3 V)
    have HI : Hid ((Lit.int .u8 (m.kind : Int), (.agg #[.string (tb (wordP m.kind)), .func (.func (mayF m.kind)) #[] #[], .func (.func (putF m.kind)) #[] #[], .func (.func (getF m.kind)) #[] #[]] : Value)) ∈ namT) := Lib.hid (name_in hk1)
    clear hm henc hkm HE1 hk1
    generalize tb (wordP m.kind) = wd at *
    generalize mayF m.kind = f1 at *
    generalize putF m.kind = f2 at *
    generalize getF m.kind = f3 at *
    rw [show st2 (encP m) = .tuple #[.string (tb (encP m).1), .int .i64 ((encP m).2 : Nat)] from rfl]
    generalize encP m = en at *
    obtain ⟨et, ee⟩ := en
    dsimp only at *
    go_enter Tryz.func9, Tryz.ntmps9
    go_wp2_with (first | (go_at_call 11; rw [← HW0.out]; refine (HCK.out _ HB0.out).mono ?_; rintro e1 V ⟨rfl, b1⟩) | fail)
    have BQ := Lib.hid (below_step b1 (drew12 V))
    have GG := Lib.hid (HKQ.out _ BQ.out).1
    have BB := Lib.hid (Below.refl V.drew.heap.size V.drew)
    have KS : V.drew.cell? ⟨w.heap.size, 0, none⟩ = some (.int .u8 m.kind) := (HCE.out _ GG.out).1
    clear x0 x1 x2 x3 x4 x5 x6 x7 x8 b1 hW0
    refine wp_region_held_drew (S := fun W => W.cell? ⟨w.heap.size, 0, none⟩ = some (.int .u8 m.kind)) (by kernel_rfl) (by first | assumption | exact KS) (fun hHeld => ?_)
    generalize V.drew = wz at *
    refine wpAnyH_take (i := 1) (oi := { dst := some 12, op := Op.fieldAddr 26 (Operand.tmp 1) 0, type := 0, pos := "wire.go:270", after := #[], guard := none }) (v := ?_) rfl (by kernel_rfl) (by kernel_rfl) (by kernel_rfl) (fun _ _ _ h => h) (Or.inl ⟨by rfl, ?_⟩) (by assumption) ?_
    rotate_left 1
    · (intro w hSw; (try dsimp only at hSw); go_simp; try with_reducible rfl)
    (try simp only [Act.put, List.setIfInBounds_toArray, List.set_cons_zero, List.set_cons_succ])
    refine wpAnyH_take (i := 2) (oi := { dst := some 13, op := Op.load 5 (Operand.tmp 12), type := 5, pos := "wire.go:270", after := #[{ on := 1, ground := Ground.data }], guard := none }) (v := ?_) rfl (by kernel_rfl) (by kernel_rfl) (by kernel_rfl) (fun _ _ _ h => h) (Or.inl ⟨by rfl, ?_⟩) (by assumption) ?_
    rotate_left 1
    · (intro w hSw; (try dsimp only at hSw); go_simp; try with_reducible rfl)
    (try simp only [Act.put, List.setIfInBounds_toArray, List.set_cons_zero, List.set_cons_succ])
    refine wpAnyH_ready (rs := [0, 4]) (by kernel_rfl) (by simp) ?_
    refine AllReadyH.cons (o := { dst := some 11, op := Op.call { callee := Callee.value (Operand.func 33), args := #[], argTypes := #[] }, type := 60, pos := "wire.go:270", after := #[], guard := none }) rfl (fun K hK => ?_) (AllReadyH.cons (o := { dst := some 5, op := Op.alloc 59, type := 0, pos := "wire.go:270", after := #[], guard := none }) rfl (fun K hK => ?_) (AllReadyH.nil))
    · go_simp
      refine (HN.out _).mono ?_; rintro e w1 ⟨⟨mp, rfl, hm⟩, bb⟩
      have GG := Lib.hid (GG.out.below bb)
      have BB := Lib.hid (below_step BB.out bb)
      have HM := Lib.hid hm
      clear bb hm
      refine hK.out _ _ (HCE.out _ GG.out).1 (fun hHeld => ?_)
      clear hK K
      (try simp only [Act.put, List.setIfInBounds_toArray, List.set_cons_zero, List.set_cons_succ])
      refine wpAnyH_ready (rs := [3, 4]) (by kernel_rfl) (by simp) ?_
      refine AllReadyH.cons (o := { dst := some 14, op := Op.lookup 60 (Operand.tmp 11) (Operand.tmp 13) false, type := 59, pos := "wire.go:270", after := #[{ on := 0, ground := Ground.data }, { on := 2, ground := Ground.data }], guard := none }) rfl (fun K hK => ?_) (AllReadyH.cons (o := { dst := some 5, op := Op.alloc 59, type := 0, pos := "wire.go:270", after := #[], guard := none }) rfl (fun K hK => ?_) (AllReadyH.nil))
      · refine wpOp_look12 (by kernel_rfl) _ _ _ _ rfl _ _ _ rfl rfl ((HM.out.look keyed_u8 Tryz.underlying60 (zero_nam _) (key_u8 HK.out) HI.out).1) ?_
        refine hK.out _ _ (HCE.out _ GG.out).1 (fun hHeld => ?_)
        clear hK K
        (try simp only [Act.put, List.setIfInBounds_toArray, List.set_cons_zero, List.set_cons_succ])
        refine wpAnyH_ready (rs := [4]) (by kernel_rfl) (by simp) ?_
        refine AllReadyH.cons (o := { dst := some 5, op := Op.alloc 59, type := 0, pos := "wire.go:270", after := #[], guard := none }) rfl (fun K hK => ?_) (AllReadyH.nil)
        go_simp
        obtain ⟨p, hp⟩ : ∃ p, p = w1.heap.size := ⟨_, rfl⟩
        obtain ⟨w2, hw2⟩ : ∃ V, V = w1.alloc (.cells #[.string ⟨#[]⟩, .nilFunc, .nilFunc, .nilFunc] 59) := ⟨_, rfl⟩
        have ba : Below w1.heap.size w1 w2 := by rw [hw2]; exact (Below.refl _ _).alloc (Nat.le_refl _) _
        have NP := Lib.hid (show w2.heap[p]? = some (.cells #[.string ⟨#[]⟩, .nilFunc, .nilFunc, .nilFunc] 59 (0, 0)) from by rw [hw2, hp]; exact Go.heap_alloc_new _ _)
        have HP : Hid (wz.heap.size ≤ p) := Lib.hid (by rw [hp]; exact BB.out.size)
        have HPN : Hid (w.heap.size < p) := Lib.hid (by rw [hp]; exact GG.out.lt)
        have GG := Lib.hid (GG.out.below ba)
        have BB := Lib.hid (below_step BB.out ba)
        have HM := Lib.hid (HM.out.below ba)
        rw [← hw2, ← hp]
        clear ba hw2 hp
        refine hK.out _ _ (HCE.out _ GG.out).1 (fun hHeld => ?_)
        clear hK K
        (try simp only [Act.put, List.setIfInBounds_toArray, List.set_cons_zero, List.set_cons_succ])
        refine wpAnyH_ready (rs := [5]) (by kernel_rfl) (by simp) ?_
        refine AllReadyH.cons (o := { dst := none, op := Op.store 59 (Operand.tmp 5) (Operand.tmp 14), type := 0, pos := "wire.go:270", after := #[{ on := 4, ground := Ground.data }, { on := 3, ground := Ground.data }, { on := 0, ground := Ground.chain }, { on := 0, ground := Ground.phase }, { on := 1, ground := Ground.phase }, { on := 2, ground := Ground.phase }, { on := 3, ground := Ground.phase }, { on := 4, ground := Ground.phase }], guard := none }) rfl (fun K hK => ?_) AllReadyH.nil
        refine wpOp_storeR (by kernel_rfl) 59 _ _ rfl p #[.string wd, .func (.func f1) #[] #[], .func (.func f2) #[] #[], .func (.func f3) #[] #[]] rfl rfl 59 #[.string ⟨#[]⟩, .nilFunc, .nilFunc, .nilFunc] NP.out (nam_info _ _ _ _) rfl (nam_one _ _ _ _) ?_
        obtain ⟨WS, hWS⟩ : ∃ W, W = w2.setRow p #[.string wd, .func (.func f1) #[] #[], .func (.func f2) #[] #[], .func (.func f3) #[] #[]] := ⟨_, rfl⟩
        have BS := Lib.hid (show Below wz.heap.size wz WS from hWS ▸ BB.out.trans (turn_to (turn_row w2 p _) (fun b e => e ▸ HP.out) BB.out.size))
        have NS := Lib.hid (show WS.heap[p]? = some (.cells #[.string wd, .func (.func f1) #[] #[], .func (.func f2) #[] #[], .func (.func f3) #[] #[]] 59 (0, 0)) from hWS ▸ setRow_heap _ _ _ _ _ _ NP.out)
        have GS := Lib.hid (show GAt WS w.heap.size m (.slice ao m.mem.length cap) from hWS ▸ GG.out.turn (turn_row w2 p _) (fun e => by have := HPN.out; omega))
        rw [← hWS]
        clear hWS BB NP GG
        refine hK.out _ _ (HCE.out _ GS.out).1 (fun hHeld => ?_)
        clear hK K
        (try simp only [Act.put])
        refine wpAnyH_done (by kernel_rfl) ?_ _
        have BW := BQ.out.trans (BS.out.mono BQ.out.size)
        obtain ⟨k1, k2, k3, k4⟩ := HKQ.out _ BW
        have HP2 : Hid (p ≠ w.heap.size + 1) := Lib.hid (by have := HP.out; have := BQ.out.size; have := HZ0.out; omega)
        have HC := Lib.hid (HE.out p f1 f3 WS NS.out GS.out k2 HP2.out (by omega) k3)
        have K4 := Lib.hid k4
        clear k1 k2 k3 k4 BW
        go_wp2_with (first | (go_at_call 34; refine HC.out.mono ?_; rintro e2 V2 ⟨rfl, q1, tt⟩; have q2 := q1.cell; have q3 := q1.frozen) | fail)
        have q4 := (q1.set (.string (tb et))).cell
        refine bodyPost_ret (results_str_tmp (fn := Tryz.f9) (p := 2) (u := 3) (ty := 9) rfl _ _ (w.heap.size + 1) (.string (tb et)) rfl (by simp [go_sem, q4])) rfl ?_
        have BV2 := K4.out.trans (turn_to tt (fun b e => by omega) K4.out.size)
        exact ⟨rfl, BV2.trans (turn_to (turn_cell V2 (w.heap.size + 1) 0 _) (fun b e => by omega) BV2.size)⟩
      · go_simp
        obtain ⟨p, hp⟩ : ∃ p, p = w1.heap.size := ⟨_, rfl⟩
        obtain ⟨w2, hw2⟩ : ∃ V, V = w1.alloc (.cells #[.string ⟨#[]⟩, .nilFunc, .nilFunc, .nilFunc] 59) := ⟨_, rfl⟩
        have ba : Below w1.heap.size w1 w2 := by rw [hw2]; exact (Below.refl _ _).alloc (Nat.le_refl _) _
        have NP := Lib.hid (show w2.heap[p]? = some (.cells #[.string ⟨#[]⟩, .nilFunc, .nilFunc, .nilFunc] 59 (0, 0)) from by rw [hw2, hp]; exact Go.heap_alloc_new _ _)
        have HP : Hid (wz.heap.size ≤ p) := Lib.hid (by rw [hp]; exact BB.out.size)
        have HPN : Hid (w.heap.size < p) := Lib.hid (by rw [hp]; exact GG.out.lt)
        have GG := Lib.hid (GG.out.below ba)
        have BB := Lib.hid (below_step BB.out ba)
        have HM := Lib.hid (HM.out.below ba)
        rw [← hw2, ← hp]
        clear ba hw2 hp
        refine hK.out _ _ (HCE.out _ GG.out).1 (fun hHeld => ?_)
        clear hK K
        (try simp only [Act.put, List.setIfInBounds_toArray, List.set_cons_zero, List.set_cons_succ])
        refine wpAnyH_ready (rs := [3]) (by kernel_rfl) (by simp) ?_
        refine AllReadyH.cons (o := { dst := some 14, op := Op.lookup 60 (Operand.tmp 11) (Operand.tmp 13) false, type := 59, pos := "wire.go:270", after := #[{ on := 0, ground := Ground.data }, { on := 2, ground := Ground.data }], guard := none }) rfl (fun K hK => ?_) (AllReadyH.nil)
        refine wpOp_look12 (by kernel_rfl) _ _ _ _ rfl _ _ _ rfl rfl ((HM.out.look keyed_u8 Tryz.underlying60 (zero_nam _) (key_u8 HK.out) HI.out).1) ?_
        refine hK.out _ _ (HCE.out _ GG.out).1 (fun hHeld => ?_)
        clear hK K
        (try simp only [Act.put, List.setIfInBounds_toArray, List.set_cons_zero, List.set_cons_succ])
        refine wpAnyH_ready (rs := [5]) (by kernel_rfl) (by simp) ?_
        refine AllReadyH.cons (o := { dst := none, op := Op.store 59 (Operand.tmp 5) (Operand.tmp 14), type := 0, pos := "wire.go:270", after := #[{ on := 4, ground := Ground.data }, { on := 3, ground := Ground.data }, { on := 0, ground := Ground.chain }, { on := 0, ground := Ground.phase }, { on := 1, ground := Ground.phase }, { on := 2, ground := Ground.phase }, { on := 3, ground := Ground.phase }, { on := 4, ground := Ground.phase }], guard := none }) rfl (fun K hK => ?_) AllReadyH.nil
        refine wpOp_storeR (by kernel_rfl) 59 _ _ rfl p #[.string wd, .func (.func f1) #[] #[], .func (.func f2) #[] #[], .func (.func f3) #[] #[]] rfl rfl 59 #[.string ⟨#[]⟩, .nilFunc, .nilFunc, .nilFunc] NP.out (nam_info _ _ _ _) rfl (nam_one _ _ _ _) ?_
        obtain ⟨WS, hWS⟩ : ∃ W, W = w2.setRow p #[.string wd, .func (.func f1) #[] #[], .func (.func f2) #[] #[], .func (.func f3) #[] #[]] := ⟨_, rfl⟩
        have BS := Lib.hid (show Below wz.heap.size wz WS from hWS ▸ BB.out.trans (turn_to (turn_row w2 p _) (fun b e => e ▸ HP.out) BB.out.size))
        have NS := Lib.hid (show WS.heap[p]? = some (.cells #[.string wd, .func (.func f1) #[] #[], .func (.func f2) #[] #[], .func (.func f3) #[] #[]] 59 (0, 0)) from hWS ▸ setRow_heap _ _ _ _ _ _ NP.out)
        have GS := Lib.hid (show GAt WS w.heap.size m (.slice ao m.mem.length cap) from hWS ▸ GG.out.turn (turn_row w2 p _) (fun e => by have := HPN.out; omega))
        rw [← hWS]
        clear hWS BB NP GG
        refine hK.out _ _ (HCE.out _ GS.out).1 (fun hHeld => ?_)
        clear hK K
        (try simp only [Act.put])
        refine wpAnyH_done (by kernel_rfl) ?_ _
        have BW := BQ.out.trans (BS.out.mono BQ.out.size)
        obtain ⟨k1, k2, k3, k4⟩ := HKQ.out _ BW
        have HP2 : Hid (p ≠ w.heap.size + 1) := Lib.hid (by have := HP.out; have := BQ.out.size; have := HZ0.out; omega)
        have HC := Lib.hid (HE.out p f1 f3 WS NS.out GS.out k2 HP2.out (by omega) k3)
        have K4 := Lib.hid k4
        clear k1 k2 k3 k4 BW
        go_wp2_with (first | (go_at_call 34; refine HC.out.mono ?_; rintro e2 V2 ⟨rfl, q1, tt⟩; have q2 := q1.cell; have q3 := q1.frozen) | fail)
        have q4 := (q1.set (.string (tb et))).cell
        refine bodyPost_ret (results_str_tmp (fn := Tryz.f9) (p := 2) (u := 3) (ty := 9) rfl _ _ (w.heap.size + 1) (.string (tb et)) rfl (by simp [go_sem, q4])) rfl ?_
        have BV2 := K4.out.trans (turn_to tt (fun b e => by omega) K4.out.size)
        exact ⟨rfl, BV2.trans (turn_to (turn_cell V2 (w.heap.size + 1) 0 _) (fun b e => by omega) BV2.size)⟩
    · go_simp
      obtain ⟨p, hp⟩ : ∃ p, p = wz.heap.size := ⟨_, rfl⟩
      obtain ⟨w1, hw2⟩ : ∃ V, V = wz.alloc (.cells #[.string ⟨#[]⟩, .nilFunc, .nilFunc, .nilFunc] 59) := ⟨_, rfl⟩
      have ba : Below wz.heap.size wz w1 := by rw [hw2]; exact (Below.refl _ _).alloc (Nat.le_refl _) _
      have NP := Lib.hid (show w1.heap[p]? = some (.cells #[.string ⟨#[]⟩, .nilFunc, .nilFunc, .nilFunc] 59 (0, 0)) from by rw [hw2, hp]; exact Go.heap_alloc_new _ _)
      have HP : Hid (wz.heap.size ≤ p) := Lib.hid (by rw [hp]; exact BB.out.size)
      have HPN : Hid (w.heap.size < p) := Lib.hid (by rw [hp]; exact GG.out.lt)
      have GG := Lib.hid (GG.out.below ba)
      have BB := Lib.hid (below_step BB.out ba)
      rw [← hw2, ← hp]
      clear ba hw2 hp
      refine hK.out _ _ (HCE.out _ GG.out).1 (fun hHeld => ?_)
      clear hK K
      (try simp only [Act.put, List.setIfInBounds_toArray, List.set_cons_zero, List.set_cons_succ])
      refine wpAnyH_ready (rs := [0]) (by kernel_rfl) (by simp) ?_
      refine AllReadyH.cons (o := { dst := some 11, op := Op.call { callee := Callee.value (Operand.func 33), args := #[], argTypes := #[] }, type := 60, pos := "wire.go:270", after := #[], guard := none }) rfl (fun K hK => ?_) (AllReadyH.nil)
      go_simp
      refine (HN.out _).mono ?_; rintro e w2 ⟨⟨mp, rfl, hm⟩, bb⟩
      have GG := Lib.hid (GG.out.below bb)
      have BB := Lib.hid (below_step BB.out bb)
      have HM := Lib.hid hm
      have NP := Lib.hid ((bb.block p (Array.getElem?_eq_some_iff.1 NP.out).1).trans NP.out)
      clear bb hm
      refine hK.out _ _ (HCE.out _ GG.out).1 (fun hHeld => ?_)
      clear hK K
      (try simp only [Act.put, List.setIfInBounds_toArray, List.set_cons_zero, List.set_cons_succ])
      refine wpAnyH_ready (rs := [3]) (by kernel_rfl) (by simp) ?_
      refine AllReadyH.cons (o := { dst := some 14, op := Op.lookup 60 (Operand.tmp 11) (Operand.tmp 13) false, type := 59, pos := "wire.go:270", after := #[{ on := 0, ground := Ground.data }, { on := 2, ground := Ground.data }], guard := none }) rfl (fun K hK => ?_) (AllReadyH.nil)
      refine wpOp_look12 (by kernel_rfl) _ _ _ _ rfl _ _ _ rfl rfl ((HM.out.look keyed_u8 Tryz.underlying60 (zero_nam _) (key_u8 HK.out) HI.out).1) ?_
      refine hK.out _ _ (HCE.out _ GG.out).1 (fun hHeld => ?_)
      clear hK K
      (try simp only [Act.put, List.setIfInBounds_toArray, List.set_cons_zero, List.set_cons_succ])
      refine wpAnyH_ready (rs := [5]) (by kernel_rfl) (by simp) ?_
      refine AllReadyH.cons (o := { dst := none, op := Op.store 59 (Operand.tmp 5) (Operand.tmp 14), type := 0, pos := "wire.go:270", after := #[{ on := 4, ground := Ground.data }, { on := 3, ground := Ground.data }, { on := 0, ground := Ground.chain }, { on := 0, ground := Ground.phase }, { on := 1, ground := Ground.phase }, { on := 2, ground := Ground.phase }, { on := 3, ground := Ground.phase }, { on := 4, ground := Ground.phase }], guard := none }) rfl (fun K hK => ?_) AllReadyH.nil
      refine wpOp_storeR (by kernel_rfl) 59 _ _ rfl p #[.string wd, .func (.func f1) #[] #[], .func (.func f2) #[] #[], .func (.func f3) #[] #[]] rfl rfl 59 #[.string ⟨#[]⟩, .nilFunc, .nilFunc, .nilFunc] NP.out (nam_info _ _ _ _) rfl (nam_one _ _ _ _) ?_
      obtain ⟨WS, hWS⟩ : ∃ W, W = w2.setRow p #[.string wd, .func (.func f1) #[] #[], .func (.func f2) #[] #[], .func (.func f3) #[] #[]] := ⟨_, rfl⟩
      have BS := Lib.hid (show Below wz.heap.size wz WS from hWS ▸ BB.out.trans (turn_to (turn_row w2 p _) (fun b e => e ▸ HP.out) BB.out.size))
      have NS := Lib.hid (show WS.heap[p]? = some (.cells #[.string wd, .func (.func f1) #[] #[], .func (.func f2) #[] #[], .func (.func f3) #[] #[]] 59 (0, 0)) from hWS ▸ setRow_heap _ _ _ _ _ _ NP.out)
      have GS := Lib.hid (show GAt WS w.heap.size m (.slice ao m.mem.length cap) from hWS ▸ GG.out.turn (turn_row w2 p _) (fun e => by have := HPN.out; omega))
      rw [← hWS]
      clear hWS BB NP GG
      refine hK.out _ _ (HCE.out _ GS.out).1 (fun hHeld => ?_)
      clear hK K
      (try simp only [Act.put])
      refine wpAnyH_done (by kernel_rfl) ?_ _
      have BW := BQ.out.trans (BS.out.mono BQ.out.size)
      obtain ⟨k1, k2, k3, k4⟩ := HKQ.out _ BW
      have HP2 : Hid (p ≠ w.heap.size + 1) := Lib.hid (by have := HP.out; have := BQ.out.size; have := HZ0.out; omega)
      have HC := Lib.hid (HE.out p f1 f3 WS NS.out GS.out k2 HP2.out (by omega) k3)
      have K4 := Lib.hid k4
      clear k1 k2 k3 k4 BW
      go_wp2_with (first | (go_at_call 34; refine HC.out.mono ?_; rintro e2 V2 ⟨rfl, q1, tt⟩; have q2 := q1.cell; have q3 := q1.frozen) | fail)
      have q4 := (q1.set (.string (tb et))).cell
      refine bodyPost_ret (results_str_tmp (fn := Tryz.f9) (p := 2) (u := 3) (ty := 9) rfl _ _ (w.heap.size + 1) (.string (tb et)) rfl (by simp [go_sem, q4])) rfl ?_
      have BV2 := K4.out.trans (turn_to tt (fun b e => by omega) K4.out.size)
      exact ⟨rfl, BV2.trans (turn_to (turn_cell V2 (w.heap.size + 1) 0 _) (fun b e => by omega) BV2.size)⟩
end Go.Proofs.YthemopejebioaaaGreat.Pl
