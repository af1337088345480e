/- Whether two messages are the same. -/
import Derived.Test.YthemopejebioaaaGreatWireY15
namespace Go.Proofs.YthemopejebioaaaGreat.Pl
open Go.RowKit

noncomputable def eqL (l k : List Mb) : Bool := @decide (l = k) (Classical.propDecidable _)
noncomputable def eqM (m n : Ms) : Bool := @decide (m = n) (Classical.propDecidable _)
theorem eqL_yes {l k : List Mb} (h : l = k) : eqL l k = true := by unfold eqL; exact @decide_eq_true _ (Classical.propDecidable _) h
theorem eqL_no {l k : List Mb} (h : ¬ l = k) : eqL l k = false := by unfold eqL; exact @decide_eq_false _ (Classical.propDecidable _) h
theorem eqM_yes {m n : Ms} (h : m = n) : eqM m n = true := by unfold eqM; exact @decide_eq_true _ (Classical.propDecidable _) h
theorem eqM_no {m n : Ms} (h : ¬ m = n) : eqM m n = false := by unfold eqM; exact @decide_eq_false _ (Classical.propDecidable _) h
theorem mem_neq (a a' : Int) (d d' : ByteArray) (V : World) : (binOp .neq 81 (.agg #[.int .i64 a, .string d]) (.agg #[.int .i64 a', .string d'])).run Tryz.prog V = .ok (.bool (!(a == a' && d.toList == d'.toList))) V := by
  by_cases h : a = a'
  · subst h
    by_cases h2 : d = d'
    · subst h2
      simp [go_sem]
    · have := str_ne12 h2
      simp [go_sem, this.1]
  · have : (a == a') = false := beq_eq_false_iff_ne.2 h
    simp [go_sem, this]

set_option maxHeartbeats 8000000 in
set_option maxRecDepth 100000 in
theorem samem_any (l k : List Mb) (ao bo : Option Addr) (c1 c2 : Nat) (hl : l.length ≤ 1000000) (w : World) (hr1 : MemRow w ao l) (hr2 : MemRow w bo k) :
    Calls Tryz.prog 31 #[.slice ao l.length c1, .slice bo k.length c2] w fun x w' => x = .returned (.bool (eqL l k)) ∧ Below w.heap.size w w' := by
  obtain ⟨n, hn⟩ : ∃ n, n = l.length := ⟨_, rfl⟩
  obtain ⟨n2, hn2⟩ : ∃ n, n = k.length := ⟨_, rfl⟩
  obtain ⟨z, hz⟩ : ∃ z, z = eqL l k := ⟨_, rfl⟩
  rw [← hn, ← hn2, ← hz]
  have hnq := mem_neq
  by_cases hlen : n = n2
  · subst hlen
    have hl' : n ≤ 1000000 := by omega
    have HZ := Lib.hid hz
    have HN := Lib.hid (show n = l.length ∧ n = k.length from ⟨hn, hn2⟩)
    have HR1 := Lib.hid (fun V (hV : Below w.heap.size w V) => hr1.below hV)
    have HR2 := Lib.hid (fun V (hV : Below w.heap.size w V) => hr2.below hV)
    clear hz hn hn2 hr1 hr2 hl
    go_enter Tryz.func31, Tryz.ntmps31
    go_wp2_with fail
    go_loopw [5] (fun iv wr => ∃ j : Nat, iv = .int .i64 j ∧ j ≤ n ∧ Hid (l.take j = k.take j) ∧ Hid (Below w.heap.size w wr)) (fun iv _ => n - (intOf iv).toNat)
    case atStart => exact ⟨0, rfl, Nat.zero_le _, Lib.hid rfl, Lib.hid (Below.refl _ _)⟩
    case round =>
      obtain ⟨j, rfl, hjn, hst, hb⟩ := hrel
      by_cases hj : j < n
      · have hj' : (j : Int) < (n : Int) := by omega
        have hj1 : j < l.length := by rw [← HN.out.1]; exact hj
        have hj2 : j < k.length := by rw [← HN.out.2]; exact hj
        rcases HR1.out _ hb.out with e | ⟨b, off, rfl, hlt, hcs⟩
        · exfalso; rw [e] at hj1; exact absurd hj1 (Nat.not_lt_zero _)
        rcases HR2.out _ hb.out with e | ⟨b2, off2, rfl, hlt2, hcs2⟩
        · exfalso; rw [e] at hj2; exact absurd hj2 (Nat.not_lt_zero _)
        obtain ⟨x0, x1⟩ := hcs j hj1
        obtain ⟨y0, y1⟩ := hcs2 j hj2
        have HYES : Hid (l[j] = k[j] → l.take (j + 1) = k.take (j + 1)) := Lib.hid (fun e => by rw [List.take_succ_eq_append_getElem hj1, List.take_succ_eq_append_getElem hj2, hst.out, e])
        have HNO : Hid (¬ l[j] = k[j] → z = false) := Lib.hid (fun e => by rw [HZ.out]; exact eqL_no (fun h => e (by subst h; rfl)))
        generalize l[j] = m1 at *
        generalize k[j] = m2 at *
        obtain ⟨o1, d1⟩ := m1
        obtain ⟨o2, d2⟩ := m2
        dsimp only at *
        have KS : wr.drew.cell? ⟨b, off + j * 2, none⟩ = some (.int .i64 o1) ∧ wr.drew.cell? ⟨b, off + j * 2 + 1, none⟩ = some (.string d1) ∧ wr.drew.cell? ⟨b2, off2 + j * 2, none⟩ = some (.int .i64 o2) ∧ wr.drew.cell? ⟨b2, off2 + j * 2 + 1, none⟩ = some (.string d2) := ⟨x0, x1, y0, y1⟩
        have hb := Lib.hid (hb.out.drew)
        clear hcs hcs2 hlt hlt2 hj1 hj2 x0 x1 y0 y1 hst
        by_cases ho : o1 = o2
        · subst ho
          by_cases hd : d1 = d2
          · subst hd
            have HT := Lib.hid (HYES.out rfl)
            clear HYES HNO
            go_wp2_with fail
            refine wp_region_held_drew (S := fun W => W.cell? ⟨b, off + j * 2, none⟩ = some (.int .i64 o1) ∧ W.cell? ⟨b, off + j * 2 + 1, none⟩ = some (.string d1) ∧ W.cell? ⟨b2, off2 + j * 2, none⟩ = some (.int .i64 o1) ∧ W.cell? ⟨b2, off2 + j * 2 + 1, none⟩ = some (.string d1)) (by kernel_rfl) (by first | assumption | exact KS) (fun hHeld => ?_)
            generalize wr.drew = wz at *
            refine wpAnyH_take (i := 0) (oi := { dst := some 17, op := Op.move (Operand.tmp 0), type := 24, pos := "ref.go:125", after := #[], guard := none }) (v := ?_) rfl (by kernel_rfl) (by kernel_rfl) (by kernel_rfl) (fun _ _ _ h => h) (Or.inl ⟨by rfl, ?_⟩) (by assumption) ?_
            rotate_left 1
            · (intro w hSw; (try dsimp only at hSw); go_simp; try with_reducible rfl)
            (try simp only [Act.put, List.setIfInBounds_toArray, List.set_cons_zero, List.set_cons_succ])
            refine wpAnyH_take (i := 1) (oi := { dst := some 18, op := Op.move (Operand.tmp 5), type := 3, pos := "ref.go:125", after := #[], guard := none }) (v := ?_) rfl (by kernel_rfl) (by kernel_rfl) (by kernel_rfl) (fun _ _ _ h => h) (Or.inl ⟨by rfl, ?_⟩) (by assumption) ?_
            rotate_left 1
            · (intro w hSw; (try dsimp only at hSw); go_simp; try with_reducible rfl)
            (try simp only [Act.put, List.setIfInBounds_toArray, List.set_cons_zero, List.set_cons_succ])
            refine wpAnyH_take (i := 2) (oi := { dst := some 19, op := Op.indexAddr 24 (Operand.tmp 17) (Operand.tmp 18), type := 0, pos := "ref.go:125", after := #[{ on := 0, ground := Ground.data }, { on := 1, ground := Ground.data }], guard := none }) (v := ?_) rfl (by kernel_rfl) (by kernel_rfl) (by kernel_rfl) (fun _ _ _ h => h) (Or.inl ⟨by rfl, ?_⟩) (by assumption) ?_
            rotate_left 1
            · (intro w hSw; (try dsimp only at hSw); go_simp; try with_reducible rfl)
            (try simp only [Act.put, List.setIfInBounds_toArray, List.set_cons_zero, List.set_cons_succ])
            refine wpAnyH_take (i := 3) (oi := { dst := some 20, op := Op.load 81 (Operand.tmp 19), type := 81, pos := "ref.go:125", after := #[{ on := 2, ground := Ground.data }], guard := none }) (v := ?_) rfl (by kernel_rfl) (by kernel_rfl) (by kernel_rfl) (fun _ _ _ h => h) (Or.inl ⟨by rfl, ?_⟩) (by assumption) ?_
            rotate_left 1
            · (intro w hSw; (try dsimp only at hSw); go_simp; try with_reducible rfl)
            (try simp only [Act.put, List.setIfInBounds_toArray, List.set_cons_zero, List.set_cons_succ])
            refine wpAnyH_take (i := 4) (oi := { dst := some 21, op := Op.move (Operand.tmp 1), type := 24, pos := "ref.go:125", after := #[], guard := none }) (v := ?_) rfl (by kernel_rfl) (by kernel_rfl) (by kernel_rfl) (fun _ _ _ h => h) (Or.inl ⟨by rfl, ?_⟩) (by assumption) ?_
            rotate_left 1
            · (intro w hSw; (try dsimp only at hSw); go_simp; try with_reducible rfl)
            (try simp only [Act.put, List.setIfInBounds_toArray, List.set_cons_zero, List.set_cons_succ])
            refine wpAnyH_take (i := 5) (oi := { dst := some 22, op := Op.move (Operand.tmp 5), type := 3, pos := "ref.go:125", after := #[], guard := none }) (v := ?_) rfl (by kernel_rfl) (by kernel_rfl) (by kernel_rfl) (fun _ _ _ h => h) (Or.inl ⟨by rfl, ?_⟩) (by assumption) ?_
            rotate_left 1
            · (intro w hSw; (try dsimp only at hSw); go_simp; try with_reducible rfl)
            (try simp only [Act.put, List.setIfInBounds_toArray, List.set_cons_zero, List.set_cons_succ])
            refine wpAnyH_take (i := 6) (oi := { dst := some 23, op := Op.indexAddr 24 (Operand.tmp 21) (Operand.tmp 22), type := 0, pos := "ref.go:125", after := #[{ on := 4, ground := Ground.data }, { on := 5, ground := Ground.data }], guard := none }) (v := ?_) rfl (by kernel_rfl) (by kernel_rfl) (by kernel_rfl) (fun _ _ _ h => h) (Or.inl ⟨by rfl, ?_⟩) (by assumption) ?_
            rotate_left 1
            · (intro w hSw; (try dsimp only at hSw); go_simp; try with_reducible rfl)
            (try simp only [Act.put, List.setIfInBounds_toArray, List.set_cons_zero, List.set_cons_succ])
            refine wpAnyH_take (i := 7) (oi := { dst := some 24, op := Op.load 81 (Operand.tmp 23), type := 81, pos := "ref.go:125", after := #[{ on := 6, ground := Ground.data }], guard := none }) (v := ?_) rfl (by kernel_rfl) (by kernel_rfl) (by kernel_rfl) (fun _ _ _ h => h) (Or.inl ⟨by rfl, ?_⟩) (by assumption) ?_
            rotate_left 1
            · (intro w hSw; (try dsimp only at hSw); go_simp; try with_reducible rfl)
            (try simp only [Act.put, List.setIfInBounds_toArray, List.set_cons_zero, List.set_cons_succ])
            refine wpAnyH_take (i := 8) (oi := { dst := some 25, op := Op.binOp BinOp.neq 81 (Operand.tmp 20) (Operand.tmp 24) 81, type := 4, pos := "ref.go:125", after := #[{ on := 3, ground := Ground.data }, { on := 7, ground := Ground.data }], guard := none }) (v := ?_) rfl (by kernel_rfl) (by kernel_rfl) (by kernel_rfl) (fun _ _ _ h => h) (Or.inl ⟨by rfl, ?_⟩) (by assumption) ?_
            rotate_left 1
            · (intro w hSw; (try dsimp only at hSw); go_simp; try with_reducible rfl)
            (try simp only [Act.put, List.setIfInBounds_toArray, List.set_cons_zero, List.set_cons_succ])
            refine wpAnyH_done (by kernel_rfl) ?_ _
            go_wp2_with fail
            go_roundw
            case rel => exact ⟨j + 1, by go_num, by omega, HT, hb⟩
            case measure => simp [intOf]; omega
          · have hF := HNO.out (fun e => hd (by injection e))
            have hne := (str_ne12 hd).1
            subst hF
            clear HYES HNO
            go_wp2_with fail
            refine wp_region_held_drew (S := fun W => W.cell? ⟨b, off + j * 2, none⟩ = some (.int .i64 o1) ∧ W.cell? ⟨b, off + j * 2 + 1, none⟩ = some (.string d1) ∧ W.cell? ⟨b2, off2 + j * 2, none⟩ = some (.int .i64 o1) ∧ W.cell? ⟨b2, off2 + j * 2 + 1, none⟩ = some (.string d2)) (by kernel_rfl) (by first | assumption | exact KS) (fun hHeld => ?_)
            generalize wr.drew = wz at *
            refine wpAnyH_take (i := 0) (oi := { dst := some 17, op := Op.move (Operand.tmp 0), type := 24, pos := "ref.go:125", after := #[], guard := none }) (v := ?_) rfl (by kernel_rfl) (by kernel_rfl) (by kernel_rfl) (fun _ _ _ h => h) (Or.inl ⟨by rfl, ?_⟩) (by assumption) ?_
            rotate_left 1
            · (intro w hSw; (try dsimp only at hSw); go_simp; try with_reducible rfl)
            (try simp only [Act.put, List.setIfInBounds_toArray, List.set_cons_zero, List.set_cons_succ])
            refine wpAnyH_take (i := 1) (oi := { dst := some 18, op := Op.move (Operand.tmp 5), type := 3, pos := "ref.go:125", after := #[], guard := none }) (v := ?_) rfl (by kernel_rfl) (by kernel_rfl) (by kernel_rfl) (fun _ _ _ h => h) (Or.inl ⟨by rfl, ?_⟩) (by assumption) ?_
            rotate_left 1
            · (intro w hSw; (try dsimp only at hSw); go_simp; try with_reducible rfl)
            (try simp only [Act.put, List.setIfInBounds_toArray, List.set_cons_zero, List.set_cons_succ])
            refine wpAnyH_take (i := 2) (oi := { dst := some 19, op := Op.indexAddr 24 (Operand.tmp 17) (Operand.tmp 18), type := 0, pos := "ref.go:125", after := #[{ on := 0, ground := Ground.data }, { on := 1, ground := Ground.data }], guard := none }) (v := ?_) rfl (by kernel_rfl) (by kernel_rfl) (by kernel_rfl) (fun _ _ _ h => h) (Or.inl ⟨by rfl, ?_⟩) (by assumption) ?_
            rotate_left 1
            · (intro w hSw; (try dsimp only at hSw); go_simp; try with_reducible rfl)
            (try simp only [Act.put, List.setIfInBounds_toArray, List.set_cons_zero, List.set_cons_succ])
            refine wpAnyH_take (i := 3) (oi := { dst := some 20, op := Op.load 81 (Operand.tmp 19), type := 81, pos := "ref.go:125", after := #[{ on := 2, ground := Ground.data }], guard := none }) (v := ?_) rfl (by kernel_rfl) (by kernel_rfl) (by kernel_rfl) (fun _ _ _ h => h) (Or.inl ⟨by rfl, ?_⟩) (by assumption) ?_
            rotate_left 1
            · (intro w hSw; (try dsimp only at hSw); go_simp; try with_reducible rfl)
            (try simp only [Act.put, List.setIfInBounds_toArray, List.set_cons_zero, List.set_cons_succ])
            refine wpAnyH_take (i := 4) (oi := { dst := some 21, op := Op.move (Operand.tmp 1), type := 24, pos := "ref.go:125", after := #[], guard := none }) (v := ?_) rfl (by kernel_rfl) (by kernel_rfl) (by kernel_rfl) (fun _ _ _ h => h) (Or.inl ⟨by rfl, ?_⟩) (by assumption) ?_
            rotate_left 1
            · (intro w hSw; (try dsimp only at hSw); go_simp; try with_reducible rfl)
            (try simp only [Act.put, List.setIfInBounds_toArray, List.set_cons_zero, List.set_cons_succ])
            refine wpAnyH_take (i := 5) (oi := { dst := some 22, op := Op.move (Operand.tmp 5), type := 3, pos := "ref.go:125", after := #[], guard := none }) (v := ?_) rfl (by kernel_rfl) (by kernel_rfl) (by kernel_rfl) (fun _ _ _ h => h) (Or.inl ⟨by rfl, ?_⟩) (by assumption) ?_
            rotate_left 1
            · (intro w hSw; (try dsimp only at hSw); go_simp; try with_reducible rfl)
            (try simp only [Act.put, List.setIfInBounds_toArray, List.set_cons_zero, List.set_cons_succ])
            refine wpAnyH_take (i := 6) (oi := { dst := some 23, op := Op.indexAddr 24 (Operand.tmp 21) (Operand.tmp 22), type := 0, pos := "ref.go:125", after := #[{ on := 4, ground := Ground.data }, { on := 5, ground := Ground.data }], guard := none }) (v := ?_) rfl (by kernel_rfl) (by kernel_rfl) (by kernel_rfl) (fun _ _ _ h => h) (Or.inl ⟨by rfl, ?_⟩) (by assumption) ?_
            rotate_left 1
            · (intro w hSw; (try dsimp only at hSw); go_simp; try with_reducible rfl)
            (try simp only [Act.put, List.setIfInBounds_toArray, List.set_cons_zero, List.set_cons_succ])
            refine wpAnyH_take (i := 7) (oi := { dst := some 24, op := Op.load 81 (Operand.tmp 23), type := 81, pos := "ref.go:125", after := #[{ on := 6, ground := Ground.data }], guard := none }) (v := ?_) rfl (by kernel_rfl) (by kernel_rfl) (by kernel_rfl) (fun _ _ _ h => h) (Or.inl ⟨by rfl, ?_⟩) (by assumption) ?_
            rotate_left 1
            · (intro w hSw; (try dsimp only at hSw); go_simp; try with_reducible rfl)
            (try simp only [Act.put, List.setIfInBounds_toArray, List.set_cons_zero, List.set_cons_succ])
            refine wpAnyH_take (i := 8) (oi := { dst := some 25, op := Op.binOp BinOp.neq 81 (Operand.tmp 20) (Operand.tmp 24) 81, type := 4, pos := "ref.go:125", after := #[{ on := 3, ground := Ground.data }, { on := 7, ground := Ground.data }], guard := none }) (v := ?_) rfl (by kernel_rfl) (by kernel_rfl) (by kernel_rfl) (fun _ _ _ h => h) (Or.inl ⟨by rfl, ?_⟩) (by assumption) ?_
            rotate_left 1
            · (intro w hSw; (try dsimp only at hSw); go_simp; try with_reducible rfl)
            (try simp only [Act.put, List.setIfInBounds_toArray, List.set_cons_zero, List.set_cons_succ])
            refine wpAnyH_done (by kernel_rfl) ?_ _
            go_wp2_with fail
            go_ret
            exact ⟨rfl, hb.out⟩
        · have hF := HNO.out (fun e => ho (by injection e))
          have hne : (o1 == o2) = false := beq_eq_false_iff_ne.2 ho
          subst hF
          clear HYES HNO
          go_wp2_with fail
          refine wp_region_held_drew (S := fun W => W.cell? ⟨b, off + j * 2, none⟩ = some (.int .i64 o1) ∧ W.cell? ⟨b, off + j * 2 + 1, none⟩ = some (.string d1) ∧ W.cell? ⟨b2, off2 + j * 2, none⟩ = some (.int .i64 o2) ∧ W.cell? ⟨b2, off2 + j * 2 + 1, none⟩ = some (.string d2)) (by kernel_rfl) (by first | assumption | exact KS) (fun hHeld => ?_)
          generalize wr.drew = wz at *
          refine wpAnyH_take (i := 0) (oi := { dst := some 17, op := Op.move (Operand.tmp 0), type := 24, pos := "ref.go:125", after := #[], guard := none }) (v := ?_) rfl (by kernel_rfl) (by kernel_rfl) (by kernel_rfl) (fun _ _ _ h => h) (Or.inl ⟨by rfl, ?_⟩) (by assumption) ?_
          rotate_left 1
          · (intro w hSw; (try dsimp only at hSw); go_simp; try with_reducible rfl)
          (try simp only [Act.put, List.setIfInBounds_toArray, List.set_cons_zero, List.set_cons_succ])
          refine wpAnyH_take (i := 1) (oi := { dst := some 18, op := Op.move (Operand.tmp 5), type := 3, pos := "ref.go:125", after := #[], guard := none }) (v := ?_) rfl (by kernel_rfl) (by kernel_rfl) (by kernel_rfl) (fun _ _ _ h => h) (Or.inl ⟨by rfl, ?_⟩) (by assumption) ?_
          rotate_left 1
          · (intro w hSw; (try dsimp only at hSw); go_simp; try with_reducible rfl)
          (try simp only [Act.put, List.setIfInBounds_toArray, List.set_cons_zero, List.set_cons_succ])
          refine wpAnyH_take (i := 2) (oi := { dst := some 19, op := Op.indexAddr 24 (Operand.tmp 17) (Operand.tmp 18), type := 0, pos := "ref.go:125", after := #[{ on := 0, ground := Ground.data }, { on := 1, ground := Ground.data }], guard := none }) (v := ?_) rfl (by kernel_rfl) (by kernel_rfl) (by kernel_rfl) (fun _ _ _ h => h) (Or.inl ⟨by rfl, ?_⟩) (by assumption) ?_
          rotate_left 1
          · (intro w hSw; (try dsimp only at hSw); go_simp; try with_reducible rfl)
          (try simp only [Act.put, List.setIfInBounds_toArray, List.set_cons_zero, List.set_cons_succ])
          refine wpAnyH_take (i := 3) (oi := { dst := some 20, op := Op.load 81 (Operand.tmp 19), type := 81, pos := "ref.go:125", after := #[{ on := 2, ground := Ground.data }], guard := none }) (v := ?_) rfl (by kernel_rfl) (by kernel_rfl) (by kernel_rfl) (fun _ _ _ h => h) (Or.inl ⟨by rfl, ?_⟩) (by assumption) ?_
          rotate_left 1
          · (intro w hSw; (try dsimp only at hSw); go_simp; try with_reducible rfl)
          (try simp only [Act.put, List.setIfInBounds_toArray, List.set_cons_zero, List.set_cons_succ])
          refine wpAnyH_take (i := 4) (oi := { dst := some 21, op := Op.move (Operand.tmp 1), type := 24, pos := "ref.go:125", after := #[], guard := none }) (v := ?_) rfl (by kernel_rfl) (by kernel_rfl) (by kernel_rfl) (fun _ _ _ h => h) (Or.inl ⟨by rfl, ?_⟩) (by assumption) ?_
          rotate_left 1
          · (intro w hSw; (try dsimp only at hSw); go_simp; try with_reducible rfl)
          (try simp only [Act.put, List.setIfInBounds_toArray, List.set_cons_zero, List.set_cons_succ])
          refine wpAnyH_take (i := 5) (oi := { dst := some 22, op := Op.move (Operand.tmp 5), type := 3, pos := "ref.go:125", after := #[], guard := none }) (v := ?_) rfl (by kernel_rfl) (by kernel_rfl) (by kernel_rfl) (fun _ _ _ h => h) (Or.inl ⟨by rfl, ?_⟩) (by assumption) ?_
          rotate_left 1
          · (intro w hSw; (try dsimp only at hSw); go_simp; try with_reducible rfl)
          (try simp only [Act.put, List.setIfInBounds_toArray, List.set_cons_zero, List.set_cons_succ])
          refine wpAnyH_take (i := 6) (oi := { dst := some 23, op := Op.indexAddr 24 (Operand.tmp 21) (Operand.tmp 22), type := 0, pos := "ref.go:125", after := #[{ on := 4, ground := Ground.data }, { on := 5, ground := Ground.data }], guard := none }) (v := ?_) rfl (by kernel_rfl) (by kernel_rfl) (by kernel_rfl) (fun _ _ _ h => h) (Or.inl ⟨by rfl, ?_⟩) (by assumption) ?_
          rotate_left 1
          · (intro w hSw; (try dsimp only at hSw); go_simp; try with_reducible rfl)
          (try simp only [Act.put, List.setIfInBounds_toArray, List.set_cons_zero, List.set_cons_succ])
          refine wpAnyH_take (i := 7) (oi := { dst := some 24, op := Op.load 81 (Operand.tmp 23), type := 81, pos := "ref.go:125", after := #[{ on := 6, ground := Ground.data }], guard := none }) (v := ?_) rfl (by kernel_rfl) (by kernel_rfl) (by kernel_rfl) (fun _ _ _ h => h) (Or.inl ⟨by rfl, ?_⟩) (by assumption) ?_
          rotate_left 1
          · (intro w hSw; (try dsimp only at hSw); go_simp; try with_reducible rfl)
          (try simp only [Act.put, List.setIfInBounds_toArray, List.set_cons_zero, List.set_cons_succ])
          refine wpAnyH_take (i := 8) (oi := { dst := some 25, op := Op.binOp BinOp.neq 81 (Operand.tmp 20) (Operand.tmp 24) 81, type := 4, pos := "ref.go:125", after := #[{ on := 3, ground := Ground.data }, { on := 7, ground := Ground.data }], guard := none }) (v := ?_) rfl (by kernel_rfl) (by kernel_rfl) (by kernel_rfl) (fun _ _ _ h => h) (Or.inl ⟨by rfl, ?_⟩) (by assumption) ?_
          rotate_left 1
          · (intro w hSw; (try dsimp only at hSw); go_simp; try with_reducible rfl)
          (try simp only [Act.put, List.setIfInBounds_toArray, List.set_cons_zero, List.set_cons_succ])
          refine wpAnyH_done (by kernel_rfl) ?_ _
          go_wp2_with fail
          go_ret
          exact ⟨rfl, hb.out⟩
      · obtain rfl : j = n := by omega
        have hT : z = true := by
          rw [HZ.out]
          refine eqL_yes ?_
          have := hst.out
          rwa [List.take_of_length_le (by have := HN.out.1; omega), List.take_of_length_le (by have := HN.out.2; omega)] at this
        subst hT
        go_wp2_with fail
        go_ret
        exact ⟨rfl, hb.out⟩
  · have hF : z = false := by rw [hz]; exact eqL_no (fun e => hlen (by rw [hn, hn2, e]))
    subst hF
    have hne : ((n : Int) != (n2 : Int)) = true := by rw [bne_iff_ne]; omega
    clear hr1 hr2 hz hn hn2 hl
    go_enter Tryz.func31, Tryz.ntmps31
    go_wp2_with fail
    go_ret
    exact ⟨rfl, Below.refl _ _⟩
set_option maxHeartbeats 8000000 in
set_option maxRecDepth 100000 in
theorem same_any (m n : Ms) (ao bo : Option Addr) (c1 c3 : Nat) (hl : m.mem.length ≤ 1000000) (w : World) (hr1 : MemRow w ao m.mem) (hr2 : MemRow w bo n.mem) :
    Calls Tryz.prog 13 #[.agg (msC m (.slice ao m.mem.length c1)), .agg (msC n (.slice bo n.mem.length c3))] w fun x w' => x = .returned (.bool (eqM m n)) ∧ Below w.heap.size w w' := by
  obtain ⟨z, hz⟩ : ∃ z, z = eqM m n := ⟨_, rfl⟩
  rw [← hz]
  obtain ⟨W0, hW0⟩ : ∃ V, V = (w.alloc (.cells (msC m (.slice ao m.mem.length c1)) 26)).alloc (.cells (msC n (.slice bo n.mem.length c3)) 26) := ⟨_, rfl⟩
  have g1 : GAt W0 w.heap.size m (.slice ao m.mem.length c1) := by rw [hW0]; exact (gat_new _ _ _).below ((Below.refl _ _).alloc (Nat.le_refl _) _)
  have g2 : GAt W0 (w.heap.size + 1) n (.slice bo n.mem.length c3) := by
    rw [hW0]
    have := gat_new (w.alloc (.cells (msC m (.slice ao m.mem.length c1)) 26)) n (.slice bo n.mem.length c3)
    rwa [World.size_alloc] at this
  have b0 : Below w.heap.size w W0 := by rw [hW0]; exact ((Below.refl _ _).alloc (Nat.le_refl _) _).alloc (by simp) _
  have HSM := samem_any m.mem n.mem ao bo c1 c3 hl W0 (hr1.below b0) (hr2.below b0)
  have HC1 := Lib.hid (fun V (hV : Below W0.heap.size W0 V) => (g1.below hV).cells)
  have HC2 := Lib.hid (fun V (hV : Below W0.heap.size W0 V) => (g2.below hV).cells)
  have B0 := Lib.hid b0
  rw [hW0] at b0
  have B0' := Lib.hid b0
  have HW0 := Lib.hid hW0
  have HZ := Lib.hid hz
  clear hW0 g1 g2 b0 hz hr1 hr2 hl
  obtain ⟨k, c, e, q, aud, mem, body, yes, tag⟩ := m
  obtain ⟨k2, c2, e2, q2, aud2, mem2, body2, yes2, tag2⟩ := n
  dsimp only [msC] at *
  by_cases hk : k = k2
  · subst hk
    by_cases hc : c = c2
    · subst hc
      by_cases he : e = e2
      · subst he
        by_cases hq : q = q2
        · subst hq
          by_cases haud : aud = aud2
          · subst haud
            by_cases hmem : mem = mem2
            · subst hmem
              rw [eqL_yes rfl] at HSM
              have HSM := Lib.hid HSM
              by_cases hbody : body = body2
              · subst hbody
                by_cases hyes : yes = yes2
                · subst hyes
                  by_cases htag : tag = tag2
                  · subst htag
                    go_enter Tryz.func13, Tryz.ntmps13
                    go_wp2_with (first | (go_at_call 31; rw [← HW0.out]; refine HSM.out.mono ?_; rintro e1 V ⟨rfl, b1⟩; obtain ⟨x0, x1, x2, x3, x4, x5, x6, x7, x8⟩ := HC1.out _ b1; obtain ⟨y0, y1, y2, y3, y4, y5, y6, y7, y8⟩ := HC2.out _ b1) | fail)
                    go_ret
                    exact ⟨(by rw [HZ.out, eqM_yes rfl]; try rfl), below_step B0.out b1⟩
                  · have ntag := (str_ne12 htag).1
                    go_enter Tryz.func13, Tryz.ntmps13
                    go_wp2_with (first | (go_at_call 31; rw [← HW0.out]; refine HSM.out.mono ?_; rintro e1 V ⟨rfl, b1⟩; obtain ⟨x0, x1, x2, x3, x4, x5, x6, x7, x8⟩ := HC1.out _ b1; obtain ⟨y0, y1, y2, y3, y4, y5, y6, y7, y8⟩ := HC2.out _ b1) | fail)
                    go_ret
                    exact ⟨(by rw [HZ.out, eqM_no (fun h => htag (by injection h))]; try rfl), below_step B0.out b1⟩
                · have nyes : (yes == yes2) = false := beq_eq_false_iff_ne.2 hyes
                  go_enter Tryz.func13, Tryz.ntmps13
                  go_wp2_with (first | (go_at_call 31; rw [← HW0.out]; refine HSM.out.mono ?_; rintro e1 V ⟨rfl, b1⟩; obtain ⟨x0, x1, x2, x3, x4, x5, x6, x7, x8⟩ := HC1.out _ b1; obtain ⟨y0, y1, y2, y3, y4, y5, y6, y7, y8⟩ := HC2.out _ b1) | fail)
                  go_ret
                  exact ⟨(by rw [HZ.out, eqM_no (fun h => hyes (by injection h))]; try rfl), below_step B0.out b1⟩
              · have nbody := (str_ne12 hbody).1
                go_enter Tryz.func13, Tryz.ntmps13
                go_wp2_with (first | (go_at_call 31; rw [← HW0.out]; refine HSM.out.mono ?_; rintro e1 V ⟨rfl, b1⟩; obtain ⟨x0, x1, x2, x3, x4, x5, x6, x7, x8⟩ := HC1.out _ b1; obtain ⟨y0, y1, y2, y3, y4, y5, y6, y7, y8⟩ := HC2.out _ b1) | fail)
                go_ret
                exact ⟨(by rw [HZ.out, eqM_no (fun h => hbody (by injection h))]; try rfl), below_step B0.out b1⟩
            · rw [eqL_no hmem] at HSM
              have HSM := Lib.hid HSM
              go_enter Tryz.func13, Tryz.ntmps13
              go_wp2_with (first | (go_at_call 31; rw [← HW0.out]; refine HSM.out.mono ?_; rintro e1 V ⟨rfl, b1⟩; obtain ⟨x0, x1, x2, x3, x4, x5, x6, x7, x8⟩ := HC1.out _ b1; obtain ⟨y0, y1, y2, y3, y4, y5, y6, y7, y8⟩ := HC2.out _ b1) | fail)
              go_ret
              exact ⟨(by rw [HZ.out, eqM_no (fun h => hmem (by injection h))]; try rfl), below_step B0.out b1⟩
          · have naud : (aud == aud2) = false := beq_eq_false_iff_ne.2 (by omega)
            go_enter Tryz.func13, Tryz.ntmps13
            go_wp2_with (first | (go_at_call 31; rw [← HW0.out]; refine HSM.out.mono ?_; rintro e1 V ⟨rfl, b1⟩; obtain ⟨x0, x1, x2, x3, x4, x5, x6, x7, x8⟩ := HC1.out _ b1; obtain ⟨y0, y1, y2, y3, y4, y5, y6, y7, y8⟩ := HC2.out _ b1) | fail)
            go_ret
            exact ⟨(by rw [HZ.out, eqM_no (fun h => haud (by injection h))]; try rfl), B0'.out⟩
        · have nq : (q == q2) = false := beq_eq_false_iff_ne.2 (by omega)
          go_enter Tryz.func13, Tryz.ntmps13
          go_wp2_with (first | (go_at_call 31; rw [← HW0.out]; refine HSM.out.mono ?_; rintro e1 V ⟨rfl, b1⟩; obtain ⟨x0, x1, x2, x3, x4, x5, x6, x7, x8⟩ := HC1.out _ b1; obtain ⟨y0, y1, y2, y3, y4, y5, y6, y7, y8⟩ := HC2.out _ b1) | fail)
          go_ret
          exact ⟨(by rw [HZ.out, eqM_no (fun h => hq (by injection h))]; try rfl), B0'.out⟩
      · have ne : (e == e2) = false := beq_eq_false_iff_ne.2 (by omega)
        go_enter Tryz.func13, Tryz.ntmps13
        go_wp2_with (first | (go_at_call 31; rw [← HW0.out]; refine HSM.out.mono ?_; rintro e1 V ⟨rfl, b1⟩; obtain ⟨x0, x1, x2, x3, x4, x5, x6, x7, x8⟩ := HC1.out _ b1; obtain ⟨y0, y1, y2, y3, y4, y5, y6, y7, y8⟩ := HC2.out _ b1) | fail)
        go_ret
        exact ⟨(by rw [HZ.out, eqM_no (fun h => he (by injection h))]; try rfl), B0'.out⟩
    · have nc : (c == c2) = false := beq_eq_false_iff_ne.2 (by omega)
      go_enter Tryz.func13, Tryz.ntmps13
      go_wp2_with (first | (go_at_call 31; rw [← HW0.out]; refine HSM.out.mono ?_; rintro e1 V ⟨rfl, b1⟩; obtain ⟨x0, x1, x2, x3, x4, x5, x6, x7, x8⟩ := HC1.out _ b1; obtain ⟨y0, y1, y2, y3, y4, y5, y6, y7, y8⟩ := HC2.out _ b1) | fail)
      go_ret
      exact ⟨(by rw [HZ.out, eqM_no (fun h => hc (by injection h))]; try rfl), B0'.out⟩
  · have nk : ((k : Int) == (k2 : Int)) = false := beq_eq_false_iff_ne.2 (by omega)
    go_enter Tryz.func13, Tryz.ntmps13
    go_wp2_with (first | (go_at_call 31; rw [← HW0.out]; refine HSM.out.mono ?_; rintro e1 V ⟨rfl, b1⟩; obtain ⟨x0, x1, x2, x3, x4, x5, x6, x7, x8⟩ := HC1.out _ b1; obtain ⟨y0, y1, y2, y3, y4, y5, y6, y7, y8⟩ := HC2.out _ b1) | fail)
    go_ret
    exact ⟨(by rw [HZ.out, eqM_no (fun h => hk (by injection h))]; try rfl), B0'.out⟩
end Go.Proofs.YthemopejebioaaaGreat.Pl
