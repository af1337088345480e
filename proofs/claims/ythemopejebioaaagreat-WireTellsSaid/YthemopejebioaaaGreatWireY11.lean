/- How wire reads the fields of a message: what is asked. -/
import Derived.Test.YthemopejebioaaaGreatWireY10
import Derived.Deep.RegionHeld3
namespace Go.Proofs.YthemopejebioaaaGreat.Pl
open Go.RowKit

theorem drew12 (W : World) : Below W.heap.size W W.drew := (Below.refl _ _).drew

set_option maxHeartbeats 4000000 in
set_option maxRecDepth 100000 in
theorem getprep_any (w0 : World) (g b : Nat) (hg : g < w0.heap.size) (m : Ms) (l : List ByteArray) (V : World) (hN : NextAt V w0.heap.size b l) (hS : GSt w0 g m V) :
    Calls Tryz.prog 69 #[ptr12 g, nextV b] V (ReadP w0.heap.size b (getPr m l) (GSt w0 g) (Turn (· = g) w0)) := by
  obtain ⟨z, hz⟩ : ∃ z, z = getPr m l := ⟨_, rfl⟩
  rw [← hz]
  have HZ := Lib.hid hz
  have HN := Lib.hid hN
  have HS := Lib.hid hS
  have HG := Lib.hid hg
  clear hz hN hS hg
  go_enter Tryz.func69, Tryz.ntmps69
  go_wp2_with fail
  refine (gettxn_any w0 g b HG.out m l V HN.out HS.out).mono ?_
  intro e V1 h
  cases hr : getX m l with
  | none =>
    rw [hr] at h
    obtain ⟨rfl, hT⟩ := h
    have hz : z = none := by rw [HZ.out]; simp [getPr, hr]
    subst hz
    have HT := Lib.hid hT
    clear hT
    go_wp2_with fail
    exact ⟨by first | rfl | trivial, rfl, HT.out⟩
  | some y =>
    obtain ⟨m1, l1⟩ := y
    rw [hr] at h
    obtain ⟨rfl, hN1, hS1⟩ := h
    have HN := Lib.hid hN1
    have HS := Lib.hid hS1
    clear hN1 hS1
    go_wp2_with fail
    cases l1 with
    | nil =>
      have hz : z = none := by rw [HZ.out]; simp [getPr, getN, hr]
      subst hz
      refine (next_none _ b _ HN.out).mono ?_; rintro e V1 ⟨rfl, hw⟩; rw [hw]; clear hw V1
      go_wp2_with fail
      exact ⟨by first | rfl | trivial, rfl, HS.out.turnd⟩
    | cons a l2 =>
      have HSZ := Lib.hid (HN.out.size a (List.mem_cons_self ..))
      refine (next_some _ b a l2 _ HN.out).mono ?_; rintro e V1 ⟨rfl, n1, t1⟩
      have S1 := Lib.hid (HS.out.next HG.out HN.out t1)
      have N1 := Lib.hid n1
      clear n1 t1 HS HN
      go_wp2_with fail
      have HT := fun W => number_any a HSZ.out W
      cases hn : rdN a with
      | none =>
        rw [hn] at HT; simp only [Out12] at HT
        have hz : z = none := by rw [HZ.out]; simp [getPr, hr, getN_cons, hn]
        subst hz
        refine (HT _).mono ?_; rintro e V2 ⟨rfl, b2⟩
        have S2 := Lib.hid (S1.out.below b2)
        go_wp2_with fail
        exact ⟨by first | rfl | trivial, rfl, S2.out.turnd⟩
      | some v =>
        rw [hn] at HT; simp only [Out12] at HT
        refine (HT _).mono ?_; rintro e V2 ⟨rfl, b2⟩
        have S2 := Lib.hid (S1.out.below b2)
        have N2 := Lib.hid (N1.out.below b2)
        obtain ⟨vv, hG, -⟩ := S2.out.2
        obtain ⟨x0, x1, x2, x3, x4, x5, x6, x7, x8⟩ := hG.cells
        have fk := hG.frozen 4
        clear hG
        obtain ⟨W3, hW3⟩ : ∃ W, W = V2.setCell ⟨g, 4, none⟩ (.int .i64 v) := ⟨_, rfl⟩
        have HN := Lib.hid (show NextAt W3 w0.heap.size b l2 from hW3 ▸ N2.out.cell HG.out)
        have HS := Lib.hid (show GSt w0 g { m1 with aud := v } W3 from hW3 ▸ S2.out.setN HG.out v)
        have HW3 := Lib.hid hW3
        clear b2 S1 N1 HT S2 N2 hW3
        go_wp2_with fail
        rw [← HW3.out]
        clear HW3 x0 x1 x2 x3 x4 x5 x6 x7 x8 fk
        have ND := Lib.hid (HN.out.below (drew12 W3))
        have SD := Lib.hid (HS.out.below (drew12 W3))
        have KS : W3.drew.cell? ⟨g, 1, none⟩ = some (.int .i64 m1.c) ∧ W3.drew.cell? ⟨g, 2, none⟩ = some (.int .i64 m1.e) ∧ W3.drew.cell? ⟨g, 3, none⟩ = some (.int .i64 m1.q) := by
          obtain ⟨v, hG, -⟩ := SD.out.2
          obtain ⟨-, x1, x2, x3, -⟩ := hG.cells
          exact ⟨x1, x2, x3⟩
        clear HN HS
        cases l2 with
        | nil =>
          have hz : z = none := by rw [HZ.out]; simp [getPr, hr, getN_cons, hn]
          subst hz
          refine wp_region_held_drew (S := fun W => W.cell? ⟨g, 1, none⟩ = some (.int .i64 m1.c) ∧ W.cell? ⟨g, 2, none⟩ = some (.int .i64 m1.e) ∧ W.cell? ⟨g, 3, none⟩ = some (.int .i64 m1.q)) (by kernel_rfl) (by first | assumption | (exact KS)) (fun hHeld => ?_)
          refine wpAnyH_take (i := 0) (oi := { dst := some 13, op := Op.move (Operand.tmp 0), type := 73, pos := "wire.go:206", after := #[], guard := none }) (v := ?_) rfl (by kernel_rfl) (by kernel_rfl) (by kernel_rfl) (fun _ _ _ h => h) (Or.inl ⟨by rfl, ?_⟩) (by assumption) ?_
          rotate_left 1
          · (intro w hSw; (try dsimp only at hSw); go_simp; try with_reducible rfl)
          (try simp only [Act.put, List.setIfInBounds_toArray, List.set_cons_zero, List.set_cons_succ])
          refine wpAnyH_take (i := 1) (oi := { dst := some 14, op := Op.move (Operand.tmp 0), type := 73, pos := "wire.go:206", after := #[], guard := none }) (v := ?_) rfl (by kernel_rfl) (by kernel_rfl) (by kernel_rfl) (fun _ _ _ h => h) (Or.inl ⟨by rfl, ?_⟩) (by assumption) ?_
          rotate_left 1
          · (intro w hSw; (try dsimp only at hSw); go_simp; try with_reducible rfl)
          (try simp only [Act.put, List.setIfInBounds_toArray, List.set_cons_zero, List.set_cons_succ])
          refine wpAnyH_take (i := 2) (oi := { dst := some 15, op := Op.nilCheck (Operand.tmp 14), type := 0, pos := "wire.go:206", after := #[{ on := 1, ground := Ground.data }], guard := none }) (v := ?_) rfl (by kernel_rfl) (by kernel_rfl) (by kernel_rfl) (fun _ _ _ h => h) (Or.inl ⟨by rfl, ?_⟩) (by assumption) ?_
          rotate_left 1
          · (intro w hSw; (try dsimp only at hSw); go_simp; try with_reducible rfl)
          (try simp only [Act.put, List.setIfInBounds_toArray, List.set_cons_zero, List.set_cons_succ])
          refine wpAnyH_take (i := 3) (oi := { dst := some 16, op := Op.fieldAddr 26 (Operand.tmp 15) 1, type := 0, pos := "wire.go:206", after := #[{ on := 2, ground := Ground.data }], guard := none }) (v := ?_) rfl (by kernel_rfl) (by kernel_rfl) (by kernel_rfl) (fun _ _ _ h => h) (Or.inl ⟨by rfl, ?_⟩) (by assumption) ?_
          rotate_left 1
          · (intro w hSw; (try dsimp only at hSw); go_simp; try with_reducible rfl)
          (try simp only [Act.put, List.setIfInBounds_toArray, List.set_cons_zero, List.set_cons_succ])
          refine wpAnyH_take (i := 4) (oi := { dst := some 17, op := Op.load 23 (Operand.tmp 16), type := 23, pos := "wire.go:206", after := #[{ on := 3, ground := Ground.data }], guard := none }) (v := ?_) rfl (by kernel_rfl) (by kernel_rfl) (by kernel_rfl) (fun _ _ _ h => h) (Or.inl ⟨by rfl, ?_⟩) (by assumption) ?_
          rotate_left 1
          · (intro w hSw; (try dsimp only at hSw); go_simp; try with_reducible rfl)
          (try simp only [Act.put, List.setIfInBounds_toArray, List.set_cons_zero, List.set_cons_succ])
          refine wpAnyH_take (i := 5) (oi := { dst := some 18, op := Op.move (Operand.tmp 1), type := 71, pos := "wire.go:206", after := #[], guard := none }) (v := ?_) rfl (by kernel_rfl) (by kernel_rfl) (by kernel_rfl) (fun _ _ _ h => h) (Or.inl ⟨by rfl, ?_⟩) (by assumption) ?_
          rotate_left 1
          · (intro w hSw; (try dsimp only at hSw); go_simp; try with_reducible rfl)
          (try simp only [Act.put, List.setIfInBounds_toArray, List.set_cons_zero, List.set_cons_succ])
          refine wpAnyH_ready (rs := [6]) (by kernel_rfl) (by simp) ?_
          refine AllReadyH.cons (o := { dst := some 19, op := Op.call { callee := Callee.value (Operand.tmp 18), args := #[], argTypes := #[] }, type := 9, pos := "wire.go:206", after := #[{ on := 5, ground := Ground.data }], guard := none }) rfl (fun K hK => ?_) AllReadyH.nil
          go_simp
          refine (next_none _ b _ ND.out).mono ?_; rintro e V1 ⟨rfl, hw⟩; rw [hw]; clear hw V1
          exact ⟨by first | rfl | trivial, rfl, SD.out.turnd⟩
        | cons b1 l3 =>
          have HSZ2 := ND.out.size b1 (List.mem_cons_self ..)
          have HM := fun W => members12_any m1.c m1.e m1.q b1 HSZ2 W
          cases hm : membersR m1.c b1 with
          | none =>
            rw [hm] at HM; simp only at HM
            have hz : z = none := by rw [HZ.out]; simp [getPr, hr, getN_cons, hn, hm]
            subst hz
            refine wp_region_held_drew (S := fun W => W.cell? ⟨g, 1, none⟩ = some (.int .i64 m1.c) ∧ W.cell? ⟨g, 2, none⟩ = some (.int .i64 m1.e) ∧ W.cell? ⟨g, 3, none⟩ = some (.int .i64 m1.q)) (by kernel_rfl) (by first | assumption | (exact KS)) (fun hHeld => ?_)
            refine wpAnyH_take (i := 0) (oi := { dst := some 13, op := Op.move (Operand.tmp 0), type := 73, pos := "wire.go:206", after := #[], guard := none }) (v := ?_) rfl (by kernel_rfl) (by kernel_rfl) (by kernel_rfl) (fun _ _ _ h => h) (Or.inl ⟨by rfl, ?_⟩) (by assumption) ?_
            rotate_left 1
            · (intro w hSw; (try dsimp only at hSw); go_simp; try with_reducible rfl)
            (try simp only [Act.put, List.setIfInBounds_toArray, List.set_cons_zero, List.set_cons_succ])
            refine wpAnyH_take (i := 1) (oi := { dst := some 14, op := Op.move (Operand.tmp 0), type := 73, pos := "wire.go:206", after := #[], guard := none }) (v := ?_) rfl (by kernel_rfl) (by kernel_rfl) (by kernel_rfl) (fun _ _ _ h => h) (Or.inl ⟨by rfl, ?_⟩) (by assumption) ?_
            rotate_left 1
            · (intro w hSw; (try dsimp only at hSw); go_simp; try with_reducible rfl)
            (try simp only [Act.put, List.setIfInBounds_toArray, List.set_cons_zero, List.set_cons_succ])
            refine wpAnyH_take (i := 2) (oi := { dst := some 15, op := Op.nilCheck (Operand.tmp 14), type := 0, pos := "wire.go:206", after := #[{ on := 1, ground := Ground.data }], guard := none }) (v := ?_) rfl (by kernel_rfl) (by kernel_rfl) (by kernel_rfl) (fun _ _ _ h => h) (Or.inl ⟨by rfl, ?_⟩) (by assumption) ?_
            rotate_left 1
            · (intro w hSw; (try dsimp only at hSw); go_simp; try with_reducible rfl)
            (try simp only [Act.put, List.setIfInBounds_toArray, List.set_cons_zero, List.set_cons_succ])
            refine wpAnyH_take (i := 3) (oi := { dst := some 16, op := Op.fieldAddr 26 (Operand.tmp 15) 1, type := 0, pos := "wire.go:206", after := #[{ on := 2, ground := Ground.data }], guard := none }) (v := ?_) rfl (by kernel_rfl) (by kernel_rfl) (by kernel_rfl) (fun _ _ _ h => h) (Or.inl ⟨by rfl, ?_⟩) (by assumption) ?_
            rotate_left 1
            · (intro w hSw; (try dsimp only at hSw); go_simp; try with_reducible rfl)
            (try simp only [Act.put, List.setIfInBounds_toArray, List.set_cons_zero, List.set_cons_succ])
            refine wpAnyH_take (i := 4) (oi := { dst := some 17, op := Op.load 23 (Operand.tmp 16), type := 23, pos := "wire.go:206", after := #[{ on := 3, ground := Ground.data }], guard := none }) (v := ?_) rfl (by kernel_rfl) (by kernel_rfl) (by kernel_rfl) (fun _ _ _ h => h) (Or.inl ⟨by rfl, ?_⟩) (by assumption) ?_
            rotate_left 1
            · (intro w hSw; (try dsimp only at hSw); go_simp; try with_reducible rfl)
            (try simp only [Act.put, List.setIfInBounds_toArray, List.set_cons_zero, List.set_cons_succ])
            refine wpAnyH_take (i := 5) (oi := { dst := some 18, op := Op.move (Operand.tmp 1), type := 71, pos := "wire.go:206", after := #[], guard := none }) (v := ?_) rfl (by kernel_rfl) (by kernel_rfl) (by kernel_rfl) (fun _ _ _ h => h) (Or.inl ⟨by rfl, ?_⟩) (by assumption) ?_
            rotate_left 1
            · (intro w hSw; (try dsimp only at hSw); go_simp; try with_reducible rfl)
            (try simp only [Act.put, List.setIfInBounds_toArray, List.set_cons_zero, List.set_cons_succ])
            refine wpAnyH_ready (rs := [6]) (by kernel_rfl) (by simp) ?_
            refine AllReadyH.cons (o := { dst := some 19, op := Op.call { callee := Callee.value (Operand.tmp 18), args := #[], argTypes := #[] }, type := 9, pos := "wire.go:206", after := #[{ on := 5, ground := Ground.data }], guard := none }) rfl (fun K hK => ?_) AllReadyH.nil
            go_simp
            refine (next_some _ b b1 l3 _ ND.out).mono ?_; rintro e V3 ⟨rfl, n3, t3⟩
            have S3 := Lib.hid (SD.out.next HG.out ND.out t3)
            have N3 := Lib.hid n3
            clear n3 t3
            refine hK.out _ _ (by exact (by obtain ⟨v, hG, -⟩ := S3.out.2; obtain ⟨-, x1, x2, x3, -⟩ := hG.cells; exact ⟨x1, x2, x3⟩)) (fun hHeld => ?_)
            clear hK K
            (try simp only [Act.put, List.setIfInBounds_toArray, List.set_cons_zero, List.set_cons_succ])
            refine wpAnyH_ready (rs := [7]) (by kernel_rfl) (by simp) ?_
            refine AllReadyH.cons (o := { dst := some 20, op := Op.call { callee := Callee.value (Operand.func 63), args := #[Operand.tmp 17, Operand.tmp 19], argTypes := #[23, 9] }, type := 24, pos := "wire.go:206", after := #[{ on := 4, ground := Ground.data }, { on := 6, ground := Ground.data }, { on := 6, ground := Ground.chain }], guard := none }) rfl (fun K hK => ?_) AllReadyH.nil
            go_simp
            refine (HM _).mono ?_; rintro e V4 ⟨rfl, b4⟩
            have S4 := Lib.hid (S3.out.below b4)
            exact ⟨by first | rfl | trivial, rfl, S4.out.turnd⟩
          | some k =>
            rw [hm] at HM; simp only at HM
            refine wp_region_held_drew (S := fun W => W.cell? ⟨g, 1, none⟩ = some (.int .i64 m1.c) ∧ W.cell? ⟨g, 2, none⟩ = some (.int .i64 m1.e) ∧ W.cell? ⟨g, 3, none⟩ = some (.int .i64 m1.q)) (by kernel_rfl) (by first | assumption | (exact KS)) (fun hHeld => ?_)
            refine wpAnyH_take (i := 0) (oi := { dst := some 13, op := Op.move (Operand.tmp 0), type := 73, pos := "wire.go:206", after := #[], guard := none }) (v := ?_) rfl (by kernel_rfl) (by kernel_rfl) (by kernel_rfl) (fun _ _ _ h => h) (Or.inl ⟨by rfl, ?_⟩) (by assumption) ?_
            rotate_left 1
            · (intro w hSw; (try dsimp only at hSw); go_simp; try with_reducible rfl)
            (try simp only [Act.put, List.setIfInBounds_toArray, List.set_cons_zero, List.set_cons_succ])
            refine wpAnyH_take (i := 1) (oi := { dst := some 14, op := Op.move (Operand.tmp 0), type := 73, pos := "wire.go:206", after := #[], guard := none }) (v := ?_) rfl (by kernel_rfl) (by kernel_rfl) (by kernel_rfl) (fun _ _ _ h => h) (Or.inl ⟨by rfl, ?_⟩) (by assumption) ?_
            rotate_left 1
            · (intro w hSw; (try dsimp only at hSw); go_simp; try with_reducible rfl)
            (try simp only [Act.put, List.setIfInBounds_toArray, List.set_cons_zero, List.set_cons_succ])
            refine wpAnyH_take (i := 2) (oi := { dst := some 15, op := Op.nilCheck (Operand.tmp 14), type := 0, pos := "wire.go:206", after := #[{ on := 1, ground := Ground.data }], guard := none }) (v := ?_) rfl (by kernel_rfl) (by kernel_rfl) (by kernel_rfl) (fun _ _ _ h => h) (Or.inl ⟨by rfl, ?_⟩) (by assumption) ?_
            rotate_left 1
            · (intro w hSw; (try dsimp only at hSw); go_simp; try with_reducible rfl)
            (try simp only [Act.put, List.setIfInBounds_toArray, List.set_cons_zero, List.set_cons_succ])
            refine wpAnyH_take (i := 3) (oi := { dst := some 16, op := Op.fieldAddr 26 (Operand.tmp 15) 1, type := 0, pos := "wire.go:206", after := #[{ on := 2, ground := Ground.data }], guard := none }) (v := ?_) rfl (by kernel_rfl) (by kernel_rfl) (by kernel_rfl) (fun _ _ _ h => h) (Or.inl ⟨by rfl, ?_⟩) (by assumption) ?_
            rotate_left 1
            · (intro w hSw; (try dsimp only at hSw); go_simp; try with_reducible rfl)
            (try simp only [Act.put, List.setIfInBounds_toArray, List.set_cons_zero, List.set_cons_succ])
            refine wpAnyH_take (i := 4) (oi := { dst := some 17, op := Op.load 23 (Operand.tmp 16), type := 23, pos := "wire.go:206", after := #[{ on := 3, ground := Ground.data }], guard := none }) (v := ?_) rfl (by kernel_rfl) (by kernel_rfl) (by kernel_rfl) (fun _ _ _ h => h) (Or.inl ⟨by rfl, ?_⟩) (by assumption) ?_
            rotate_left 1
            · (intro w hSw; (try dsimp only at hSw); go_simp; try with_reducible rfl)
            (try simp only [Act.put, List.setIfInBounds_toArray, List.set_cons_zero, List.set_cons_succ])
            refine wpAnyH_take (i := 5) (oi := { dst := some 18, op := Op.move (Operand.tmp 1), type := 71, pos := "wire.go:206", after := #[], guard := none }) (v := ?_) rfl (by kernel_rfl) (by kernel_rfl) (by kernel_rfl) (fun _ _ _ h => h) (Or.inl ⟨by rfl, ?_⟩) (by assumption) ?_
            rotate_left 1
            · (intro w hSw; (try dsimp only at hSw); go_simp; try with_reducible rfl)
            (try simp only [Act.put, List.setIfInBounds_toArray, List.set_cons_zero, List.set_cons_succ])
            refine wpAnyH_ready (rs := [6]) (by kernel_rfl) (by simp) ?_
            refine AllReadyH.cons (o := { dst := some 19, op := Op.call { callee := Callee.value (Operand.tmp 18), args := #[], argTypes := #[] }, type := 9, pos := "wire.go:206", after := #[{ on := 5, ground := Ground.data }], guard := none }) rfl (fun K hK => ?_) AllReadyH.nil
            go_simp
            refine (next_some _ b b1 l3 _ ND.out).mono ?_; rintro e V3 ⟨rfl, n3, t3⟩
            have S3 := Lib.hid (SD.out.next HG.out ND.out t3)
            have N3 := Lib.hid n3
            clear n3 t3
            refine hK.out _ _ (by exact (by obtain ⟨v, hG, -⟩ := S3.out.2; obtain ⟨-, x1, x2, x3, -⟩ := hG.cells; exact ⟨x1, x2, x3⟩)) (fun hHeld => ?_)
            clear hK K
            (try simp only [Act.put, List.setIfInBounds_toArray, List.set_cons_zero, List.set_cons_succ])
            refine wpAnyH_ready (rs := [7]) (by kernel_rfl) (by simp) ?_
            refine AllReadyH.cons (o := { dst := some 20, op := Op.call { callee := Callee.value (Operand.func 63), args := #[Operand.tmp 17, Operand.tmp 19], argTypes := #[23, 9] }, type := 24, pos := "wire.go:206", after := #[{ on := 4, ground := Ground.data }, { on := 6, ground := Ground.data }, { on := 6, ground := Ground.chain }], guard := none }) rfl (fun K hK => ?_) AllReadyH.nil
            go_simp
            refine (HM _).mono ?_; rintro e V4 ⟨⟨mv, rfl, ho⟩, b4⟩
            have S4 := Lib.hid (S3.out.below b4)
            have N4 := Lib.hid (N3.out.below b4)
            have O4 := Lib.hid (ownM_low ho (S3.out.turnd.size))
            obtain ⟨ao, cap, rfl, -⟩ := ownM_row ho
            have g5 : V4.cell? ⟨g, 5, none⟩ = some (S4.out.2.choose) := (S4.out.2.choose_spec.1).cells.2.2.2.2.2.1
            have f5 : V4.frozen? ⟨g, 5, none⟩ = false := (S4.out.2.choose_spec.1).frozen 5
            clear ho b4 S3 N3
            refine hK.out _ _ (by exact (by obtain ⟨v, hG, -⟩ := S4.out.2; obtain ⟨-, x1, x2, x3, -⟩ := hG.cells; exact ⟨x1, x2, x3⟩)) (fun hHeld => ?_)
            clear hK K
            (try simp only [Act.put, List.setIfInBounds_toArray, List.set_cons_zero, List.set_cons_succ])
            refine wpAnyH_take (i := 8) (oi := { dst := some 21, op := Op.nilCheck (Operand.tmp 13), type := 0, pos := "wire.go:206", after := #[{ on := 0, ground := Ground.data }, { on := 0, ground := Ground.phase }, { on := 1, ground := Ground.phase }, { on := 2, ground := Ground.phase }, { on := 3, ground := Ground.phase }, { on := 4, ground := Ground.phase }, { on := 5, ground := Ground.phase }, { on := 6, ground := Ground.phase }, { on := 7, ground := Ground.phase }], guard := none }) (v := ?_) rfl (by kernel_rfl) (by kernel_rfl) (by kernel_rfl) (fun _ _ _ h => h) (Or.inl ⟨by rfl, ?_⟩) (by assumption) ?_
            rotate_left 1
            · (intro w hSw; (try dsimp only at hSw); go_simp; try with_reducible rfl)
            (try simp only [Act.put, List.setIfInBounds_toArray, List.set_cons_zero, List.set_cons_succ])
            refine wpAnyH_take (i := 9) (oi := { dst := some 22, op := Op.fieldAddr 26 (Operand.tmp 21) 3, type := 0, pos := "wire.go:206", after := #[{ on := 8, ground := Ground.data }, { on := 0, ground := Ground.phase }, { on := 1, ground := Ground.phase }, { on := 2, ground := Ground.phase }, { on := 3, ground := Ground.phase }, { on := 4, ground := Ground.phase }, { on := 5, ground := Ground.phase }, { on := 6, ground := Ground.phase }, { on := 7, ground := Ground.phase }], guard := none }) (v := ?_) rfl (by kernel_rfl) (by kernel_rfl) (by kernel_rfl) (fun _ _ _ h => h) (Or.inl ⟨by rfl, ?_⟩) (by assumption) ?_
            rotate_left 1
            · (intro w hSw; (try dsimp only at hSw); go_simp; try with_reducible rfl)
            (try simp only [Act.put, List.setIfInBounds_toArray, List.set_cons_zero, List.set_cons_succ])
            refine wpAnyH_ready (rs := [10]) (by kernel_rfl) (by simp) ?_
            refine AllReadyH.cons (o := { dst := none, op := Op.store 24 (Operand.tmp 22) (Operand.tmp 20), type := 0, pos := "wire.go:206", after := #[{ on := 9, ground := Ground.data }, { on := 7, ground := Ground.data }, { on := 7, ground := Ground.chain }, { on := 0, ground := Ground.phase }, { on := 1, ground := Ground.phase }, { on := 2, ground := Ground.phase }, { on := 3, ground := Ground.phase }, { on := 4, ground := Ground.phase }, { on := 5, ground := Ground.phase }, { on := 6, ground := Ground.phase }, { on := 7, ground := Ground.phase }], guard := none }) rfl (fun K hK => ?_) AllReadyH.nil
            go_simp
            (try go_simp)
            have S5 := Lib.hid (S4.out.setM HG.out _ _ O4.out)
            have N5 := Lib.hid (N4.out.cell (k := 5) (v := .slice ao k.length cap) HG.out)
            refine hK.out _ _ (by exact (by obtain ⟨v, hG, -⟩ := S5.out.2; obtain ⟨-, x1, x2, x3, -⟩ := hG.cells; exact ⟨x1, x2, x3⟩)) (fun hHeld => ?_)
            clear hK K
            (try simp only [Act.put, List.setIfInBounds_toArray, List.set_cons_zero, List.set_cons_succ])
            refine wpAnyH_done (by kernel_rfl) ?_ _
            go_wp2_with fail
            have HN := N5
            have HS := S5
            clear N5 S5
            cases l3 with
            | nil =>
              have hz : z = none := by rw [HZ.out]; simp [getPr, hr, getN_cons, hn, hm]
              subst hz
              refine (next_none _ b _ HN.out).mono ?_; rintro e V1 ⟨rfl, hw⟩; rw [hw]; clear hw V1
              go_wp2_with fail
              exact ⟨by first | rfl | trivial, rfl, HS.out.turnd⟩
            | cons d r =>
              have HSZ := Lib.hid (HN.out.size d (List.mem_cons_self ..))
              refine (next_some _ b d r _ HN.out).mono ?_; rintro e V1 ⟨rfl, n1, t1⟩
              have S1 := Lib.hid (HS.out.next HG.out HN.out t1)
              have N1 := Lib.hid n1
              clear n1 t1 HS HN
              have hz : z = some ({ m1 with aud := v, mem := k, body := d }, r) := by rw [HZ.out]; simp [getPr, hr, getN_cons, hn, hm]
              subst hz
              obtain ⟨vv, hG, -⟩ := S1.out.2
              obtain ⟨x0, x1, x2, x3, x4, x5, x6, x7, x8⟩ := hG.cells
              have fk := hG.frozen 6
              clear hG
              go_wp2_with fail
              go_end0
              exact ⟨rfl, N1.out.cell HG.out, S1.out.setB HG.out d⟩
end Go.Proofs.YthemopejebioaaaGreat.Pl
