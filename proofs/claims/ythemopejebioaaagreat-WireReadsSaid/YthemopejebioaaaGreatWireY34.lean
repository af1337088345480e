/- The document's Decode of layer 12, of a row whose first part is decision. -/
import Derived.Test.YthemopejebioaaaGreatWireY24
namespace Go.Proofs.YthemopejebioaaaGreat.Pl
open Go.RowKit


set_option maxHeartbeats 8000000 in
set_option maxRecDepth 100000 in
theorem rdec_k3b (t : ByteArray) (ht : t.size ≤ 281474976710656) (p0 : ByteArray) (r : List ByteArray) (hp : partsB t = p0 :: r) (hk3 : kindP (bl t) = 3) (hw : (textP (bl p0)).1 = wordP 3) (hr : 2 ≤ r.length) (w : World) :
    Calls Tryz.prog 17 #[.string t] w (DecOut w (decP t)) := by
  have HP := fun V => rparts12_any t ht V
  have HK := fun V => rkind_any t ht V
  rw [hk3] at HK
  have HPS := Lib.hid (partsB_size t)
  have HPN := Lib.hid (partsB_len t)
  have HDN : ¬ encP (candP 3 (p0 :: r)) = (bl t, 0) → Hid (decP t = none) := fun h => Lib.hid (dec_no hp hw (by decide) (by rw [hp]; exact h))
  have hp0 : p0.size ≤ 16384 := HPS.out p0 (by rw [hp]; simp)
  have HT := fun V => rtext6_any p0 (by omega) V
  rw [show tb2 (textP (bl p0)) = .tuple #[.string (tb (textP (bl p0)).1), .bool (textP (bl p0)).2] from rfl, hw] at HT
  rw [hp] at HP HPS HPN
  obtain ⟨W0, hW0⟩ : ∃ V, V = w.alloc (.cells #[.int .u8 0, .int .i64 0, .int .i64 0, .int .i64 0, .int .i64 0, .slice none 0 0, .string ⟨#[]⟩, .bool false, .string ⟨#[]⟩] 26) := ⟨_, rfl⟩
  have B0 : Hid (Below w.heap.size w W0) := Lib.hid (by rw [hW0]; exact (Below.refl _ _).alloc (Nat.le_refl _) _)
  have R0 : Hid (W0.heap[w.heap.size]? = some (.cells #[.int .u8 0, .int .i64 0, .int .i64 0, .int .i64 0, .int .i64 0, .slice none 0 0, .string ⟨#[]⟩, .bool false, .string ⟨#[]⟩] 26 (0, 0))) := Lib.hid (by rw [hW0]; exact Go.heap_alloc_new _ _)
  have HW0 := Lib.hid hW0
  obtain ⟨n, hn⟩ : ∃ n, n = (p0 :: r).length := ⟨_, rfl⟩
  rw [← hn] at HP
  have HN := Lib.hid hn
  have hn0 : (((n : Nat) : Int) == 0) = false := beq_eq_false_iff_ne.2 (by rw [hn]; simp only [List.length_cons]; omega)
  have hnp : (0 : Int) < (n : Int) := by rw [hn]; simp only [List.length_cons]; omega
  generalize (textP (bl p0)).2 = ist at *
  generalize (partsP (bl t)).2 = isp at *
  have HP := Lib.hid HP
  have HK := Lib.hid HK
  clear hW0 hn hp hk3 hp0 hw
  have HRH := Lib.hid hr
  clear hr
  have HT := Lib.hid HT
  go_enter Tryz.func17, Tryz.ntmps17
  go_wp2_with fail
  rw [← HW0.out]
  refine (HP.out _).mono ?_; rintro e1 w1 ⟨ao, cap, rfl, hcap, hrow, b1⟩
  obtain ⟨pb, off, rfl, hlt, hcs⟩ := txt_cells12 hrow (by simp)
  have L1 : Hid (DecL w pb off (p0 :: r) w1) := Lib.hid ⟨hcs, hlt, (b1.block _ (Array.getElem?_eq_some_iff.1 R0.out).1).trans R0.out, below_step B0.out b1⟩
  clear hcap hrow b1 hlt hcs HW0 HP
  go_wp2_with fail
  refine (HK.out _).mono ?_; rintro e2 w2 ⟨rfl, b2⟩
  have L2 := Lib.hid (L1.out.later b2)
  have q0 := L2.out.row 0 (by simp)
  rw [show (p0 :: r : List ByteArray)[0] = p0 from rfl, Nat.add_zero] at q0
  clear b2 L1 HK
  go_wp2_with fail
  refine (HT.out _).mono ?_; rintro e3 w3 ⟨rfl, b3⟩
  have L3 := Lib.hid (L2.out.later b3)
  clear b3 L2 q0 HT
  go_wp2_with fail
  go_loopw [8] (fun iv wr => ∃ j : Nat, iv = .int .u8 j ∧ 1 ≤ j ∧ j ≤ 7 ∧ Hid (3 < j → ¬ encP (candP 3 (p0 :: r)) = (bl t, 0)) ∧ Hid (DecL w pb off (p0 :: r) wr)) (fun iv _ => 7 - (intOf iv).toNat)
  case atStart => exact ⟨1, rfl, by decide, by decide, Lib.hid (fun h => by omega), L3⟩
  case round =>
    obtain ⟨j, rfl, hj1, hj7, hst, HL⟩ := hrel
    by_cases hj : j = 3
    · have hj6 : (j : Int) ≤ 6 := by omega
      have k1 : ((j : Int) == 1) = false := beq_eq_false_iff_ne.2 (by omega)
      have k2 : ((j : Int) == 2) = false := beq_eq_false_iff_ne.2 (by omega)
      have k3 : ((j : Int) == 3) = true := by rw [hj]; rfl
      have HJ := Lib.hid hj
      clear hj
      rcases r with _ | ⟨p1, r⟩
      · exfalso
        have hr2 := HRH.out
        simp only [List.length_nil] at hr2
        omega
      · rcases r with _ | ⟨p2, r⟩
        · exfalso
          have hr2 := HRH.out
          simp only [List.length_cons, List.length_nil] at hr2
          omega
        · have hn1 : (1 : Int) < (n : Int) := by have h := HN.out; simp only [List.length_cons] at h; omega
          have hn2 : (2 : Int) < (n : Int) := by have h := HN.out; simp only [List.length_cons] at h; omega
          have HX := Lib.hid (fun V => rreadtxn12_any p1 (by have := HPS.out p1 (by simp); omega) V)
          have hcx : candX (p0 :: p1 :: p2 :: r) = txGet (txnR p1) := rfl
          generalize (txnR p1).isSome = isx at *
          generalize txGet (txnR p1) = xx at *
          obtain ⟨c, e, q⟩ := xx
          have HX := Lib.hid HX.out
          have HN1 := Lib.hid (fun V => rnum12_any 1 (by decide) (by decide) V)
          obtain ⟨yv, hyv⟩ : ∃ b : Bool, b = @decide (p2 = numT 1) (Classical.propDecidable _) := ⟨_, rfl⟩
          have hye : (p2.toList == (numT 1).toList) = yv := by
            by_cases h : p2 = numT 1
            · rw [hyv, yes_dec h, h]; simp
            · rw [hyv, no_dec h]; exact (str_ne12 h).1
          have hM : candP 3 (p0 :: p1 :: p2 :: r) = ⟨j, c, e, q, 0, [], ⟨#[]⟩, yv, ⟨#[]⟩⟩ := by
            rw [HJ.out]; unfold candP; rw [hcx, hyv]
            rw [if_neg (by omega), if_neg (by omega), if_neg (by omega), if_pos ⟨by omega, by simp only [List.length_cons]; omega⟩, if_neg (by omega)]; rfl
          clear hyv
          generalize numT 1 = n1 at *
          have HN1 := Lib.hid HN1.out
          have HW := Lib.hid (fun V => (show Calls Tryz.prog 15 #[.int .u8 (j : Nat)] V (fun x w2 => x = .returned (.string (tb (wordP 3))) ∧ w2 = V) from by have h := rword_any j V; rw [show wordP j = wordP 3 by rw [HJ.out]] at h; exact h))
          generalize hwk : tb (wordP 3) = wk at *
          clear hwk
          have heq : (wk.toList != wk.toList) = false := by simp
          obtain ⟨V1, hV1⟩ : ∃ V, V = wr.alloc (.cells #[.int .u8 j, .int .i64 0, .int .i64 0, .int .i64 0, .int .i64 0, .slice none 0 0, .string ⟨#[]⟩, .bool false, .string ⟨#[]⟩] 26) := ⟨_, rfl⟩
          have D1 : Hid (DecAt w pb off (p0 :: p1 :: p2 :: r) wr.heap.size ⟨j, 0, 0, 0, 0, [], ⟨#[]⟩, false, ⟨#[]⟩⟩ (.slice none 0 0) V1) := Lib.hid (HL.out.start (by rw [hV1]; exact (Below.refl _ _).alloc (Nat.le_refl _) _) (by rw [hV1]; exact gat_new wr ⟨j, 0, 0, 0, 0, [], ⟨#[]⟩, false, ⟨#[]⟩⟩ (.slice none 0 0)) rfl)
          have q1 : V1.cell? ⟨pb, off + 1, none⟩ = some (.string p1) := D1.out.rest.row 1 (by simp)
          rw [hV1] at q1
          have HV1 := Lib.hid hV1
          clear hV1
          go_wp2_with fail
          refine (HW.out _).mono ?_; rintro e4 w4 ⟨rfl, hw4⟩; rw [hw4]; clear hw4 w4
          go_wp2_with fail
          rw [← HV1.out]
          obtain ⟨z0, z1, z2, z3, z4, z5, z6, z7, z8⟩ := D1.out.msg.cells
          dsimp only at z0 z1 z2 z3 z4 z5 z6 z7 z8
          refine (HX.out _).mono ?_; rintro e5 w5 ⟨rfl, b5⟩
          have D2 := Lib.hid (D1.out.later b5)
          clear z0 z1 z2 z3 z4 z5 z6 z7 z8 b5 q1
          obtain ⟨z0, z1, z2, z3, z4, z5, z6, z7, z8⟩ := D2.out.msg.cells
          dsimp only at z0 z1 z2 z3 z4 z5 z6 z7 z8
          have f1 := D2.out.msg.frozen 1
          have f2 := D2.out.msg.frozen 2
          have f3 := D2.out.msg.frozen 3
          obtain ⟨V2, hV2⟩ : ∃ V, V = ((w5.setCell ⟨wr.heap.size, 1, none⟩ (.int .i64 c)).setCell ⟨wr.heap.size, 2, none⟩ (.int .i64 e)).setCell ⟨wr.heap.size, 3, none⟩ (.int .i64 q) := ⟨_, rfl⟩
          have D3 : Hid (DecAt w pb off (p0 :: p1 :: p2 :: r) wr.heap.size ⟨j, c, e, q, 0, [], ⟨#[]⟩, false, ⟨#[]⟩⟩ (.slice none 0 0) V2) := Lib.hid (by
            have A1 := D2.out.setc ⟨j, c, 0, 0, 0, [], ⟨#[]⟩, false, ⟨#[]⟩⟩ (.slice none 0 0) 1 (.int .i64 c) rfl D2.out.own
            have A2 := A1.setc ⟨j, c, e, 0, 0, [], ⟨#[]⟩, false, ⟨#[]⟩⟩ (.slice none 0 0) 2 (.int .i64 e) rfl A1.own
            have A3 := A2.setc ⟨j, c, e, q, 0, [], ⟨#[]⟩, false, ⟨#[]⟩⟩ (.slice none 0 0) 3 (.int .i64 q) rfl A2.own
            rw [hV2]; exact A3)
          obtain ⟨y0, y1, y2, y3, y4, y5, y6, y7, y8⟩ := D3.out.msg.cells
          dsimp only at y0 y1 y2 y3 y4 y5 y6 y7 y8
          rw [hV2] at y0 y1 y2 y3 y4 y5 y6 y7 y8 
          have HV2 := Lib.hid hV2
          clear hV2
          go_wp2_with fail
          rw [← HV2.out]
          clear z0 z1 z2 z3 z4 z5 z6 z7 z8 y0 y1 y2 y3 y4 y5 y6 y7 y8 f1 f2 f3 HV2 
          have D4 := Lib.hid (D3.out.later (drew12 V2))
          refine wp_region_held_drew (S := fun W => W.cell? ⟨pb, off + 2, none⟩ = some (.string p2)) (by kernel_rfl) (by first | assumption | exact D4.out.rest.row 2 (by simp)) (fun hHeld => ?_)
          generalize V2.drew = wz at *
          refine wpAnyH_take (i := 0) (oi := { dst := some 94, op := Op.move (Operand.tmp 4), type := 53, pos := "ref.go:234", after := #[], guard := none }) (v := ?_) rfl (by kernel_rfl) (by kernel_rfl) (by kernel_rfl) (fun _ _ _ h => h) (Or.inl ⟨by rfl, ?_⟩) (by assumption) ?_
          rotate_left 1
          · (intro w hSw; (try dsimp only at hSw); go_simp; try with_reducible rfl)
          (try simp only [Act.put, List.setIfInBounds_toArray, List.set_cons_zero, List.set_cons_succ])
          refine wpAnyH_take (i := 1) (oi := { dst := some 95, op := Op.indexAddr 53 (Operand.tmp 94) (Operand.const (Value.int IntKind.i64 2)), type := 0, pos := "ref.go:234", after := #[{ on := 0, ground := Ground.data }], guard := none }) (v := ?_) rfl (by kernel_rfl) (by kernel_rfl) (by kernel_rfl) (fun _ _ _ h => h) (Or.inl ⟨by rfl, ?_⟩) (by assumption) ?_
          rotate_left 1
          · (intro w hSw; (try dsimp only at hSw); go_simp; try with_reducible rfl)
          (try simp only [Act.put, List.setIfInBounds_toArray, List.set_cons_zero, List.set_cons_succ])
          refine wpAnyH_take (i := 2) (oi := { dst := some 96, op := Op.load 9 (Operand.tmp 95), type := 9, pos := "ref.go:234", after := #[{ on := 1, ground := Ground.data }], guard := none }) (v := ?_) rfl (by kernel_rfl) (by kernel_rfl) (by kernel_rfl) (fun _ _ _ h => h) (Or.inl ⟨by rfl, ?_⟩) (by assumption) ?_
          rotate_left 1
          · (intro w hSw; (try dsimp only at hSw); go_simp; try with_reducible rfl)
          (try simp only [Act.put, List.setIfInBounds_toArray, List.set_cons_zero, List.set_cons_succ])
          refine wpAnyH_ready (rs := [3]) (by kernel_rfl) (by simp) ?_
          refine AllReadyH.cons (o := { dst := some 97, op := Op.call { callee := Callee.value (Operand.func 38), args := #[Operand.const (Value.int IntKind.i64 1)], argTypes := #[3] }, type := 9, pos := "ref.go:234", after := #[], guard := none }) rfl (fun K hK => ?_) AllReadyH.nil
          go_simp
          refine (HN1.out _).mono ?_; rintro e6 w6 ⟨rfl, b6⟩
          have D5 := Lib.hid (D4.out.later b6)
          have g7 := D5.out.msg.cells.2.2.2.2.2.2.2.1
          have f7 := D5.out.msg.frozen 7
          clear b6
          refine hK.out _ _ (D5.out.rest.row 2 (by simp)) (fun hHeld => ?_)
          clear hK K
          (try simp only [Act.put, List.setIfInBounds_toArray, List.set_cons_zero, List.set_cons_succ])
          refine wpAnyH_take (i := 4) (oi := { dst := some 98, op := Op.binOp BinOp.eql 9 (Operand.tmp 96) (Operand.tmp 97) 9, type := 4, pos := "ref.go:234", after := #[{ on := 2, ground := Ground.data }, { on := 3, ground := Ground.data }], guard := none }) (v := .bool yv) rfl (by kernel_rfl) (by kernel_rfl) (by kernel_rfl) (fun _ _ _ h => h) (Or.inl ⟨by rfl, ?_⟩) (by assumption) ?_
          · (intro w hSw; go_simp; all_goals (first | exact hye | (rw [hye])))
          (try simp only [Act.put, List.setIfInBounds_toArray, List.set_cons_zero, List.set_cons_succ])
          refine wpAnyH_take (i := 5) (oi := { dst := some 99, op := Op.fieldAddr 26 (Operand.tmp 9) 5, type := 0, pos := "ref.go:234", after := #[{ on := 0, ground := Ground.phase }, { on := 1, ground := Ground.phase }, { on := 2, ground := Ground.phase }, { on := 3, ground := Ground.phase }, { on := 4, ground := Ground.phase }], guard := none }) (v := ?_) rfl (by kernel_rfl) (by kernel_rfl) (by kernel_rfl) (fun _ _ _ h => h) (Or.inl ⟨by rfl, ?_⟩) (by assumption) ?_
          rotate_left 1
          · (intro w hSw; (try dsimp only at hSw); go_simp; try with_reducible rfl)
          (try simp only [Act.put, List.setIfInBounds_toArray, List.set_cons_zero, List.set_cons_succ])
          refine wpAnyH_ready (rs := [6]) (by kernel_rfl) (by simp) ?_
          refine AllReadyH.cons (o := { dst := none, op := Op.store 4 (Operand.tmp 99) (Operand.tmp 98), type := 0, pos := "ref.go:234", after := #[{ on := 5, ground := Ground.data }, { on := 4, ground := Ground.data }, { on := 3, ground := Ground.chain }, { on := 0, ground := Ground.phase }, { on := 1, ground := Ground.phase }, { on := 2, ground := Ground.phase }, { on := 3, ground := Ground.phase }, { on := 4, ground := Ground.phase }], guard := none }) rfl (fun K hK => ?_) AllReadyH.nil
          go_simp
          (try go_simp)
          have D6 := Lib.hid (D5.out.setc ⟨j, c, e, q, 0, [], ⟨#[]⟩, yv, ⟨#[]⟩⟩ (.slice none 0 0) 7 (.bool yv) rfl D5.out.own)
          refine hK.out _ _ (D6.out.rest.row 2 (by simp)) (fun hHeld => ?_)
          clear hK K
          (try simp only [Act.put, List.setIfInBounds_toArray, List.set_cons_zero, List.set_cons_succ])
          refine wpAnyH_done (by kernel_rfl) ?_ _
          clear hHeld g7 f7
          obtain ⟨W8, hW8⟩ : ∃ V, V = w6.setCell ⟨wr.heap.size, 7, none⟩ (.bool yv) := ⟨_, rfl⟩
          rw [← hW8] at D6 ⊢
          clear hW8 D5 D4 D3
          obtain ⟨z0, z1, z2, z3, z4, z5, z6, z7, z8⟩ := D6.out.msg.cells
          dsimp only at z0 z1 z2 z3 z4 z5 z6 z7 z8
          go_wp2_with fail
          have hM := hM
          obtain ⟨ao2, cap2, hu2, hr2⟩ := D6.out.row
          injection hu2 with hu3 hu4 hu5; clear hu4; subst hu3; subst hu5
          have HE := rencode12_any ⟨j, c, e, q, 0, [], ⟨#[]⟩, yv, ⟨#[]⟩⟩ none 0 (Nat.zero_le _) (Nat.zero_le _) (fun x hx => by cases hx) (Nat.zero_le _) _ (hr2)
          clear hr2
          by_cases hq : encP ⟨j, c, e, q, 0, [], ⟨#[]⟩, yv, ⟨#[]⟩⟩ = (bl t, 0)
          · have hz : decP t = some ⟨j, c, e, q, 0, [], ⟨#[]⟩, yv, ⟨#[]⟩⟩ := dec_yes hq
            rw [hq, show st2 (bl t, 0) = .tuple #[.string t, .int .i64 0] from rfl] at HE
            have HE := Lib.hid HE
            clear hq hM hst
            refine HE.out.mono ?_; rintro e8 w8 ⟨rfl, b8⟩
            have D8 := Lib.hid (D6.out.later b8)
            clear z0 z1 z2 z3 z4 z5 z6 z7 z8 b8 HE
            obtain ⟨z0, z1, z2, z3, z4, z5, z6, z7, z8⟩ := D8.out.msg.cells
            dsimp only at z0 z1 z2 z3 z4 z5 z6 z7 z8
            go_wp2_with (refine wpList_store_row rfl 26 _ _ rfl w.heap.size #[.int .u8 j, .int .i64 c, .int .i64 e, .int .i64 q, .int .i64 0, .slice none 0 0, .string ⟨#[]⟩, .bool yv, .string ⟨#[]⟩] rfl rfl 26 #[.int .u8 0, .int .i64 0, .int .i64 0, .int .i64 0, .int .i64 0, .slice none 0 0, .string ⟨#[]⟩, .bool false, .string ⟨#[]⟩] D8.out.rest.res (ms_info _ _ _ _ _ _ _ _ _) rfl (ms_one9 _ _ _ _ _ _ _ _ _ _ _) ?_)
            refine bodyPost_ret (results_row_tmp (fn := Tryz.f17) (p := 2) (u := 3) (ty := 26) rfl _ _ w.heap.size 26 #[.int .u8 j, .int .i64 c, .int .i64 e, .int .i64 q, .int .i64 0, .slice none 0 0, .string ⟨#[]⟩, .bool yv, .string ⟨#[]⟩] (0, 0) _ rfl (setRow_heap _ _ _ _ _ _ D8.out.rest.res) Tryz.underlying26 rfl (ms_info _ _ _ _ _ _ _ _ _)) rfl ?_
            rw [hz]
            exact D8.out.some
          · have hno : Hid (¬ encP (candP 3 (p0 :: p1 :: p2 :: r)) = (bl t, 0)) := Lib.hid (by rw [hM]; exact hq)
            by_cases he : (encP ⟨j, c, e, q, 0, [], ⟨#[]⟩, yv, ⟨#[]⟩⟩).2 = 0
            · obtain ⟨hs, hs2⟩ := str_ne12 (show tb (encP ⟨j, c, e, q, 0, [], ⟨#[]⟩, yv, ⟨#[]⟩⟩).1 ≠ t from fun h => hq (Prod.ext (by rw [← h]; rfl) he))
              have hs3 : ¬ (tb (encP ⟨j, c, e, q, 0, [], ⟨#[]⟩, yv, ⟨#[]⟩⟩).1).toList = t.toList := fun e => by rw [e] at hs; simp at hs
              rw [show st2 (encP ⟨j, c, e, q, 0, [], ⟨#[]⟩, yv, ⟨#[]⟩⟩) = .tuple #[.string (tb (encP ⟨j, c, e, q, 0, [], ⟨#[]⟩, yv, ⟨#[]⟩⟩).1), .int .i64 ((encP ⟨j, c, e, q, 0, [], ⟨#[]⟩, yv, ⟨#[]⟩⟩).2 : Nat)] from rfl, he] at HE
              generalize tb (encP ⟨j, c, e, q, 0, [], ⟨#[]⟩, yv, ⟨#[]⟩⟩).1 = es at *
              have HE := Lib.hid HE
              clear hq hM hst he
              refine HE.out.mono ?_; rintro e8 w8 ⟨rfl, b8⟩
              have D8 := Lib.hid (D6.out.later b8)
              clear z0 z1 z2 z3 z4 z5 z6 z7 z8 b8 HE
              go_wp2_with fail
              go_roundw
              case rel => exact ⟨j + 1, by (first | go_num | (simp only [IntKind.wrap_u8']; congr 1; omega)), by omega, by omega, Lib.hid (fun _ => hno.out), Lib.hid D8.out.rest⟩
              case measure => simp [intOf] <;> omega
            · have he2 : ((((encP ⟨j, c, e, q, 0, [], ⟨#[]⟩, yv, ⟨#[]⟩⟩).2 : Nat) : Int) == 0) = false := beq_eq_false_iff_ne.2 (by omega)
              rw [show st2 (encP ⟨j, c, e, q, 0, [], ⟨#[]⟩, yv, ⟨#[]⟩⟩) = .tuple #[.string (tb (encP ⟨j, c, e, q, 0, [], ⟨#[]⟩, yv, ⟨#[]⟩⟩).1), .int .i64 ((encP ⟨j, c, e, q, 0, [], ⟨#[]⟩, yv, ⟨#[]⟩⟩).2 : Nat)] from rfl] at HE
              generalize tb (encP ⟨j, c, e, q, 0, [], ⟨#[]⟩, yv, ⟨#[]⟩⟩).1 = es at *
              generalize (encP ⟨j, c, e, q, 0, [], ⟨#[]⟩, yv, ⟨#[]⟩⟩).2 = ee at *
              have HE := Lib.hid HE
              clear hq hM hst he
              refine HE.out.mono ?_; rintro e8 w8 ⟨rfl, b8⟩
              have D8 := Lib.hid (D6.out.later b8)
              clear z0 z1 z2 z3 z4 z5 z6 z7 z8 b8 HE
              go_wp2_with fail
              go_roundw
              case rel => exact ⟨j + 1, by (first | go_num | (simp only [IntKind.wrap_u8']; congr 1; omega)), by omega, by omega, Lib.hid (fun _ => hno.out), Lib.hid D8.out.rest⟩
              case measure => simp [intOf] <;> omega
    · by_cases hj6 : j ≤ 6
      · have hj' : (j : Int) ≤ 6 := by omega
        obtain ⟨hne, hne2⟩ := str_ne12 (show tb (wordP j) ≠ tb (wordP 3) from fun e => hj (word_one ⟨hj1, hj6⟩ (by omega) (tb_inj e)))
        have hne3 : ¬ (tb (wordP j)).toList = (tb (wordP 3)).toList := fun e => by rw [e] at hne; simp at hne
        have HW := Lib.hid (fun V => rword_any j V)
        generalize tb (wordP j) = wj at *
        generalize tb (wordP 3) = wk at *
        go_wp2_with fail
        refine (HW.out _).mono ?_; rintro e4 w4 ⟨rfl, hw4⟩; rw [hw4]; clear hw4 w4
        go_wp2_with fail
        go_roundw
        case rel => exact ⟨j + 1, by (first | go_num | (simp only [IntKind.wrap_u8']; congr 1; omega)), by omega, by omega, Lib.hid (fun h => hst.out (by omega)), HL⟩
        case measure => simp [intOf] <;> omega
      · obtain rfl : j = 7 := by omega
        have hz : decP t = none := (HDN (hst.out (by omega))).out
        go_wp2_with (refine wpList_store_row rfl 26 _ _ rfl w.heap.size #[.int .u8 0, .int .i64 0, .int .i64 0, .int .i64 0, .int .i64 0, .slice none 0 0, .string ⟨#[]⟩, .bool false, .string ⟨#[]⟩] rfl rfl 26 #[.int .u8 0, .int .i64 0, .int .i64 0, .int .i64 0, .int .i64 0, .slice none 0 0, .string ⟨#[]⟩, .bool false, .string ⟨#[]⟩] HL.out.res (ms_info _ _ _ _ _ _ _ _ _) rfl (ms_one9 _ _ _ _ _ _ _ _ _ _ _) ?_)
        refine bodyPost_ret (results_row_tmp (fn := Tryz.f17) (p := 2) (u := 3) (ty := 26) rfl _ _ w.heap.size 26 #[.int .u8 0, .int .i64 0, .int .i64 0, .int .i64 0, .int .i64 0, .slice none 0 0, .string ⟨#[]⟩, .bool false, .string ⟨#[]⟩] (0, 0) _ rfl (setRow_heap _ _ _ _ _ _ HL.out.res) Tryz.underlying26 rfl (ms_info _ _ _ _ _ _ _ _ _)) rfl ?_
        rw [hz]
        exact HL.out.none
end Go.Proofs.YthemopejebioaaaGreat.Pl
