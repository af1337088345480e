/- The document's Read of layer 13. -/
import Derived.Test.YtbdlegjklfkdmaaGreatDoorBallA20
import Derived.Test.YtbdlegjklfkdmaaGreatDoorBallA16
import Derived.Test.YtbdlegjklfkdmaaGreatDoorBallA19
namespace Go.Proofs.YtbdlegjklfkdmaaGreatDoor.Pl
open Go.RowKit

theorem txt_cells13 {V : World} {ao : Option Addr} {ps : List ByteArray} (h : TxtRow V ao ps) (hne : ps ≠ []) : ∃ pb off, ao = some ⟨pb, off, none⟩ ∧ pb < V.heap.size ∧ ∀ j, (hj : j < ps.length) → V.cell? ⟨pb, off + j, none⟩ = some (.string ps[j]) := by
  rcases h with h | ⟨pb, off, e, hlt, hc⟩
  · exact absurd h hne
  · refine ⟨pb, off, e, hlt, fun j hj => ?_⟩
    have := hc j hj
    rwa [show ps.getD j ByteArray.empty = ps[j] by simp [List.getD_eq_getElem?_getD, hj]] at this
theorem memR_fit13 (c : Int) (t : ByteArray) : (∀ x ∈ (membersR c t).getD [], x.2.size ≤ 30000) ∧ ((membersR c t).getD []).length ≤ 6 := by
  cases h : membersR c t with
  | none => exact ⟨fun x hx => (by cases hx), Nat.zero_le _⟩
  | some l =>
    obtain ⟨hm, _⟩ := membersR_again h
    obtain ⟨_, h6, hms⟩ := mayL_iff.1 hm
    refine ⟨fun x hx => ?_, h6⟩
    have := check_len (mayMs_all hms x hx).2.1
    rw [bl_length] at this
    omega
theorem bt_info (a b c d e f : Value) : (Tryz.prog.info? 26).map (·.size) = some (#[a, b, c, d, e, f].size) := by kernel_rfl
theorem bt_one6 (c e q a : Int) (ao : Option Addr) (n cap : Nat) (g : Int) : (#[.int .i64 c, .int .i64 e, .int .i64 q, .int .i64 a, .slice ao n cap, .int .i64 g] : Array Value).all (·.oneCell') = true := by simp [Value.oneCell']
def btGet (o : Option Bt) : Bt := o.getD zeroBt
def RdBt (w : World) (o : Option Bt) : Ending → World → Prop := fun x w' => (∃ ao cap, x = .returned (.tuple #[.agg (btC (btGet o) (.slice ao (btGet o).mem.length cap)), .bool o.isSome]) ∧ MemRow w' ao (btGet o).mem) ∧ Below w.heap.size w w'
/-- What Read holds: the parts in block pb, the result's block. -/
structure BdL (w : World) (pb off : Nat) (ps : List ByteArray) (V : World) : Prop where
  row : ∀ j, (hj : j < ps.length) → V.cell? ⟨pb, off + j, none⟩ = some (.string ps[j])
  lt : pb < V.heap.size
  res : V.heap[w.heap.size]? = some (.cells #[.int .i64 0, .int .i64 0, .int .i64 0, .int .i64 0, .slice none 0 0, .int .i64 0] 26 (0, 0))
  below : Below w.heap.size w V
theorem BdL.later {w : World} {pb off : Nat} {ps : List ByteArray} {V V' : World} (h : BdL w pb off ps V) (hb : Below V.heap.size V V') : BdL w pb off ps V' :=
  ⟨fun j hj => (hb.cell (p := ⟨pb, off + j, none⟩) h.lt).trans (h.row j hj), Nat.lt_of_lt_of_le h.lt hb.size, (hb.block _ (Array.getElem?_eq_some_iff.1 h.res).1).trans h.res, below_step h.below hb⟩
theorem bd_none {w V : World} (hb : Below w.heap.size w V) : RdBt w none (.returned (.tuple #[.agg #[.int .i64 0, .int .i64 0, .int .i64 0, .int .i64 0, .slice none 0 0, .int .i64 0], .bool false])) (V.setRow w.heap.size #[.int .i64 0, .int .i64 0, .int .i64 0, .int .i64 0, .slice none 0 0, .int .i64 0]) :=
  ⟨⟨_, _, rfl, .inl rfl⟩, hb.trans (turn_to (turn_row V w.heap.size _) (fun b e => by omega) hb.size)⟩
theorem bd_some {w V : World} {b : Bt} {uo : Option Addr} {uc : Nat} (hb : Below w.heap.size w V) (ho : OwnM V (w.heap.size + 1) (.slice uo b.mem.length uc) b.mem) : RdBt w (some b) (.returned (.tuple #[.agg (btC b (.slice uo b.mem.length uc)), .bool true])) (V.setRow w.heap.size (btC b (.slice uo b.mem.length uc))) := by
  have t := turn_row V w.heap.size (btC b (.slice uo b.mem.length uc))
  have ho := ownM_turn ho t (fun k e => by omega)
  obtain ⟨ao, cap, e, hr, _⟩ := ownM_row ho
  cases e
  exact ⟨⟨_, _, rfl, hr⟩, hb.trans (turn_to t (fun b e => by omega) hb.size)⟩
theorem readBt_five {t p0 p1 p2 p3 p4 : ByteArray} (hk : kindP (bl t) = 3) (hp : partsB t = [p0, p1, p2, p3, p4]) : (bodyP (candBt p1 p2 p3 p4) = (bl t, 0) → readBt t = some (candBt p1 p2 p3 p4)) ∧ (¬ bodyP (candBt p1 p2 p3 p4) = (bl t, 0) → readBt t = none) := by
  unfold readBt
  rw [hp]
  exact ⟨fun h => if_pos ⟨hk, h⟩, fun h => if_neg (fun k => h k.2)⟩
theorem readBt_not {t : ByteArray} (h : ¬ (kindP (bl t) = 3 ∧ (partsB t).length = 5)) : readBt t = none := by
  cases k : readBt t with
  | none => rfl
  | some b =>
    exfalso
    obtain ⟨hb, _⟩ := read_body k
    obtain ⟨k1, k2, _⟩ := body_parts hb
    rw [tb_bl] at k2
    exact h ⟨k1, by rw [k2]; rfl⟩

set_option maxHeartbeats 8000000 in
set_option maxRecDepth 100000 in
theorem rread13_any (t : ByteArray) (ht : t.size ≤ 281474976710656) (w : World) : Calls Tryz.prog 16 #[.string t] w (RdBt w (readBt t)) := by
  have HP := fun V => rparts12_any t ht V
  have HK := fun V => rkind_any t ht V
  have h6 := kindP_le (bl t)
  have HPS := Lib.hid (partsB_size t)
  have HNOT := @readBt_not t
  have H5 := fun p0 p1 p2 p3 p4 => @readBt_five t p0 p1 p2 p3 p4
  obtain ⟨W0, hW0⟩ : ∃ V, V = w.alloc (.cells #[.int .i64 0, .int .i64 0, .int .i64 0, .int .i64 0, .slice none 0 0, .int .i64 0] 26) := ⟨_, rfl⟩
  have B0 : Hid (Below w.heap.size w W0) := Lib.hid (by rw [hW0]; exact (Below.refl _ _).alloc (Nat.le_refl _) _)
  have R0 : Hid (W0.heap[w.heap.size]? = some (.cells #[.int .i64 0, .int .i64 0, .int .i64 0, .int .i64 0, .slice none 0 0, .int .i64 0] 26 (0, 0))) := Lib.hid (by rw [hW0]; exact Go.heap_alloc_new _ _)
  have HW0 := Lib.hid hW0
  clear hW0
  generalize (partsP (bl t)).2 = isp at *
  by_cases hk : kindP (bl t) = 3
  · rw [hk] at HK
    have HK := Lib.hid HK
    by_cases hl : (partsB t).length = 5
    · obtain ⟨p0, p1, p2, p3, p4, hp⟩ : ∃ p0 p1 p2 p3 p4, partsB t = [p0, p1, p2, p3, p4] := by
        match partsB t, hl with
        | [a, b, c, d, e], _ => exact ⟨a, b, c, d, e, rfl⟩
      obtain ⟨HY, HNO⟩ := H5 p0 p1 p2 p3 p4 hk hp
      rw [hp] at HP HPS
      have HX := fun V => rreadtxn12_any p1 (by have := HPS.out p1 (by simp); omega) V
      have HN2 := fun V => rnumr_any p2 (by have := HPS.out p2 (by simp); omega) V
      have HN4 := fun V => rnumr_any p4 (by have := HPS.out p4 (by simp); omega) V
      have HM := fun c e q V => rreadmem12_any c e q p3 (by have := HPS.out p3 (by simp); omega) V
      have hfit := fun c => memR_fit13 c p3
      unfold candBt at HY HNO
      generalize (txnR p1).isSome = ix at *
      generalize txGet (txnR p1) = xx at *
      obtain ⟨c, e, q⟩ := xx
      have HM := HM c e q
      obtain ⟨fit1, fit2⟩ := hfit c
      dsimp only [txV] at *
      generalize (rdN p2).getD 0 = v2 at *
      generalize (rdN p2).isSome = i2 at *
      generalize (rdN p4).getD 0 = v4 at *
      generalize (rdN p4).isSome = i4 at *
      generalize (membersR c p3).isSome = im at *
      generalize (membersR c p3).getD [] = ml at *
      rw [show [p0, p1, p2, p3, p4].length = 5 from rfl] at HP
      have HP := Lib.hid HP
      have HX := Lib.hid HX
      have HN2 := Lib.hid HN2
      have HN4 := Lib.hid HN4
      have HM := Lib.hid HM
      clear hk hl hp HNOT H5 h6 HPS hfit
      go_enter Tryz.func16, Tryz.ntmps16
      go_wp2_with fail
      rw [← HW0.out]
      refine (HP.out _).mono ?_; rintro e1 w1 ⟨ao, cap, rfl, hcap, hrow, b1⟩
      obtain ⟨pb, off, rfl, hlt, hcs⟩ := txt_cells13 hrow (by simp)
      have L1 : Hid (BdL w pb off [p0, p1, p2, p3, p4] w1) := Lib.hid ⟨hcs, hlt, (b1.block _ (Array.getElem?_eq_some_iff.1 R0.out).1).trans R0.out, below_step B0.out b1⟩
      clear hcap hrow b1 hlt hcs HW0 HP
      go_wp2_with fail
      refine (HK.out _).mono ?_; rintro e2 w2 ⟨rfl, b2⟩
      have L2 := Lib.hid (L1.out.later b2)
      have q1 : w2.cell? ⟨pb, off + 1, none⟩ = some (.string p1) := L2.out.row 1 (by simp)
      clear b2 L1 HK
      go_wp2_with fail
      refine (HX.out _).mono ?_; rintro e3 w3 ⟨rfl, b3⟩
      have L3 := Lib.hid (L2.out.later b3)
      obtain ⟨W3, hW3⟩ : ∃ V, V = w3.alloc (.cells #[.int .i64 c, .int .i64 e, .int .i64 q] 23) := ⟨_, rfl⟩
      have ba : Below w3.heap.size w3 W3 := by rw [hW3]; exact (Below.refl _ _).alloc (Nat.le_refl _) _
      have X3 := Lib.hid (show XAt W3 w3.heap.size c e q from hW3 ▸ xat_new w3 c e q)
      have L4 := Lib.hid (L3.out.later ba)
      have HW3 := Lib.hid hW3
      clear b3 q1 ba hW3 L2
      go_wp2_with fail
      rw [← HW3.out]
      have L5 := Lib.hid (L4.out.later (drew12 W3))
      have X5 := Lib.hid (X3.out.below (drew12 W3))
      have HC4 : Hid (∀ V, BdL w pb off [p0, p1, p2, p3, p4] V → XAt V w3.heap.size c e q → V.cell? ⟨w3.heap.size, 0, none⟩ = some (.int .i64 c) ∧ V.cell? ⟨w3.heap.size, 1, none⟩ = some (.int .i64 e) ∧ V.cell? ⟨w3.heap.size, 2, none⟩ = some (.int .i64 q) ∧ V.cell? ⟨pb, off + 3, none⟩ = some (.string p3)) := Lib.hid (fun V h x => ⟨x.cells.1, x.cells.2.1, x.cells.2.2.1, h.row 3 (by simp)⟩)
      have KS := HC4.out _ L5.out X5.out
      refine wp_region_held_drew (S := fun W => W.cell? ⟨w3.heap.size, 0, none⟩ = some (.int .i64 c) ∧ W.cell? ⟨w3.heap.size, 1, none⟩ = some (.int .i64 e) ∧ W.cell? ⟨w3.heap.size, 2, none⟩ = some (.int .i64 q) ∧ W.cell? ⟨pb, off + 3, none⟩ = some (.string p3)) (by kernel_rfl) (by first | assumption | exact KS) (fun hHeld => ?_)
      generalize W3.drew = wz at *
      refine wpAnyH_take (i := 0) (oi := { dst := some 39, op := Op.load 23 (Operand.tmp 6), type := 23, pos := "ref.go:54", after := #[], guard := none }) (v := ?_) rfl (by kernel_rfl) (by kernel_rfl) (by kernel_rfl) (fun _ _ _ h => h) (Or.inl ⟨by rfl, ?_⟩) (by assumption) ?_
      rotate_left 1
      · (intro w hSw; (try dsimp only at hSw); go_simp; try with_reducible rfl)
      (try simp only [Act.put, List.setIfInBounds_toArray, List.set_cons_zero, List.set_cons_succ])
      refine wpAnyH_take (i := 1) (oi := { dst := some 40, op := Op.move (Operand.tmp 4), type := 53, pos := "ref.go:54", after := #[], guard := none }) (v := ?_) rfl (by kernel_rfl) (by kernel_rfl) (by kernel_rfl) (fun _ _ _ h => h) (Or.inl ⟨by rfl, ?_⟩) (by assumption) ?_
      rotate_left 1
      · (intro w hSw; (try dsimp only at hSw); go_simp; try with_reducible rfl)
      (try simp only [Act.put, List.setIfInBounds_toArray, List.set_cons_zero, List.set_cons_succ])
      refine wpAnyH_take (i := 2) (oi := { dst := some 41, op := Op.indexAddr 53 (Operand.tmp 40) (Operand.const (Value.int IntKind.i64 3)), type := 0, pos := "ref.go:54", after := #[{ on := 1, ground := Ground.data }], guard := none }) (v := ?_) rfl (by kernel_rfl) (by kernel_rfl) (by kernel_rfl) (fun _ _ _ h => h) (Or.inl ⟨by rfl, ?_⟩) (by assumption) ?_
      rotate_left 1
      · (intro w hSw; (try dsimp only at hSw); go_simp; try with_reducible rfl)
      (try simp only [Act.put, List.setIfInBounds_toArray, List.set_cons_zero, List.set_cons_succ])
      refine wpAnyH_take (i := 3) (oi := { dst := some 42, op := Op.load 9 (Operand.tmp 41), type := 9, pos := "ref.go:54", after := #[{ on := 2, ground := Ground.data }], guard := none }) (v := ?_) rfl (by kernel_rfl) (by kernel_rfl) (by kernel_rfl) (fun _ _ _ h => h) (Or.inl ⟨by rfl, ?_⟩) (by assumption) ?_
      rotate_left 1
      · (intro w hSw; (try dsimp only at hSw); go_simp; try with_reducible rfl)
      (try simp only [Act.put, List.setIfInBounds_toArray, List.set_cons_zero, List.set_cons_succ])
      refine wpAnyH_ready (rs := [4]) (by kernel_rfl) (by simp) ?_
      refine AllReadyH.cons (o := { dst := some 43, op := Op.call { callee := Callee.value (Operand.func 54), args := #[Operand.tmp 39, Operand.tmp 42], argTypes := #[23, 9] }, type := 80, pos := "ref.go:54", after := #[{ on := 0, ground := Ground.data }, { on := 3, ground := Ground.data }], guard := none }) rfl (fun K hK => ?_) AllReadyH.nil
      go_simp
      refine (HM.out _).mono ?_; rintro e6 w6 ⟨⟨mv, rfl, ho⟩, b6⟩
      obtain ⟨mo, mc, rfl, -⟩ := ownM_row ho
      have L6 := Lib.hid (L5.out.later b6)
      have X6 := Lib.hid (X5.out.below b6)
      have O6 := Lib.hid (ownM_low ho (show w.heap.size + 1 ≤ _ from (Array.getElem?_eq_some_iff.1 L5.out.res).1))
      clear ho b6
      refine hK.out _ _ (HC4.out _ L6.out X6.out) (fun hHeld => ?_)
      clear hK K
      (try simp only [Act.put, List.setIfInBounds_toArray, List.set_cons_zero, List.set_cons_succ])
      refine wpAnyH_take (i := 5) (oi := { dst := some 38, op := Op.move (Operand.tmp 43), type := 80, pos := "ref.go:54", after := #[{ on := 4, ground := Ground.data }], guard := none }) (v := ?_) rfl (by kernel_rfl) (by kernel_rfl) (by kernel_rfl) (fun _ _ _ h => h) (Or.inl ⟨by rfl, ?_⟩) (by assumption) ?_
      rotate_left 1
      · (intro w hSw; (try dsimp only at hSw); go_simp; try with_reducible rfl)
      (try simp only [Act.put, List.setIfInBounds_toArray, List.set_cons_zero, List.set_cons_succ])
      refine wpAnyH_take (i := 6) (oi := { dst := some 44, op := Op.extract (Operand.tmp 38) 0, type := 24, pos := "ref.go:54", after := #[{ on := 5, ground := Ground.data }], guard := none }) (v := ?_) rfl (by kernel_rfl) (by kernel_rfl) (by kernel_rfl) (fun _ _ _ h => h) (Or.inl ⟨by rfl, ?_⟩) (by assumption) ?_
      rotate_left 1
      · (intro w hSw; (try dsimp only at hSw); go_simp; try with_reducible rfl)
      (try simp only [Act.put, List.setIfInBounds_toArray, List.set_cons_zero, List.set_cons_succ])
      refine wpAnyH_take (i := 7) (oi := { dst := some 45, op := Op.extract (Operand.tmp 38) 1, type := 4, pos := "ref.go:54", after := #[{ on := 5, ground := Ground.data }, { on := 8, ground := Ground.gcOnly Departure.lateStores }], guard := none }) (v := ?_) rfl (by kernel_rfl) (by kernel_rfl) (by kernel_rfl) (fun _ _ _ h => h) (Or.inl ⟨by rfl, ?_⟩) (by assumption) ?_
      rotate_left 1
      · (intro w hSw; (try dsimp only at hSw); go_simp; try with_reducible rfl)
      (try simp only [Act.put, List.setIfInBounds_toArray, List.set_cons_zero, List.set_cons_succ])
      refine wpAnyH_take (i := 8) (oi := { dst := some 8, op := Op.assign (Operand.tmp 44), type := 24, pos := "ref.go:54", after := #[{ on := 6, ground := Ground.data }, { on := 4, ground := Ground.chain }, { on := 0, ground := Ground.phase }, { on := 1, ground := Ground.phase }, { on := 2, ground := Ground.phase }, { on := 3, ground := Ground.phase }, { on := 4, ground := Ground.phase }, { on := 5, ground := Ground.phase }, { on := 6, ground := Ground.phase }, { on := 7, ground := Ground.textOnly Departure.lateStores }], guard := none }) (v := ?_) rfl (by kernel_rfl) (by kernel_rfl) (by kernel_rfl) (fun _ _ _ h => h) (Or.inl ⟨by rfl, ?_⟩) (by assumption) ?_
      rotate_left 1
      · (intro w hSw; (try dsimp only at hSw); go_simp; try with_reducible rfl)
      (try simp only [Act.put, List.setIfInBounds_toArray, List.set_cons_zero, List.set_cons_succ])
      refine wpAnyH_take (i := 9) (oi := { dst := some 9, op := Op.assign (Operand.tmp 45), type := 4, pos := "ref.go:54", after := #[{ on := 7, ground := Ground.data }, { on := 8, ground := Ground.chain }, { on := 0, ground := Ground.phase }, { on := 1, ground := Ground.phase }, { on := 2, ground := Ground.phase }, { on := 3, ground := Ground.phase }, { on := 4, ground := Ground.phase }, { on := 5, ground := Ground.phase }, { on := 6, ground := Ground.phase }, { on := 7, ground := Ground.phase }, { on := 8, ground := Ground.phase }], guard := none }) (v := ?_) rfl (by kernel_rfl) (by kernel_rfl) (by kernel_rfl) (fun _ _ _ h => h) (Or.inl ⟨by rfl, ?_⟩) (by assumption) ?_
      rotate_left 1
      · (intro w hSw; (try dsimp only at hSw); go_simp; try with_reducible rfl)
      (try simp only [Act.put, List.setIfInBounds_toArray, List.set_cons_zero, List.set_cons_succ])
      refine wpAnyH_done (by kernel_rfl) ?_ _
      clear hHeld
      have q2 : w6.cell? ⟨pb, off + 2, none⟩ = some (.string p2) := L6.out.row 2 (by simp)
      go_wp2_with fail
      refine (HN2.out _).mono ?_; rintro e7 w7 ⟨rfl, b7⟩
      have L7 := Lib.hid (L6.out.later b7)
      have X7 := Lib.hid (X6.out.below b7)
      have O7 := Lib.hid (ownM_below O6.out b7)
      have q4 : w7.cell? ⟨pb, off + 4, none⟩ = some (.string p4) := L7.out.row 4 (by simp)
      clear b7 q2
      go_wp2_with fail
      refine (HN4.out _).mono ?_; rintro e8 w8 ⟨rfl, b8⟩
      have L8 := Lib.hid (L7.out.later b8)
      have X8 := Lib.hid (X7.out.below b8)
      have O8 := Lib.hid (ownM_below O7.out b8)
      obtain ⟨x0, x1, x2, -⟩ := X8.out.cells
      obtain ⟨W9, hW9⟩ : ∃ V, V = w8.alloc (.cells #[.int .i64 c, .int .i64 e, .int .i64 q, .int .i64 v2, .slice mo ml.length mc, .int .i64 v4] 26) := ⟨_, rfl⟩
      have ba : Below w8.heap.size w8 W9 := by rw [hW9]; exact (Below.refl _ _).alloc (Nat.le_refl _) _
      have G9 := Lib.hid (show BAt W9 w8.heap.size ⟨c, e, q, v2, ml, v4⟩ (.slice mo ml.length mc) from hW9 ▸ bat_new w8 ⟨c, e, q, v2, ml, v4⟩ (.slice mo ml.length mc))
      have L9 := Lib.hid (L8.out.later ba)
      have O9 := Lib.hid (ownM_below O8.out ba)
      have HW9 := Lib.hid hW9
      clear b8 q4 ba hW9
      go_wp2_with fail
      rw [← HW9.out]
      clear x0 x1 x2
      have hr9 : MemRow W9 mo ml := by obtain ⟨a, b, ee, hr, -, -⟩ := ownM_row O9.out; cases ee; exact hr
      have HB := rbody13_any ⟨c, e, q, v2, ml, v4⟩ mo mc fit1 (Nat.le_trans fit2 (by decide)) W9 hr9
      clear hr9
      by_cases hq : bodyP ⟨c, e, q, v2, ml, v4⟩ = (bl t, 0)
      · have hz := HY hq
        rw [hq, show st2 (bl t, 0) = .tuple #[.string t, .int .i64 0] from rfl] at HB
        have HB := Lib.hid HB
        clear HY HNO hq
        refine HB.out.mono ?_; rintro e10 wa ⟨rfl, ba⟩
        have LA := Lib.hid (L9.out.later ba)
        have OA := Lib.hid (ownM_below O9.out ba)
        obtain ⟨z0, z1, z2, z3, z4, z5⟩ := (G9.out.below ba).cells
        dsimp only at z0 z1 z2 z3 z4 z5
        clear ba HB
        go_wp2_with (refine wpList_store_row rfl 26 _ _ rfl w.heap.size #[.int .i64 c, .int .i64 e, .int .i64 q, .int .i64 v2, .slice mo ml.length mc, .int .i64 v4] rfl rfl 26 #[.int .i64 0, .int .i64 0, .int .i64 0, .int .i64 0, .slice none 0 0, .int .i64 0] LA.out.res (bt_info _ _ _ _ _ _) rfl (bt_one6 _ _ _ _ _ _ _ _) ?_)
        refine bodyPost_ret (results_row_tmp (fn := Tryz.f16) (p := 2) (u := 3) (ty := 26) rfl _ _ w.heap.size 26 #[.int .i64 c, .int .i64 e, .int .i64 q, .int .i64 v2, .slice mo ml.length mc, .int .i64 v4] (0, 0) _ rfl (setRow_heap _ _ _ _ _ _ LA.out.res) Tryz.underlying26 rfl (bt_info _ _ _ _ _ _)) rfl ?_
        rw [hz]
        exact bd_some (b := ⟨c, e, q, v2, ml, v4⟩) LA.out.below OA.out
      · have hz := HNO hq
        rw [show st2 (bodyP ⟨c, e, q, v2, ml, v4⟩) = .tuple #[.string (tb (bodyP ⟨c, e, q, v2, ml, v4⟩).1), .int .i64 ((bodyP ⟨c, e, q, v2, ml, v4⟩).2 : Nat)] from rfl] at HB
        by_cases he : (bodyP ⟨c, e, q, v2, ml, v4⟩).2 = 0
        · obtain ⟨hs, hs2⟩ := str_ne12 (show tb (bodyP ⟨c, e, q, v2, ml, v4⟩).1 ≠ t from fun h => hq (Prod.ext (by rw [← h]; rfl) he))
          have hs3 : ¬ (tb (bodyP ⟨c, e, q, v2, ml, v4⟩).1).toList = t.toList := fun e => by rw [e] at hs; simp at hs
          rw [he] at HB
          generalize tb (bodyP ⟨c, e, q, v2, ml, v4⟩).1 = es at *
          have HB := Lib.hid HB
          clear HY HNO hq he
          refine HB.out.mono ?_; rintro e10 wa ⟨rfl, ba⟩
          have LA := Lib.hid (L9.out.later ba)
          clear ba HB
          go_wp2_with (refine wpList_store_row rfl 26 _ _ rfl w.heap.size #[.int .i64 0, .int .i64 0, .int .i64 0, .int .i64 0, .slice none 0 0, .int .i64 0] rfl rfl 26 #[.int .i64 0, .int .i64 0, .int .i64 0, .int .i64 0, .slice none 0 0, .int .i64 0] LA.out.res (bt_info _ _ _ _ _ _) rfl (bt_one6 _ _ _ _ _ _ _ _) ?_)
          refine bodyPost_ret (results_row_tmp (fn := Tryz.f16) (p := 2) (u := 3) (ty := 26) rfl _ _ w.heap.size 26 #[.int .i64 0, .int .i64 0, .int .i64 0, .int .i64 0, .slice none 0 0, .int .i64 0] (0, 0) _ rfl (setRow_heap _ _ _ _ _ _ LA.out.res) Tryz.underlying26 rfl (bt_info _ _ _ _ _ _)) rfl ?_
          rw [hz]
          exact bd_none LA.out.below
        · have he2 : ((((bodyP ⟨c, e, q, v2, ml, v4⟩).2 : Nat) : Int) != 0) = true := by rw [bne_iff_ne]; omega
          have he3 : ¬ (((bodyP ⟨c, e, q, v2, ml, v4⟩).2 : Nat) : Int) = 0 := by omega
          generalize tb (bodyP ⟨c, e, q, v2, ml, v4⟩).1 = es at *
          generalize (bodyP ⟨c, e, q, v2, ml, v4⟩).2 = ee at *
          have HB := Lib.hid HB
          clear HY HNO hq he
          refine HB.out.mono ?_; rintro e10 wa ⟨rfl, ba⟩
          have LA := Lib.hid (L9.out.later ba)
          clear ba HB
          go_wp2_with (refine wpList_store_row rfl 26 _ _ rfl w.heap.size #[.int .i64 0, .int .i64 0, .int .i64 0, .int .i64 0, .slice none 0 0, .int .i64 0] rfl rfl 26 #[.int .i64 0, .int .i64 0, .int .i64 0, .int .i64 0, .slice none 0 0, .int .i64 0] LA.out.res (bt_info _ _ _ _ _ _) rfl (bt_one6 _ _ _ _ _ _ _ _) ?_)
          refine bodyPost_ret (results_row_tmp (fn := Tryz.f16) (p := 2) (u := 3) (ty := 26) rfl _ _ w.heap.size 26 #[.int .i64 0, .int .i64 0, .int .i64 0, .int .i64 0, .slice none 0 0, .int .i64 0] (0, 0) _ rfl (setRow_heap _ _ _ _ _ _ LA.out.res) Tryz.underlying26 rfl (bt_info _ _ _ _ _ _)) rfl ?_
          rw [hz]
          exact bd_none LA.out.below
    · have hz := Lib.hid (HNOT (fun h => hl h.2))
      have hl2 : (((partsB t).length : Int) != 5) = true := by rw [bne_iff_ne]; omega
      clear HNOT H5 h6 hk HPS
      generalize partsB t = ps at *
      generalize ps.length = n at *
      have HP := Lib.hid HP
      clear hl
      go_enter Tryz.func16, Tryz.ntmps16
      go_wp2_with fail
      rw [← HW0.out]
      refine (HP.out _).mono ?_; rintro e1 w1 ⟨ao, cap, rfl, hcap, hrow, b1⟩
      have r1 := (b1.block _ (Array.getElem?_eq_some_iff.1 R0.out).1).trans R0.out
      have B1 := Lib.hid (below_step B0.out b1)
      clear hcap hrow b1
      go_wp2_with fail
      refine (HK.out _).mono ?_; rintro e2 w2 ⟨rfl, b2⟩
      have r2 := Lib.hid ((b2.block _ (Array.getElem?_eq_some_iff.1 r1).1).trans r1)
      have B2 := Lib.hid (below_step B1.out b2)
      clear b2 r1
      go_wp2_with (refine wpList_store_row rfl 26 _ _ rfl w.heap.size #[.int .i64 0, .int .i64 0, .int .i64 0, .int .i64 0, .slice none 0 0, .int .i64 0] rfl rfl 26 #[.int .i64 0, .int .i64 0, .int .i64 0, .int .i64 0, .slice none 0 0, .int .i64 0] r2.out (bt_info _ _ _ _ _ _) rfl (bt_one6 _ _ _ _ _ _ _ _) ?_)
      refine bodyPost_ret (results_row_tmp (fn := Tryz.f16) (p := 2) (u := 3) (ty := 26) rfl _ _ w.heap.size 26 #[.int .i64 0, .int .i64 0, .int .i64 0, .int .i64 0, .slice none 0 0, .int .i64 0] (0, 0) _ rfl (setRow_heap _ _ _ _ _ _ r2.out) Tryz.underlying26 rfl (bt_info _ _ _ _ _ _)) rfl ?_
      rw [hz.out]
      exact bd_none B2.out
  · have hz := Lib.hid (HNOT (fun h => hk h.1))
    have hk2 : ((kindP (bl t) : Nat) : Int) ≠ 3 := by omega
    have hk3 : (((kindP (bl t) : Nat) : Int) != 3) = true := by rw [bne_iff_ne]; exact hk2
    clear HNOT H5 h6 HPS hk
    generalize kindP (bl t) = kd at *
    generalize partsB t = ps at *
    generalize ps.length = n at *
    have HP := Lib.hid HP
    have HK := Lib.hid HK
    go_enter Tryz.func16, Tryz.ntmps16
    go_wp2_with fail
    rw [← HW0.out]
    refine (HP.out _).mono ?_; rintro e1 w1 ⟨ao, cap, rfl, hcap, hrow, b1⟩
    have r1 := (b1.block _ (Array.getElem?_eq_some_iff.1 R0.out).1).trans R0.out
    have B1 := Lib.hid (below_step B0.out b1)
    clear hcap hrow b1
    go_wp2_with fail
    refine (HK.out _).mono ?_; rintro e2 w2 ⟨rfl, b2⟩
    have r2 := Lib.hid ((b2.block _ (Array.getElem?_eq_some_iff.1 r1).1).trans r1)
    have B2 := Lib.hid (below_step B1.out b2)
    clear b2 r1
    go_wp2_with (refine wpList_store_row rfl 26 _ _ rfl w.heap.size #[.int .i64 0, .int .i64 0, .int .i64 0, .int .i64 0, .slice none 0 0, .int .i64 0] rfl rfl 26 #[.int .i64 0, .int .i64 0, .int .i64 0, .int .i64 0, .slice none 0 0, .int .i64 0] r2.out (bt_info _ _ _ _ _ _) rfl (bt_one6 _ _ _ _ _ _ _ _) ?_)
    refine bodyPost_ret (results_row_tmp (fn := Tryz.f16) (p := 2) (u := 3) (ty := 26) rfl _ _ w.heap.size 26 #[.int .i64 0, .int .i64 0, .int .i64 0, .int .i64 0, .slice none 0 0, .int .i64 0] (0, 0) _ rfl (setRow_heap _ _ _ _ _ _ r2.out) Tryz.underlying26 rfl (bt_info _ _ _ _ _ _)) rfl ?_
    rw [hz.out]
    exact bd_none B2.out
end Go.Proofs.YtbdlegjklfkdmaaGreatDoor.Pl
