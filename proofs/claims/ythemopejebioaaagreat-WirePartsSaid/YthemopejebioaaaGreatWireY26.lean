/- Which transactions, and members, may be, and which terms they have; and of which any text is the term: the walk. -/
import Derived.Test.YthemopejebioaaaGreatWireY21
import Derived.Test.YthemopejebioaaaGreatWireY24
import Derived.Test.YthemopejebioaaaGreatWireY17
import Derived.Test.YthemopejebioaaaGreatWireY9
import Derived.Test.YthemopejebioaaaGreatWireY10
import Derived.Test.YthemopejebioaaaGreatWireY14
import Derived.Test.YthemopejebioaaaGreatWireY16
namespace Go.Proofs.YthemopejebioaaaGreat.Pl
open Go.RowKit

theorem wpOp_appM {ops : Array Oper} {o : Oper} {a : Act} {K : Act → World → Prop} {Q : Exit → Act → World → Prop} {W : World} (hw : Region.wanted o (yielded ops a.tmps) = true) (s x : Operand)
    (ho : o.op = .call { callee := .builtin .append, args := #[s, x], argTypes := #[24, 24] }) (hty : o.type = 24) {B : Nat} {v : Value} {l m : List Mb} {ao : Option Addr} {cap : Nat} (hs : a.eval s = v) (hx : a.eval x = .slice ao m.length cap)
    (hown : OwnM W B v l) (hB : B ≤ W.heap.size) (hrow : MemRow W ao m) (hp : ao = none → cap = 0) (hl : l.length + m.length ≤ 1000000)
    (h : ∀ v' w', OwnM w' B v' (l ++ m) → W.grownBy w' v.ownBlock → K (a.put o.dst v') w') :
    if Region.wanted o (yielded ops a.tmps) = true then Oper.wp Tryz.prog o a W K Q else K (a.put o.dst undef) W := by
  obtain ⟨v', w', hr, h2, h3⟩ := appM_run hown hB hrow hp hl
  rw [if_pos hw]
  unfold Oper.wp execOp
  simp only [ho, hty, resolve, invoke, builtin, Sem.run_bind, Sem.run_pure, Result.andThen_ok, List.map_toArray, List.map_cons, List.map_nil, hs, hx, hr]
  exact h v' w' h2 h3
theorem mtP_ok {c : Int} {l : List Mb} (h : (mtP c l).2 = 0) : membersR c (tb (mtP c l).1) = some l := by
  unfold mtP at h ⊢
  by_cases h1 : mayL c l = true
  · rw [if_pos h1] at h ⊢
    by_cases h2 : (membersT l).2 = 0
    · rw [if_pos h2] at h ⊢
      exact membersR_ok h1 h2
    · rw [if_neg h2] at h; cases h
  · rw [if_neg h1] at h; cases h
theorem mtP_size {c : Int} {l : List Mb} : (mtP c l).1.length ≤ 16384 := by
  unfold mtP
  by_cases h1 : mayL c l = true
  · rw [if_pos h1]
    by_cases h2 : (membersT l).2 = 0
    · rw [if_pos h2]
      have h := rowP_size (l.map fun m => (memT m).1)
      rw [(membersT_is h2).2] at h
      exact h
    · rw [if_neg h2]; exact Nat.zero_le _
  · rw [if_neg h1]; exact Nat.zero_le _

set_option maxHeartbeats 8000000 in
set_option maxRecDepth 100000 in
theorem wireparts_any (c e q : Int) (l : List Mb) (ao : Option Addr) (cap : Nat) (t : ByteArray) (ht : t.size ≤ 281474976710656) (w : World) (hrow : MemRow w ao l) (hnil : ao = none → cap = 0) (hlen : l.length ≤ 9223372036854775807) :
    Calls Tryz.prog 5 #[.agg #[.int .i64 c, .int .i64 e, .int .i64 q], .slice ao l.length cap, .string t] w fun x w' => x = .returned (.bool true) ∧ Below w.heap.size w w' := by
  have HA := Lib.hid alive12_any
  have LL := fun V (hV : Below w.heap.size w V) => longl_any l ao cap hlen V (hrow.below hV)
  obtain ⟨W0, hW0⟩ : ∃ V, V = w.alloc (.cells #[.int .i64 c, .int .i64 e, .int .i64 q] 23) := ⟨_, rfl⟩
  have x0 : XAt W0 w.heap.size c e q := by rw [hW0]; exact xat_new w c e q
  have b0 : Below w.heap.size w W0 := by rw [hW0]; exact (Below.refl _ _).alloc (Nat.le_refl _) _
  have B0 := Lib.hid b0
  have HW0 := Lib.hid hW0
  have HC : Hid (∀ V, Below W0.heap.size W0 V → V.cell? ⟨w.heap.size, 0, none⟩ = some (.int .i64 c) ∧ V.cell? ⟨w.heap.size, 1, none⟩ = some (.int .i64 e) ∧ V.cell? ⟨w.heap.size, 2, none⟩ = some (.int .i64 q)) := Lib.hid (fun V hV => ⟨(x0.below hV).cells.1, (x0.below hV).cells.2.1, (x0.below hV).cells.2.2.1⟩)
  clear hW0 x0 b0
  cases hll : longL l with
  | true =>
    rw [hll] at LL
    have LL := Lib.hid LL
    generalize l.length = n at *
    clear hrow
    go_enter Tryz.func5, Tryz.ntmps5
    go_wp2_with fail
    rw [← HW0.out]
    refine (LL.out _ B0.out).mono ?_; rintro e1 V1 ⟨rfl, hw⟩; rw [hw]; clear hw V1
    go_wp2_with fail
    refine (HA.out _).mono ?_; rintro e V ⟨rfl, b2⟩
    go_wp2_with fail
    go_ret
    exact ⟨rfl, below_step B0.out b2⟩
  | false =>
    rw [hll] at LL
    obtain ⟨p1, p2⟩ := longL_no hll
    have LL := Lib.hid LL
    by_cases hts : 20000 < t.size
    · have hts' : (20000 : Int) < (t.size : Int) := by omega
      generalize l.length = n at *
      clear hrow
      go_enter Tryz.func5, Tryz.ntmps5
      go_wp2_with fail
      rw [← HW0.out]
      refine (LL.out _ B0.out).mono ?_; rintro e1 V1 ⟨rfl, hw⟩; rw [hw]; clear hw V1
      go_wp2_with fail
      refine (HA.out _).mono ?_; rintro e V ⟨rfl, b2⟩
      go_wp2_with fail
      go_ret
      exact ⟨rfl, below_step B0.out b2⟩
    · have hts' : ¬ (20000 : Int) < (t.size : Int) := by omega
      have HT1 := fun V => txn12x_any c e q V
      have HT2 := fun V => rtxn12_any c e q V
      rw [show st2 (txP c e q) = .tuple #[.string (tb (txP c e q).1), .int .i64 ((txP c e q).2 : Nat)] from rfl] at HT1 HT2
      have HB1 := fun o cc V (hr : MemRow V o l) => members12x_any c e q l o cc (fun x hx => by have := p2 x hx; omega) hlen V hr
      have HB2 := fun V (hV : Below w.heap.size w V) => rmembers12_any c e q l ao cap (fun x hx => by have := p2 x hx; omega) hlen V (hrow.below hV)
      have HGZ : (mtP c l).2 = 0 → membersR c (tb (mtP c l).1) = some l := mtP_ok
      have HG3 := fun V => readmem12_any c e q (tb (mtP c l).1) (by have := @mtP_size c l; unfold tb; rw [size_lit]; omega) V
      rw [show st2 (mtP c l) = .tuple #[.string (tb (mtP c l).1), .int .i64 ((mtP c l).2 : Nat)] from rfl] at HB1 HB2
      have HX1 := Lib.hid (fun V => maytxn_any c e q V)
      have HX2 := Lib.hid (fun V => rmaytxn_any c e q V)
      have HL1 := Lib.hid (fun V (hV : Below w.heap.size w V) => maymems_any c e q l ao cap (fun x hx => by have := p2 x hx; omega) hlen V (hrow.below hV))
      have HL2 := Lib.hid (fun V (hV : Below w.heap.size w V) => rmaymems_any c e q l ao cap (fun x hx => by have := p2 x hx; omega) hlen V (hrow.below hV))
      have HR1 := fun V => readtxn12_any t ht V
      have HR2 := fun V => rreadtxn12_any t ht V
      have HM1 := fun V => readmem12_any c e q t ht V
      have HM2 := fun V => rreadmem12_any c e q t ht V
      have hrl := (memR_fit c t).2
      have HROW := Lib.hid (fun V (hV : Below w.heap.size w V) => hrow.below hV)
      have HSL := fun o cc V (hr : MemRow V o l) (hV : Below w.heap.size w V) => samem_any l l o ao cc cap (by omega) V hr (hrow.below hV)
      rw [eqL_yes rfl] at HSL
      generalize tb (txP c e q).1 = ts at *
      generalize (txP c e q).2 = te at *
      generalize hgs : tb (mtP c l).1 = gs at *
      generalize (mtP c l).2 = ge at *
      generalize mayX c e q = mx at *
      generalize mayL c l = ml at *
      generalize (txnR t).isSome = xi at *
      generalize txGet (txnR t) = xx at *
      obtain ⟨c1, e1, q1⟩ := xx
      dsimp only [txV] at HR1 HR2
      generalize (membersR c t).isSome = mi at *
      generalize (membersR c t).getD [] = rl at *
      have HSS := fun o cc o2 c2 V (h1 : MemRow V o rl) (h2 : MemRow V o2 rl) => samem_any rl rl o o2 cc c2 (by omega) V h1 h2
      rw [eqL_yes rfl] at HSS
      obtain ⟨n, hn⟩ : ∃ n, n = l.length := ⟨_, rfl⟩
      obtain ⟨rn, hrn⟩ : ∃ n, n = rl.length := ⟨_, rfl⟩
      have HN := Lib.hid hn
      have HRN := Lib.hid hrn
      have HNL : Hid (l.length ≤ 20) := Lib.hid p1
      have HNIL := Lib.hid hnil
      rw [← hn] at HB1 HB2 HL1 HL2 HSL LL
      rw [← hrn] at HSS
      rw [← hn]
      have HT1 := Lib.hid HT1
      have HT2 := Lib.hid HT2
      have HB1 := Lib.hid HB1
      have HB2 := Lib.hid HB2
      have HR1 := Lib.hid HR1
      have HR2 := Lib.hid HR2
      have HM1 := Lib.hid HM1
      have HM2 := Lib.hid HM2
      have HSL := Lib.hid HSL
      have HSS := Lib.hid HSS
      have HGZ := Lib.hid HGZ
      have HG3 := Lib.hid HG3
      clear hn hrn hrow hnil hlen p1 p2 hrl hgs hll
      go_enter Tryz.func5, Tryz.ntmps5
      go_wp2_with fail
      rw [← HW0.out]
      refine (LL.out _ B0.out).mono ?_; rintro e1 V1 ⟨rfl, hw⟩; rw [hw]; clear hw V1
      obtain ⟨x0, x1, x2⟩ := HC.out _ (Below.refl _ _)
      go_wp2_with fail
      refine (HT1.out _).mono ?_; rintro e1 V1 ⟨rfl, b1⟩
      have BZ := Lib.hid b1
      have BB := Lib.hid (below_step B0.out b1)
      clear b1 x0 x1 x2
      obtain ⟨x0, x1, x2⟩ := HC.out _ BZ.out
      go_wp2_with fail
      refine (HT2.out _).mono ?_; rintro e2 V2 ⟨rfl, b2⟩
      have BZ := Lib.hid (below_step BZ.out b2)
      have BB := Lib.hid (below_step BB.out b2)
      clear b2 x0 x1 x2
      go_wp2_with fail
      have BZ := Lib.hid (below_step BZ.out (drew12 V2))
      have BB := Lib.hid (below_step BB.out (drew12 V2))
      refine wp_region_held_drew (S := fun W => W.cell? ⟨w.heap.size, 0, none⟩ = some (.int .i64 c) ∧ W.cell? ⟨w.heap.size, 1, none⟩ = some (.int .i64 e) ∧ W.cell? ⟨w.heap.size, 2, none⟩ = some (.int .i64 q)) (by kernel_rfl) (by first | assumption | exact HC.out _ BZ.out) (fun hHeld => ?_)
      generalize V2.drew = wz at *
      refine wpAnyH_take (i := 0) (oi := { dst := some 42, op := Op.load 23 (Operand.tmp 3), type := 23, pos := "law.go:80", after := #[], guard := none }) (v := ?_) rfl (by kernel_rfl) (by kernel_rfl) (by kernel_rfl) (fun _ _ _ h => h) (Or.inl ⟨by rfl, ?_⟩) (by assumption) ?_
      rotate_left 1
      · (intro w hSw; (try dsimp only at hSw); go_simp; try with_reducible rfl)
      (try simp only [Act.put, List.setIfInBounds_toArray, List.set_cons_zero, List.set_cons_succ])
      refine wpAnyH_take (i := 1) (oi := { dst := some 43, op := Op.move (Operand.tmp 1), type := 24, pos := "law.go:80", after := #[], guard := none }) (v := ?_) rfl (by kernel_rfl) (by kernel_rfl) (by kernel_rfl) (fun _ _ _ h => h) (Or.inl ⟨by rfl, ?_⟩) (by assumption) ?_
      rotate_left 1
      · (intro w hSw; (try dsimp only at hSw); go_simp; try with_reducible rfl)
      (try simp only [Act.put, List.setIfInBounds_toArray, List.set_cons_zero, List.set_cons_succ])
      refine wpAnyH_ready (rs := [2]) (by kernel_rfl) (by simp) ?_
      refine AllReadyH.cons (o := { dst := some 44, op := Op.call { callee := Callee.builtin Builtin.append, args := #[Operand.const (Value.slice none 0 0), Operand.tmp 43], argTypes := #[24, 24] }, type := 24, pos := "law.go:80", after := #[{ on := 1, ground := Ground.data }], guard := none }) rfl (fun K hK => ?_) AllReadyH.nil
      have hrz := HROW.out _ BB.out
      skip
      refine wpOp_appM (by kernel_rfl) _ _ rfl rfl (B := wz.heap.size) (v := .slice none 0 0) (l := []) (m := l) (ao := ao) (cap := cap) rfl (by rw [← HN.out]; rfl) (ownM_nil _ _) (Nat.le_refl _) hrz HNIL.out (by have := HNL.out; simp only [List.length_nil]; omega) ?_
      intro v3 w3 ho hg
      have b3 := below_of_grown12 hg
      rw [List.nil_append] at ho
      obtain ⟨o3, c3, rfl, hr3, -, -⟩ := ownM_row ho
      rw [← HN.out]
      have R3 := Lib.hid hr3
      have BZ := Lib.hid (below_step BZ.out b3)
      have BB := Lib.hid (below_step BB.out b3)
      clear ho hg b3 hr3 hrz
      refine hK.out _ _ (HC.out _ BZ.out) (fun hHeld => ?_)
      clear hK K
      (try simp only [Act.put, List.setIfInBounds_toArray, List.set_cons_zero, List.set_cons_succ])
      refine wpAnyH_ready (rs := [3]) (by kernel_rfl) (by simp) ?_
      refine AllReadyH.cons (o := { dst := some 45, op := Op.call { callee := Callee.value (Operand.func 21), args := #[Operand.tmp 42, Operand.tmp 44], argTypes := #[23, 24] }, type := 31, pos := "law.go:80", after := #[{ on := 0, ground := Ground.data }, { on := 2, ground := Ground.data }, { on := 2, ground := Ground.chain }], guard := none }) rfl (fun K hK => ?_) AllReadyH.nil
      go_simp
      refine (HB1.out _ _ _ R3.out).mono ?_; rintro e4 w4 ⟨rfl, b4⟩
      have BZ := Lib.hid (below_step BZ.out b4)
      have BB := Lib.hid (below_step BB.out b4)
      clear b4
      refine hK.out _ _ (HC.out _ BZ.out) (fun hHeld => ?_)
      clear hK K
      (try simp only [Act.put, List.setIfInBounds_toArray, List.set_cons_zero, List.set_cons_succ])
      refine wpAnyH_take (i := 4) (oi := { dst := some 41, op := Op.move (Operand.tmp 45), type := 31, pos := "law.go:80", after := #[{ on := 3, ground := Ground.data }], guard := none }) (v := ?_) rfl (by kernel_rfl) (by kernel_rfl) (by kernel_rfl) (fun _ _ _ h => h) (Or.inl ⟨by rfl, ?_⟩) (by assumption) ?_
      rotate_left 1
      · (intro w hSw; (try dsimp only at hSw); go_simp; try with_reducible rfl)
      (try simp only [Act.put, List.setIfInBounds_toArray, List.set_cons_zero, List.set_cons_succ])
      refine wpAnyH_take (i := 5) (oi := { dst := some 46, op := Op.extract (Operand.tmp 41) 0, type := 9, pos := "law.go:80", after := #[{ on := 4, ground := Ground.data }], guard := none }) (v := ?_) rfl (by kernel_rfl) (by kernel_rfl) (by kernel_rfl) (fun _ _ _ h => h) (Or.inl ⟨by rfl, ?_⟩) (by assumption) ?_
      rotate_left 1
      · (intro w hSw; (try dsimp only at hSw); go_simp; try with_reducible rfl)
      (try simp only [Act.put, List.setIfInBounds_toArray, List.set_cons_zero, List.set_cons_succ])
      refine wpAnyH_take (i := 6) (oi := { dst := some 47, op := Op.extract (Operand.tmp 41) 1, type := 30, pos := "law.go:80", after := #[{ on := 4, ground := Ground.data }, { on := 7, ground := Ground.gcOnly Departure.lateStores }], guard := none }) (v := ?_) rfl (by kernel_rfl) (by kernel_rfl) (by kernel_rfl) (fun _ _ _ h => h) (Or.inl ⟨by rfl, ?_⟩) (by assumption) ?_
      rotate_left 1
      · (intro w hSw; (try dsimp only at hSw); go_simp; try with_reducible rfl)
      (try simp only [Act.put, List.setIfInBounds_toArray, List.set_cons_zero, List.set_cons_succ])
      refine wpAnyH_take (i := 7) (oi := { dst := some 11, op := Op.assign (Operand.tmp 46), type := 9, pos := "law.go:80", after := #[{ on := 5, ground := Ground.data }, { on := 3, ground := Ground.chain }, { on := 0, ground := Ground.phase }, { on := 1, ground := Ground.phase }, { on := 2, ground := Ground.phase }, { on := 3, ground := Ground.phase }, { on := 4, ground := Ground.phase }, { on := 5, ground := Ground.phase }, { on := 6, ground := Ground.textOnly Departure.lateStores }], guard := none }) (v := ?_) rfl (by kernel_rfl) (by kernel_rfl) (by kernel_rfl) (fun _ _ _ h => h) (Or.inl ⟨by rfl, ?_⟩) (by assumption) ?_
      rotate_left 1
      · (intro w hSw; (try dsimp only at hSw); go_simp; try with_reducible rfl)
      (try simp only [Act.put, List.setIfInBounds_toArray, List.set_cons_zero, List.set_cons_succ])
      refine wpAnyH_take (i := 8) (oi := { dst := some 12, op := Op.assign (Operand.tmp 47), type := 30, pos := "law.go:80", after := #[{ on := 6, ground := Ground.data }, { on := 7, ground := Ground.chain }, { on := 0, ground := Ground.phase }, { on := 1, ground := Ground.phase }, { on := 2, ground := Ground.phase }, { on := 3, ground := Ground.phase }, { on := 4, ground := Ground.phase }, { on := 5, ground := Ground.phase }, { on := 6, ground := Ground.phase }, { on := 7, ground := Ground.phase }], guard := none }) (v := ?_) rfl (by kernel_rfl) (by kernel_rfl) (by kernel_rfl) (fun _ _ _ h => h) (Or.inl ⟨by rfl, ?_⟩) (by assumption) ?_
      rotate_left 1
      · (intro w hSw; (try dsimp only at hSw); go_simp; try with_reducible rfl)
      (try simp only [Act.put, List.setIfInBounds_toArray, List.set_cons_zero, List.set_cons_succ])
      refine wpAnyH_done (by kernel_rfl) ?_ _
      clear hHeld R3
      obtain ⟨x0, x1, x2⟩ := HC.out _ BZ.out
      go_wp2_with fail
      refine (HB2.out _ BB.out).mono ?_; rintro e5 w5 ⟨rfl, b5⟩
      have BZ := Lib.hid (below_step BZ.out b5)
      have BB := Lib.hid (below_step BB.out b5)
      clear b5 x0 x1 x2
      go_wp2_with fail
      have BZ := Lib.hid (below_step BZ.out (drew12 w5))
      have BB := Lib.hid (below_step BB.out (drew12 w5))
      refine wp_region_held_drew (S := fun W => W.cell? ⟨w.heap.size, 0, none⟩ = some (.int .i64 c) ∧ W.cell? ⟨w.heap.size, 1, none⟩ = some (.int .i64 e) ∧ W.cell? ⟨w.heap.size, 2, none⟩ = some (.int .i64 q)) (by kernel_rfl) (by first | assumption | exact HC.out _ BZ.out) (fun hHeld => ?_)
      generalize w5.drew = wy at *
      refine wpAnyH_take (i := 0) (oi := { dst := some 54, op := Op.move (Operand.tmp 7), type := 9, pos := "law.go:82", after := #[], guard := none }) (v := ?_) rfl (by kernel_rfl) (by kernel_rfl) (by kernel_rfl) (fun _ _ _ h => h) (Or.inl ⟨by rfl, ?_⟩) (by assumption) ?_
      rotate_left 1
      · (intro w hSw; (try dsimp only at hSw); go_simp; try with_reducible rfl)
      (try simp only [Act.put, List.setIfInBounds_toArray, List.set_cons_zero, List.set_cons_succ])
      refine wpAnyH_take (i := 1) (oi := { dst := some 55, op := Op.move (Operand.tmp 9), type := 9, pos := "law.go:82", after := #[], guard := none }) (v := ?_) rfl (by kernel_rfl) (by kernel_rfl) (by kernel_rfl) (fun _ _ _ h => h) (Or.inl ⟨by rfl, ?_⟩) (by assumption) ?_
      rotate_left 1
      · (intro w hSw; (try dsimp only at hSw); go_simp; try with_reducible rfl)
      (try simp only [Act.put, List.setIfInBounds_toArray, List.set_cons_zero, List.set_cons_succ])
      refine wpAnyH_take (i := 2) (oi := { dst := some 56, op := Op.binOp BinOp.neq 9 (Operand.tmp 54) (Operand.tmp 55) 9, type := 4, pos := "law.go:82", after := #[{ on := 0, ground := Ground.data }, { on := 1, ground := Ground.data }], guard := none }) (v := .bool false) rfl (by kernel_rfl) (by kernel_rfl) (by kernel_rfl) (fun _ _ _ h => h) (Or.inl ⟨by rfl, ?_⟩) (by assumption) ?_
      · (intro w hSw; go_simp; all_goals (first | rfl | simp))
      (try simp only [Act.put, List.setIfInBounds_toArray, List.set_cons_zero, List.set_cons_succ])
      refine wpAnyH_take (i := 3) (oi := { dst := some 57, op := Op.move (Operand.tmp 56), type := 4, pos := "law.go:82", after := #[{ on := 2, ground := Ground.data }], guard := none }) (v := ?_) rfl (by kernel_rfl) (by kernel_rfl) (by kernel_rfl) (fun _ _ _ h => h) (Or.inl ⟨by rfl, ?_⟩) (by assumption) ?_
      rotate_left 1
      · (intro w hSw; (try dsimp only at hSw); go_simp; try with_reducible rfl)
      (try simp only [Act.put, List.setIfInBounds_toArray, List.set_cons_zero, List.set_cons_succ])
      refine wpAnyH_take (i := 4) (oi := { dst := some 58, op := Op.move (Operand.tmp 8), type := 30, pos := "law.go:82", after := #[{ on := 3, ground := Ground.guard }], guard := some (3, false) }) (v := ?_) rfl (by kernel_rfl) (by kernel_rfl) (by kernel_rfl) (fun _ _ _ h => h) (Or.inl ⟨by rfl, ?_⟩) (by assumption) ?_
      rotate_left 1
      · (intro w hSw; (try dsimp only at hSw); go_simp; try with_reducible rfl)
      (try simp only [Act.put, List.setIfInBounds_toArray, List.set_cons_zero, List.set_cons_succ])
      refine wpAnyH_take (i := 5) (oi := { dst := some 59, op := Op.move (Operand.tmp 10), type := 30, pos := "law.go:82", after := #[{ on := 3, ground := Ground.guard }], guard := some (3, false) }) (v := ?_) rfl (by kernel_rfl) (by kernel_rfl) (by kernel_rfl) (fun _ _ _ h => h) (Or.inl ⟨by rfl, ?_⟩) (by assumption) ?_
      rotate_left 1
      · (intro w hSw; (try dsimp only at hSw); go_simp; try with_reducible rfl)
      (try simp only [Act.put, List.setIfInBounds_toArray, List.set_cons_zero, List.set_cons_succ])
      refine wpAnyH_take (i := 6) (oi := { dst := some 60, op := Op.binOp BinOp.neq 30 (Operand.tmp 58) (Operand.tmp 59) 30, type := 4, pos := "law.go:82", after := #[{ on := 4, ground := Ground.data }, { on := 5, ground := Ground.data }, { on := 3, ground := Ground.guard }], guard := some (3, false) }) (v := .bool false) rfl (by kernel_rfl) (by kernel_rfl) (by kernel_rfl) (fun _ _ _ h => h) (Or.inl ⟨by rfl, ?_⟩) (by assumption) ?_
      · (intro w hSw; go_simp; all_goals (first | rfl | simp))
      (try simp only [Act.put, List.setIfInBounds_toArray, List.set_cons_zero, List.set_cons_succ])
      refine wpAnyH_take (i := 7) (oi := { dst := some 61, op := Op.pick (Operand.tmp 57) (Operand.const (Value.bool true)) (Operand.tmp 60), type := 4, pos := "law.go:82", after := #[{ on := 3, ground := Ground.data }, { on := 6, ground := Ground.data }], guard := none }) (v := ?_) rfl (by kernel_rfl) (by kernel_rfl) (by kernel_rfl) (fun _ _ _ h => h) (Or.inl ⟨by rfl, ?_⟩) (by assumption) ?_
      rotate_left 1
      · (intro w hSw; (try dsimp only at hSw); go_simp; try with_reducible rfl)
      (try simp only [Act.put, List.setIfInBounds_toArray, List.set_cons_zero, List.set_cons_succ])
      refine wpAnyH_take (i := 8) (oi := { dst := some 62, op := Op.move (Operand.tmp 61), type := 4, pos := "law.go:82", after := #[{ on := 7, ground := Ground.data }, { on := 3, ground := Ground.chain }], guard := none }) (v := ?_) rfl (by kernel_rfl) (by kernel_rfl) (by kernel_rfl) (fun _ _ _ h => h) (Or.inl ⟨by rfl, ?_⟩) (by assumption) ?_
      rotate_left 1
      · (intro w hSw; (try dsimp only at hSw); go_simp; try with_reducible rfl)
      (try simp only [Act.put, List.setIfInBounds_toArray, List.set_cons_zero, List.set_cons_succ])
      refine wpAnyH_take (i := 9) (oi := { dst := some 63, op := Op.move (Operand.tmp 11), type := 9, pos := "law.go:82", after := #[{ on := 8, ground := Ground.guard }], guard := some (8, false) }) (v := ?_) rfl (by kernel_rfl) (by kernel_rfl) (by kernel_rfl) (fun _ _ _ h => h) (Or.inl ⟨by rfl, ?_⟩) (by assumption) ?_
      rotate_left 1
      · (intro w hSw; (try dsimp only at hSw); go_simp; try with_reducible rfl)
      (try simp only [Act.put, List.setIfInBounds_toArray, List.set_cons_zero, List.set_cons_succ])
      refine wpAnyH_take (i := 10) (oi := { dst := some 64, op := Op.move (Operand.tmp 13), type := 9, pos := "law.go:82", after := #[{ on := 8, ground := Ground.guard }], guard := some (8, false) }) (v := ?_) rfl (by kernel_rfl) (by kernel_rfl) (by kernel_rfl) (fun _ _ _ h => h) (Or.inl ⟨by rfl, ?_⟩) (by assumption) ?_
      rotate_left 1
      · (intro w hSw; (try dsimp only at hSw); go_simp; try with_reducible rfl)
      (try simp only [Act.put, List.setIfInBounds_toArray, List.set_cons_zero, List.set_cons_succ])
      refine wpAnyH_take (i := 11) (oi := { dst := some 65, op := Op.binOp BinOp.neq 9 (Operand.tmp 63) (Operand.tmp 64) 9, type := 4, pos := "law.go:82", after := #[{ on := 9, ground := Ground.data }, { on := 10, ground := Ground.data }, { on := 8, ground := Ground.guard }], guard := some (8, false) }) (v := .bool false) rfl (by kernel_rfl) (by kernel_rfl) (by kernel_rfl) (fun _ _ _ h => h) (Or.inl ⟨by rfl, ?_⟩) (by assumption) ?_
      · (intro w hSw; go_simp; all_goals (first | rfl | simp))
      (try simp only [Act.put, List.setIfInBounds_toArray, List.set_cons_zero, List.set_cons_succ])
      refine wpAnyH_take (i := 12) (oi := { dst := some 66, op := Op.pick (Operand.tmp 62) (Operand.const (Value.bool true)) (Operand.tmp 65), type := 4, pos := "law.go:82", after := #[{ on := 8, ground := Ground.data }, { on := 11, ground := Ground.data }], guard := none }) (v := ?_) rfl (by kernel_rfl) (by kernel_rfl) (by kernel_rfl) (fun _ _ _ h => h) (Or.inl ⟨by rfl, ?_⟩) (by assumption) ?_
      rotate_left 1
      · (intro w hSw; (try dsimp only at hSw); go_simp; try with_reducible rfl)
      (try simp only [Act.put, List.setIfInBounds_toArray, List.set_cons_zero, List.set_cons_succ])
      refine wpAnyH_take (i := 13) (oi := { dst := some 67, op := Op.move (Operand.tmp 66), type := 4, pos := "law.go:82", after := #[{ on := 12, ground := Ground.data }, { on := 8, ground := Ground.chain }], guard := none }) (v := ?_) rfl (by kernel_rfl) (by kernel_rfl) (by kernel_rfl) (fun _ _ _ h => h) (Or.inl ⟨by rfl, ?_⟩) (by assumption) ?_
      rotate_left 1
      · (intro w hSw; (try dsimp only at hSw); go_simp; try with_reducible rfl)
      (try simp only [Act.put, List.setIfInBounds_toArray, List.set_cons_zero, List.set_cons_succ])
      refine wpAnyH_take (i := 14) (oi := { dst := some 68, op := Op.move (Operand.tmp 12), type := 30, pos := "law.go:82", after := #[{ on := 13, ground := Ground.guard }], guard := some (13, false) }) (v := ?_) rfl (by kernel_rfl) (by kernel_rfl) (by kernel_rfl) (fun _ _ _ h => h) (Or.inl ⟨by rfl, ?_⟩) (by assumption) ?_
      rotate_left 1
      · (intro w hSw; (try dsimp only at hSw); go_simp; try with_reducible rfl)
      (try simp only [Act.put, List.setIfInBounds_toArray, List.set_cons_zero, List.set_cons_succ])
      refine wpAnyH_take (i := 15) (oi := { dst := some 69, op := Op.move (Operand.tmp 14), type := 30, pos := "law.go:82", after := #[{ on := 13, ground := Ground.guard }], guard := some (13, false) }) (v := ?_) rfl (by kernel_rfl) (by kernel_rfl) (by kernel_rfl) (fun _ _ _ h => h) (Or.inl ⟨by rfl, ?_⟩) (by assumption) ?_
      rotate_left 1
      · (intro w hSw; (try dsimp only at hSw); go_simp; try with_reducible rfl)
      (try simp only [Act.put, List.setIfInBounds_toArray, List.set_cons_zero, List.set_cons_succ])
      refine wpAnyH_take (i := 16) (oi := { dst := some 70, op := Op.binOp BinOp.neq 30 (Operand.tmp 68) (Operand.tmp 69) 30, type := 4, pos := "law.go:82", after := #[{ on := 14, ground := Ground.data }, { on := 15, ground := Ground.data }, { on := 13, ground := Ground.guard }], guard := some (13, false) }) (v := .bool false) rfl (by kernel_rfl) (by kernel_rfl) (by kernel_rfl) (fun _ _ _ h => h) (Or.inl ⟨by rfl, ?_⟩) (by assumption) ?_
      · (intro w hSw; go_simp; all_goals (first | rfl | simp))
      (try simp only [Act.put, List.setIfInBounds_toArray, List.set_cons_zero, List.set_cons_succ])
      refine wpAnyH_take (i := 17) (oi := { dst := some 71, op := Op.pick (Operand.tmp 67) (Operand.const (Value.bool true)) (Operand.tmp 70), type := 4, pos := "law.go:82", after := #[{ on := 13, ground := Ground.data }, { on := 16, ground := Ground.data }], guard := none }) (v := ?_) rfl (by kernel_rfl) (by kernel_rfl) (by kernel_rfl) (fun _ _ _ h => h) (Or.inl ⟨by rfl, ?_⟩) (by assumption) ?_
      rotate_left 1
      · (intro w hSw; (try dsimp only at hSw); go_simp; try with_reducible rfl)
      (try simp only [Act.put, List.setIfInBounds_toArray, List.set_cons_zero, List.set_cons_succ])
      refine wpAnyH_take (i := 18) (oi := { dst := some 72, op := Op.move (Operand.tmp 71), type := 4, pos := "law.go:82", after := #[{ on := 17, ground := Ground.data }, { on := 13, ground := Ground.chain }], guard := none }) (v := ?_) rfl (by kernel_rfl) (by kernel_rfl) (by kernel_rfl) (fun _ _ _ h => h) (Or.inl ⟨by rfl, ?_⟩) (by assumption) ?_
      rotate_left 1
      · (intro w hSw; (try dsimp only at hSw); go_simp; try with_reducible rfl)
      (try simp only [Act.put, List.setIfInBounds_toArray, List.set_cons_zero, List.set_cons_succ])
      refine wpAnyH_take (i := 19) (oi := { dst := some 73, op := Op.load 23 (Operand.tmp 3), type := 23, pos := "law.go:82", after := #[{ on := 18, ground := Ground.guard }], guard := some (18, false) }) (v := ?_) rfl (by kernel_rfl) (by kernel_rfl) (by kernel_rfl) (fun _ _ _ h => h) (Or.inl ⟨by rfl, ?_⟩) (by assumption) ?_
      rotate_left 1
      · (intro w hSw; (try dsimp only at hSw); go_simp; try with_reducible rfl)
      (try simp only [Act.put, List.setIfInBounds_toArray, List.set_cons_zero, List.set_cons_succ])
      refine wpAnyH_take (i := 21) (oi := { dst := some 75, op := Op.load 23 (Operand.tmp 3), type := 23, pos := "law.go:82", after := #[{ on := 18, ground := Ground.guard }], guard := some (18, false) }) (v := ?_) rfl (by kernel_rfl) (by kernel_rfl) (by kernel_rfl) (fun _ _ _ h => h) (Or.inl ⟨by rfl, ?_⟩) (by assumption) ?_
      rotate_left 1
      · (intro w hSw; (try dsimp only at hSw); go_simp; try with_reducible rfl)
      (try simp only [Act.put, List.setIfInBounds_toArray, List.set_cons_zero, List.set_cons_succ])
      refine wpAnyH_ready (rs := [20]) (by kernel_rfl) (by simp) ?_
      refine AllReadyH.cons (o := { dst := some 74, op := Op.call { callee := Callee.value (Operand.func 23), args := #[Operand.tmp 73], argTypes := #[23] }, type := 4, pos := "law.go:82", after := #[{ on := 19, ground := Ground.data }, { on := 18, ground := Ground.chain }, { on := 18, ground := Ground.guard }], guard := some (18, false) }) rfl (fun K hK => ?_) AllReadyH.nil
      go_simp
      refine (HX1.out _).mono ?_; rintro e6 w6 ⟨rfl, b6⟩
      have BZ := Lib.hid (below_step BZ.out b6)
      have BB := Lib.hid (below_step BB.out b6)
      clear b6
      refine hK.out _ _ (HC.out _ BZ.out) (fun hHeld => ?_)
      clear hK K
      (try simp only [Act.put, List.setIfInBounds_toArray, List.set_cons_zero, List.set_cons_succ])
      refine wpAnyH_ready (rs := [22]) (by kernel_rfl) (by simp) ?_
      refine AllReadyH.cons (o := { dst := some 76, op := Op.call { callee := Callee.value (Operand.func 24), args := #[Operand.tmp 75], argTypes := #[23] }, type := 4, pos := "law.go:82", after := #[{ on := 21, ground := Ground.data }, { on := 20, ground := Ground.chain }, { on := 18, ground := Ground.guard }], guard := some (18, false) }) rfl (fun K hK => ?_) AllReadyH.nil
      go_simp
      refine (HX2.out _).mono ?_; rintro e7 w7 ⟨rfl, b7⟩
      have BZ := Lib.hid (below_step BZ.out b7)
      have BB := Lib.hid (below_step BB.out b7)
      clear b7
      refine hK.out _ _ (HC.out _ BZ.out) (fun hHeld => ?_)
      clear hK K
      (try simp only [Act.put, List.setIfInBounds_toArray, List.set_cons_zero, List.set_cons_succ])
      refine wpAnyH_take (i := 23) (oi := { dst := some 77, op := Op.binOp BinOp.neq 4 (Operand.tmp 74) (Operand.tmp 76) 4, type := 4, pos := "law.go:82", after := #[{ on := 20, ground := Ground.data }, { on := 22, ground := Ground.data }, { on := 18, ground := Ground.guard }], guard := some (18, false) }) (v := .bool false) rfl (by kernel_rfl) (by kernel_rfl) (by kernel_rfl) (fun _ _ _ h => h) (Or.inl ⟨by rfl, ?_⟩) (by assumption) ?_
      · (intro w hSw; go_simp; all_goals (first | rfl | simp))
      (try simp only [Act.put, List.setIfInBounds_toArray, List.set_cons_zero, List.set_cons_succ])
      refine wpAnyH_take (i := 24) (oi := { dst := some 78, op := Op.pick (Operand.tmp 72) (Operand.const (Value.bool true)) (Operand.tmp 77), type := 4, pos := "law.go:82", after := #[{ on := 18, ground := Ground.data }, { on := 23, ground := Ground.data }], guard := none }) (v := ?_) rfl (by kernel_rfl) (by kernel_rfl) (by kernel_rfl) (fun _ _ _ h => h) (Or.inl ⟨by rfl, ?_⟩) (by assumption) ?_
      rotate_left 1
      · (intro w hSw; (try dsimp only at hSw); go_simp; try with_reducible rfl)
      (try simp only [Act.put, List.setIfInBounds_toArray, List.set_cons_zero, List.set_cons_succ])
      refine wpAnyH_take (i := 25) (oi := { dst := some 79, op := Op.move (Operand.tmp 78), type := 4, pos := "law.go:82", after := #[{ on := 24, ground := Ground.data }, { on := 22, ground := Ground.chain }], guard := none }) (v := ?_) rfl (by kernel_rfl) (by kernel_rfl) (by kernel_rfl) (fun _ _ _ h => h) (Or.inl ⟨by rfl, ?_⟩) (by assumption) ?_
      rotate_left 1
      · (intro w hSw; (try dsimp only at hSw); go_simp; try with_reducible rfl)
      (try simp only [Act.put, List.setIfInBounds_toArray, List.set_cons_zero, List.set_cons_succ])
      refine wpAnyH_take (i := 26) (oi := { dst := some 80, op := Op.load 23 (Operand.tmp 3), type := 23, pos := "law.go:82", after := #[{ on := 25, ground := Ground.guard }], guard := some (25, false) }) (v := ?_) rfl (by kernel_rfl) (by kernel_rfl) (by kernel_rfl) (fun _ _ _ h => h) (Or.inl ⟨by rfl, ?_⟩) (by assumption) ?_
      rotate_left 1
      · (intro w hSw; (try dsimp only at hSw); go_simp; try with_reducible rfl)
      (try simp only [Act.put, List.setIfInBounds_toArray, List.set_cons_zero, List.set_cons_succ])
      refine wpAnyH_take (i := 27) (oi := { dst := some 81, op := Op.move (Operand.tmp 1), type := 24, pos := "law.go:82", after := #[{ on := 25, ground := Ground.guard }], guard := some (25, false) }) (v := ?_) rfl (by kernel_rfl) (by kernel_rfl) (by kernel_rfl) (fun _ _ _ h => h) (Or.inl ⟨by rfl, ?_⟩) (by assumption) ?_
      rotate_left 1
      · (intro w hSw; (try dsimp only at hSw); go_simp; try with_reducible rfl)
      (try simp only [Act.put, List.setIfInBounds_toArray, List.set_cons_zero, List.set_cons_succ])
      refine wpAnyH_take (i := 29) (oi := { dst := some 83, op := Op.load 23 (Operand.tmp 3), type := 23, pos := "law.go:82", after := #[{ on := 25, ground := Ground.guard }], guard := some (25, false) }) (v := ?_) rfl (by kernel_rfl) (by kernel_rfl) (by kernel_rfl) (fun _ _ _ h => h) (Or.inl ⟨by rfl, ?_⟩) (by assumption) ?_
      rotate_left 1
      · (intro w hSw; (try dsimp only at hSw); go_simp; try with_reducible rfl)
      (try simp only [Act.put, List.setIfInBounds_toArray, List.set_cons_zero, List.set_cons_succ])
      refine wpAnyH_take (i := 30) (oi := { dst := some 84, op := Op.move (Operand.tmp 1), type := 24, pos := "law.go:82", after := #[{ on := 25, ground := Ground.guard }], guard := some (25, false) }) (v := ?_) rfl (by kernel_rfl) (by kernel_rfl) (by kernel_rfl) (fun _ _ _ h => h) (Or.inl ⟨by rfl, ?_⟩) (by assumption) ?_
      rotate_left 1
      · (intro w hSw; (try dsimp only at hSw); go_simp; try with_reducible rfl)
      (try simp only [Act.put, List.setIfInBounds_toArray, List.set_cons_zero, List.set_cons_succ])
      refine wpAnyH_ready (rs := [28]) (by kernel_rfl) (by simp) ?_
      refine AllReadyH.cons (o := { dst := some 82, op := Op.call { callee := Callee.value (Operand.func 25), args := #[Operand.tmp 80, Operand.tmp 81], argTypes := #[23, 24] }, type := 4, pos := "law.go:82", after := #[{ on := 26, ground := Ground.data }, { on := 27, ground := Ground.data }, { on := 25, ground := Ground.chain }, { on := 25, ground := Ground.guard }], guard := some (25, false) }) rfl (fun K hK => ?_) AllReadyH.nil
      go_simp
      refine (HL1.out _ BB.out).mono ?_; rintro e8 w8 ⟨rfl, b8⟩
      have BZ := Lib.hid (below_step BZ.out b8)
      have BB := Lib.hid (below_step BB.out b8)
      clear b8
      refine hK.out _ _ (HC.out _ BZ.out) (fun hHeld => ?_)
      clear hK K
      (try simp only [Act.put, List.setIfInBounds_toArray, List.set_cons_zero, List.set_cons_succ])
      refine wpAnyH_ready (rs := [31]) (by kernel_rfl) (by simp) ?_
      refine AllReadyH.cons (o := { dst := some 85, op := Op.call { callee := Callee.value (Operand.func 26), args := #[Operand.tmp 83, Operand.tmp 84], argTypes := #[23, 24] }, type := 4, pos := "law.go:82", after := #[{ on := 29, ground := Ground.data }, { on := 30, ground := Ground.data }, { on := 28, ground := Ground.chain }, { on := 25, ground := Ground.guard }], guard := some (25, false) }) rfl (fun K hK => ?_) AllReadyH.nil
      go_simp
      refine (HL2.out _ BB.out).mono ?_; rintro e9 w9 ⟨rfl, b9⟩
      have BZ := Lib.hid (below_step BZ.out b9)
      have BB := Lib.hid (below_step BB.out b9)
      clear b9
      refine hK.out _ _ (HC.out _ BZ.out) (fun hHeld => ?_)
      clear hK K
      (try simp only [Act.put, List.setIfInBounds_toArray, List.set_cons_zero, List.set_cons_succ])
      refine wpAnyH_take (i := 32) (oi := { dst := some 86, op := Op.binOp BinOp.neq 4 (Operand.tmp 82) (Operand.tmp 85) 4, type := 4, pos := "law.go:82", after := #[{ on := 28, ground := Ground.data }, { on := 31, ground := Ground.data }, { on := 25, ground := Ground.guard }], guard := some (25, false) }) (v := .bool false) rfl (by kernel_rfl) (by kernel_rfl) (by kernel_rfl) (fun _ _ _ h => h) (Or.inl ⟨by rfl, ?_⟩) (by assumption) ?_
      · (intro w hSw; go_simp; all_goals (first | rfl | simp))
      (try simp only [Act.put, List.setIfInBounds_toArray, List.set_cons_zero, List.set_cons_succ])
      refine wpAnyH_take (i := 33) (oi := { dst := some 87, op := Op.pick (Operand.tmp 79) (Operand.const (Value.bool true)) (Operand.tmp 86), type := 4, pos := "law.go:82", after := #[{ on := 25, ground := Ground.data }, { on := 32, ground := Ground.data }], guard := none }) (v := ?_) rfl (by kernel_rfl) (by kernel_rfl) (by kernel_rfl) (fun _ _ _ h => h) (Or.inl ⟨by rfl, ?_⟩) (by assumption) ?_
      rotate_left 1
      · (intro w hSw; (try dsimp only at hSw); go_simp; try with_reducible rfl)
      (try simp only [Act.put, List.setIfInBounds_toArray, List.set_cons_zero, List.set_cons_succ])
      refine wpAnyH_done (by kernel_rfl) ?_ _
      clear hHeld
      go_wp2_with fail
      refine (HR1.out _).mono ?_; rintro ea wa ⟨rfl, ba⟩
      obtain ⟨Wa, hWa⟩ : ∃ V, V = wa.alloc (.cells #[.int .i64 c1, .int .i64 e1, .int .i64 q1] 23) := ⟨_, rfl⟩
      have bb : Below wa.heap.size wa Wa := by rw [hWa]; exact (Below.refl _ _).alloc (Nat.le_refl _) _
      have Y1 := Lib.hid (show XAt Wa wa.heap.size c1 e1 q1 from hWa ▸ xat_new wa c1 e1 q1)
      have BZ := Lib.hid (below_step (below_step BZ.out ba) bb)
      have BB := Lib.hid (below_step (below_step BB.out ba) bb)
      have HWa := Lib.hid hWa
      clear ba bb hWa
      go_wp2_with fail
      rw [← HWa.out]
      refine (HR2.out _).mono ?_; rintro eb wb ⟨rfl, ba⟩
      obtain ⟨Wb, hWb⟩ : ∃ V, V = wb.alloc (.cells #[.int .i64 c1, .int .i64 e1, .int .i64 q1] 23) := ⟨_, rfl⟩
      have bb : Below wb.heap.size wb Wb := by rw [hWb]; exact (Below.refl _ _).alloc (Nat.le_refl _) _
      have Y2 := Lib.hid (show XAt Wb wb.heap.size c1 e1 q1 from hWb ▸ xat_new wb c1 e1 q1)
      have Y1 := Lib.hid ((Y1.out.below ba).below bb)
      have BZ := Lib.hid (below_step (below_step BZ.out ba) bb)
      have BB := Lib.hid (below_step (below_step BB.out ba) bb)
      obtain ⟨x0, x1, x2⟩ := HC.out _ BZ.out
      rw [hWb] at x0 x1 x2
      have HWb := Lib.hid hWb
      clear ba bb hWb HWa
      go_wp2_with fail
      rw [← HWb.out]
      clear x0 x1 x2
      refine (HM1.out _).mono ?_; rintro ec wc ⟨⟨mv, rfl, ho⟩, bc⟩
      obtain ⟨o5, c5, rfl, hr5, -, -⟩ := ownM_row ho
      rw [← HRN.out]
      have Y1 := Lib.hid (Y1.out.below bc)
      have Y2 := Lib.hid (Y2.out.below bc)
      have R5 := Lib.hid hr5
      have BZ := Lib.hid (below_step BZ.out bc)
      have BB := Lib.hid (below_step BB.out bc)
      clear bc ho hr5 HWb
      obtain ⟨x0, x1, x2⟩ := HC.out _ BZ.out
      go_wp2_with fail
      clear x0 x1 x2
      refine (HM2.out _).mono ?_; rintro ed wd ⟨⟨mv, rfl, ho⟩, bd⟩
      obtain ⟨o6, c6, rfl, hr6, -, -⟩ := ownM_row ho
      rw [← HRN.out]
      have Y1 := Lib.hid (Y1.out.below bd)
      have Y2 := Lib.hid (Y2.out.below bd)
      have R5 := Lib.hid (R5.out.below bd)
      have R6 := Lib.hid hr6
      have BZ := Lib.hid (below_step BZ.out bd)
      have BB := Lib.hid (below_step BB.out bd)
      clear bd ho hr6
      obtain ⟨y0, y1, y2, -⟩ := Y1.out.cells
      obtain ⟨u0, u1, u2, -⟩ := Y2.out.cells
      have hmi : (mi != mi) = false := by cases mi <;> rfl
      have hxi : (xi != xi) = false := by cases xi <;> rfl
      go_wp2_with fail
      clear y0 y1 y2 u0 u1 u2
      refine (HSS.out _ _ _ _ _ R5.out R6.out).mono ?_; rintro ef wf ⟨rfl, bf⟩
      have BZ := Lib.hid (below_step BZ.out bf)
      have BB := Lib.hid (below_step BB.out bf)
      clear bf R5 R6 Y1 Y2
      obtain ⟨x0, x1, x2⟩ := HC.out _ BZ.out
      by_cases hge : ge = 0
      · subst hge
        have hz := HGZ.out rfl
        have HG3 := HG3.out
        rw [hz] at HG3
        dsimp only [Option.isSome, Option.getD] at HG3
        have HG3 := Lib.hid HG3
        clear hz HGZ
        go_wp2_with fail
        refine (HG3.out _).mono ?_; rintro eg wg ⟨⟨mv, rfl, ho⟩, bg⟩
        obtain ⟨o7, c7, rfl, hr7, -, -⟩ := ownM_row ho
        rw [← HN.out]
        have R7 := Lib.hid hr7
        have BB := Lib.hid (below_step BB.out bg)
        clear bg ho hr7 x0 x1 x2
        go_wp2_with fail
        refine (HSL.out _ _ _ R7.out BB.out).mono ?_; rintro eh wh ⟨rfl, bh⟩
        have BB := Lib.hid (below_step BB.out bh)
        clear bh
        go_wp2_with fail
        refine (HA.out _).mono ?_; rintro ei wi ⟨rfl, bi⟩
        go_wp2_with fail
        go_ret
        exact ⟨rfl, below_step BB.out bi⟩
      · have hge2 : ((ge : Int) == 0) = false := beq_eq_false_iff_ne.2 (by omega)
        have hge3 : ¬ (ge : Int) = 0 := by omega
        go_wp2_with fail
        refine (HA.out _).mono ?_; rintro ei wi ⟨rfl, bi⟩
        go_wp2_with fail
        go_ret
        exact ⟨rfl, below_step BB.out bi⟩
end Go.Proofs.YthemopejebioaaaGreat.Pl
