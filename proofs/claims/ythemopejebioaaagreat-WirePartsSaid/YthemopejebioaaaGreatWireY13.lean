/- Whether a message may be. -/
import Derived.Test.YthemopejebioaaaGreatWireY12
namespace Go.Proofs.YthemopejebioaaaGreat.Pl
open Go.RowKit

theorem wpOp_look12 {ops : Array Oper} {o : Oper} {a : Act} {K : Act → World → Prop} {Q : Exit → Act → World → Prop} {w : World} (hw : Region.wanted o (yielded ops a.tmps) = true) (mo xo : Operand) (t : TypeId) (ok : Bool) (hop : o.op = Op.lookup t mo xo ok) (mv key r : Value) (hm : a.eval mo = mv) (hx : a.eval xo = key)
    (h : (Instr.lookup t mv key ok).run Tryz.prog w = .ok r w) (hK : K (a.put o.dst r) w) :
    if Region.wanted o (yielded ops a.tmps) = true then Oper.wp Tryz.prog o a w K Q else K (a.put o.dst undef) w := by
  rw [if_pos hw]
  unfold Oper.wp
  simp [execOp, hop, hm, hx, h, Result.andThen]
  exact hK
theorem wpOp_storeR {ops : Array Oper} {o : Oper} {a : Act} {w : World} {K : Act → World → Prop} {Q : Exit → Act → World → Prop} (hw : Region.wanted o (yielded ops a.tmps) = true) (ty : TypeId) (x y : Operand) (ho : o.op = .store ty x y)
    (g : Nat) (cells : Array Value) (hx : a.eval x = .pointer (some ⟨g, 0, none⟩)) (hy : a.eval y = .agg cells)
    (t : TypeId) (old : Array Value) (hg : w.heap[g]? = some (.cells old t (0, 0))) (hi : (Tryz.prog.info? ty).map (·.size) = some cells.size)
    (hold : old.size = cells.size) (h1 : cells.all (·.oneCell') = true) (h : K (a.put o.dst undef) (w.setRow g cells)) :
    if Region.wanted o (yielded ops a.tmps) = true then Oper.wp Tryz.prog o a w K Q else K (a.put o.dst undef) w := by
  rw [if_pos hw]
  exact wp_store_row ty x y ho g cells hx hy t old hg hi hold h1 h
theorem call_mayF (k : Nat) (args : Array Value) (V : World) : (callFunc (mayF k) args).run Tryz.prog V = .ok (.enter (mayF k) args) V := by
  unfold mayF
  repeat' split
  all_goals kernel_rfl
theorem nam_one0 : (#[.string ⟨#[]⟩, .nilFunc, .nilFunc, .nilFunc] : Array Value).all (·.oneCell') = true := by simp [Value.oneCell']
theorem mayF_any (m : Ms) (hk : 1 ≤ m.kind ∧ m.kind ≤ 6) (ao : Option Addr) (cap : Nat) (hb : m.body.size ≤ 281474976710656) (ht : m.tag.size ≤ 281474976710656) (hms : ∀ x ∈ m.mem, x.2.size ≤ 281474976710656) (hml : m.mem.length ≤ 9223372036854775807) (w : World) (hrow : MemRow w ao m.mem) :
    Calls Tryz.prog (mayF m.kind) #[.agg (msC m (.slice ao m.mem.length cap))] w fun x w' => x = .returned (.bool (mayP m)) ∧ Below w.heap.size w w' := by
  have hc : m.kind = 1 ∨ m.kind = 2 ∨ m.kind = 3 ∨ (m.kind = 4 ∨ m.kind = 5) ∨ m.kind = 6 := by omega
  rcases hc with e | e | e | e | e
  · rw [show mayF m.kind = 67 by rw [e]; rfl, show mayP m = (mayX m.c m.e m.q && orgP m.aud && mayL m.c m.mem && termP m.body && !votesP m) by simp [mayP, e]]
    exact mayprep_any m ao cap hb ht hms hml w hrow
  · rw [show mayF m.kind = 70 by rw [e]; rfl, show mayP m = (mayX m.c m.e m.q && !asksP m && ((m.yes && termP m.tag) || !votesP m)) by simp [mayP, e]]
    exact mayvote_any m ao cap hb ht hms hml w hrow
  · rw [show mayF m.kind = 73 by rw [e]; rfl, show mayP m = (mayX m.c m.e m.q && !asksP m && decide (m.tag.size = 0)) by simp [mayP, e]]
    exact maydec_any m ao cap hb ht hms hml w hrow
  · rw [show mayF m.kind = 76 by rcases e with e | e <;> (rw [e]; rfl), show mayP m = (mayX m.c m.e m.q && !asksP m && !votesP m) by rcases e with e | e <;> simp [mayP, e]]
    exact mayack_any m ao cap hb ht hms hml w hrow
  · rw [show mayF m.kind = 79 by rw [e]; rfl, show mayP m = (decide (m.c = 0 ∧ m.e = 0 ∧ m.q = 0) && !asksP m && !votesP m) by simp [mayP, e]]
    exact maynone_any m ao cap hb ht hms hml w hrow
theorem may_out {m : Ms} (h : ¬ (1 ≤ m.kind ∧ m.kind ≤ 6)) : mayP m = false := by
  unfold mayP
  rw [if_neg (by omega), if_neg (by omega), if_neg (by omega), if_neg (by omega), if_neg (by omega)]

set_option maxHeartbeats 8000000 in
set_option maxRecDepth 100000 in
theorem check12_any (m : Ms) (hk : m.kind ≤ 255) (ao : Option Addr) (cap : Nat) (hb : m.body.size ≤ 281474976710656) (ht : m.tag.size ≤ 281474976710656) (hms : ∀ x ∈ m.mem, x.2.size ≤ 281474976710656) (hml : m.mem.length ≤ 9223372036854775807) (w : World) (hrow : MemRow w ao m.mem) :
    Calls Tryz.prog 11 #[.agg (msC m (.slice ao m.mem.length cap))] w fun x w' => x = .returned (.int .i64 (if mayP m then 0 else 2)) ∧ Below w.heap.size w w' := by
  have HN := Lib.hid (fun V => namings_any V)
  have HK := Lib.hid hk
  obtain ⟨W0, hW0⟩ : ∃ V, V = w.alloc (.cells (msC m (.slice ao m.mem.length cap)) 26) := ⟨_, rfl⟩
  have g0 : GAt W0 w.heap.size m (.slice ao m.mem.length cap) := by rw [hW0]; exact gat_new _ _ _
  have b0 : Below w.heap.size w W0 := by rw [hW0]; exact (Below.refl _ _).alloc (Nat.le_refl _) _
  have GG := Lib.hid (g0.below (drew12 W0))
  have BB := Lib.hid (below_step b0 (drew12 W0))
  have HMY := fun hk1 V (hV : Below w.heap.size w V) => mayF_any m hk1 ao cap hb ht hms hml V (hrow.below hV)
  have HCE : Hid (∀ V, GAt V w.heap.size m (.slice ao m.mem.length cap) → V.cell? ⟨w.heap.size, 0, none⟩ = some (.int .u8 m.kind) ∧ V.cell? ⟨w.heap.size, 1, none⟩ = some (.int .i64 m.c) ∧ V.cell? ⟨w.heap.size, 2, none⟩ = some (.int .i64 m.e) ∧ V.cell? ⟨w.heap.size, 3, none⟩ = some (.int .i64 m.q) ∧ V.cell? ⟨w.heap.size, 4, none⟩ = some (.int .i64 m.aud) ∧ V.cell? ⟨w.heap.size, 5, none⟩ = some (.slice ao m.mem.length cap) ∧ V.cell? ⟨w.heap.size, 6, none⟩ = some (.string m.body) ∧ V.cell? ⟨w.heap.size, 7, none⟩ = some (.bool m.yes) ∧ V.cell? ⟨w.heap.size, 8, none⟩ = some (.string m.tag)) := Lib.hid (fun V h => h.cells)
  have KS : W0.drew.cell? ⟨w.heap.size, 0, none⟩ = some (.int .u8 m.kind) := (HCE.out _ GG.out).1
  have HW0 := Lib.hid hW0
  clear hW0 g0 b0 hrow hms hml hb ht hk
  by_cases hk1 : 1 ≤ m.kind ∧ m.kind ≤ 6
  · have HMY := HMY hk1
    have hcf := call_mayF m.kind
    have HI : Hid ((Lit.int .u8 (m.kind : Int), (.agg #[.string (tb (wordP m.kind)), .func (.func (mayF m.kind)) #[] #[], .func (.func (putF m.kind)) #[] #[], .func (.func (getF m.kind)) #[] #[]] : Value)) ∈ namT) := Lib.hid (name_in hk1)
    clear hk1
    generalize tb (wordP m.kind) = wd at *
    generalize mayF m.kind = f1 at *
    generalize putF m.kind = f2 at *
    generalize getF m.kind = f3 at *
    generalize mayP m = z at *
    have hkk : ∃ k, k = m.kind := ⟨_, rfl⟩
    cases z with
    | false =>
      have HMY := Lib.hid HMY
      go_enter Tryz.func11, Tryz.ntmps11
      go_wp2_with fail
      rw [← HW0.out]
      clear HW0 hkk
      refine wp_region_held_drew (S := fun W => W.cell? ⟨w.heap.size, 0, none⟩ = some (.int .u8 m.kind)) (by kernel_rfl) (by first | assumption | exact KS) (fun hHeld => ?_)
      generalize W0.drew = wz at *
      refine wpAnyH_take (i := 1) (oi := { dst := some 7, op := Op.fieldAddr 26 (Operand.tmp 1) 0, type := 0, pos := "wire.go:252", after := #[], guard := none }) (v := ?_) rfl (by kernel_rfl) (by kernel_rfl) (by kernel_rfl) (fun _ _ _ h => h) (Or.inl ⟨by rfl, ?_⟩) (by assumption) ?_
      rotate_left 1
      · (intro w hSw; (try dsimp only at hSw); go_simp; try with_reducible rfl)
      (try simp only [Act.put, List.setIfInBounds_toArray, List.set_cons_zero, List.set_cons_succ])
      refine wpAnyH_take (i := 2) (oi := { dst := some 8, op := Op.load 5 (Operand.tmp 7), type := 5, pos := "wire.go:252", after := #[{ on := 1, ground := Ground.data }], guard := none }) (v := ?_) rfl (by kernel_rfl) (by kernel_rfl) (by kernel_rfl) (fun _ _ _ h => h) (Or.inl ⟨by rfl, ?_⟩) (by assumption) ?_
      rotate_left 1
      · (intro w hSw; (try dsimp only at hSw); go_simp; try with_reducible rfl)
      (try simp only [Act.put, List.setIfInBounds_toArray, List.set_cons_zero, List.set_cons_succ])
      refine wpAnyH_ready (rs := [0, 7]) (by kernel_rfl) (by simp) ?_
      refine AllReadyH.cons (o := { dst := some 6, op := Op.call { callee := Callee.value (Operand.func 33), args := #[], argTypes := #[] }, type := 60, pos := "wire.go:252", after := #[], guard := none }) rfl (fun K hK => ?_) (AllReadyH.cons (o := { dst := some 3, op := Op.alloc 59, type := 0, pos := "wire.go:252", after := #[], guard := none }) rfl (fun K hK => ?_) (AllReadyH.nil))
      · go_simp
        refine (HN.out _).mono ?_; rintro e w1 ⟨⟨mp, rfl, hm⟩, bb⟩
        have GG := Lib.hid (GG.out.below bb)
        have BB := Lib.hid (below_step BB.out bb)
        have HM := Lib.hid hm
        clear bb hm
        refine hK.out _ _ (HCE.out _ GG.out).1 (fun hHeld => ?_)
        clear hK K
        (try simp only [Act.put, List.setIfInBounds_toArray, List.set_cons_zero, List.set_cons_succ])
        refine wpAnyH_ready (rs := [3, 7]) (by kernel_rfl) (by simp) ?_
        refine AllReadyH.cons (o := { dst := some 9, op := Op.lookup 60 (Operand.tmp 6) (Operand.tmp 8) true, type := 68, pos := "wire.go:252", after := #[{ on := 0, ground := Ground.data }, { on := 2, ground := Ground.data }], guard := none }) rfl (fun K hK => ?_) (AllReadyH.cons (o := { dst := some 3, op := Op.alloc 59, type := 0, pos := "wire.go:252", after := #[], guard := none }) rfl (fun K hK => ?_) (AllReadyH.nil))
        · refine wpOp_look12 (by kernel_rfl) _ _ _ _ rfl _ _ _ rfl rfl ((HM.out.look keyed_u8 Tryz.underlying60 (zero_nam _) (key_u8 HK.out) HI.out).2) ?_
          refine hK.out _ _ (HCE.out _ GG.out).1 (fun hHeld => ?_)
          clear hK K
          (try simp only [Act.put, List.setIfInBounds_toArray, List.set_cons_zero, List.set_cons_succ])
          refine wpAnyH_take (i := 4) (oi := { dst := some 5, op := Op.move (Operand.tmp 9), type := 68, pos := "wire.go:252", after := #[{ on := 3, ground := Ground.data }], guard := none }) (v := ?_) rfl (by kernel_rfl) (by kernel_rfl) (by kernel_rfl) (fun _ _ _ h => h) (Or.inl ⟨by rfl, ?_⟩) (by assumption) ?_
          rotate_left 1
          · (intro w hSw; (try dsimp only at hSw); go_simp; try with_reducible rfl)
          (try simp only [Act.put, List.setIfInBounds_toArray, List.set_cons_zero, List.set_cons_succ])
          refine wpAnyH_take (i := 5) (oi := { dst := some 10, op := Op.extract (Operand.tmp 5) 0, type := 59, pos := "wire.go:252", after := #[{ on := 4, ground := Ground.data }], guard := none }) (v := ?_) rfl (by kernel_rfl) (by kernel_rfl) (by kernel_rfl) (fun _ _ _ h => h) (Or.inl ⟨by rfl, ?_⟩) (by assumption) ?_
          rotate_left 1
          · (intro w hSw; (try dsimp only at hSw); go_simp; try with_reducible rfl)
          (try simp only [Act.put, List.setIfInBounds_toArray, List.set_cons_zero, List.set_cons_succ])
          refine wpAnyH_take (i := 6) (oi := { dst := some 11, op := Op.extract (Operand.tmp 5) 1, type := 4, pos := "wire.go:252", after := #[{ on := 4, ground := Ground.data }, { on := 8, ground := Ground.gcOnly Departure.lateStores }], guard := none }) (v := ?_) rfl (by kernel_rfl) (by kernel_rfl) (by kernel_rfl) (fun _ _ _ h => h) (Or.inl ⟨by rfl, ?_⟩) (by assumption) ?_
          rotate_left 1
          · (intro w hSw; (try dsimp only at hSw); go_simp; try with_reducible rfl)
          (try simp only [Act.put, List.setIfInBounds_toArray, List.set_cons_zero, List.set_cons_succ])
          refine wpAnyH_ready (rs := [7]) (by kernel_rfl) (by simp) ?_
          refine AllReadyH.cons (o := { dst := some 3, op := Op.alloc 59, type := 0, pos := "wire.go:252", after := #[], guard := none }) rfl (fun K hK => ?_) (AllReadyH.nil)
          go_simp
          obtain ⟨p, hp⟩ : ∃ p, p = w1.heap.size := ⟨_, rfl⟩
          obtain ⟨w2, hw2⟩ : ∃ V, V = w1.alloc (.cells #[.string ⟨#[]⟩, .nilFunc, .nilFunc, .nilFunc] 59) := ⟨_, rfl⟩
          have ba : Below w1.heap.size w1 w2 := by rw [hw2]; exact (Below.refl _ _).alloc (Nat.le_refl _) _
          have NP := Lib.hid (show w2.heap[p]? = some (.cells #[.string ⟨#[]⟩, .nilFunc, .nilFunc, .nilFunc] 59 (0, 0)) from by rw [hw2, hp]; exact Go.heap_alloc_new _ _)
          have HP : Hid (w.heap.size ≤ p) := Lib.hid (by rw [hp]; exact BB.out.size)
          have HPN : Hid (w.heap.size < p) := Lib.hid (by rw [hp]; exact GG.out.lt)
          have GG := Lib.hid (GG.out.below ba)
          have BB := Lib.hid (below_step BB.out ba)
          have HM := Lib.hid (HM.out.below ba)
          rw [← hw2, ← hp]
          clear ba hw2 hp
          refine hK.out _ _ (HCE.out _ GG.out).1 (fun hHeld => ?_)
          clear hK K
          (try simp only [Act.put, List.setIfInBounds_toArray, List.set_cons_zero, List.set_cons_succ])
          refine wpAnyH_ready (rs := [8]) (by kernel_rfl) (by simp) ?_
          refine AllReadyH.cons (o := { dst := none, op := Op.store 59 (Operand.tmp 3) (Operand.tmp 10), type := 0, pos := "wire.go:252", after := #[{ on := 7, ground := Ground.data }, { on := 5, ground := Ground.data }, { on := 0, ground := Ground.chain }, { on := 0, ground := Ground.phase }, { on := 1, ground := Ground.phase }, { on := 2, ground := Ground.phase }, { on := 3, ground := Ground.phase }, { on := 4, ground := Ground.phase }, { on := 5, ground := Ground.phase }, { on := 6, ground := Ground.textOnly Departure.lateStores }, { on := 7, ground := Ground.phase }], guard := none }) rfl (fun K hK => ?_) AllReadyH.nil
          refine wpOp_storeR (by kernel_rfl) 59 _ _ rfl p #[.string wd, .func (.func f1) #[] #[], .func (.func f2) #[] #[], .func (.func f3) #[] #[]] rfl rfl 59 #[.string ⟨#[]⟩, .nilFunc, .nilFunc, .nilFunc] NP.out (nam_info _ _ _ _) rfl (nam_one _ _ _ _) ?_
          obtain ⟨WS, hWS⟩ : ∃ W, W = w2.setRow p #[.string wd, .func (.func f1) #[] #[], .func (.func f2) #[] #[], .func (.func f3) #[] #[]] := ⟨_, rfl⟩
          have BS := Lib.hid (show Below w.heap.size w WS from hWS ▸ BB.out.trans (turn_to (turn_row w2 p _) (fun b e => e ▸ HP.out) BB.out.size))
          have NS := Lib.hid (show WS.heap[p]? = some (.cells #[.string wd, .func (.func f1) #[] #[], .func (.func f2) #[] #[], .func (.func f3) #[] #[]] 59 (0, 0)) from hWS ▸ setRow_heap _ _ _ _ _ _ NP.out)
          have GS := Lib.hid (show GAt WS w.heap.size m (.slice ao m.mem.length cap) from hWS ▸ GG.out.turn (turn_row w2 p _) (fun e => by have := HPN.out; omega))
          rw [← hWS]
          clear hWS BB NP GG
          refine hK.out _ _ (HCE.out _ GS.out).1 (fun hHeld => ?_)
          clear hK K
          (try simp only [Act.put])
          refine wpAnyH_take (i := 9) (oi := { dst := some 4, op := Op.assign (Operand.tmp 11), type := 4, pos := "wire.go:252", after := #[{ on := 6, ground := Ground.data }, { on := 8, ground := Ground.chain }, { on := 0, ground := Ground.phase }, { on := 1, ground := Ground.phase }, { on := 2, ground := Ground.phase }, { on := 3, ground := Ground.phase }, { on := 4, ground := Ground.phase }, { on := 5, ground := Ground.phase }, { on := 6, ground := Ground.phase }, { on := 7, ground := Ground.phase }, { on := 8, ground := Ground.phase }], guard := none }) (v := ?_) rfl (by kernel_rfl) (by kernel_rfl) (by kernel_rfl) (fun _ _ _ h => h) (Or.inl ⟨by rfl, ?_⟩) (by assumption) ?_
          rotate_left 1
          · (intro w hSw; (try dsimp only at hSw); go_simp; try with_reducible rfl)
          (try simp only [Act.put, List.setIfInBounds_toArray, List.set_cons_zero, List.set_cons_succ])
          refine wpAnyH_done (by kernel_rfl) ?_ _
          have c0 : WS.cell? ⟨p, 0, none⟩ = some (.string wd) := cell_of_row _ _ _ _ _ _ NS.out
          have c1 : WS.cell? ⟨p, 1, none⟩ = some (.func (.func f1) #[] #[]) := cell_of_row _ _ _ _ _ _ NS.out
          obtain ⟨x0, x1, x2, x3, x4, x5, x6, x7, x8⟩ := HCE.out _ GS.out
          go_wp2_with (first | (refine (HMY.out _ BS.out).mono ?_; rintro e wf ⟨rfl, bf⟩) | fail)
          go_ret
          exact ⟨rfl, below_step BS.out bf⟩
        · go_simp
          obtain ⟨p, hp⟩ : ∃ p, p = w1.heap.size := ⟨_, rfl⟩
          obtain ⟨w2, hw2⟩ : ∃ V, V = w1.alloc (.cells #[.string ⟨#[]⟩, .nilFunc, .nilFunc, .nilFunc] 59) := ⟨_, rfl⟩
          have ba : Below w1.heap.size w1 w2 := by rw [hw2]; exact (Below.refl _ _).alloc (Nat.le_refl _) _
          have NP := Lib.hid (show w2.heap[p]? = some (.cells #[.string ⟨#[]⟩, .nilFunc, .nilFunc, .nilFunc] 59 (0, 0)) from by rw [hw2, hp]; exact Go.heap_alloc_new _ _)
          have HP : Hid (w.heap.size ≤ p) := Lib.hid (by rw [hp]; exact BB.out.size)
          have HPN : Hid (w.heap.size < p) := Lib.hid (by rw [hp]; exact GG.out.lt)
          have GG := Lib.hid (GG.out.below ba)
          have BB := Lib.hid (below_step BB.out ba)
          have HM := Lib.hid (HM.out.below ba)
          rw [← hw2, ← hp]
          clear ba hw2 hp
          refine hK.out _ _ (HCE.out _ GG.out).1 (fun hHeld => ?_)
          clear hK K
          (try simp only [Act.put, List.setIfInBounds_toArray, List.set_cons_zero, List.set_cons_succ])
          refine wpAnyH_ready (rs := [3]) (by kernel_rfl) (by simp) ?_
          refine AllReadyH.cons (o := { dst := some 9, op := Op.lookup 60 (Operand.tmp 6) (Operand.tmp 8) true, type := 68, pos := "wire.go:252", after := #[{ on := 0, ground := Ground.data }, { on := 2, ground := Ground.data }], guard := none }) rfl (fun K hK => ?_) (AllReadyH.nil)
          refine wpOp_look12 (by kernel_rfl) _ _ _ _ rfl _ _ _ rfl rfl ((HM.out.look keyed_u8 Tryz.underlying60 (zero_nam _) (key_u8 HK.out) HI.out).2) ?_
          refine hK.out _ _ (HCE.out _ GG.out).1 (fun hHeld => ?_)
          clear hK K
          (try simp only [Act.put, List.setIfInBounds_toArray, List.set_cons_zero, List.set_cons_succ])
          refine wpAnyH_take (i := 4) (oi := { dst := some 5, op := Op.move (Operand.tmp 9), type := 68, pos := "wire.go:252", after := #[{ on := 3, ground := Ground.data }], guard := none }) (v := ?_) rfl (by kernel_rfl) (by kernel_rfl) (by kernel_rfl) (fun _ _ _ h => h) (Or.inl ⟨by rfl, ?_⟩) (by assumption) ?_
          rotate_left 1
          · (intro w hSw; (try dsimp only at hSw); go_simp; try with_reducible rfl)
          (try simp only [Act.put, List.setIfInBounds_toArray, List.set_cons_zero, List.set_cons_succ])
          refine wpAnyH_take (i := 5) (oi := { dst := some 10, op := Op.extract (Operand.tmp 5) 0, type := 59, pos := "wire.go:252", after := #[{ on := 4, ground := Ground.data }], guard := none }) (v := ?_) rfl (by kernel_rfl) (by kernel_rfl) (by kernel_rfl) (fun _ _ _ h => h) (Or.inl ⟨by rfl, ?_⟩) (by assumption) ?_
          rotate_left 1
          · (intro w hSw; (try dsimp only at hSw); go_simp; try with_reducible rfl)
          (try simp only [Act.put, List.setIfInBounds_toArray, List.set_cons_zero, List.set_cons_succ])
          refine wpAnyH_take (i := 6) (oi := { dst := some 11, op := Op.extract (Operand.tmp 5) 1, type := 4, pos := "wire.go:252", after := #[{ on := 4, ground := Ground.data }, { on := 8, ground := Ground.gcOnly Departure.lateStores }], guard := none }) (v := ?_) rfl (by kernel_rfl) (by kernel_rfl) (by kernel_rfl) (fun _ _ _ h => h) (Or.inl ⟨by rfl, ?_⟩) (by assumption) ?_
          rotate_left 1
          · (intro w hSw; (try dsimp only at hSw); go_simp; try with_reducible rfl)
          (try simp only [Act.put, List.setIfInBounds_toArray, List.set_cons_zero, List.set_cons_succ])
          refine wpAnyH_ready (rs := [8]) (by kernel_rfl) (by simp) ?_
          refine AllReadyH.cons (o := { dst := none, op := Op.store 59 (Operand.tmp 3) (Operand.tmp 10), type := 0, pos := "wire.go:252", after := #[{ on := 7, ground := Ground.data }, { on := 5, ground := Ground.data }, { on := 0, ground := Ground.chain }, { on := 0, ground := Ground.phase }, { on := 1, ground := Ground.phase }, { on := 2, ground := Ground.phase }, { on := 3, ground := Ground.phase }, { on := 4, ground := Ground.phase }, { on := 5, ground := Ground.phase }, { on := 6, ground := Ground.textOnly Departure.lateStores }, { on := 7, ground := Ground.phase }], guard := none }) rfl (fun K hK => ?_) AllReadyH.nil
          refine wpOp_storeR (by kernel_rfl) 59 _ _ rfl p #[.string wd, .func (.func f1) #[] #[], .func (.func f2) #[] #[], .func (.func f3) #[] #[]] rfl rfl 59 #[.string ⟨#[]⟩, .nilFunc, .nilFunc, .nilFunc] NP.out (nam_info _ _ _ _) rfl (nam_one _ _ _ _) ?_
          obtain ⟨WS, hWS⟩ : ∃ W, W = w2.setRow p #[.string wd, .func (.func f1) #[] #[], .func (.func f2) #[] #[], .func (.func f3) #[] #[]] := ⟨_, rfl⟩
          have BS := Lib.hid (show Below w.heap.size w WS from hWS ▸ BB.out.trans (turn_to (turn_row w2 p _) (fun b e => e ▸ HP.out) BB.out.size))
          have NS := Lib.hid (show WS.heap[p]? = some (.cells #[.string wd, .func (.func f1) #[] #[], .func (.func f2) #[] #[], .func (.func f3) #[] #[]] 59 (0, 0)) from hWS ▸ setRow_heap _ _ _ _ _ _ NP.out)
          have GS := Lib.hid (show GAt WS w.heap.size m (.slice ao m.mem.length cap) from hWS ▸ GG.out.turn (turn_row w2 p _) (fun e => by have := HPN.out; omega))
          rw [← hWS]
          clear hWS BB NP GG
          refine hK.out _ _ (HCE.out _ GS.out).1 (fun hHeld => ?_)
          clear hK K
          (try simp only [Act.put])
          refine wpAnyH_take (i := 9) (oi := { dst := some 4, op := Op.assign (Operand.tmp 11), type := 4, pos := "wire.go:252", after := #[{ on := 6, ground := Ground.data }, { on := 8, ground := Ground.chain }, { on := 0, ground := Ground.phase }, { on := 1, ground := Ground.phase }, { on := 2, ground := Ground.phase }, { on := 3, ground := Ground.phase }, { on := 4, ground := Ground.phase }, { on := 5, ground := Ground.phase }, { on := 6, ground := Ground.phase }, { on := 7, ground := Ground.phase }, { on := 8, ground := Ground.phase }], guard := none }) (v := ?_) rfl (by kernel_rfl) (by kernel_rfl) (by kernel_rfl) (fun _ _ _ h => h) (Or.inl ⟨by rfl, ?_⟩) (by assumption) ?_
          rotate_left 1
          · (intro w hSw; (try dsimp only at hSw); go_simp; try with_reducible rfl)
          (try simp only [Act.put, List.setIfInBounds_toArray, List.set_cons_zero, List.set_cons_succ])
          refine wpAnyH_done (by kernel_rfl) ?_ _
          have c0 : WS.cell? ⟨p, 0, none⟩ = some (.string wd) := cell_of_row _ _ _ _ _ _ NS.out
          have c1 : WS.cell? ⟨p, 1, none⟩ = some (.func (.func f1) #[] #[]) := cell_of_row _ _ _ _ _ _ NS.out
          obtain ⟨x0, x1, x2, x3, x4, x5, x6, x7, x8⟩ := HCE.out _ GS.out
          go_wp2_with (first | (refine (HMY.out _ BS.out).mono ?_; rintro e wf ⟨rfl, bf⟩) | fail)
          go_ret
          exact ⟨rfl, below_step BS.out bf⟩
      · go_simp
        obtain ⟨p, hp⟩ : ∃ p, p = wz.heap.size := ⟨_, rfl⟩
        obtain ⟨w1, hw2⟩ : ∃ V, V = wz.alloc (.cells #[.string ⟨#[]⟩, .nilFunc, .nilFunc, .nilFunc] 59) := ⟨_, rfl⟩
        have ba : Below wz.heap.size wz w1 := by rw [hw2]; exact (Below.refl _ _).alloc (Nat.le_refl _) _
        have NP := Lib.hid (show w1.heap[p]? = some (.cells #[.string ⟨#[]⟩, .nilFunc, .nilFunc, .nilFunc] 59 (0, 0)) from by rw [hw2, hp]; exact Go.heap_alloc_new _ _)
        have HP : Hid (w.heap.size ≤ p) := Lib.hid (by rw [hp]; exact BB.out.size)
        have HPN : Hid (w.heap.size < p) := Lib.hid (by rw [hp]; exact GG.out.lt)
        have GG := Lib.hid (GG.out.below ba)
        have BB := Lib.hid (below_step BB.out ba)
        rw [← hw2, ← hp]
        clear ba hw2 hp
        refine hK.out _ _ (HCE.out _ GG.out).1 (fun hHeld => ?_)
        clear hK K
        (try simp only [Act.put, List.setIfInBounds_toArray, List.set_cons_zero, List.set_cons_succ])
        refine wpAnyH_ready (rs := [0]) (by kernel_rfl) (by simp) ?_
        refine AllReadyH.cons (o := { dst := some 6, op := Op.call { callee := Callee.value (Operand.func 33), args := #[], argTypes := #[] }, type := 60, pos := "wire.go:252", after := #[], guard := none }) rfl (fun K hK => ?_) (AllReadyH.nil)
        go_simp
        refine (HN.out _).mono ?_; rintro e w2 ⟨⟨mp, rfl, hm⟩, bb⟩
        have GG := Lib.hid (GG.out.below bb)
        have BB := Lib.hid (below_step BB.out bb)
        have HM := Lib.hid hm
        have NP := Lib.hid ((bb.block p (Array.getElem?_eq_some_iff.1 NP.out).1).trans NP.out)
        clear bb hm
        refine hK.out _ _ (HCE.out _ GG.out).1 (fun hHeld => ?_)
        clear hK K
        (try simp only [Act.put, List.setIfInBounds_toArray, List.set_cons_zero, List.set_cons_succ])
        refine wpAnyH_ready (rs := [3]) (by kernel_rfl) (by simp) ?_
        refine AllReadyH.cons (o := { dst := some 9, op := Op.lookup 60 (Operand.tmp 6) (Operand.tmp 8) true, type := 68, pos := "wire.go:252", after := #[{ on := 0, ground := Ground.data }, { on := 2, ground := Ground.data }], guard := none }) rfl (fun K hK => ?_) (AllReadyH.nil)
        refine wpOp_look12 (by kernel_rfl) _ _ _ _ rfl _ _ _ rfl rfl ((HM.out.look keyed_u8 Tryz.underlying60 (zero_nam _) (key_u8 HK.out) HI.out).2) ?_
        refine hK.out _ _ (HCE.out _ GG.out).1 (fun hHeld => ?_)
        clear hK K
        (try simp only [Act.put, List.setIfInBounds_toArray, List.set_cons_zero, List.set_cons_succ])
        refine wpAnyH_take (i := 4) (oi := { dst := some 5, op := Op.move (Operand.tmp 9), type := 68, pos := "wire.go:252", after := #[{ on := 3, ground := Ground.data }], guard := none }) (v := ?_) rfl (by kernel_rfl) (by kernel_rfl) (by kernel_rfl) (fun _ _ _ h => h) (Or.inl ⟨by rfl, ?_⟩) (by assumption) ?_
        rotate_left 1
        · (intro w hSw; (try dsimp only at hSw); go_simp; try with_reducible rfl)
        (try simp only [Act.put, List.setIfInBounds_toArray, List.set_cons_zero, List.set_cons_succ])
        refine wpAnyH_take (i := 5) (oi := { dst := some 10, op := Op.extract (Operand.tmp 5) 0, type := 59, pos := "wire.go:252", after := #[{ on := 4, ground := Ground.data }], guard := none }) (v := ?_) rfl (by kernel_rfl) (by kernel_rfl) (by kernel_rfl) (fun _ _ _ h => h) (Or.inl ⟨by rfl, ?_⟩) (by assumption) ?_
        rotate_left 1
        · (intro w hSw; (try dsimp only at hSw); go_simp; try with_reducible rfl)
        (try simp only [Act.put, List.setIfInBounds_toArray, List.set_cons_zero, List.set_cons_succ])
        refine wpAnyH_take (i := 6) (oi := { dst := some 11, op := Op.extract (Operand.tmp 5) 1, type := 4, pos := "wire.go:252", after := #[{ on := 4, ground := Ground.data }, { on := 8, ground := Ground.gcOnly Departure.lateStores }], guard := none }) (v := ?_) rfl (by kernel_rfl) (by kernel_rfl) (by kernel_rfl) (fun _ _ _ h => h) (Or.inl ⟨by rfl, ?_⟩) (by assumption) ?_
        rotate_left 1
        · (intro w hSw; (try dsimp only at hSw); go_simp; try with_reducible rfl)
        (try simp only [Act.put, List.setIfInBounds_toArray, List.set_cons_zero, List.set_cons_succ])
        refine wpAnyH_ready (rs := [8]) (by kernel_rfl) (by simp) ?_
        refine AllReadyH.cons (o := { dst := none, op := Op.store 59 (Operand.tmp 3) (Operand.tmp 10), type := 0, pos := "wire.go:252", after := #[{ on := 7, ground := Ground.data }, { on := 5, ground := Ground.data }, { on := 0, ground := Ground.chain }, { on := 0, ground := Ground.phase }, { on := 1, ground := Ground.phase }, { on := 2, ground := Ground.phase }, { on := 3, ground := Ground.phase }, { on := 4, ground := Ground.phase }, { on := 5, ground := Ground.phase }, { on := 6, ground := Ground.textOnly Departure.lateStores }, { on := 7, ground := Ground.phase }], guard := none }) rfl (fun K hK => ?_) AllReadyH.nil
        refine wpOp_storeR (by kernel_rfl) 59 _ _ rfl p #[.string wd, .func (.func f1) #[] #[], .func (.func f2) #[] #[], .func (.func f3) #[] #[]] rfl rfl 59 #[.string ⟨#[]⟩, .nilFunc, .nilFunc, .nilFunc] NP.out (nam_info _ _ _ _) rfl (nam_one _ _ _ _) ?_
        obtain ⟨WS, hWS⟩ : ∃ W, W = w2.setRow p #[.string wd, .func (.func f1) #[] #[], .func (.func f2) #[] #[], .func (.func f3) #[] #[]] := ⟨_, rfl⟩
        have BS := Lib.hid (show Below w.heap.size w WS from hWS ▸ BB.out.trans (turn_to (turn_row w2 p _) (fun b e => e ▸ HP.out) BB.out.size))
        have NS := Lib.hid (show WS.heap[p]? = some (.cells #[.string wd, .func (.func f1) #[] #[], .func (.func f2) #[] #[], .func (.func f3) #[] #[]] 59 (0, 0)) from hWS ▸ setRow_heap _ _ _ _ _ _ NP.out)
        have GS := Lib.hid (show GAt WS w.heap.size m (.slice ao m.mem.length cap) from hWS ▸ GG.out.turn (turn_row w2 p _) (fun e => by have := HPN.out; omega))
        rw [← hWS]
        clear hWS BB NP GG
        refine hK.out _ _ (HCE.out _ GS.out).1 (fun hHeld => ?_)
        clear hK K
        (try simp only [Act.put])
        refine wpAnyH_take (i := 9) (oi := { dst := some 4, op := Op.assign (Operand.tmp 11), type := 4, pos := "wire.go:252", after := #[{ on := 6, ground := Ground.data }, { on := 8, ground := Ground.chain }, { on := 0, ground := Ground.phase }, { on := 1, ground := Ground.phase }, { on := 2, ground := Ground.phase }, { on := 3, ground := Ground.phase }, { on := 4, ground := Ground.phase }, { on := 5, ground := Ground.phase }, { on := 6, ground := Ground.phase }, { on := 7, ground := Ground.phase }, { on := 8, ground := Ground.phase }], guard := none }) (v := ?_) rfl (by kernel_rfl) (by kernel_rfl) (by kernel_rfl) (fun _ _ _ h => h) (Or.inl ⟨by rfl, ?_⟩) (by assumption) ?_
        rotate_left 1
        · (intro w hSw; (try dsimp only at hSw); go_simp; try with_reducible rfl)
        (try simp only [Act.put, List.setIfInBounds_toArray, List.set_cons_zero, List.set_cons_succ])
        refine wpAnyH_done (by kernel_rfl) ?_ _
        have c0 : WS.cell? ⟨p, 0, none⟩ = some (.string wd) := cell_of_row _ _ _ _ _ _ NS.out
        have c1 : WS.cell? ⟨p, 1, none⟩ = some (.func (.func f1) #[] #[]) := cell_of_row _ _ _ _ _ _ NS.out
        obtain ⟨x0, x1, x2, x3, x4, x5, x6, x7, x8⟩ := HCE.out _ GS.out
        go_wp2_with (first | (refine (HMY.out _ BS.out).mono ?_; rintro e wf ⟨rfl, bf⟩) | fail)
        go_ret
        exact ⟨rfl, below_step BS.out bf⟩
    | true =>
      have HMY := Lib.hid HMY
      go_enter Tryz.func11, Tryz.ntmps11
      go_wp2_with fail
      rw [← HW0.out]
      clear HW0 hkk
      refine wp_region_held_drew (S := fun W => W.cell? ⟨w.heap.size, 0, none⟩ = some (.int .u8 m.kind)) (by kernel_rfl) (by first | assumption | exact KS) (fun hHeld => ?_)
      generalize W0.drew = wz at *
      refine wpAnyH_take (i := 1) (oi := { dst := some 7, op := Op.fieldAddr 26 (Operand.tmp 1) 0, type := 0, pos := "wire.go:252", after := #[], guard := none }) (v := ?_) rfl (by kernel_rfl) (by kernel_rfl) (by kernel_rfl) (fun _ _ _ h => h) (Or.inl ⟨by rfl, ?_⟩) (by assumption) ?_
      rotate_left 1
      · (intro w hSw; (try dsimp only at hSw); go_simp; try with_reducible rfl)
      (try simp only [Act.put, List.setIfInBounds_toArray, List.set_cons_zero, List.set_cons_succ])
      refine wpAnyH_take (i := 2) (oi := { dst := some 8, op := Op.load 5 (Operand.tmp 7), type := 5, pos := "wire.go:252", after := #[{ on := 1, ground := Ground.data }], guard := none }) (v := ?_) rfl (by kernel_rfl) (by kernel_rfl) (by kernel_rfl) (fun _ _ _ h => h) (Or.inl ⟨by rfl, ?_⟩) (by assumption) ?_
      rotate_left 1
      · (intro w hSw; (try dsimp only at hSw); go_simp; try with_reducible rfl)
      (try simp only [Act.put, List.setIfInBounds_toArray, List.set_cons_zero, List.set_cons_succ])
      refine wpAnyH_ready (rs := [0, 7]) (by kernel_rfl) (by simp) ?_
      refine AllReadyH.cons (o := { dst := some 6, op := Op.call { callee := Callee.value (Operand.func 33), args := #[], argTypes := #[] }, type := 60, pos := "wire.go:252", after := #[], guard := none }) rfl (fun K hK => ?_) (AllReadyH.cons (o := { dst := some 3, op := Op.alloc 59, type := 0, pos := "wire.go:252", after := #[], guard := none }) rfl (fun K hK => ?_) (AllReadyH.nil))
      · go_simp
        refine (HN.out _).mono ?_; rintro e w1 ⟨⟨mp, rfl, hm⟩, bb⟩
        have GG := Lib.hid (GG.out.below bb)
        have BB := Lib.hid (below_step BB.out bb)
        have HM := Lib.hid hm
        clear bb hm
        refine hK.out _ _ (HCE.out _ GG.out).1 (fun hHeld => ?_)
        clear hK K
        (try simp only [Act.put, List.setIfInBounds_toArray, List.set_cons_zero, List.set_cons_succ])
        refine wpAnyH_ready (rs := [3, 7]) (by kernel_rfl) (by simp) ?_
        refine AllReadyH.cons (o := { dst := some 9, op := Op.lookup 60 (Operand.tmp 6) (Operand.tmp 8) true, type := 68, pos := "wire.go:252", after := #[{ on := 0, ground := Ground.data }, { on := 2, ground := Ground.data }], guard := none }) rfl (fun K hK => ?_) (AllReadyH.cons (o := { dst := some 3, op := Op.alloc 59, type := 0, pos := "wire.go:252", after := #[], guard := none }) rfl (fun K hK => ?_) (AllReadyH.nil))
        · refine wpOp_look12 (by kernel_rfl) _ _ _ _ rfl _ _ _ rfl rfl ((HM.out.look keyed_u8 Tryz.underlying60 (zero_nam _) (key_u8 HK.out) HI.out).2) ?_
          refine hK.out _ _ (HCE.out _ GG.out).1 (fun hHeld => ?_)
          clear hK K
          (try simp only [Act.put, List.setIfInBounds_toArray, List.set_cons_zero, List.set_cons_succ])
          refine wpAnyH_take (i := 4) (oi := { dst := some 5, op := Op.move (Operand.tmp 9), type := 68, pos := "wire.go:252", after := #[{ on := 3, ground := Ground.data }], guard := none }) (v := ?_) rfl (by kernel_rfl) (by kernel_rfl) (by kernel_rfl) (fun _ _ _ h => h) (Or.inl ⟨by rfl, ?_⟩) (by assumption) ?_
          rotate_left 1
          · (intro w hSw; (try dsimp only at hSw); go_simp; try with_reducible rfl)
          (try simp only [Act.put, List.setIfInBounds_toArray, List.set_cons_zero, List.set_cons_succ])
          refine wpAnyH_take (i := 5) (oi := { dst := some 10, op := Op.extract (Operand.tmp 5) 0, type := 59, pos := "wire.go:252", after := #[{ on := 4, ground := Ground.data }], guard := none }) (v := ?_) rfl (by kernel_rfl) (by kernel_rfl) (by kernel_rfl) (fun _ _ _ h => h) (Or.inl ⟨by rfl, ?_⟩) (by assumption) ?_
          rotate_left 1
          · (intro w hSw; (try dsimp only at hSw); go_simp; try with_reducible rfl)
          (try simp only [Act.put, List.setIfInBounds_toArray, List.set_cons_zero, List.set_cons_succ])
          refine wpAnyH_take (i := 6) (oi := { dst := some 11, op := Op.extract (Operand.tmp 5) 1, type := 4, pos := "wire.go:252", after := #[{ on := 4, ground := Ground.data }, { on := 8, ground := Ground.gcOnly Departure.lateStores }], guard := none }) (v := ?_) rfl (by kernel_rfl) (by kernel_rfl) (by kernel_rfl) (fun _ _ _ h => h) (Or.inl ⟨by rfl, ?_⟩) (by assumption) ?_
          rotate_left 1
          · (intro w hSw; (try dsimp only at hSw); go_simp; try with_reducible rfl)
          (try simp only [Act.put, List.setIfInBounds_toArray, List.set_cons_zero, List.set_cons_succ])
          refine wpAnyH_ready (rs := [7]) (by kernel_rfl) (by simp) ?_
          refine AllReadyH.cons (o := { dst := some 3, op := Op.alloc 59, type := 0, pos := "wire.go:252", after := #[], guard := none }) rfl (fun K hK => ?_) (AllReadyH.nil)
          go_simp
          obtain ⟨p, hp⟩ : ∃ p, p = w1.heap.size := ⟨_, rfl⟩
          obtain ⟨w2, hw2⟩ : ∃ V, V = w1.alloc (.cells #[.string ⟨#[]⟩, .nilFunc, .nilFunc, .nilFunc] 59) := ⟨_, rfl⟩
          have ba : Below w1.heap.size w1 w2 := by rw [hw2]; exact (Below.refl _ _).alloc (Nat.le_refl _) _
          have NP := Lib.hid (show w2.heap[p]? = some (.cells #[.string ⟨#[]⟩, .nilFunc, .nilFunc, .nilFunc] 59 (0, 0)) from by rw [hw2, hp]; exact Go.heap_alloc_new _ _)
          have HP : Hid (w.heap.size ≤ p) := Lib.hid (by rw [hp]; exact BB.out.size)
          have HPN : Hid (w.heap.size < p) := Lib.hid (by rw [hp]; exact GG.out.lt)
          have GG := Lib.hid (GG.out.below ba)
          have BB := Lib.hid (below_step BB.out ba)
          have HM := Lib.hid (HM.out.below ba)
          rw [← hw2, ← hp]
          clear ba hw2 hp
          refine hK.out _ _ (HCE.out _ GG.out).1 (fun hHeld => ?_)
          clear hK K
          (try simp only [Act.put, List.setIfInBounds_toArray, List.set_cons_zero, List.set_cons_succ])
          refine wpAnyH_ready (rs := [8]) (by kernel_rfl) (by simp) ?_
          refine AllReadyH.cons (o := { dst := none, op := Op.store 59 (Operand.tmp 3) (Operand.tmp 10), type := 0, pos := "wire.go:252", after := #[{ on := 7, ground := Ground.data }, { on := 5, ground := Ground.data }, { on := 0, ground := Ground.chain }, { on := 0, ground := Ground.phase }, { on := 1, ground := Ground.phase }, { on := 2, ground := Ground.phase }, { on := 3, ground := Ground.phase }, { on := 4, ground := Ground.phase }, { on := 5, ground := Ground.phase }, { on := 6, ground := Ground.textOnly Departure.lateStores }, { on := 7, ground := Ground.phase }], guard := none }) rfl (fun K hK => ?_) AllReadyH.nil
          refine wpOp_storeR (by kernel_rfl) 59 _ _ rfl p #[.string wd, .func (.func f1) #[] #[], .func (.func f2) #[] #[], .func (.func f3) #[] #[]] rfl rfl 59 #[.string ⟨#[]⟩, .nilFunc, .nilFunc, .nilFunc] NP.out (nam_info _ _ _ _) rfl (nam_one _ _ _ _) ?_
          obtain ⟨WS, hWS⟩ : ∃ W, W = w2.setRow p #[.string wd, .func (.func f1) #[] #[], .func (.func f2) #[] #[], .func (.func f3) #[] #[]] := ⟨_, rfl⟩
          have BS := Lib.hid (show Below w.heap.size w WS from hWS ▸ BB.out.trans (turn_to (turn_row w2 p _) (fun b e => e ▸ HP.out) BB.out.size))
          have NS := Lib.hid (show WS.heap[p]? = some (.cells #[.string wd, .func (.func f1) #[] #[], .func (.func f2) #[] #[], .func (.func f3) #[] #[]] 59 (0, 0)) from hWS ▸ setRow_heap _ _ _ _ _ _ NP.out)
          have GS := Lib.hid (show GAt WS w.heap.size m (.slice ao m.mem.length cap) from hWS ▸ GG.out.turn (turn_row w2 p _) (fun e => by have := HPN.out; omega))
          rw [← hWS]
          clear hWS BB NP GG
          refine hK.out _ _ (HCE.out _ GS.out).1 (fun hHeld => ?_)
          clear hK K
          (try simp only [Act.put])
          refine wpAnyH_take (i := 9) (oi := { dst := some 4, op := Op.assign (Operand.tmp 11), type := 4, pos := "wire.go:252", after := #[{ on := 6, ground := Ground.data }, { on := 8, ground := Ground.chain }, { on := 0, ground := Ground.phase }, { on := 1, ground := Ground.phase }, { on := 2, ground := Ground.phase }, { on := 3, ground := Ground.phase }, { on := 4, ground := Ground.phase }, { on := 5, ground := Ground.phase }, { on := 6, ground := Ground.phase }, { on := 7, ground := Ground.phase }, { on := 8, ground := Ground.phase }], guard := none }) (v := ?_) rfl (by kernel_rfl) (by kernel_rfl) (by kernel_rfl) (fun _ _ _ h => h) (Or.inl ⟨by rfl, ?_⟩) (by assumption) ?_
          rotate_left 1
          · (intro w hSw; (try dsimp only at hSw); go_simp; try with_reducible rfl)
          (try simp only [Act.put, List.setIfInBounds_toArray, List.set_cons_zero, List.set_cons_succ])
          refine wpAnyH_done (by kernel_rfl) ?_ _
          have c0 : WS.cell? ⟨p, 0, none⟩ = some (.string wd) := cell_of_row _ _ _ _ _ _ NS.out
          have c1 : WS.cell? ⟨p, 1, none⟩ = some (.func (.func f1) #[] #[]) := cell_of_row _ _ _ _ _ _ NS.out
          obtain ⟨x0, x1, x2, x3, x4, x5, x6, x7, x8⟩ := HCE.out _ GS.out
          go_wp2_with (first | (refine (HMY.out _ BS.out).mono ?_; rintro e wf ⟨rfl, bf⟩) | fail)
          go_ret
          exact ⟨rfl, below_step BS.out bf⟩
        · go_simp
          obtain ⟨p, hp⟩ : ∃ p, p = w1.heap.size := ⟨_, rfl⟩
          obtain ⟨w2, hw2⟩ : ∃ V, V = w1.alloc (.cells #[.string ⟨#[]⟩, .nilFunc, .nilFunc, .nilFunc] 59) := ⟨_, rfl⟩
          have ba : Below w1.heap.size w1 w2 := by rw [hw2]; exact (Below.refl _ _).alloc (Nat.le_refl _) _
          have NP := Lib.hid (show w2.heap[p]? = some (.cells #[.string ⟨#[]⟩, .nilFunc, .nilFunc, .nilFunc] 59 (0, 0)) from by rw [hw2, hp]; exact Go.heap_alloc_new _ _)
          have HP : Hid (w.heap.size ≤ p) := Lib.hid (by rw [hp]; exact BB.out.size)
          have HPN : Hid (w.heap.size < p) := Lib.hid (by rw [hp]; exact GG.out.lt)
          have GG := Lib.hid (GG.out.below ba)
          have BB := Lib.hid (below_step BB.out ba)
          have HM := Lib.hid (HM.out.below ba)
          rw [← hw2, ← hp]
          clear ba hw2 hp
          refine hK.out _ _ (HCE.out _ GG.out).1 (fun hHeld => ?_)
          clear hK K
          (try simp only [Act.put, List.setIfInBounds_toArray, List.set_cons_zero, List.set_cons_succ])
          refine wpAnyH_ready (rs := [3]) (by kernel_rfl) (by simp) ?_
          refine AllReadyH.cons (o := { dst := some 9, op := Op.lookup 60 (Operand.tmp 6) (Operand.tmp 8) true, type := 68, pos := "wire.go:252", after := #[{ on := 0, ground := Ground.data }, { on := 2, ground := Ground.data }], guard := none }) rfl (fun K hK => ?_) (AllReadyH.nil)
          refine wpOp_look12 (by kernel_rfl) _ _ _ _ rfl _ _ _ rfl rfl ((HM.out.look keyed_u8 Tryz.underlying60 (zero_nam _) (key_u8 HK.out) HI.out).2) ?_
          refine hK.out _ _ (HCE.out _ GG.out).1 (fun hHeld => ?_)
          clear hK K
          (try simp only [Act.put, List.setIfInBounds_toArray, List.set_cons_zero, List.set_cons_succ])
          refine wpAnyH_take (i := 4) (oi := { dst := some 5, op := Op.move (Operand.tmp 9), type := 68, pos := "wire.go:252", after := #[{ on := 3, ground := Ground.data }], guard := none }) (v := ?_) rfl (by kernel_rfl) (by kernel_rfl) (by kernel_rfl) (fun _ _ _ h => h) (Or.inl ⟨by rfl, ?_⟩) (by assumption) ?_
          rotate_left 1
          · (intro w hSw; (try dsimp only at hSw); go_simp; try with_reducible rfl)
          (try simp only [Act.put, List.setIfInBounds_toArray, List.set_cons_zero, List.set_cons_succ])
          refine wpAnyH_take (i := 5) (oi := { dst := some 10, op := Op.extract (Operand.tmp 5) 0, type := 59, pos := "wire.go:252", after := #[{ on := 4, ground := Ground.data }], guard := none }) (v := ?_) rfl (by kernel_rfl) (by kernel_rfl) (by kernel_rfl) (fun _ _ _ h => h) (Or.inl ⟨by rfl, ?_⟩) (by assumption) ?_
          rotate_left 1
          · (intro w hSw; (try dsimp only at hSw); go_simp; try with_reducible rfl)
          (try simp only [Act.put, List.setIfInBounds_toArray, List.set_cons_zero, List.set_cons_succ])
          refine wpAnyH_take (i := 6) (oi := { dst := some 11, op := Op.extract (Operand.tmp 5) 1, type := 4, pos := "wire.go:252", after := #[{ on := 4, ground := Ground.data }, { on := 8, ground := Ground.gcOnly Departure.lateStores }], guard := none }) (v := ?_) rfl (by kernel_rfl) (by kernel_rfl) (by kernel_rfl) (fun _ _ _ h => h) (Or.inl ⟨by rfl, ?_⟩) (by assumption) ?_
          rotate_left 1
          · (intro w hSw; (try dsimp only at hSw); go_simp; try with_reducible rfl)
          (try simp only [Act.put, List.setIfInBounds_toArray, List.set_cons_zero, List.set_cons_succ])
          refine wpAnyH_ready (rs := [8]) (by kernel_rfl) (by simp) ?_
          refine AllReadyH.cons (o := { dst := none, op := Op.store 59 (Operand.tmp 3) (Operand.tmp 10), type := 0, pos := "wire.go:252", after := #[{ on := 7, ground := Ground.data }, { on := 5, ground := Ground.data }, { on := 0, ground := Ground.chain }, { on := 0, ground := Ground.phase }, { on := 1, ground := Ground.phase }, { on := 2, ground := Ground.phase }, { on := 3, ground := Ground.phase }, { on := 4, ground := Ground.phase }, { on := 5, ground := Ground.phase }, { on := 6, ground := Ground.textOnly Departure.lateStores }, { on := 7, ground := Ground.phase }], guard := none }) rfl (fun K hK => ?_) AllReadyH.nil
          refine wpOp_storeR (by kernel_rfl) 59 _ _ rfl p #[.string wd, .func (.func f1) #[] #[], .func (.func f2) #[] #[], .func (.func f3) #[] #[]] rfl rfl 59 #[.string ⟨#[]⟩, .nilFunc, .nilFunc, .nilFunc] NP.out (nam_info _ _ _ _) rfl (nam_one _ _ _ _) ?_
          obtain ⟨WS, hWS⟩ : ∃ W, W = w2.setRow p #[.string wd, .func (.func f1) #[] #[], .func (.func f2) #[] #[], .func (.func f3) #[] #[]] := ⟨_, rfl⟩
          have BS := Lib.hid (show Below w.heap.size w WS from hWS ▸ BB.out.trans (turn_to (turn_row w2 p _) (fun b e => e ▸ HP.out) BB.out.size))
          have NS := Lib.hid (show WS.heap[p]? = some (.cells #[.string wd, .func (.func f1) #[] #[], .func (.func f2) #[] #[], .func (.func f3) #[] #[]] 59 (0, 0)) from hWS ▸ setRow_heap _ _ _ _ _ _ NP.out)
          have GS := Lib.hid (show GAt WS w.heap.size m (.slice ao m.mem.length cap) from hWS ▸ GG.out.turn (turn_row w2 p _) (fun e => by have := HPN.out; omega))
          rw [← hWS]
          clear hWS BB NP GG
          refine hK.out _ _ (HCE.out _ GS.out).1 (fun hHeld => ?_)
          clear hK K
          (try simp only [Act.put])
          refine wpAnyH_take (i := 9) (oi := { dst := some 4, op := Op.assign (Operand.tmp 11), type := 4, pos := "wire.go:252", after := #[{ on := 6, ground := Ground.data }, { on := 8, ground := Ground.chain }, { on := 0, ground := Ground.phase }, { on := 1, ground := Ground.phase }, { on := 2, ground := Ground.phase }, { on := 3, ground := Ground.phase }, { on := 4, ground := Ground.phase }, { on := 5, ground := Ground.phase }, { on := 6, ground := Ground.phase }, { on := 7, ground := Ground.phase }, { on := 8, ground := Ground.phase }], guard := none }) (v := ?_) rfl (by kernel_rfl) (by kernel_rfl) (by kernel_rfl) (fun _ _ _ h => h) (Or.inl ⟨by rfl, ?_⟩) (by assumption) ?_
          rotate_left 1
          · (intro w hSw; (try dsimp only at hSw); go_simp; try with_reducible rfl)
          (try simp only [Act.put, List.setIfInBounds_toArray, List.set_cons_zero, List.set_cons_succ])
          refine wpAnyH_done (by kernel_rfl) ?_ _
          have c0 : WS.cell? ⟨p, 0, none⟩ = some (.string wd) := cell_of_row _ _ _ _ _ _ NS.out
          have c1 : WS.cell? ⟨p, 1, none⟩ = some (.func (.func f1) #[] #[]) := cell_of_row _ _ _ _ _ _ NS.out
          obtain ⟨x0, x1, x2, x3, x4, x5, x6, x7, x8⟩ := HCE.out _ GS.out
          go_wp2_with (first | (refine (HMY.out _ BS.out).mono ?_; rintro e wf ⟨rfl, bf⟩) | fail)
          go_ret
          exact ⟨rfl, below_step BS.out bf⟩
      · go_simp
        obtain ⟨p, hp⟩ : ∃ p, p = wz.heap.size := ⟨_, rfl⟩
        obtain ⟨w1, hw2⟩ : ∃ V, V = wz.alloc (.cells #[.string ⟨#[]⟩, .nilFunc, .nilFunc, .nilFunc] 59) := ⟨_, rfl⟩
        have ba : Below wz.heap.size wz w1 := by rw [hw2]; exact (Below.refl _ _).alloc (Nat.le_refl _) _
        have NP := Lib.hid (show w1.heap[p]? = some (.cells #[.string ⟨#[]⟩, .nilFunc, .nilFunc, .nilFunc] 59 (0, 0)) from by rw [hw2, hp]; exact Go.heap_alloc_new _ _)
        have HP : Hid (w.heap.size ≤ p) := Lib.hid (by rw [hp]; exact BB.out.size)
        have HPN : Hid (w.heap.size < p) := Lib.hid (by rw [hp]; exact GG.out.lt)
        have GG := Lib.hid (GG.out.below ba)
        have BB := Lib.hid (below_step BB.out ba)
        rw [← hw2, ← hp]
        clear ba hw2 hp
        refine hK.out _ _ (HCE.out _ GG.out).1 (fun hHeld => ?_)
        clear hK K
        (try simp only [Act.put, List.setIfInBounds_toArray, List.set_cons_zero, List.set_cons_succ])
        refine wpAnyH_ready (rs := [0]) (by kernel_rfl) (by simp) ?_
        refine AllReadyH.cons (o := { dst := some 6, op := Op.call { callee := Callee.value (Operand.func 33), args := #[], argTypes := #[] }, type := 60, pos := "wire.go:252", after := #[], guard := none }) rfl (fun K hK => ?_) (AllReadyH.nil)
        go_simp
        refine (HN.out _).mono ?_; rintro e w2 ⟨⟨mp, rfl, hm⟩, bb⟩
        have GG := Lib.hid (GG.out.below bb)
        have BB := Lib.hid (below_step BB.out bb)
        have HM := Lib.hid hm
        have NP := Lib.hid ((bb.block p (Array.getElem?_eq_some_iff.1 NP.out).1).trans NP.out)
        clear bb hm
        refine hK.out _ _ (HCE.out _ GG.out).1 (fun hHeld => ?_)
        clear hK K
        (try simp only [Act.put, List.setIfInBounds_toArray, List.set_cons_zero, List.set_cons_succ])
        refine wpAnyH_ready (rs := [3]) (by kernel_rfl) (by simp) ?_
        refine AllReadyH.cons (o := { dst := some 9, op := Op.lookup 60 (Operand.tmp 6) (Operand.tmp 8) true, type := 68, pos := "wire.go:252", after := #[{ on := 0, ground := Ground.data }, { on := 2, ground := Ground.data }], guard := none }) rfl (fun K hK => ?_) (AllReadyH.nil)
        refine wpOp_look12 (by kernel_rfl) _ _ _ _ rfl _ _ _ rfl rfl ((HM.out.look keyed_u8 Tryz.underlying60 (zero_nam _) (key_u8 HK.out) HI.out).2) ?_
        refine hK.out _ _ (HCE.out _ GG.out).1 (fun hHeld => ?_)
        clear hK K
        (try simp only [Act.put, List.setIfInBounds_toArray, List.set_cons_zero, List.set_cons_succ])
        refine wpAnyH_take (i := 4) (oi := { dst := some 5, op := Op.move (Operand.tmp 9), type := 68, pos := "wire.go:252", after := #[{ on := 3, ground := Ground.data }], guard := none }) (v := ?_) rfl (by kernel_rfl) (by kernel_rfl) (by kernel_rfl) (fun _ _ _ h => h) (Or.inl ⟨by rfl, ?_⟩) (by assumption) ?_
        rotate_left 1
        · (intro w hSw; (try dsimp only at hSw); go_simp; try with_reducible rfl)
        (try simp only [Act.put, List.setIfInBounds_toArray, List.set_cons_zero, List.set_cons_succ])
        refine wpAnyH_take (i := 5) (oi := { dst := some 10, op := Op.extract (Operand.tmp 5) 0, type := 59, pos := "wire.go:252", after := #[{ on := 4, ground := Ground.data }], guard := none }) (v := ?_) rfl (by kernel_rfl) (by kernel_rfl) (by kernel_rfl) (fun _ _ _ h => h) (Or.inl ⟨by rfl, ?_⟩) (by assumption) ?_
        rotate_left 1
        · (intro w hSw; (try dsimp only at hSw); go_simp; try with_reducible rfl)
        (try simp only [Act.put, List.setIfInBounds_toArray, List.set_cons_zero, List.set_cons_succ])
        refine wpAnyH_take (i := 6) (oi := { dst := some 11, op := Op.extract (Operand.tmp 5) 1, type := 4, pos := "wire.go:252", after := #[{ on := 4, ground := Ground.data }, { on := 8, ground := Ground.gcOnly Departure.lateStores }], guard := none }) (v := ?_) rfl (by kernel_rfl) (by kernel_rfl) (by kernel_rfl) (fun _ _ _ h => h) (Or.inl ⟨by rfl, ?_⟩) (by assumption) ?_
        rotate_left 1
        · (intro w hSw; (try dsimp only at hSw); go_simp; try with_reducible rfl)
        (try simp only [Act.put, List.setIfInBounds_toArray, List.set_cons_zero, List.set_cons_succ])
        refine wpAnyH_ready (rs := [8]) (by kernel_rfl) (by simp) ?_
        refine AllReadyH.cons (o := { dst := none, op := Op.store 59 (Operand.tmp 3) (Operand.tmp 10), type := 0, pos := "wire.go:252", after := #[{ on := 7, ground := Ground.data }, { on := 5, ground := Ground.data }, { on := 0, ground := Ground.chain }, { on := 0, ground := Ground.phase }, { on := 1, ground := Ground.phase }, { on := 2, ground := Ground.phase }, { on := 3, ground := Ground.phase }, { on := 4, ground := Ground.phase }, { on := 5, ground := Ground.phase }, { on := 6, ground := Ground.textOnly Departure.lateStores }, { on := 7, ground := Ground.phase }], guard := none }) rfl (fun K hK => ?_) AllReadyH.nil
        refine wpOp_storeR (by kernel_rfl) 59 _ _ rfl p #[.string wd, .func (.func f1) #[] #[], .func (.func f2) #[] #[], .func (.func f3) #[] #[]] rfl rfl 59 #[.string ⟨#[]⟩, .nilFunc, .nilFunc, .nilFunc] NP.out (nam_info _ _ _ _) rfl (nam_one _ _ _ _) ?_
        obtain ⟨WS, hWS⟩ : ∃ W, W = w2.setRow p #[.string wd, .func (.func f1) #[] #[], .func (.func f2) #[] #[], .func (.func f3) #[] #[]] := ⟨_, rfl⟩
        have BS := Lib.hid (show Below w.heap.size w WS from hWS ▸ BB.out.trans (turn_to (turn_row w2 p _) (fun b e => e ▸ HP.out) BB.out.size))
        have NS := Lib.hid (show WS.heap[p]? = some (.cells #[.string wd, .func (.func f1) #[] #[], .func (.func f2) #[] #[], .func (.func f3) #[] #[]] 59 (0, 0)) from hWS ▸ setRow_heap _ _ _ _ _ _ NP.out)
        have GS := Lib.hid (show GAt WS w.heap.size m (.slice ao m.mem.length cap) from hWS ▸ GG.out.turn (turn_row w2 p _) (fun e => by have := HPN.out; omega))
        rw [← hWS]
        clear hWS BB NP GG
        refine hK.out _ _ (HCE.out _ GS.out).1 (fun hHeld => ?_)
        clear hK K
        (try simp only [Act.put])
        refine wpAnyH_take (i := 9) (oi := { dst := some 4, op := Op.assign (Operand.tmp 11), type := 4, pos := "wire.go:252", after := #[{ on := 6, ground := Ground.data }, { on := 8, ground := Ground.chain }, { on := 0, ground := Ground.phase }, { on := 1, ground := Ground.phase }, { on := 2, ground := Ground.phase }, { on := 3, ground := Ground.phase }, { on := 4, ground := Ground.phase }, { on := 5, ground := Ground.phase }, { on := 6, ground := Ground.phase }, { on := 7, ground := Ground.phase }, { on := 8, ground := Ground.phase }], guard := none }) (v := ?_) rfl (by kernel_rfl) (by kernel_rfl) (by kernel_rfl) (fun _ _ _ h => h) (Or.inl ⟨by rfl, ?_⟩) (by assumption) ?_
        rotate_left 1
        · (intro w hSw; (try dsimp only at hSw); go_simp; try with_reducible rfl)
        (try simp only [Act.put, List.setIfInBounds_toArray, List.set_cons_zero, List.set_cons_succ])
        refine wpAnyH_done (by kernel_rfl) ?_ _
        have c0 : WS.cell? ⟨p, 0, none⟩ = some (.string wd) := cell_of_row _ _ _ _ _ _ NS.out
        have c1 : WS.cell? ⟨p, 1, none⟩ = some (.func (.func f1) #[] #[]) := cell_of_row _ _ _ _ _ _ NS.out
        obtain ⟨x0, x1, x2, x3, x4, x5, x6, x7, x8⟩ := HCE.out _ GS.out
        go_wp2_with (first | (refine (HMY.out _ BS.out).mono ?_; rintro e wf ⟨rfl, bf⟩) | fail)
        go_ret
        exact ⟨rfl, below_step BS.out bf⟩
  · have hz : mayP m = false := may_out hk1
    rw [hz]
    have HI := Lib.hid (name_out hk1)
    clear hk1 hz HMY
    go_enter Tryz.func11, Tryz.ntmps11
    go_wp2_with fail
    rw [← HW0.out]
    clear HW0
    refine wp_region_held_drew (S := fun W => W.cell? ⟨w.heap.size, 0, none⟩ = some (.int .u8 m.kind)) (by kernel_rfl) (by first | assumption | exact KS) (fun hHeld => ?_)
    generalize W0.drew = wz at *
    refine wpAnyH_take (i := 1) (oi := { dst := some 7, op := Op.fieldAddr 26 (Operand.tmp 1) 0, type := 0, pos := "wire.go:252", after := #[], guard := none }) (v := ?_) rfl (by kernel_rfl) (by kernel_rfl) (by kernel_rfl) (fun _ _ _ h => h) (Or.inl ⟨by rfl, ?_⟩) (by assumption) ?_
    rotate_left 1
    · (intro w hSw; (try dsimp only at hSw); go_simp; try with_reducible rfl)
    (try simp only [Act.put, List.setIfInBounds_toArray, List.set_cons_zero, List.set_cons_succ])
    refine wpAnyH_take (i := 2) (oi := { dst := some 8, op := Op.load 5 (Operand.tmp 7), type := 5, pos := "wire.go:252", after := #[{ on := 1, ground := Ground.data }], guard := none }) (v := ?_) rfl (by kernel_rfl) (by kernel_rfl) (by kernel_rfl) (fun _ _ _ h => h) (Or.inl ⟨by rfl, ?_⟩) (by assumption) ?_
    rotate_left 1
    · (intro w hSw; (try dsimp only at hSw); go_simp; try with_reducible rfl)
    (try simp only [Act.put, List.setIfInBounds_toArray, List.set_cons_zero, List.set_cons_succ])
    refine wpAnyH_ready (rs := [0, 7]) (by kernel_rfl) (by simp) ?_
    refine AllReadyH.cons (o := { dst := some 6, op := Op.call { callee := Callee.value (Operand.func 33), args := #[], argTypes := #[] }, type := 60, pos := "wire.go:252", after := #[], guard := none }) rfl (fun K hK => ?_) (AllReadyH.cons (o := { dst := some 3, op := Op.alloc 59, type := 0, pos := "wire.go:252", after := #[], guard := none }) rfl (fun K hK => ?_) (AllReadyH.nil))
    · go_simp
      refine (HN.out _).mono ?_; rintro e w1 ⟨⟨mp, rfl, hm⟩, bb⟩
      have GG := Lib.hid (GG.out.below bb)
      have BB := Lib.hid (below_step BB.out bb)
      have HM := Lib.hid hm
      clear bb hm
      refine hK.out _ _ (HCE.out _ GG.out).1 (fun hHeld => ?_)
      clear hK K
      (try simp only [Act.put, List.setIfInBounds_toArray, List.set_cons_zero, List.set_cons_succ])
      refine wpAnyH_ready (rs := [3, 7]) (by kernel_rfl) (by simp) ?_
      refine AllReadyH.cons (o := { dst := some 9, op := Op.lookup 60 (Operand.tmp 6) (Operand.tmp 8) true, type := 68, pos := "wire.go:252", after := #[{ on := 0, ground := Ground.data }, { on := 2, ground := Ground.data }], guard := none }) rfl (fun K hK => ?_) (AllReadyH.cons (o := { dst := some 3, op := Op.alloc 59, type := 0, pos := "wire.go:252", after := #[], guard := none }) rfl (fun K hK => ?_) (AllReadyH.nil))
      · refine wpOp_look12 (by kernel_rfl) _ _ _ _ rfl _ _ _ rfl rfl ((HM.out.miss keyed_u8 Tryz.underlying60 (zero_nam _) (key_u8 HK.out) HI.out).2) ?_
        refine hK.out _ _ (HCE.out _ GG.out).1 (fun hHeld => ?_)
        clear hK K
        (try simp only [Act.put, List.setIfInBounds_toArray, List.set_cons_zero, List.set_cons_succ])
        refine wpAnyH_take (i := 4) (oi := { dst := some 5, op := Op.move (Operand.tmp 9), type := 68, pos := "wire.go:252", after := #[{ on := 3, ground := Ground.data }], guard := none }) (v := ?_) rfl (by kernel_rfl) (by kernel_rfl) (by kernel_rfl) (fun _ _ _ h => h) (Or.inl ⟨by rfl, ?_⟩) (by assumption) ?_
        rotate_left 1
        · (intro w hSw; (try dsimp only at hSw); go_simp; try with_reducible rfl)
        (try simp only [Act.put, List.setIfInBounds_toArray, List.set_cons_zero, List.set_cons_succ])
        refine wpAnyH_take (i := 5) (oi := { dst := some 10, op := Op.extract (Operand.tmp 5) 0, type := 59, pos := "wire.go:252", after := #[{ on := 4, ground := Ground.data }], guard := none }) (v := ?_) rfl (by kernel_rfl) (by kernel_rfl) (by kernel_rfl) (fun _ _ _ h => h) (Or.inl ⟨by rfl, ?_⟩) (by assumption) ?_
        rotate_left 1
        · (intro w hSw; (try dsimp only at hSw); go_simp; try with_reducible rfl)
        (try simp only [Act.put, List.setIfInBounds_toArray, List.set_cons_zero, List.set_cons_succ])
        refine wpAnyH_take (i := 6) (oi := { dst := some 11, op := Op.extract (Operand.tmp 5) 1, type := 4, pos := "wire.go:252", after := #[{ on := 4, ground := Ground.data }, { on := 8, ground := Ground.gcOnly Departure.lateStores }], guard := none }) (v := ?_) rfl (by kernel_rfl) (by kernel_rfl) (by kernel_rfl) (fun _ _ _ h => h) (Or.inl ⟨by rfl, ?_⟩) (by assumption) ?_
        rotate_left 1
        · (intro w hSw; (try dsimp only at hSw); go_simp; try with_reducible rfl)
        (try simp only [Act.put, List.setIfInBounds_toArray, List.set_cons_zero, List.set_cons_succ])
        refine wpAnyH_ready (rs := [7]) (by kernel_rfl) (by simp) ?_
        refine AllReadyH.cons (o := { dst := some 3, op := Op.alloc 59, type := 0, pos := "wire.go:252", after := #[], guard := none }) rfl (fun K hK => ?_) (AllReadyH.nil)
        go_simp
        obtain ⟨p, hp⟩ : ∃ p, p = w1.heap.size := ⟨_, rfl⟩
        obtain ⟨w2, hw2⟩ : ∃ V, V = w1.alloc (.cells #[.string ⟨#[]⟩, .nilFunc, .nilFunc, .nilFunc] 59) := ⟨_, rfl⟩
        have ba : Below w1.heap.size w1 w2 := by rw [hw2]; exact (Below.refl _ _).alloc (Nat.le_refl _) _
        have NP := Lib.hid (show w2.heap[p]? = some (.cells #[.string ⟨#[]⟩, .nilFunc, .nilFunc, .nilFunc] 59 (0, 0)) from by rw [hw2, hp]; exact Go.heap_alloc_new _ _)
        have HP : Hid (w.heap.size ≤ p) := Lib.hid (by rw [hp]; exact BB.out.size)
        have HPN : Hid (w.heap.size < p) := Lib.hid (by rw [hp]; exact GG.out.lt)
        have GG := Lib.hid (GG.out.below ba)
        have BB := Lib.hid (below_step BB.out ba)
        have HM := Lib.hid (HM.out.below ba)
        rw [← hw2, ← hp]
        clear ba hw2 hp
        refine hK.out _ _ (HCE.out _ GG.out).1 (fun hHeld => ?_)
        clear hK K
        (try simp only [Act.put, List.setIfInBounds_toArray, List.set_cons_zero, List.set_cons_succ])
        refine wpAnyH_ready (rs := [8]) (by kernel_rfl) (by simp) ?_
        refine AllReadyH.cons (o := { dst := none, op := Op.store 59 (Operand.tmp 3) (Operand.tmp 10), type := 0, pos := "wire.go:252", after := #[{ on := 7, ground := Ground.data }, { on := 5, ground := Ground.data }, { on := 0, ground := Ground.chain }, { on := 0, ground := Ground.phase }, { on := 1, ground := Ground.phase }, { on := 2, ground := Ground.phase }, { on := 3, ground := Ground.phase }, { on := 4, ground := Ground.phase }, { on := 5, ground := Ground.phase }, { on := 6, ground := Ground.textOnly Departure.lateStores }, { on := 7, ground := Ground.phase }], guard := none }) rfl (fun K hK => ?_) AllReadyH.nil
        refine wpOp_storeR (by kernel_rfl) 59 _ _ rfl p #[.string ⟨#[]⟩, .nilFunc, .nilFunc, .nilFunc] rfl rfl 59 #[.string ⟨#[]⟩, .nilFunc, .nilFunc, .nilFunc] NP.out (nam_info _ _ _ _) rfl nam_one0 ?_
        obtain ⟨WS, hWS⟩ : ∃ W, W = w2.setRow p #[.string ⟨#[]⟩, .nilFunc, .nilFunc, .nilFunc] := ⟨_, rfl⟩
        have BS := Lib.hid (show Below w.heap.size w WS from hWS ▸ BB.out.trans (turn_to (turn_row w2 p _) (fun b e => e ▸ HP.out) BB.out.size))
        have NS := Lib.hid (show WS.heap[p]? = some (.cells #[.string ⟨#[]⟩, .nilFunc, .nilFunc, .nilFunc] 59 (0, 0)) from hWS ▸ setRow_heap _ _ _ _ _ _ NP.out)
        have GS := Lib.hid (show GAt WS w.heap.size m (.slice ao m.mem.length cap) from hWS ▸ GG.out.turn (turn_row w2 p _) (fun e => by have := HPN.out; omega))
        rw [← hWS]
        clear hWS BB NP GG
        refine hK.out _ _ (HCE.out _ GS.out).1 (fun hHeld => ?_)
        clear hK K
        (try simp only [Act.put])
        refine wpAnyH_take (i := 9) (oi := { dst := some 4, op := Op.assign (Operand.tmp 11), type := 4, pos := "wire.go:252", after := #[{ on := 6, ground := Ground.data }, { on := 8, ground := Ground.chain }, { on := 0, ground := Ground.phase }, { on := 1, ground := Ground.phase }, { on := 2, ground := Ground.phase }, { on := 3, ground := Ground.phase }, { on := 4, ground := Ground.phase }, { on := 5, ground := Ground.phase }, { on := 6, ground := Ground.phase }, { on := 7, ground := Ground.phase }, { on := 8, ground := Ground.phase }], guard := none }) (v := ?_) rfl (by kernel_rfl) (by kernel_rfl) (by kernel_rfl) (fun _ _ _ h => h) (Or.inl ⟨by rfl, ?_⟩) (by assumption) ?_
        rotate_left 1
        · (intro w hSw; (try dsimp only at hSw); go_simp; try with_reducible rfl)
        (try simp only [Act.put, List.setIfInBounds_toArray, List.set_cons_zero, List.set_cons_succ])
        refine wpAnyH_done (by kernel_rfl) ?_ _
        obtain ⟨x0, x1, x2, x3, x4, x5, x6, x7, x8⟩ := HCE.out _ GS.out
        go_wp2_with fail
        go_ret
        exact ⟨rfl, BS.out⟩
      · go_simp
        obtain ⟨p, hp⟩ : ∃ p, p = w1.heap.size := ⟨_, rfl⟩
        obtain ⟨w2, hw2⟩ : ∃ V, V = w1.alloc (.cells #[.string ⟨#[]⟩, .nilFunc, .nilFunc, .nilFunc] 59) := ⟨_, rfl⟩
        have ba : Below w1.heap.size w1 w2 := by rw [hw2]; exact (Below.refl _ _).alloc (Nat.le_refl _) _
        have NP := Lib.hid (show w2.heap[p]? = some (.cells #[.string ⟨#[]⟩, .nilFunc, .nilFunc, .nilFunc] 59 (0, 0)) from by rw [hw2, hp]; exact Go.heap_alloc_new _ _)
        have HP : Hid (w.heap.size ≤ p) := Lib.hid (by rw [hp]; exact BB.out.size)
        have HPN : Hid (w.heap.size < p) := Lib.hid (by rw [hp]; exact GG.out.lt)
        have GG := Lib.hid (GG.out.below ba)
        have BB := Lib.hid (below_step BB.out ba)
        have HM := Lib.hid (HM.out.below ba)
        rw [← hw2, ← hp]
        clear ba hw2 hp
        refine hK.out _ _ (HCE.out _ GG.out).1 (fun hHeld => ?_)
        clear hK K
        (try simp only [Act.put, List.setIfInBounds_toArray, List.set_cons_zero, List.set_cons_succ])
        refine wpAnyH_ready (rs := [3]) (by kernel_rfl) (by simp) ?_
        refine AllReadyH.cons (o := { dst := some 9, op := Op.lookup 60 (Operand.tmp 6) (Operand.tmp 8) true, type := 68, pos := "wire.go:252", after := #[{ on := 0, ground := Ground.data }, { on := 2, ground := Ground.data }], guard := none }) rfl (fun K hK => ?_) (AllReadyH.nil)
        refine wpOp_look12 (by kernel_rfl) _ _ _ _ rfl _ _ _ rfl rfl ((HM.out.miss keyed_u8 Tryz.underlying60 (zero_nam _) (key_u8 HK.out) HI.out).2) ?_
        refine hK.out _ _ (HCE.out _ GG.out).1 (fun hHeld => ?_)
        clear hK K
        (try simp only [Act.put, List.setIfInBounds_toArray, List.set_cons_zero, List.set_cons_succ])
        refine wpAnyH_take (i := 4) (oi := { dst := some 5, op := Op.move (Operand.tmp 9), type := 68, pos := "wire.go:252", after := #[{ on := 3, ground := Ground.data }], guard := none }) (v := ?_) rfl (by kernel_rfl) (by kernel_rfl) (by kernel_rfl) (fun _ _ _ h => h) (Or.inl ⟨by rfl, ?_⟩) (by assumption) ?_
        rotate_left 1
        · (intro w hSw; (try dsimp only at hSw); go_simp; try with_reducible rfl)
        (try simp only [Act.put, List.setIfInBounds_toArray, List.set_cons_zero, List.set_cons_succ])
        refine wpAnyH_take (i := 5) (oi := { dst := some 10, op := Op.extract (Operand.tmp 5) 0, type := 59, pos := "wire.go:252", after := #[{ on := 4, ground := Ground.data }], guard := none }) (v := ?_) rfl (by kernel_rfl) (by kernel_rfl) (by kernel_rfl) (fun _ _ _ h => h) (Or.inl ⟨by rfl, ?_⟩) (by assumption) ?_
        rotate_left 1
        · (intro w hSw; (try dsimp only at hSw); go_simp; try with_reducible rfl)
        (try simp only [Act.put, List.setIfInBounds_toArray, List.set_cons_zero, List.set_cons_succ])
        refine wpAnyH_take (i := 6) (oi := { dst := some 11, op := Op.extract (Operand.tmp 5) 1, type := 4, pos := "wire.go:252", after := #[{ on := 4, ground := Ground.data }, { on := 8, ground := Ground.gcOnly Departure.lateStores }], guard := none }) (v := ?_) rfl (by kernel_rfl) (by kernel_rfl) (by kernel_rfl) (fun _ _ _ h => h) (Or.inl ⟨by rfl, ?_⟩) (by assumption) ?_
        rotate_left 1
        · (intro w hSw; (try dsimp only at hSw); go_simp; try with_reducible rfl)
        (try simp only [Act.put, List.setIfInBounds_toArray, List.set_cons_zero, List.set_cons_succ])
        refine wpAnyH_ready (rs := [8]) (by kernel_rfl) (by simp) ?_
        refine AllReadyH.cons (o := { dst := none, op := Op.store 59 (Operand.tmp 3) (Operand.tmp 10), type := 0, pos := "wire.go:252", after := #[{ on := 7, ground := Ground.data }, { on := 5, ground := Ground.data }, { on := 0, ground := Ground.chain }, { on := 0, ground := Ground.phase }, { on := 1, ground := Ground.phase }, { on := 2, ground := Ground.phase }, { on := 3, ground := Ground.phase }, { on := 4, ground := Ground.phase }, { on := 5, ground := Ground.phase }, { on := 6, ground := Ground.textOnly Departure.lateStores }, { on := 7, ground := Ground.phase }], guard := none }) rfl (fun K hK => ?_) AllReadyH.nil
        refine wpOp_storeR (by kernel_rfl) 59 _ _ rfl p #[.string ⟨#[]⟩, .nilFunc, .nilFunc, .nilFunc] rfl rfl 59 #[.string ⟨#[]⟩, .nilFunc, .nilFunc, .nilFunc] NP.out (nam_info _ _ _ _) rfl nam_one0 ?_
        obtain ⟨WS, hWS⟩ : ∃ W, W = w2.setRow p #[.string ⟨#[]⟩, .nilFunc, .nilFunc, .nilFunc] := ⟨_, rfl⟩
        have BS := Lib.hid (show Below w.heap.size w WS from hWS ▸ BB.out.trans (turn_to (turn_row w2 p _) (fun b e => e ▸ HP.out) BB.out.size))
        have NS := Lib.hid (show WS.heap[p]? = some (.cells #[.string ⟨#[]⟩, .nilFunc, .nilFunc, .nilFunc] 59 (0, 0)) from hWS ▸ setRow_heap _ _ _ _ _ _ NP.out)
        have GS := Lib.hid (show GAt WS w.heap.size m (.slice ao m.mem.length cap) from hWS ▸ GG.out.turn (turn_row w2 p _) (fun e => by have := HPN.out; omega))
        rw [← hWS]
        clear hWS BB NP GG
        refine hK.out _ _ (HCE.out _ GS.out).1 (fun hHeld => ?_)
        clear hK K
        (try simp only [Act.put])
        refine wpAnyH_take (i := 9) (oi := { dst := some 4, op := Op.assign (Operand.tmp 11), type := 4, pos := "wire.go:252", after := #[{ on := 6, ground := Ground.data }, { on := 8, ground := Ground.chain }, { on := 0, ground := Ground.phase }, { on := 1, ground := Ground.phase }, { on := 2, ground := Ground.phase }, { on := 3, ground := Ground.phase }, { on := 4, ground := Ground.phase }, { on := 5, ground := Ground.phase }, { on := 6, ground := Ground.phase }, { on := 7, ground := Ground.phase }, { on := 8, ground := Ground.phase }], guard := none }) (v := ?_) rfl (by kernel_rfl) (by kernel_rfl) (by kernel_rfl) (fun _ _ _ h => h) (Or.inl ⟨by rfl, ?_⟩) (by assumption) ?_
        rotate_left 1
        · (intro w hSw; (try dsimp only at hSw); go_simp; try with_reducible rfl)
        (try simp only [Act.put, List.setIfInBounds_toArray, List.set_cons_zero, List.set_cons_succ])
        refine wpAnyH_done (by kernel_rfl) ?_ _
        obtain ⟨x0, x1, x2, x3, x4, x5, x6, x7, x8⟩ := HCE.out _ GS.out
        go_wp2_with fail
        go_ret
        exact ⟨rfl, BS.out⟩
    · go_simp
      obtain ⟨p, hp⟩ : ∃ p, p = wz.heap.size := ⟨_, rfl⟩
      obtain ⟨w1, hw2⟩ : ∃ V, V = wz.alloc (.cells #[.string ⟨#[]⟩, .nilFunc, .nilFunc, .nilFunc] 59) := ⟨_, rfl⟩
      have ba : Below wz.heap.size wz w1 := by rw [hw2]; exact (Below.refl _ _).alloc (Nat.le_refl _) _
      have NP := Lib.hid (show w1.heap[p]? = some (.cells #[.string ⟨#[]⟩, .nilFunc, .nilFunc, .nilFunc] 59 (0, 0)) from by rw [hw2, hp]; exact Go.heap_alloc_new _ _)
      have HP : Hid (w.heap.size ≤ p) := Lib.hid (by rw [hp]; exact BB.out.size)
      have HPN : Hid (w.heap.size < p) := Lib.hid (by rw [hp]; exact GG.out.lt)
      have GG := Lib.hid (GG.out.below ba)
      have BB := Lib.hid (below_step BB.out ba)
      rw [← hw2, ← hp]
      clear ba hw2 hp
      refine hK.out _ _ (HCE.out _ GG.out).1 (fun hHeld => ?_)
      clear hK K
      (try simp only [Act.put, List.setIfInBounds_toArray, List.set_cons_zero, List.set_cons_succ])
      refine wpAnyH_ready (rs := [0]) (by kernel_rfl) (by simp) ?_
      refine AllReadyH.cons (o := { dst := some 6, op := Op.call { callee := Callee.value (Operand.func 33), args := #[], argTypes := #[] }, type := 60, pos := "wire.go:252", after := #[], guard := none }) rfl (fun K hK => ?_) (AllReadyH.nil)
      go_simp
      refine (HN.out _).mono ?_; rintro e w2 ⟨⟨mp, rfl, hm⟩, bb⟩
      have GG := Lib.hid (GG.out.below bb)
      have BB := Lib.hid (below_step BB.out bb)
      have HM := Lib.hid hm
      have NP := Lib.hid ((bb.block p (Array.getElem?_eq_some_iff.1 NP.out).1).trans NP.out)
      clear bb hm
      refine hK.out _ _ (HCE.out _ GG.out).1 (fun hHeld => ?_)
      clear hK K
      (try simp only [Act.put, List.setIfInBounds_toArray, List.set_cons_zero, List.set_cons_succ])
      refine wpAnyH_ready (rs := [3]) (by kernel_rfl) (by simp) ?_
      refine AllReadyH.cons (o := { dst := some 9, op := Op.lookup 60 (Operand.tmp 6) (Operand.tmp 8) true, type := 68, pos := "wire.go:252", after := #[{ on := 0, ground := Ground.data }, { on := 2, ground := Ground.data }], guard := none }) rfl (fun K hK => ?_) (AllReadyH.nil)
      refine wpOp_look12 (by kernel_rfl) _ _ _ _ rfl _ _ _ rfl rfl ((HM.out.miss keyed_u8 Tryz.underlying60 (zero_nam _) (key_u8 HK.out) HI.out).2) ?_
      refine hK.out _ _ (HCE.out _ GG.out).1 (fun hHeld => ?_)
      clear hK K
      (try simp only [Act.put, List.setIfInBounds_toArray, List.set_cons_zero, List.set_cons_succ])
      refine wpAnyH_take (i := 4) (oi := { dst := some 5, op := Op.move (Operand.tmp 9), type := 68, pos := "wire.go:252", after := #[{ on := 3, ground := Ground.data }], guard := none }) (v := ?_) rfl (by kernel_rfl) (by kernel_rfl) (by kernel_rfl) (fun _ _ _ h => h) (Or.inl ⟨by rfl, ?_⟩) (by assumption) ?_
      rotate_left 1
      · (intro w hSw; (try dsimp only at hSw); go_simp; try with_reducible rfl)
      (try simp only [Act.put, List.setIfInBounds_toArray, List.set_cons_zero, List.set_cons_succ])
      refine wpAnyH_take (i := 5) (oi := { dst := some 10, op := Op.extract (Operand.tmp 5) 0, type := 59, pos := "wire.go:252", after := #[{ on := 4, ground := Ground.data }], guard := none }) (v := ?_) rfl (by kernel_rfl) (by kernel_rfl) (by kernel_rfl) (fun _ _ _ h => h) (Or.inl ⟨by rfl, ?_⟩) (by assumption) ?_
      rotate_left 1
      · (intro w hSw; (try dsimp only at hSw); go_simp; try with_reducible rfl)
      (try simp only [Act.put, List.setIfInBounds_toArray, List.set_cons_zero, List.set_cons_succ])
      refine wpAnyH_take (i := 6) (oi := { dst := some 11, op := Op.extract (Operand.tmp 5) 1, type := 4, pos := "wire.go:252", after := #[{ on := 4, ground := Ground.data }, { on := 8, ground := Ground.gcOnly Departure.lateStores }], guard := none }) (v := ?_) rfl (by kernel_rfl) (by kernel_rfl) (by kernel_rfl) (fun _ _ _ h => h) (Or.inl ⟨by rfl, ?_⟩) (by assumption) ?_
      rotate_left 1
      · (intro w hSw; (try dsimp only at hSw); go_simp; try with_reducible rfl)
      (try simp only [Act.put, List.setIfInBounds_toArray, List.set_cons_zero, List.set_cons_succ])
      refine wpAnyH_ready (rs := [8]) (by kernel_rfl) (by simp) ?_
      refine AllReadyH.cons (o := { dst := none, op := Op.store 59 (Operand.tmp 3) (Operand.tmp 10), type := 0, pos := "wire.go:252", after := #[{ on := 7, ground := Ground.data }, { on := 5, ground := Ground.data }, { on := 0, ground := Ground.chain }, { on := 0, ground := Ground.phase }, { on := 1, ground := Ground.phase }, { on := 2, ground := Ground.phase }, { on := 3, ground := Ground.phase }, { on := 4, ground := Ground.phase }, { on := 5, ground := Ground.phase }, { on := 6, ground := Ground.textOnly Departure.lateStores }, { on := 7, ground := Ground.phase }], guard := none }) rfl (fun K hK => ?_) AllReadyH.nil
      refine wpOp_storeR (by kernel_rfl) 59 _ _ rfl p #[.string ⟨#[]⟩, .nilFunc, .nilFunc, .nilFunc] rfl rfl 59 #[.string ⟨#[]⟩, .nilFunc, .nilFunc, .nilFunc] NP.out (nam_info _ _ _ _) rfl nam_one0 ?_
      obtain ⟨WS, hWS⟩ : ∃ W, W = w2.setRow p #[.string ⟨#[]⟩, .nilFunc, .nilFunc, .nilFunc] := ⟨_, rfl⟩
      have BS := Lib.hid (show Below w.heap.size w WS from hWS ▸ BB.out.trans (turn_to (turn_row w2 p _) (fun b e => e ▸ HP.out) BB.out.size))
      have NS := Lib.hid (show WS.heap[p]? = some (.cells #[.string ⟨#[]⟩, .nilFunc, .nilFunc, .nilFunc] 59 (0, 0)) from hWS ▸ setRow_heap _ _ _ _ _ _ NP.out)
      have GS := Lib.hid (show GAt WS w.heap.size m (.slice ao m.mem.length cap) from hWS ▸ GG.out.turn (turn_row w2 p _) (fun e => by have := HPN.out; omega))
      rw [← hWS]
      clear hWS BB NP GG
      refine hK.out _ _ (HCE.out _ GS.out).1 (fun hHeld => ?_)
      clear hK K
      (try simp only [Act.put])
      refine wpAnyH_take (i := 9) (oi := { dst := some 4, op := Op.assign (Operand.tmp 11), type := 4, pos := "wire.go:252", after := #[{ on := 6, ground := Ground.data }, { on := 8, ground := Ground.chain }, { on := 0, ground := Ground.phase }, { on := 1, ground := Ground.phase }, { on := 2, ground := Ground.phase }, { on := 3, ground := Ground.phase }, { on := 4, ground := Ground.phase }, { on := 5, ground := Ground.phase }, { on := 6, ground := Ground.phase }, { on := 7, ground := Ground.phase }, { on := 8, ground := Ground.phase }], guard := none }) (v := ?_) rfl (by kernel_rfl) (by kernel_rfl) (by kernel_rfl) (fun _ _ _ h => h) (Or.inl ⟨by rfl, ?_⟩) (by assumption) ?_
      rotate_left 1
      · (intro w hSw; (try dsimp only at hSw); go_simp; try with_reducible rfl)
      (try simp only [Act.put, List.setIfInBounds_toArray, List.set_cons_zero, List.set_cons_succ])
      refine wpAnyH_done (by kernel_rfl) ?_ _
      obtain ⟨x0, x1, x2, x3, x4, x5, x6, x7, x8⟩ := HCE.out _ GS.out
      go_wp2_with fail
      go_ret
      exact ⟨rfl, BS.out⟩
end Go.Proofs.YthemopejebioaaaGreat.Pl
