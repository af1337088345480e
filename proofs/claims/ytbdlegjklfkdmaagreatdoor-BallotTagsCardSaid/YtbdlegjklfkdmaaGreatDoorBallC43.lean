/- The program's own ballot: the members that are gone over, and the one whose ballot it is. -/
import Derived.RangeFuncBox
import Derived.RangeFuncNested
import Derived.RangeFuncLeaves
import Derived.Shelf.Abstract
import Derived.WalkKit
import Derived.OwnWalkIn
import Derived.TacticsInMore
import Derived.LoopNIn
import Derived.LoopIn
import Derived.BigRegionIn
import Derived.Test.YtbdlegjklfkdmaaGreatDoorBallC34
import Derived.Test.YtbdlegjklfkdmaaGreatDoorBallC41
import Derived.Test.YtbdlegjklfkdmaaGreatDoorBallC2
namespace Go.Proofs.YtbdlegjklfkdmaaGreatDoor.Pl
open Go.RowKit Go.Shelf
attribute [local go_sem] Oper.semAt_some

set_option maxHeartbeats 1000000 in
set_option maxRecDepth 100000 in
theorem borg_any (v : Int) (w : World) : Calls Tryz.prog 115 #[.int .i64 v] w fun x w' => x = .returned (.bool (orgP v)) ∧ w' = w := by
  by_cases h1 : (0 : Int) ≤ v
  · by_cases h2 : v < 8
    · have hz : orgP v = true := orgP_iff.2 ⟨h1, h2⟩
      rw [hz]
      clear hz
      go_enter Tryz.func115, Tryz.ntmps115
      go_wp2
      go_ret
      exact ⟨rfl, rfl⟩
    · have hz : orgP v = false := by rw [← Bool.not_eq_true]; exact fun e => h2 (orgP_iff.1 e).2
      rw [hz]
      clear hz
      go_enter Tryz.func115, Tryz.ntmps115
      go_wp2
      go_ret
      exact ⟨rfl, rfl⟩
  · have hz : orgP v = false := by rw [← Bool.not_eq_true]; exact fun e => h1 (orgP_iff.1 e).1
    rw [hz]
    clear hz
    go_enter Tryz.func115, Tryz.ntmps115
    go_wp2
    go_ret
    exact ⟨rfl, rfl⟩

def encM (x : Mb) : Array Value := #[.agg #[.int .i64 x.1, .string x.2]]
theorem listed_in (b : Bt) (v : Value) (w : World) :
    Calls Tryz.prog 80 #[.agg (btC b v)] w fun e w' => e = .returned (.func (.func 114) #[] #[.pointer (some ⟨w.heap.size, 0, none⟩)]) ∧
      w.alloc (.cells (btC b v) 26) = w' := by
  obtain ⟨c, e, q, aud, mem, org⟩ := b
  dsimp only [btC]
  go_enter Tryz.func80, Tryz.ntmps80
  go_wp2
  go_ret
  exact ⟨rfl, rfl⟩
theorem abides_below13 {β : Type} {B : Nat} {J : β → World → Prop} (hJ : AbidesFrom B J) {s : β} {W W' : World} (h : J s W) (hb : Below W.heap.size W W') : J s W' :=
  hJ s W W' none h ⟨hb.os, hb.tape, hb.output, hb.size, fun k hk _ => hb.block k hk⟩ (fun r e => by cases e)
theorem stepR_scope {P : Program} {b : Frame} {a : Act} {k : List Item} {cs : List Frame} {w : World} {c : Code} : step P (lone (b.atR a (.code (.scope c) :: k)) cs w) = .next (lone (b.atR a (.code c :: .inScope c :: k)) cs w) :=
  step_lone_go (by simp [stepG, stepG.exec, Frame.atR])
theorem stepR_inScope {P : Program} {b : Frame} {a : Act} {k : List Item} {cs : List Frame} {w : World} {c : Code} : step P (lone (b.atR a (.inScope c :: k)) cs w) = .next (lone (b.atR a k) cs w) :=
  step_lone_go (by simp [stepG, stepG.exec, Frame.atR])

/-- A scope through which the run goes without a goto, inside a fence. -/
theorem wpIn_scope_straight {F : Fence} {n : Nat} {P : Program} {Q : Exit → Act → World → Prop} {a : Act} {w : World} {c : Code} (h : c.wpIn F n P (Exit.noGoto Q) a w) : (Code.scope c).wpIn F n P Q a w := by
  intro b k cs hro hb hr
  have h0 : (lone (b.atR a (.code (.scope c) :: k)) cs w).fenced P F := fenced_calm hb hr rfl
  obtain ⟨e, a₁, w₁, hq, harr⟩ := h b (.inScope c :: k) cs hro hb hr
  cases e with
  | normal => exact ⟨.normal, a₁, w₁, hq, .head h0 stepR_scope (StepsIn.trans harr (.one (fenced_calm hb hr rfl) stepR_inScope))⟩
  | exit id => exact ⟨.exit id, a₁, w₁, hq, .of_steps (.one h0 stepR_scope) ⟨fun k' hk => harr.1 k' (by simp [exitTo, hk]), fun hr' hk => harr.2 hr' (by simp [exitTo, hk])⟩⟩
  | goto l => exact hq.elim
  | ret => exact ⟨_, a₁, w₁, hq, .of_steps (.one h0 stepR_scope) harr⟩
  | panic ch => exact ⟨_, a₁, w₁, hq, .of_steps (.one h0 stepR_scope) harr⟩
  | outgrown => exact ⟨_, a₁, w₁, hq, .of_steps (.one h0 stepR_scope) harr⟩

theorem wpListIn_store_row {F : Fence} {n : Nat} {P : Program} {ops : Array Oper} {rest : List Oper} {o : Oper} {a : Act} {w : World} {Q : Exit → Act → World → Prop} (hgd : o.guard = none) (ty : TypeId) (x y : Operand) (ho : o.op = .store ty x y)
    (g : Nat) (cells : Array Value) (hx : a.eval x = .pointer (some ⟨g, 0, none⟩)) (hy : a.eval y = .agg cells)
    (t : TypeId) (old : Array Value) (hg : w.heap[g]? = some (.cells old t (0, 0))) (hi : (P.info? ty).map (·.size) = some cells.size)
    (hold : old.size = cells.size) (h1 : cells.all (·.oneCell') = true)
    (h : wpListIn F n P ops Q rest (a.put o.dst undef) (w.setRow g cells)) : wpListIn F n P ops Q (o :: rest) a w := by
  refine wpListIn_plain hgd fun K hK => ?_
  have hw : o.wp P a w K Q := wp_store_row ty x y ho g cells hx hy t old hg hi hold h1 (hK _ _ h)
  unfold Oper.wpIn
  refine ⟨?_, ?_⟩
  · simp [Oper.about, ho]
  · rw [Oper.semAt_plain F _ _ (by rw [ho]; intro c hc'; cases hc')]
    unfold Oper.wp at hw
    simp only [execOp, ho, hx, hy, Instr.storeAt, Instr.sureAddr, Sem.run_bind, Sem.run_pure, Result.andThen_ok, run_storeVar_row w g t ty old cells hg hi hold h1] at hw ⊢
    exact hw
theorem mb_info13 (a b : Value) : (Tryz.prog.info? 51).map (·.size) = some (#[a, b].size) := by kernel_rfl
theorem mb_one13 (o : Int) (d : ByteArray) : (#[.int .i64 o, .string d] : Array Value).all (·.oneCell') = true := by simp [Value.oneCell']
theorem keepsOthers_setRow {W : World} {g : Nat} {old : Array Value} {t : TypeId} {e : Nat × Nat} (h : W.heap[g]? = some (.cells old t e)) (cs : Array Value) : KeepsOthers W (W.setRow g cs) :=
  ⟨(below_setRow (Below.refl 0 W) (Nat.zero_le g) cs).size, fun k o hk ho => by
    by_cases e' : k = g
    · subst e'; rw [h] at hk; cases hk; cases ho
    · exact heap_setRow hk e' cs⟩
theorem held_own {β : Type} (g : Nat) (cs : Array Value) (t : TypeId) (e : Nat × Nat) : Own (fun (_ : β) (W : World) => W.heap[g]? = some (.cells cs t e)) := fun s X Y row hs hg hrow =>
  (hg.block g (Array.getElem?_eq_some_iff.1 hs).1 (fun e' => by
    obtain ⟨o, ho, hc⟩ := hrow g e'.symm
    rw [hs] at ho; cases ho; cases hc)).trans hs
theorem take_more13 {l : List Mb} {j : Nat} (h : j < l.length) : l.take j ++ [l[j]] = l.take (j + 1) := (List.take_succ_eq_append_getElem h).symm

set_option maxHeartbeats 4000000 in
set_option maxRecDepth 100000 in
theorem listed1_in (n : Nat) (hn : 1 ≤ n) (l B1 : Nat) (b : Bt) (ao : Option Addr) (cap : Nat) (hms : ∀ x ∈ b.mem, x.2.size ≤ 30000) (hml : b.mem.length ≤ 1000000) (J Jx : List Mb → World → Prop)
    (w W : World) (hrow : MemRow w ao b.mem) (hw : Below w.heap.size w W) (hB : BAt W B1 b (.slice ao b.mem.length cap))
    (hJ : AbidesFrom W.heap.size J)
    (hY : ∀ pre x W1, J pre W1 → pre.length < 8 → YieldAt Fence.wide (n - 1) Tryz.prog l (encM x) W1 fun e W' =>
      (e = .returned (.bool true) ∧ J (pre ++ [x]) W' ∧ Below w.heap.size W1 W') ∨ (e = .returned (.bool false) ∧ Jx (pre ++ [x]) W'))
    (h0 : J [] W) :
    CallsIn Fence.wide n Tryz.prog 114 #[.func (.yield l) #[] #[], .pointer (some ⟨B1, 0, none⟩)] W fun e W' => (∃ v, e = .returned v) ∧
      ((∃ ys, ys = listL b ∧ J ys W') ∨ (∃ pre, pre <+: listL b ∧ Jx pre W')) := by
  have HX := fun V => maytxn_any b.c b.e b.q V
  have HO := fun V => borg_any b.aud V
  have HL := fun V (hV : Below w.heap.size w V) => maymems_any b.c b.e b.q b.mem ao cap (fun x hx => by have := hms x hx; omega) (by omega) V (hrow.below hV)
  have hz : listL b = if mayX b.c b.e b.q = true ∧ orgP b.aud = true ∧ mayL b.c b.mem = true then b.mem else [] := rfl
  have h6 : mayL b.c b.mem = true → b.mem.length ≤ 6 := fun h => (mayL_iff.1 h).2.1
  generalize listL b = L at *
  obtain ⟨c, e, q, aud, mem, org⟩ := b
  dsimp only [btC] at *
  obtain ⟨m, hm⟩ : ∃ m, m = mem.length := ⟨_, rfl⟩
  rw [← hm] at HL hB hml
  generalize mayX c e q = mx at *
  generalize orgP aud = oc at *
  generalize mayL c mem = ml at *
  have GG := Lib.hid hB
  have BB := Lib.hid hw
  have HX := Lib.hid HX
  have HO := Lib.hid HO
  have HL := Lib.hid HL
  have HJ := Lib.hid hJ
  have HY := Lib.hid hY
  have H0 := Lib.hid h0
  have HZ := Lib.hid hz
  have HM := Lib.hid hm
  have H6 := Lib.hid h6
  have HROW := Lib.hid (fun V (hV : Below w.heap.size w V) => hrow.below hV)
  have HCE : Hid (∀ V, BAt V B1 ⟨c, e, q, aud, mem, org⟩ (.slice ao m cap) → V.cell? ⟨B1, 0, none⟩ = some (.int .i64 c) ∧ V.cell? ⟨B1, 1, none⟩ = some (.int .i64 e) ∧ V.cell? ⟨B1, 2, none⟩ = some (.int .i64 q) ∧ V.cell? ⟨B1, 3, none⟩ = some (.int .i64 aud) ∧ V.cell? ⟨B1, 4, none⟩ = some (.slice ao m cap) ∧ V.cell? ⟨B1, 5, none⟩ = some (.int .i64 org)) := Lib.hid (fun V h => h.cells)
  obtain ⟨z0, z1, z2, z3, z4, z5⟩ := HCE.out _ hB
  clear hB hw hJ hY h0 hz hm h6 hrow hms hml
  refine callsIn_of_wp Tryz.func114 rfl trivial ?_ rfl
  simp only [Tryz.ntmps114, List.size_toArray, List.length_cons, List.length_nil, Nat.reduceAdd, Nat.reduceSub, Array.replicate_succ, Array.replicate_zero, List.push_toArray, List.append_toArray, List.nil_append, List.cons_append]
  cases mx with
  | false =>
    have HZ := Lib.hid (HZ.out.trans (if_neg (fun e => by cases e.1)))
    gi_wp2
    refine ⟨trivial, ?_⟩
    gi_at_call 71
    refine (callsIn_wide.2 (HX.out _)).mono ?_; rintro e1 w1 ⟨rfl, b1⟩
    have J1 := Lib.hid (abides_below13 HJ.out H0.out b1)
    have GG := Lib.hid (GG.out.below b1)
    have BB := Lib.hid (below_step BB.out b1)
    clear z0 z1 z2 z3 z4 z5
    obtain ⟨z0, z1, z2, z3, z4, z5⟩ := HCE.out _ GG.out
    have JA := Lib.hid (show ∀ (V : World), Below w1.heap.size w1 V → J [] V from fun _ hb => abides_below13 HJ.out J1.out hb)
    clear b1
    gi_wp2
    refine ⟨trivial, ?_⟩
    gi_wp2
    refine ⟨trivial, ?_⟩
    gi_wp2
    refine bodyPost_ret (results_none rfl _ _ _) rfl ?_
    exact ⟨⟨_, rfl⟩, .inl ⟨_, HZ.out.symm, J1.out⟩⟩
  | true =>
    gi_wp2
    refine ⟨trivial, ?_⟩
    gi_at_call 71
    refine (callsIn_wide.2 (HX.out _)).mono ?_; rintro e1 w1 ⟨rfl, b1⟩
    have J1 := Lib.hid (abides_below13 HJ.out H0.out b1)
    have GG := Lib.hid (GG.out.below b1)
    have BB := Lib.hid (below_step BB.out b1)
    clear z0 z1 z2 z3 z4 z5
    obtain ⟨z0, z1, z2, z3, z4, z5⟩ := HCE.out _ GG.out
    have JA := Lib.hid (show ∀ (V : World), Below w1.heap.size w1 V → J [] V from fun _ hb => abides_below13 HJ.out J1.out hb)
    clear b1
    gi_wp2
    refine ⟨trivial, ?_⟩
    gi_at_call 115
    refine (callsIn_wide.2 (HO.out _)).mono ?_; rintro e2 w2 ⟨rfl, hw2⟩; rw [hw2]; clear hw2
    cases oc with
    | false =>
      have HZ := Lib.hid (HZ.out.trans (if_neg (fun e => by cases e.2.1)))
      gi_wp2
      refine ⟨trivial, ?_⟩
      gi_wp2
      refine bodyPost_ret (results_none rfl _ _ _) rfl ?_
      exact ⟨⟨_, rfl⟩, .inl ⟨_, HZ.out.symm, J1.out⟩⟩
    | true =>
      gi_wp2
      refine ⟨trivial, ?_⟩
      gi_at_call 66
      refine (callsIn_wide.2 (HL.out _ BB.out)).mono ?_; rintro e3 w3 ⟨rfl, b3⟩
      have J3 := Lib.hid (JA.out _ b3)
      have GG := Lib.hid (GG.out.below b3)
      have BB := Lib.hid (below_step BB.out b3)
      clear z0 z1 z2 z3 z4 z5 b3
      obtain ⟨z0, z1, z2, z3, z4, z5⟩ := HCE.out _ GG.out
      cases ml with
      | false =>
        have HZ := Lib.hid (HZ.out.trans (if_neg (fun e => by cases e.2.2)))
        gi_wp2
        refine bodyPost_ret (results_none rfl _ _ _) rfl ?_
        exact ⟨⟨_, rfl⟩, .inl ⟨_, HZ.out.symm, J3.out⟩⟩
      | true =>
        have HZ := Lib.hid (HZ.out.trans (if_pos ⟨by trivial, by trivial, by trivial⟩))
        have HM6 : Hid (m ≤ 6) := Lib.hid (by rw [HM.out]; exact H6.out rfl)
        have h6 : Hid True := Lib.hid trivial
        gi_wp2
        clear h6 z0 z1 z2 z3 z4 z5
        gi_loopw [26] (fun iv wr => ∃ j : Nat, iv = .int .i64 j ∧ j ≤ m ∧ Hid (J (mem.take j) wr) ∧ Hid (Below w.heap.size w wr)) (fun iv _ => m - (intOf iv).toNat)
        case atStart => exact ⟨0, rfl, Nat.zero_le _, Lib.hid (by rw [List.take_zero]; exact J3.out), BB⟩
        case round =>
          obtain ⟨j, rfl, hjm, hJs, hbs⟩ := hrel
          by_cases hj : j < m
          · have hj' : (j : Int) < (m : Int) := by omega
            have hj1 : j < mem.length := by rw [← HM.out]; exact hj
            have hjl : (mem.take j).length < 8 := by rw [List.length_take]; have := HM6.out; rw [HM.out] at this; omega
            rcases HROW.out _ hbs.out with e0 | ⟨bb, off, rfl, hlt, hcs⟩
            · exfalso; rw [e0] at hj1; exact absurd hj1 (Nat.not_lt_zero _)
            obtain ⟨x0, x1⟩ := hcs j hj1
            have HTK := Lib.hid (take_more13 hj1)
            have HYA := HY.out (mem.take j) mem[j] (wr.alloc (.cells #[.int .i64 mem[j].1, .string mem[j].2] 51)) (abides_below13 HJ.out hJs.out ((Below.refl _ _).alloc (Nat.le_refl _) _)) hjl
            rw [HTK.out] at HYA
            have hbA : Below w.heap.size w (wr.alloc (.cells #[.int .i64 mem[j].1, .string mem[j].2] 51)) := hbs.out.alloc hbs.out.size _
            have HBA := Lib.hid hbA
            unfold encM at HYA
            generalize mem[j] = m1 at *
            obtain ⟨o1, d1⟩ := m1
            dsimp only at *
            clear hcs hlt hj1 hjl hbA hJs hbs
            obtain ⟨fn, tmps, assign, body, hy, hR⟩ := HYA
            (try dsimp only at hy)
            have hwj : wrap64 ((j : Int) + 1) = (j : Int) + 1 := by have := HM6.out; unfold wrap64; omega
            gi_wp2
            refine hR.mono ?_
            rintro e5 W5 (⟨rfl, hJ5, hk5⟩ | ⟨rfl, hJx5⟩)
            · have J5 := Lib.hid hJ5
              have B5 := Lib.hid (HBA.out.trans hk5)
              clear hJ5 hk5
              gi_wp2
              go_roundw
              case rel => exact ⟨j + 1, by rw [hwj, Int.natCast_add, Int.natCast_one], by omega, J5, B5⟩
              case measure =>
                rw [hwj]
                show m - ((j : Int) + 1).toNat < m - (j : Int).toNat
                omega
            · have J5 := Lib.hid hJx5
              clear hJx5
              gi_wp2
              refine bodyPost_ret (results_none rfl _ _ _) rfl ?_
              exact ⟨⟨_, rfl⟩, .inr ⟨_, by rw [HZ.out]; exact List.take_prefix _ _, J5.out⟩⟩
          · obtain rfl : j = m := by omega
            have J5 : Hid (J L wr) := Lib.hid (by have h := hJs.out; rw [HM.out, List.take_length] at h; rw [HZ.out]; exact h)
            clear hj hjm hJs hbs
            gi_wp2
            go_end0
            exact ⟨⟨_, rfl⟩, .inl ⟨_, rfl, J5.out⟩⟩
theorem listed_stops (n : Nat) (hn : 1 ≤ n) (B1 : Nat) (b : Bt) (ao : Option Addr) (cap : Nat) (hms : ∀ x ∈ b.mem, x.2.size ≤ 30000) (hml : b.mem.length ≤ 1000000)
    (w W0 : World) (hrow : MemRow w ao b.mem) (hw : Below w.heap.size w W0) (hB : BAt W0 B1 b (.slice ao b.mem.length cap)) :
    SeqStopsK Fence.wide n Tryz.prog 114 #[.pointer (some ⟨B1, 0, none⟩)] encM (Below w.heap.size) (fun ys => ys = listL b) (fun pre => pre <+: listL b) 8 W0 := fun l J Jx W hW hJ _ hY h0 =>
  listed1_in n hn l B1 b ao cap hms hml J Jx w W hrow (below_step hw hW) (hB.below hW) hJ hY h0

/-- What the variables of voter hold. -/
def VotH (w W : World) (m : Mb) (z : Bool) : Prop :=
  W.heap[w.heap.size + 1]? = some (.cells #[.int .i64 m.1, .string m.2] 51 (0, 0)) ∧ W.heap[w.heap.size + 1 + 1]? = some (.cells #[.bool z] 4 (0, 0)) ∧ Below w.heap.size w W
theorem votH_own {β : Type} (w : World) (m : Mb) (z : Bool) (B : Nat) (h : w.heap.size ≤ B) : OwnFrom B (fun (_ : β) W => VotH w W m z) :=
  OwnFrom.and (Own.from (held_own _ _ _ _) _) (OwnFrom.and (Own.from (held_own _ _ _ _) _) (ownFrom_below (Nat.le_refl _) h))
def VotI (w : World) (b : Bt) (v : Value) (pre : List Mb) (W : World) : Prop := (∀ y ∈ pre, y.1 < b.org) ∧ (BAt W w.heap.size b v ∧ VotH w W zeroMb false)
theorem votI_own (w : World) (b : Bt) (v : Value) (B : Nat) (h : w.heap.size ≤ B) : OwnFrom B (VotI w b v) :=
  OwnFrom.and (ownFrom_pure _ _) (OwnFrom.and (Own.from (held_own _ _ _ _) _) (votH_own w zeroMb false B h))
/-- How the loop is left. -/
def VotX (w : World) (b : Bt) : Code → List Mb → World → Prop
  | .exit id => fun pre W => id = 0 ∧ ∃ q x m z, (pre = q ++ [x] ∧ (∀ y ∈ q, y.1 < b.org) ∧ ((x.1 = b.org ∧ m = x ∧ z = true) ∨ (b.org < x.1 ∧ m = zeroMb ∧ z = false))) ∧ VotH w W m z
  | _ => fun _ _ => False
theorem votX_own (w : World) (b : Bt) (B : Nat) (h : w.heap.size ≤ B) : ∀ k, OwnFrom B (VotX w b k) := by
  intro k
  cases k with
  | exit id => exact fun pre X Y row ⟨h0, q, x, m, z, hq, hv⟩ hg hr => ⟨h0, q, x, m, z, hq, votH_own (β := Unit) w m z B h () X Y row hv hg hr⟩
  | _ => exact fun _ _ _ _ hs _ _ => hs.elim
/-- The frame of a round: where the member lies. -/
def votAct (w : World) (b : Bt) (v : Value) (Bx : Nat) (x : Mb) : Act :=
  { tmps := #[.agg (btC b v), .pointer (some ⟨w.heap.size, 0, none⟩), .pointer (some ⟨w.heap.size + 1, 0, none⟩), .pointer (some ⟨w.heap.size + 1 + 1, 0, none⟩), .pointer (some ⟨Bx, 0, none⟩), .agg (btC b v), .func (.func 114) #[] #[.pointer (some ⟨w.heap.size + 1 + 1 + 1, 0, none⟩)], .agg #[.int .i64 x.1, .string x.2],
      undef, undef, undef, undef, undef, undef, undef, undef, undef, undef, undef, undef, undef, undef, undef], defers := [] }

set_option maxRecDepth 100000 in
set_option maxHeartbeats 4000000 in
theorem voter_any (b : Bt) (ao : Option Addr) (cap : Nat) (hms : ∀ x ∈ b.mem, x.2.size ≤ 30000) (hml : b.mem.length ≤ 1000000) (w : World) (hrow : MemRow w ao b.mem) :
    Calls Tryz.prog 34 #[.agg (btC b (.slice ao b.mem.length cap))] w fun x w' => x = .returned (.tuple #[.agg #[.int .i64 (voterP b).1.1, .string (voterP b).1.2], .bool (voterP b).2]) ∧ Below w.heap.size w w' := by
  obtain ⟨v, hv⟩ : ∃ v, v = Value.slice ao b.mem.length cap := ⟨_, rfl⟩
  obtain ⟨R, hVP⟩ : ∃ R, R = voterP b := ⟨_, rfl⟩
  rw [← hVP]
  have HVP := Lib.hid hVP
  clear hVP
  have HST := Lib.hid (fun W0 B1 (h1 : Below w.heap.size w W0) (h2 : BAt W0 B1 b (.slice ao b.mem.length cap)) => listed_stops 4 (by decide) B1 b ao cap hms hml w W0 hrow h1 h2)
  rw [← hv] at HST ⊢
  have HLI := Lib.hid (fun V => listed_in b v V)
  clear hms hml hrow hv
  refine (callsIn_wide (n := 5)).1 ?_
  refine callsIn_of_wp_marks Tryz.func34 rfl trivial ?_ rfl
  simp only [Tryz.ntmps34, List.size_toArray, List.length_cons, List.length_nil, Nat.reduceAdd, Nat.reduceSub, Array.replicate_succ, Array.replicate_zero, List.push_toArray, List.append_toArray, List.nil_append, List.cons_append]
  gi_wp2
  refine wpIn_scope_straight ?_
  gi_wp2
  apply wpIn_label
  gi_wp2_with (refine ⟨trivial, ?_⟩; gi_at_call 80; refine (callsIn_wide.2 (HLI.out _)).mono ?_; rintro e1 w1 ⟨rfl, hw1⟩)
  obtain ⟨W0, hW0⟩ : ∃ W0, ((((w.alloc (.cells (btC b v) 26)).alloc (.cells #[.int .i64 0, .string ⟨#[]⟩] 51)).alloc (.cells #[.bool false] 4)).alloc (.cells (btC b v) 26)) = W0 := ⟨_, rfl⟩
  have bA : BAt W0 w.heap.size b v := by
    rw [← hW0]
    exact (((bat_new w b v).below ((Below.refl _ _).alloc (Nat.le_refl _) _)).below ((Below.refl _ _).alloc (Nat.le_refl _) _)).below ((Below.refl _ _).alloc (Nat.le_refl _) _)
  have bO : W0.heap[w.heap.size + 1]? = some (.cells #[.int .i64 0, .string ⟨#[]⟩] 51 (0, 0)) := by
    rw [← hW0]
    have h := heap_alloc_new (w.alloc (.cells (btC b v) 26)) (.cells #[.int .i64 0, .string ⟨#[]⟩] 51)
    rw [World.size_alloc] at h
    exact (Below.heap_alloc _ _ _ (by simp)).trans ((Below.heap_alloc _ _ _ (by simp)).trans h)
  have bI : W0.heap[w.heap.size + 1 + 1]? = some (.cells #[.bool false] 4 (0, 0)) := by
    rw [← hW0]
    have h := heap_alloc_new ((w.alloc (.cells (btC b v) 26)).alloc (.cells #[.int .i64 0, .string ⟨#[]⟩] 51)) (.cells #[.bool false] 4)
    rw [World.size_alloc, World.size_alloc] at h
    exact (Below.heap_alloc _ _ _ (by simp)).trans h
  have bB : BAt W0 (w.heap.size + 1 + 1 + 1) b v := by
    rw [← hW0]
    have h := bat_new (((w.alloc (.cells (btC b v) 26)).alloc (.cells #[.int .i64 0, .string ⟨#[]⟩] 51)).alloc (.cells #[.bool false] 4)) b v
    rw [World.size_alloc, World.size_alloc, World.size_alloc] at h
    exact h
  have hsz : W0.heap.size = w.heap.size + 4 := by rw [← hW0]; simp
  have hB0 : Below w.heap.size w W0 := by rw [← hW0]; exact ((((Below.refl _ w).alloc (Nat.le_refl _) _).alloc (by simp) _).alloc (by simp; omega) _).alloc (by simp; omega) _
  rw [show w1 = W0 from hw1.symm.trans hW0]
  clear hw1 hW0 w1
  refine wpIn_rangeFunc_ownH (F := Fence.wide) rfl (by decide) (gf := 114) (lb := #[.pointer (some ⟨w.heap.size + 1 + 1 + 1, 0, none⟩)]) rfl trivial (enters_of Tryz.func114 (by kernel_rfl) rfl)
    (HST.out W0 (w.heap.size + 1 + 1 + 1) hB0 bB) (fun h k => h.trans k)
    (fun W l o o' hl h h1 h2 => belowK_b (w := W0) (n₀ := w.heap.size) (by omega) W l o o' hl h h1 h2) (Below.refl _ _) (fun _ => rfl)
    (VotI w b v) (VotX w b) (votI_own w b v _ (by omega)) (votX_own w b _ (by omega))
    ⟨fun _ h => absurd h (List.not_mem_nil), bA, bO, bI, hB0⟩
    (fun x a' W => ∃ Bx, w.heap.size + 2 < Bx ∧ W.heap[Bx]? = some (.cells #[.int .i64 x.1, .string x.2] 51 (0, 0)) ∧ a' = votAct w b v Bx x)
    (fun x a' _ X Y row hs hg hr => by
      obtain ⟨Bx, h1, h2, h3⟩ := hs
      refine ⟨Bx, h1, ?_, h3⟩
      refine (hg.block Bx (Array.getElem?_eq_some_iff.1 h2).1 (fun e => ?_)).trans h2
      obtain ⟨o, ho, hcl⟩ := (hr Bx e.symm).2
      rw [h2] at ho; cases ho; cases hcl)
    ?assign ?body ?done ?stop
  case assign =>
    rintro l pre x W K hi hK
    unfold encM
    gi_wp2
    have hsW := hi.2.2.2.2.size
    have hlW := (Array.getElem?_eq_some_iff.1 hi.2.2.2.1).1
    refine hK _ _ ((KeepsOthers.alloc _ _).from _) ((Below.refl _ _).alloc (by omega) _) ?_ ⟨W.heap.size, by omega, World.alloc_heap_new _ _, rfl⟩
    exact (votI_own w b v w.heap.size (Nat.le_refl _)).alloc _ hi
  case body =>
    rintro l pre x a' W hl ⟨r, hr⟩ hI ⟨Bx, hBx, bX, rfl⟩ hlt
    obtain ⟨hlo, bA, bO, bI, hB⟩ := hI
    obtain ⟨o1, d1⟩ := x
    dsimp only at bX
    have x0 : W.cell? ⟨Bx, 0, none⟩ = some (.int .i64 o1) := cell_of_row _ _ _ _ _ _ bX
    have x1 : W.cell? ⟨Bx, 1, none⟩ = some (.string d1) := cell_of_row _ _ _ _ _ _ bX
    have b5 := bA.cells.2.2.2.2.2
    have HK := Lib.hid (show VotI w b v pre W from ⟨hlo, bA, bO, bI, hB⟩)
    by_cases he : o1 = b.org
    · have he2 : (o1 == b.org) = true := by rw [beq_iff_eq]; exact he
      obtain ⟨W1, hW1⟩ : ∃ V, V = W.setRow (w.heap.size + 1) #[.int .i64 o1, .string d1] := ⟨_, rfl⟩
      have bI1 : Boxed W1 (w.heap.size + 1 + 1) 4 (.bool false) := by rw [hW1]; exact heap_setRow bI (by omega) _
      have bO1 : W1.heap[w.heap.size + 1]? = some (.cells #[.int .i64 o1, .string d1] 51 (0, 0)) := by rw [hW1]; exact setRow_heap _ _ _ _ _ _ bO
      have c2 := bI1.cell
      have f2 := bI1.frozen
      have HE := Lib.hid (show KeepsFrom W0.heap.size W (W1.setCell ⟨w.heap.size + 1 + 1, 0, none⟩ (.bool true)) ∧ VotX w b (.exit 0) (pre ++ [(o1, d1)]) (W1.setCell ⟨w.heap.size + 1 + 1, 0, none⟩ (.bool true)) from by
        refine ⟨((show KeepsOthers W W1 from hW1 ▸ keepsOthers_setRow bO _).trans (KeepsOthers.setCell _ _ _)).from _, rfl, pre, (o1, d1), (o1, d1), true, ⟨rfl, hlo, .inl ⟨he, rfl, rfl⟩⟩, (Below.heap_setCell _ _ _ _ (by simp)).trans bO1, bI1.set _, ?_⟩
        refine Below.setCell ?_ (by simp; omega) _
        rw [hW1]
        exact below_setRow hB (by omega) _)
      have HO := Lib.hid bO
      have HW1 := Lib.hid hW1
      clear bO bI hB hW1 bA bX he bI1 bO1 HK hlo hlt hr HST HLI
      unfold votAct
      gi_wp2_with (refine wpListIn_store_row rfl 51 _ _ rfl (w.heap.size + 1) #[.int .i64 o1, .string d1] rfl rfl 51 #[.int .i64 0, .string ⟨#[]⟩] HO.out (mb_info13 _ _) rfl (mb_one13 _ _) ?_; rw [← HW1.out])
      exact HE.out
    · have he2 : (o1 == b.org) = false := beq_eq_false_iff_ne.2 he
      by_cases hg : b.org < o1
      · have hg2 : decide (b.org < o1) = true := decide_eq_true hg
        clear bO bI hB bA bX hr HST HLI
        unfold votAct
        gi_wp2
        exact ⟨KeepsFrom.refl _ _, rfl, pre, (o1, d1), zeroMb, false, ⟨rfl, HK.out.1, .inr ⟨hg, rfl, rfl⟩⟩, HK.out.2.2⟩
      · have hg2 : decide (b.org < o1) = false := decide_eq_false hg
        have HN := Lib.hid (show ∀ y ∈ pre ++ [(o1, d1)], y.1 < b.org from fun y hy => by
          rcases List.mem_append.1 hy with h | h
          · exact hlo y h
          · rw [List.mem_singleton.1 h]
            show o1 < b.org
            omega)
        clear bO bI hB bA bX hr HST HLI hlo
        unfold votAct
        gi_wp2
        exact ⟨KeepsFrom.refl _ _, Below.refl _ _, HN.out, HK.out.2⟩
  case done =>
    rintro D xs W hD rfl hI hdef
    have hR := voter_all hI.1
    obtain ⟨m, hm⟩ : ∃ m, m = zeroMb := ⟨_, rfl⟩
    obtain ⟨z, hz⟩ : ∃ z, z = false := ⟨_, rfl⟩
    have hH := hI.2.2
    rw [← hm, ← hz] at hH hR
    clear hm hz hI
    gi_wp2
    refine wpIn_wide.2 ?_
    obtain ⟨o2, d2⟩ := m
    have hb2 : Below W.heap.size W W.drew := below_drewN (Below.refl _ W) 1
    have hD2 : W.drew.heap[D]? = some (.deferred (some [])) := hdef
    obtain ⟨hH1, hH2, hH3⟩ := hH
    have HB2 := Lib.hid (hH3.trans (hb2.mono hH3.size))
    have HD2 := Lib.hid hD2
    have KS := Lib.hid (show W.drew.heap[w.heap.size + 1]? = some (.cells #[.int .i64 o2, .string d2] 51 (0, 0)) ∧ W.drew.heap[w.heap.size + 1 + 1]? = some (.cells #[.bool z] 4 (0, 0)) from ⟨hH1, hH2⟩)
    clear hH1 hH2 hH3 hb2 hdef hD2
    refine wp_mono (Q := fun e a' w' => e = .normal ∧ a'.defers = [{ target := .collected D, args := #[] }] ∧ (a'.tmps[2]? = some (.pointer (some ⟨w.heap.size + 1, 0, none⟩)) ∧ a'.tmps[3]? = some (.pointer (some ⟨w.heap.size + 1 + 1, 0, none⟩))) ∧ (w'.heap[w.heap.size + 1]? = some (.cells #[.int .i64 o2, .string d2] 51 (0, 0)) ∧ w'.heap[w.heap.size + 1 + 1]? = some (.cells #[.bool z] 4 (0, 0))) ∧ w'.heap[D]? = some (.deferred (some [])) ∧ Below w.heap.size w w') ?_ ?_
    · refine wp_region_held_drew (S := fun V => V.heap[w.heap.size + 1]? = some (.cells #[.int .i64 o2, .string d2] 51 (0, 0)) ∧ V.heap[w.heap.size + 1 + 1]? = some (.cells #[.bool z] 4 (0, 0))) (by kernel_rfl) KS.out (fun hHeld => ?_)
      generalize W.drew = wz at *
      refine wpAnyH_take (i := 0) (oi := { dst := some 21, op := Op.load 51 (Operand.tmp 2), type := 51, pos := "ballot.go:48", after := #[], guard := none }) (v := .agg #[.int .i64 o2, .string d2]) rfl (by kernel_rfl) (by kernel_rfl) (by kernel_rfl) (fun _ _ _ h => by cases h.1) (Or.inl ⟨by rfl, ?_⟩) (by assumption) ?_
      · (intro V hSw; obtain ⟨g1, g2⟩ := hSw; have g3 := cell_of_row _ _ 0 _ _ _ g1; have g4 := cell_of_row _ _ 1 _ _ _ g1; have g5 := cell_of_row _ _ 0 _ _ _ g2; clear g1 g2; go_simp; try with_reducible rfl)
      (try simp only [Act.put, List.setIfInBounds_toArray, List.set_cons_zero, List.set_cons_succ])
      refine wpAnyH_take (i := 1) (oi := { dst := some 22, op := Op.load 4 (Operand.tmp 3), type := 4, pos := "ballot.go:48", after := #[], guard := none }) (v := .bool z) rfl (by kernel_rfl) (by kernel_rfl) (by kernel_rfl) (fun _ _ _ h => by cases h.1) (Or.inl ⟨by rfl, ?_⟩) (by assumption) ?_
      · (intro V hSw; obtain ⟨g1, g2⟩ := hSw; have g3 := cell_of_row _ _ 0 _ _ _ g1; have g4 := cell_of_row _ _ 1 _ _ _ g1; have g5 := cell_of_row _ _ 0 _ _ _ g2; clear g1 g2; go_simp; try with_reducible rfl)
      (try simp only [Act.put, List.setIfInBounds_toArray, List.set_cons_zero, List.set_cons_succ])
      refine wpAnyH_ready (rs := [2]) (by kernel_rfl) (by simp) ?_
      refine AllReadyH.cons (o := { dst := none, op := Op.store 51 (Operand.tmp 2) (Operand.tmp 21), type := 0, pos := "ballot.go:48", after := #[{ on := 0, ground := Ground.data }, { on := 0, ground := Ground.phase }, { on := 1, ground := Ground.textOnly Departure.inlinedCapture }], guard := none }) rfl (fun K hK => ?_) AllReadyH.nil
      rw [if_pos (by rfl)]
      refine wp_store_row 51 _ _ rfl (w.heap.size + 1) #[.int .i64 o2, .string d2] rfl rfl 51 #[.int .i64 o2, .string d2] KS.out.1 (mb_info13 _ _) rfl (mb_one13 _ _) ?_
      have K2 := Lib.hid (show (wz.setRow (w.heap.size + 1) #[.int .i64 o2, .string d2]).heap[w.heap.size + 1]? = some (.cells #[.int .i64 o2, .string d2] 51 (0, 0)) ∧ (wz.setRow (w.heap.size + 1) #[.int .i64 o2, .string d2]).heap[w.heap.size + 1 + 1]? = some (.cells #[.bool z] 4 (0, 0)) from ⟨setRow_heap _ _ _ _ _ _ KS.out.1, heap_setRow KS.out.2 (by omega) _⟩)
      have HD3 := Lib.hid ((keepsOthers_setRow KS.out.1 #[.int .i64 o2, .string d2]).same D _ HD2.out rfl)
      have HB3 := Lib.hid (below_setRow HB2.out (show w.heap.size ≤ w.heap.size + 1 by omega) #[.int .i64 o2, .string d2])
      generalize wz.setRow (w.heap.size + 1) #[.int .i64 o2, .string d2] = wy at *
      refine hK.out _ _ K2.out (fun hHeld => ?_)
      clear hK K
      (try simp only [Act.put])
      refine wpAnyH_ready (rs := [3]) (by kernel_rfl) (by simp) ?_
      refine AllReadyH.cons (o := { dst := none, op := Op.store 4 (Operand.tmp 3) (Operand.tmp 22), type := 0, pos := "ballot.go:48", after := #[{ on := 1, ground := Ground.data }, { on := 2, ground := Ground.chain }, { on := 0, ground := Ground.phase }, { on := 1, ground := Ground.phase }, { on := 2, ground := Ground.phase }], guard := none }) rfl (fun K hK => ?_) AllReadyH.nil
      have bI3 : Boxed wy (w.heap.size + 1 + 1) 4 (.bool z) := K2.out.2
      have c3 := bI3.cell
      have f3 := bI3.frozen
      have K3 := Lib.hid (show (wy.setCell ⟨w.heap.size + 1 + 1, 0, none⟩ (.bool z)).heap[w.heap.size + 1]? = some (.cells #[.int .i64 o2, .string d2] 51 (0, 0)) ∧ (wy.setCell ⟨w.heap.size + 1 + 1, 0, none⟩ (.bool z)).heap[w.heap.size + 1 + 1]? = some (.cells #[.bool z] 4 (0, 0)) from ⟨(Below.heap_setCell _ _ _ _ (by simp)).trans K2.out.1, bI3.set _⟩)
      have HD4 := Lib.hid ((KeepsOthers.setCell wy ⟨w.heap.size + 1 + 1, 0, none⟩ (.bool z)).same D _ HD3.out rfl)
      have HB4 := Lib.hid (HB3.out.setCell (p := ⟨w.heap.size + 1 + 1, 0, none⟩) (by simp; omega) (.bool z))
      clear bI3
      go_simp
      generalize wy.setCell ⟨w.heap.size + 1 + 1, 0, none⟩ (.bool z) = wx at *
      refine hK.out _ _ K3.out (fun hHeld => ?_)
      clear hK K
      (try simp only [Act.put, List.setIfInBounds_toArray, List.set_cons_zero, List.set_cons_succ])
      refine wpAnyH_done (by kernel_rfl) ?_ _
      exact ⟨rfl, rfl, ⟨rfl, rfl⟩, K3.out, HD4.out, HB4.out⟩
    · clear KS HD2 HB2
      rintro e3 ⟨tmps3, defers3⟩ wx ⟨rfl, rfl, ⟨t2, t3⟩, K3, hD4, hB4⟩
      dsimp only at t2 t3
      have K3 := Lib.hid K3
      have HD4 := Lib.hid hD4
      have HB4 := Lib.hid hB4
      clear hD4 hB4
      gi_wp2
      rw [Exit.noGoto_ret]
      refine ⟨by simp, .inl ⟨_, _, rfl, run_takeDeferred (w := wx) HD4.out, ?_⟩⟩
      have e1 := (World.putObj_heap_other (w := wx) (o := .deferred none) (show w.heap.size + 1 ≠ D by omega)).trans K3.out.1
      have e2 := (World.putObj_heap_other (w := wx) (o := .deferred none) (show w.heap.size + 1 + 1 ≠ D by omega)).trans K3.out.2
      have g3 := cell_of_row _ _ 0 _ _ _ e1
      have g4 := cell_of_row _ _ 1 _ _ _ e1
      have g5 := cell_of_row _ _ 0 _ _ _ e2
      refine ⟨.tuple #[.agg #[.int .i64 o2, .string d2], .bool z], by simp [results, Tryz.results34, go_sem, t2, t3, g3, g4, g5], by rw [HVP.out, hR], ?_⟩
      exact ownFrom_below (β := Unit) (Nat.le_refl _) (Nat.le_refl _) () wx _ (some D) HB4.out (grownBy_putObj' wx D _) (fun r e => by cases e; exact ⟨by omega, _, HD4.out, rfl⟩)
  case stop =>
    rintro D k pre W hD hpre hX hdef
    cases k with
    | exit id =>
      obtain ⟨rfl, q, x, m, z, ⟨rfl, hlo, hor⟩, hH⟩ := hX
      have hR : voterP b = (m, z) := by
        rcases hor with ⟨h1, rfl, rfl⟩ | ⟨h1, rfl, rfl⟩
        · exact voter_hit hpre hlo h1
        · exact voter_miss hpre hlo h1
      clear hpre hlo hor
      gi_wp2
      refine wpIn_wide.2 ?_
      obtain ⟨o2, d2⟩ := m
      have hb2 : Below W.heap.size W W.drew := below_drewN (Below.refl _ W) 1
      have hD2 : W.drew.heap[D]? = some (.deferred (some [])) := hdef
      obtain ⟨hH1, hH2, hH3⟩ := hH
      have HB2 := Lib.hid (hH3.trans (hb2.mono hH3.size))
      have HD2 := Lib.hid hD2
      have KS := Lib.hid (show W.drew.heap[w.heap.size + 1]? = some (.cells #[.int .i64 o2, .string d2] 51 (0, 0)) ∧ W.drew.heap[w.heap.size + 1 + 1]? = some (.cells #[.bool z] 4 (0, 0)) from ⟨hH1, hH2⟩)
      clear hH1 hH2 hH3 hb2 hdef hD2
      refine wp_mono (Q := fun e a' w' => e = .normal ∧ a'.defers = [{ target := .collected D, args := #[] }] ∧ (a'.tmps[2]? = some (.pointer (some ⟨w.heap.size + 1, 0, none⟩)) ∧ a'.tmps[3]? = some (.pointer (some ⟨w.heap.size + 1 + 1, 0, none⟩))) ∧ (w'.heap[w.heap.size + 1]? = some (.cells #[.int .i64 o2, .string d2] 51 (0, 0)) ∧ w'.heap[w.heap.size + 1 + 1]? = some (.cells #[.bool z] 4 (0, 0))) ∧ w'.heap[D]? = some (.deferred (some [])) ∧ Below w.heap.size w w') ?_ ?_
      · refine wp_region_held_drew (S := fun V => V.heap[w.heap.size + 1]? = some (.cells #[.int .i64 o2, .string d2] 51 (0, 0)) ∧ V.heap[w.heap.size + 1 + 1]? = some (.cells #[.bool z] 4 (0, 0))) (by kernel_rfl) KS.out (fun hHeld => ?_)
        generalize W.drew = wz at *
        refine wpAnyH_take (i := 0) (oi := { dst := some 21, op := Op.load 51 (Operand.tmp 2), type := 51, pos := "ballot.go:48", after := #[], guard := none }) (v := .agg #[.int .i64 o2, .string d2]) rfl (by kernel_rfl) (by kernel_rfl) (by kernel_rfl) (fun _ _ _ h => by cases h.1) (Or.inl ⟨by rfl, ?_⟩) (by assumption) ?_
        · (intro V hSw; obtain ⟨g1, g2⟩ := hSw; have g3 := cell_of_row _ _ 0 _ _ _ g1; have g4 := cell_of_row _ _ 1 _ _ _ g1; have g5 := cell_of_row _ _ 0 _ _ _ g2; clear g1 g2; go_simp; try with_reducible rfl)
        (try simp only [Act.put, List.setIfInBounds_toArray, List.set_cons_zero, List.set_cons_succ])
        refine wpAnyH_take (i := 1) (oi := { dst := some 22, op := Op.load 4 (Operand.tmp 3), type := 4, pos := "ballot.go:48", after := #[], guard := none }) (v := .bool z) rfl (by kernel_rfl) (by kernel_rfl) (by kernel_rfl) (fun _ _ _ h => by cases h.1) (Or.inl ⟨by rfl, ?_⟩) (by assumption) ?_
        · (intro V hSw; obtain ⟨g1, g2⟩ := hSw; have g3 := cell_of_row _ _ 0 _ _ _ g1; have g4 := cell_of_row _ _ 1 _ _ _ g1; have g5 := cell_of_row _ _ 0 _ _ _ g2; clear g1 g2; go_simp; try with_reducible rfl)
        (try simp only [Act.put, List.setIfInBounds_toArray, List.set_cons_zero, List.set_cons_succ])
        refine wpAnyH_ready (rs := [2]) (by kernel_rfl) (by simp) ?_
        refine AllReadyH.cons (o := { dst := none, op := Op.store 51 (Operand.tmp 2) (Operand.tmp 21), type := 0, pos := "ballot.go:48", after := #[{ on := 0, ground := Ground.data }, { on := 0, ground := Ground.phase }, { on := 1, ground := Ground.textOnly Departure.inlinedCapture }], guard := none }) rfl (fun K hK => ?_) AllReadyH.nil
        rw [if_pos (by rfl)]
        refine wp_store_row 51 _ _ rfl (w.heap.size + 1) #[.int .i64 o2, .string d2] rfl rfl 51 #[.int .i64 o2, .string d2] KS.out.1 (mb_info13 _ _) rfl (mb_one13 _ _) ?_
        have K2 := Lib.hid (show (wz.setRow (w.heap.size + 1) #[.int .i64 o2, .string d2]).heap[w.heap.size + 1]? = some (.cells #[.int .i64 o2, .string d2] 51 (0, 0)) ∧ (wz.setRow (w.heap.size + 1) #[.int .i64 o2, .string d2]).heap[w.heap.size + 1 + 1]? = some (.cells #[.bool z] 4 (0, 0)) from ⟨setRow_heap _ _ _ _ _ _ KS.out.1, heap_setRow KS.out.2 (by omega) _⟩)
        have HD3 := Lib.hid ((keepsOthers_setRow KS.out.1 #[.int .i64 o2, .string d2]).same D _ HD2.out rfl)
        have HB3 := Lib.hid (below_setRow HB2.out (show w.heap.size ≤ w.heap.size + 1 by omega) #[.int .i64 o2, .string d2])
        generalize wz.setRow (w.heap.size + 1) #[.int .i64 o2, .string d2] = wy at *
        refine hK.out _ _ K2.out (fun hHeld => ?_)
        clear hK K
        (try simp only [Act.put])
        refine wpAnyH_ready (rs := [3]) (by kernel_rfl) (by simp) ?_
        refine AllReadyH.cons (o := { dst := none, op := Op.store 4 (Operand.tmp 3) (Operand.tmp 22), type := 0, pos := "ballot.go:48", after := #[{ on := 1, ground := Ground.data }, { on := 2, ground := Ground.chain }, { on := 0, ground := Ground.phase }, { on := 1, ground := Ground.phase }, { on := 2, ground := Ground.phase }], guard := none }) rfl (fun K hK => ?_) AllReadyH.nil
        have bI3 : Boxed wy (w.heap.size + 1 + 1) 4 (.bool z) := K2.out.2
        have c3 := bI3.cell
        have f3 := bI3.frozen
        have K3 := Lib.hid (show (wy.setCell ⟨w.heap.size + 1 + 1, 0, none⟩ (.bool z)).heap[w.heap.size + 1]? = some (.cells #[.int .i64 o2, .string d2] 51 (0, 0)) ∧ (wy.setCell ⟨w.heap.size + 1 + 1, 0, none⟩ (.bool z)).heap[w.heap.size + 1 + 1]? = some (.cells #[.bool z] 4 (0, 0)) from ⟨(Below.heap_setCell _ _ _ _ (by simp)).trans K2.out.1, bI3.set _⟩)
        have HD4 := Lib.hid ((KeepsOthers.setCell wy ⟨w.heap.size + 1 + 1, 0, none⟩ (.bool z)).same D _ HD3.out rfl)
        have HB4 := Lib.hid (HB3.out.setCell (p := ⟨w.heap.size + 1 + 1, 0, none⟩) (by simp; omega) (.bool z))
        clear bI3
        go_simp
        generalize wy.setCell ⟨w.heap.size + 1 + 1, 0, none⟩ (.bool z) = wx at *
        refine hK.out _ _ K3.out (fun hHeld => ?_)
        clear hK K
        (try simp only [Act.put, List.setIfInBounds_toArray, List.set_cons_zero, List.set_cons_succ])
        refine wpAnyH_done (by kernel_rfl) ?_ _
        exact ⟨rfl, rfl, ⟨rfl, rfl⟩, K3.out, HD4.out, HB4.out⟩
      · clear KS HD2 HB2
        rintro e3 ⟨tmps3, defers3⟩ wx ⟨rfl, rfl, ⟨t2, t3⟩, K3, hD4, hB4⟩
        dsimp only at t2 t3
        have K3 := Lib.hid K3
        have HD4 := Lib.hid hD4
        have HB4 := Lib.hid hB4
        clear hD4 hB4
        gi_wp2
        rw [Exit.noGoto_ret]
        refine ⟨by simp, .inl ⟨_, _, rfl, run_takeDeferred (w := wx) HD4.out, ?_⟩⟩
        have e1 := (World.putObj_heap_other (w := wx) (o := .deferred none) (show w.heap.size + 1 ≠ D by omega)).trans K3.out.1
        have e2 := (World.putObj_heap_other (w := wx) (o := .deferred none) (show w.heap.size + 1 + 1 ≠ D by omega)).trans K3.out.2
        have g3 := cell_of_row _ _ 0 _ _ _ e1
        have g4 := cell_of_row _ _ 1 _ _ _ e1
        have g5 := cell_of_row _ _ 0 _ _ _ e2
        refine ⟨.tuple #[.agg #[.int .i64 o2, .string d2], .bool z], by simp [results, Tryz.results34, go_sem, t2, t3, g3, g4, g5], by rw [HVP.out, hR], ?_⟩
        exact ownFrom_below (β := Unit) (Nat.le_refl _) (Nat.le_refl _) () wx _ (some D) HB4.out (grownBy_putObj' wx D _) (fun r e => by cases e; exact ⟨by omega, _, HD4.out, rfl⟩)
    | _ => exact hX.elim
end Go.Proofs.YtbdlegjklfkdmaaGreatDoor.Pl
