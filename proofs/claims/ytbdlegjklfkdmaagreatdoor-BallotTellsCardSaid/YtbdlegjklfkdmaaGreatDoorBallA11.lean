/- What has turned of the memory; a row's rest as a slice. A map whose values are kept as they are: what it holds; looked up, and stored to. Wire's need and caught: what is thrown is caught, and handed back as a number. Whether an organisation, a term, a transaction may be. Whether members may be. How wire reads a row's parts one by one. How wire reads a row, by what reads its parts. What wire reads as a transaction. ReadTxn of wire. Ballots as terms, over plain bytes: which may be, what their bodies are, what is read. What the suite's own isTerm and datum answer, and what suites of terms make and open. -/
import Derived.Test.YtbdlegjklfkdmaaGreatDoorBallA3
import Derived.Test.YtbdlegjklfkdmaaGreatDoorBallA10
import Derived.Laws.OwnMore
import Derived.Laws.Slices
import Derived.Laws.AppendOwnNone
import Derived.Maps.RangeWalk
import Derived.Maps.OwnSet
import Derived.DefersIn
import Derived.RecoverIn
import Derived.Recover
import Derived.WalkLawsBesides
import Derived.Laws.Rows
import Derived.Laws.Tables
import Derived.Deep.RegionHeld3
import Derived.Laws.ResultCell
import Derived.Test.YtbdlegjklfkdmaaGreatDoorBallA9
import Derived.Test.YtbdlegjklfkdmaaGreatDoorBallA4
namespace Go.Proofs.YtbdlegjklfkdmaaGreatDoor.Pl
open Go.RowKit

/-- What has turned: what is in F alone. -/
structure Turn (F : Nat → Prop) (w w' : World) : Prop where
  os : w'.os = w.os
  tape : w'.tape = w.tape
  output : w'.output = w.output
  size : w.heap.size ≤ w'.heap.size
  block : ∀ k, k < w.heap.size → ¬ F k → w'.heap[k]? = w.heap[k]?
theorem turn_below {F : Nat → Prop} {w w' : World} (h : Below w.heap.size w w') : Turn F w w' := ⟨h.os, h.tape, h.output, h.size, fun k hk _ => h.block k hk⟩
theorem turn_trans {F G : Nat → Prop} {w w1 w2 : World} (h : Turn F w w1) (k : Turn G w1 w2) (hG : ∀ b, G b → F b ∨ w.heap.size ≤ b) : Turn F w w2 :=
  ⟨k.os.trans h.os, k.tape.trans h.tape, k.output.trans h.output, Nat.le_trans h.size k.size, fun b hb hn => (k.block b (Nat.lt_of_lt_of_le hb h.size) (fun e => (hG b e).elim hn (fun e => absurd hb (by omega)))).trans (h.block b hb hn)⟩
theorem turn_to {F : Nat → Prop} {B : Nat} {w w' : World} (h : Turn F w w') (hF : ∀ b, F b → B ≤ b) (hB : B ≤ w.heap.size) : Below B w w' :=
  ⟨h.os, h.tape, h.output, h.size, fun k hk => h.block k (Nat.lt_of_lt_of_le hk hB) (fun e => by have := hF k e; omega)⟩
theorem txt_block {w w' : World} {ao : Option Addr} {l : List ByteArray} (h : TxtRow w ao l) (hs : w.heap.size ≤ w'.heap.size) (hb : ∀ b off, ao = some ⟨b, off, none⟩ → w'.heap[b]? = w.heap[b]?) : TxtRow w' ao l := by
  rcases h with h | ⟨b, off, e, hlt, hc⟩
  · exact .inl h
  · exact .inr ⟨b, off, e, Nat.lt_of_lt_of_le hlt hs, fun j hj => (World.cell?_of_block (a := ⟨b, off + j, none⟩) (hb b off e)).trans (hc j hj)⟩
theorem sz10 (V : World) : (sizeOf (Tryz.prog.elem 53)).run Tryz.prog V = .ok 1 V := by kernel_rfl
theorem elem10 : Tryz.prog.underlying 53 = some (.slice (Tryz.prog.elem 53)) := by kernel_rfl
theorem cut_rest (oo : Option Addr) (z cap j : Nat) (hj : j ≤ z) (V : World) : (Instr.sliceAt 53 (.slice oo z cap) (some (.int .i64 (j : Int))) none none).run Tryz.prog V = .ok (.slice (if cap = j then oo else oo.map (·.add j)) (z - j) (cap - j)) V := by
  rw [run_sliceAt_slice _ _ _ _ _ _ elem10, run_slice_l _ _ _ _ _ elem10 _ _ (by omega) (by omega), sz10]
  simp only [Result.andThen_ok, sliced, Int.toNat_natCast, Nat.mul_one]
theorem rest_row2 {W : World} {ao : Option Addr} {cap : Nat} {l : List ByteArray} (h : TxtRow W ao l) (hc : l.length ≤ cap) (j : Nat) : TxtRow W (if cap = j then ao else ao.map (·.add j)) (l.drop j) := by
  by_cases h0 : l.drop j = []
  · exact .inl h0
  · have hj : j < l.length := by
      apply Classical.byContradiction
      intro e
      exact h0 (List.drop_eq_nil_of_le (by omega))
    rw [if_neg (by omega)]
    rcases h with h | ⟨b, off, rfl, hlt, hcell⟩
    · subst h; simp at hj
    · refine .inr ⟨b, off + j, by
        simp only [Option.map_some, Addr.add]
        split <;> simp_all, hlt, fun i hi => ?_⟩
      rw [List.length_drop] at hi
      have := hcell (j + i) (by omega)
      rw [← Nat.add_assoc] at this
      rw [this]
      simp [List.getD_eq_getElem?_getD, List.getElem?_drop]
end Go.Proofs.YtbdlegjklfkdmaaGreatDoor.Pl

namespace Go.Proofs.YtbdlegjklfkdmaaGreatDoor.Pl
open Go.RowKit Go.Maps
open Go.WideElems (rg)

abbrev valE (v : Value) : Option (DataW Value × List MemPlace) := some (.held v, [])
/-- Block m is a map of just these keys, each with its value. -/
def MapV (w : World) (k : TypeId) (m : Nat) (X : List (Lit × Value)) : Prop := ∃ D : DataW Value, w.ownsMap Tryz.prog k valE m X.length D ∧ Maps.size D = X.length ∧ (∀ s, s ∉ X.map Prod.fst → Maps.has D s = false ∧ ∀ z, D.atKey s z = z) ∧ ∀ p ∈ X, Maps.has D p.1 = true ∧ ∀ z, D.atKey p.1 z = .held p.2
theorem MapV.of_block {w w' : World} {k : TypeId} {m : Nat} {X : List (Lit × Value)} (h : MapV w k m X) (hb : w'.heap[m]? = w.heap[m]?) : MapV w' k m X := by
  obtain ⟨D, ⟨es, clock, h1, h2⟩, h3⟩ := h
  exact ⟨D, ⟨es, clock, hb.trans h1, h2⟩, h3⟩
theorem MapV.lt {w : World} {k : TypeId} {m : Nat} {X : List (Lit × Value)} (h : MapV w k m X) : m < w.heap.size := by
  obtain ⟨D, h1, _⟩ := h
  exact h1.lt
theorem MapV.below {w w' : World} {k : TypeId} {m : Nat} {X : List (Lit × Value)} (h : MapV w k m X) (hb : Below w.heap.size w w') : MapV w' k m X := h.of_block (hb.block m h.lt)
theorem MapV.ex {w : World} {k : TypeId} {m : Nat} {X : List (Lit × Value)} (h : MapV w k m X) : ∃ es clock, w.heap[m]? = some (.map es clock) := by
  obtain ⟨D, ⟨es, clock, h1, _⟩, _⟩ := h
  exact ⟨es, clock, h1⟩
theorem tightV {w : World} {k : TypeId} {m n : Nat} {D : DataW Value} (h : w.ownsMap Tryz.prog k valE m n D) : w.ownsMap Tryz.prog k valE m (Maps.size D) D := by
  obtain ⟨es, clock, hb, F, _, rfl⟩ := h
  exact ⟨es, clock, hb, F, by simp [Maps.size, length_sorted], rfl⟩
theorem MapV.store {w : World} {k t e : TypeId} {m : Nat} {X : List (Lit × Value)} (h : MapV w k m X) (hX : X.length ≤ 1000000000) (K : Keyed Tryz.prog k) (ht : Tryz.prog.underlying t = some (.map k e)) (key val : Value) (kl : Lit) (hkey : keyOf Tryz.prog k key = some kl) (hl : WideAt.IsKeyLit kl) (hn : kl ∉ X.map Prod.fst) :
    ∃ w', (Instr.mapUpdate t (.map (some m)) key val).run Tryz.prog w = .ok () w' ∧ MapV w' k m (X ++ [(kl, val)]) ∧ w.mapTurned w' m := by
  obtain ⟨D, h1, h2, h3, h4⟩ := h
  obtain ⟨w', r1, r2, r3⟩ := h1.store (val := val) (d := .held val) (ps := []) K ht (by unfold maxLen; omega) hkey rfl
  have hD : Maps.size (D.put kl (.held val)) = (X ++ [(kl, val)]).length := by
    rw [size_put (h1.tidy K), (h3 kl hn).1, h2, List.length_append]
    rfl
  refine ⟨w', r1, ⟨_, ?_, hD, fun u hu => ?_, fun p hp => ?_⟩, r3⟩
  · rw [← hD]
    exact tightV r2
  · rw [List.map_append, List.mem_append, not_or] at hu
    have hne : u ≠ kl := fun e => hu.2 (by simp [e])
    exact ⟨by rw [has_put_other hne]; exact (h3 u hu.1).1, fun z => by rw [atKey_put_other hne]; exact (h3 u hu.1).2 z⟩
  · rcases List.mem_append.1 hp with hp | hp
    · have hne : p.1 ≠ kl := fun e => hn (e ▸ List.mem_map_of_mem hp)
      exact ⟨by rw [has_put_other hne]; exact (h4 p hp).1, fun z => by rw [atKey_put_other hne]; exact (h4 p hp).2 z⟩
    · rw [List.mem_singleton.1 hp]
      exact ⟨has_put_same h1.isMap hl _, fun z => atKey_put_same h1.isMap hl _ _⟩
section
variable {ops : Array Oper} {rest : List Oper} {o : Oper} {a : Act} {Q : Exit → Act → World → Prop} {w : World}
end
end Go.Proofs.YtbdlegjklfkdmaaGreatDoor.Pl

namespace Go.Proofs.YtbdlegjklfkdmaaGreatDoor.Pl
open Go.RowKit Go.Shelf
attribute [local go_sem] Oper.semAt_some

/-- What is thrown. -/
abbrev boom12 (c : Nat) : Ending := .panicked [{ v := .iface 29 (.int .i64 c), recovered := false }]
abbrev ptr12 (r : Nat) : Value := .pointer (some ⟨r, 0, none⟩)
theorem needw_ok (c : Nat) (w : World) : Calls Tryz.prog 110 #[.bool true, .int .i64 c] w fun x w' => x = .returned (.tuple #[]) ∧ w' = w := by
  go_enter Tryz.func110, Tryz.ntmps110
  go_wp2
  go_end0
  exact ⟨rfl, rfl⟩
theorem needw_bad (c : Nat) (w : World) : Calls Tryz.prog 110 #[.bool false, .int .i64 c] w fun x w' => x = boom12 c ∧ w' = w := by
  go_enter Tryz.func110, Tryz.ntmps110
  go_wp2
  exact ⟨rfl, rfl, rfl⟩
theorem assert12_none (w : World) : (Instr.typeAssert .nilIface 20 29 true).run Tryz.prog w = .ok (.tuple #[.int .i64 0, .bool false]) w := by kernel_rfl
theorem assert12_err (c : Nat) (w : World) : (Instr.typeAssert (.iface 29 (.int .i64 c)) 20 29 true).run Tryz.prog w = .ok (.tuple #[.int .i64 c, .bool true]) w := by kernel_rfl
theorem catch12_idle (b : Nat) (w : World) :
    CallsD Tryz.prog 109 #[ptr12 b] .returning w fun e u' w' => e = .returned (.tuple #[]) ∧ u' = .returning ∧ w' = w := by
  refine callsD_of_wpS Tryz.func109 rfl fun c₀ cs hu => ?_
  apply wpS_seq
  apply wpS_region
  simp [wpOpsS, go_sem, recoverD, hu, Tryz.ntmps109, Exit.thenS, assert12_none]
  apply wpS_seq
  apply wpS_region
  simp [wpOpsS, go_sem, Exit.thenS]
  refine wpS_cond (t := false) (by simp [Act.eval, Array.replicate]) ?_
  simp only [Bool.false_eq_true, if_false]
  refine wpS_of_wp (wp_skip ?_)
  cases c₀
  simp_all [bodyPostS, results, Tryz.results109]
set_option maxHeartbeats 4000000 in
set_option maxRecDepth 100000 in
theorem catch12_thrown (b z : Nat) (w : World) (u : Value) (hb : Boxed w b 29 u) :
    CallsD Tryz.prog 109 #[ptr12 b] (.panicking [{ v := .iface 29 (.int .i64 z), recovered := false }]) w fun e u' w' =>
      e = .returned (.tuple #[]) ∧ u' = .panicking [{ v := .iface 29 (.int .i64 z), recovered := true }] ∧ w' = w.setCell ⟨b, 0, none⟩ (.int .i64 z) := by
  have hb1 := hb.cell
  have hb2 := hb.frozen
  refine callsD_of_wpS Tryz.func109 rfl fun c₀ cs hu => ?_
  apply wpS_seq
  apply wpS_region
  simp [wpOpsS, go_sem, recoverD, hu, Tryz.ntmps109, Exit.thenS, assert12_err]
  apply wpS_seq
  apply wpS_region
  simp [wpOpsS, go_sem, Exit.thenS]
  refine wpS_cond (t := true) (by simp [Act.eval, Array.replicate]) ?_
  simp only [if_true]
  refine wpS_of_wp ?_
  go_wp2_with fail
  simp [bodyPostS, results, Tryz.results109, Array.replicate]
theorem caught_results (V : World) (n z : Nat) (tmps : Array Value) (h2 : tmps.getD 2 undef = ptr12 n) (b1 : Boxed V n 29 (.int .i64 z)) :
    (results Tryz.f67 tmps).run Tryz.prog V = .ok (.int .i64 z) V := by
  have c1 := b1.cell
  have h2' : tmps[2]?.getD undef = ptr12 n := by simpa using h2
  simp [results, Tryz.results67, go_sem, h2', c1, asAddr]
/-- What was done, or what was thrown. -/
def DonePost (n : Nat) (R : Nat → World → Prop) (e : Ending) (V : World) : Prop := Boxed V n 29 (.int .i64 0) ∧ ((e = .returned (.tuple #[]) ∧ R 0 V) ∨ ∃ z : Nat, e = boom12 z ∧ R z V)
set_option maxHeartbeats 4000000 in
set_option maxRecDepth 100000 in
theorem caught_any (fn : FuncId) (caps : Array Value) (hcf : ∀ (args : Array Value) (V : World), (callFunc fn args).run Tryz.prog V = .ok (.enter fn args) V) (w : World) (R : Nat → World → Prop)
    (h : Calls Tryz.prog fn caps (w.alloc (.cells #[.int .i64 0] 29)) (DonePost w.heap.size R)) :
    Calls Tryz.prog 67 #[.func (.func fn) #[] caps] w fun e w' => ∃ (z : Nat) (V : World), e = .returned (.int .i64 z) ∧ R z V ∧ w' = V.setCell ⟨w.heap.size, 0, none⟩ (.int .i64 z) := by
  have HH := Lib.hid h
  clear h
  go_enter_defers Tryz.func67, Tryz.ntmps67
  go_wp2_with fail
  refine HH.out.mono ?_
  rintro e V ⟨hbx, ⟨rfl, hR⟩ | ⟨z, rfl, hR⟩⟩
  · have c1 := hbx.cell
    have c2 := hbx.frozen
    have HR := Lib.hid hR
    have HB := Lib.hid hbx
    clear hR hbx
    go_wp2_with fail
    refine leaves_cons (f := 109) (args := #[ptr12 w.heap.size]) (by simp) (by simp [go_sem]) ?_
    refine (catch12_idle _ _).mono ?_
    rintro e u' v' ⟨rfl, rfl, rfl⟩
    exact ⟨_, caught_results _ w.heap.size 0 _ rfl (HB.out.set _), 0, V, rfl, HR.out, rfl⟩
  · have HR := Lib.hid hR
    have HB := Lib.hid hbx
    clear hR hbx
    go_wp2_with fail
    refine leaves_cons (f := 109) (args := #[ptr12 w.heap.size]) (by simp) (by simp [go_sem]) ?_
    refine (catch12_thrown _ z _ _ HB.out).mono ?_
    rintro e u' v' ⟨rfl, rfl, rfl⟩
    exact ⟨_, caught_results _ w.heap.size z _ rfl (HB.out.set _), z, V, rfl, HR.out, rfl⟩
end Go.Proofs.YtbdlegjklfkdmaaGreatDoor.Pl

namespace Go.Proofs.YtbdlegjklfkdmaaGreatDoor.Pl
open Go.RowKit

set_option maxHeartbeats 1000000 in
set_option maxRecDepth 100000 in
theorem isorg_any (v : Int) (w : World) : Calls Tryz.prog 107 #[.int .i64 v] w fun x w' => x = .returned (.bool (orgP v)) ∧ w' = w := by
  by_cases h1 : (0 : Int) ≤ v
  · by_cases h2 : v < 8
    · have hz : orgP v = true := orgP_iff.2 ⟨h1, h2⟩
      rw [hz]
      clear hz
      go_enter Tryz.func107, Tryz.ntmps107
      go_wp2
      go_ret
      exact ⟨rfl, rfl⟩
    · have hz : orgP v = false := by rw [← Bool.not_eq_true]; exact fun e => h2 (orgP_iff.1 e).2
      rw [hz]
      clear hz
      go_enter Tryz.func107, Tryz.ntmps107
      go_wp2
      go_ret
      exact ⟨rfl, rfl⟩
  · have hz : orgP v = false := by rw [← Bool.not_eq_true]; exact fun e => h1 (orgP_iff.1 e).1
    rw [hz]
    clear hz
    go_enter Tryz.func107, Tryz.ntmps107
    go_wp2
    go_ret
    exact ⟨rfl, rfl⟩
set_option maxHeartbeats 1000000 in
set_option maxRecDepth 100000 in
theorem isterm_any (s : ByteArray) (hs : s.size ≤ 281474976710656) (w : World) : Calls Tryz.prog 108 #[.string s] w fun x w' => x = .returned (.bool (termP s)) ∧ Below w.heap.size w w' := by
  have HC := Lib.hid (check_any s hs w)
  have q : (((checkP (bl s) : Nat) : Int) == 0) = termP s := by
    unfold termP
    by_cases h : checkP (bl s) = 0
    · rw [h]; rfl
    · rw [beq_eq_false_iff_ne.2 h]; exact beq_eq_false_iff_ne.2 (by omega)
  generalize termP s = z at *
  generalize checkP (bl s) = c at *
  go_enter Tryz.func108, Tryz.ntmps108
  go_wp2_with (refine HC.out.mono ?_; rintro e w1 ⟨rfl, b1⟩)
  go_ret
  exact ⟨rfl, b1⟩
set_option maxHeartbeats 1000000 in
set_option maxRecDepth 100000 in
theorem maytxn_any (c e q : Int) (w : World) : Calls Tryz.prog 71 #[.agg #[.int .i64 c, .int .i64 e, .int .i64 q]] w fun x w' => x = .returned (.bool (mayX c e q)) ∧ Below w.heap.size w w' := by
  have HO := Lib.hid (fun V => isorg_any c V)
  have hz : mayX c e q = (orgP c && decide (1 ≤ e) && decide (e ≤ 255) && decide (1 ≤ q) && decide (q ≤ 65535)) := rfl
  generalize mayX c e q = z at *
  generalize orgP c = oc at *
  have HZ := Lib.hid hz
  clear hz
  have B := Lib.hid ((Below.refl w.heap.size w).alloc (Nat.le_refl _) (.cells #[.int .i64 c, .int .i64 e, .int .i64 q] 23))
  cases oc with
  | false =>
    go_enter Tryz.func71, Tryz.ntmps71
    go_wp2_with (go_at_call 107; refine (HO.out _).mono ?_; rintro e w1 ⟨rfl, rfl⟩)
    go_ret
    exact ⟨by rw [HZ.out]; simp [], B.out⟩
  | true =>
    by_cases he1 : (1 : Int) ≤ e
    · by_cases he2 : e ≤ 255
      · by_cases hq1 : (1 : Int) ≤ q
        · by_cases hq2 : q ≤ 65535
          · go_enter Tryz.func71, Tryz.ntmps71
            go_wp2_with (go_at_call 107; refine (HO.out _).mono ?_; rintro e w1 ⟨rfl, rfl⟩)
            go_ret
            exact ⟨by rw [HZ.out]; simp [he1, he2, hq1, hq2], B.out⟩
          · go_enter Tryz.func71, Tryz.ntmps71
            go_wp2_with (go_at_call 107; refine (HO.out _).mono ?_; rintro e w1 ⟨rfl, rfl⟩)
            go_ret
            exact ⟨by rw [HZ.out]; simp [he1, he2, hq1] <;> omega, B.out⟩
        · go_enter Tryz.func71, Tryz.ntmps71
          go_wp2_with (go_at_call 107; refine (HO.out _).mono ?_; rintro e w1 ⟨rfl, rfl⟩)
          go_ret
          exact ⟨by rw [HZ.out]; simp [he1, he2] <;> omega, B.out⟩
      · go_enter Tryz.func71, Tryz.ntmps71
        go_wp2_with (go_at_call 107; refine (HO.out _).mono ?_; rintro e w1 ⟨rfl, rfl⟩)
        go_ret
        exact ⟨by rw [HZ.out]; simp [he1] <;> omega, B.out⟩
    · go_enter Tryz.func71, Tryz.ntmps71
      go_wp2_with (go_at_call 107; refine (HO.out _).mono ?_; rintro e w1 ⟨rfl, rfl⟩)
      go_ret
      exact ⟨by rw [HZ.out]; simp <;> omega, B.out⟩
/-- A row of members in memory. -/
def MemRow (w : World) (ao : Option Addr) (l : List Mb) : Prop := l = [] ∨ ∃ b off, ao = some ⟨b, off, none⟩ ∧ b < w.heap.size ∧ ∀ j, (hj : j < l.length) → w.cell? ⟨b, off + j * 2, none⟩ = some (.int .i64 l[j].1) ∧ w.cell? ⟨b, off + j * 2 + 1, none⟩ = some (.string l[j].2)
theorem MemRow.below {w w' : World} {ao : Option Addr} {l : List Mb} (h : MemRow w ao l) (hb : Below w.heap.size w w') : MemRow w' ao l := by
  rcases h with h | ⟨b, off, e, hlt, hc⟩
  · exact .inl h
  · exact .inr ⟨b, off, e, Nat.lt_of_lt_of_le hlt hb.size, fun j hj => ⟨(hb.cell (p := ⟨b, off + j * 2, none⟩) hlt).trans (hc j hj).1, (hb.cell (p := ⟨b, off + j * 2 + 1, none⟩) hlt).trans (hc j hj).2⟩⟩
/-- A new box, then stored to. -/
theorem row_box (wr : World) (cs ds : Array Value) (t : TypeId) : ∃ W2, W2 = (wr.alloc (.cells cs t)).setRow wr.heap.size ds ∧ (wr.alloc (.cells cs t)).heap[wr.heap.size]? = some (.cells cs t (0, 0)) ∧
    W2.heap[wr.heap.size]? = some (.cells ds t (0, 0)) ∧ Below wr.heap.size wr W2 ∧ W2.heap.size = wr.heap.size + 1 := by
  refine ⟨_, rfl, ?_⟩
  have a0 := Go.heap_alloc_new wr (.cells cs t)
  have h2 := (Below.refl wr.heap.size wr).alloc (Nat.le_refl _) (.cells cs t)
  exact ⟨a0, setRow_heap _ _ _ _ _ _ a0, ⟨h2.os, h2.tape, h2.output, by simp [World.setRow], fun k hk => (setRow_other _ _ _ _ (by omega)).trans (h2.block k hk)⟩, by simp [World.setRow]⟩
theorem mem_info (a b : Value) : (Tryz.prog.info? 51).map (·.size) = some (#[a, b].size) := by kernel_rfl
theorem mem_one (o : Int) (d : ByteArray) : (#[.int .i64 o, .string d] : Array Value).all (·.oneCell') = true := by simp [Value.oneCell']
end Go.Proofs.YtbdlegjklfkdmaaGreatDoor.Pl

namespace Go.Proofs.YtbdlegjklfkdmaaGreatDoor.Pl
open Go.RowKit

/-- The member before. -/
def lastM (l : List Mb) (j : Nat) : Int := if j = 0 then -1 else (l.getD (j - 1) (0, ByteArray.empty)).1
theorem lastM_succ (l : List Mb) (j : Nat) (hj : j < l.length) : lastM l (j + 1) = l[j].1 := by
  simp [lastM, List.getD_eq_getElem?_getD, hj]
set_option maxHeartbeats 4000000 in
set_option maxRecDepth 100000 in
theorem maymems_any (c e q : Int) (l : List Mb) (ao : Option Addr) (cap : Nat) (hs : ∀ m ∈ l, m.2.size ≤ 281474976710656) (hl : l.length ≤ 9223372036854775807) (w : World) (hrow : MemRow w ao l) :
    Calls Tryz.prog 66 #[.agg #[.int .i64 c, .int .i64 e, .int .i64 q], .slice ao l.length cap] w fun x w' => x = .returned (.bool (mayL c l)) ∧ Below w.heap.size w w' := by
  have HO := Lib.hid (fun v V => isorg_any v V)
  obtain ⟨z, hz⟩ : ∃ z, z = mayL c l := ⟨_, rfl⟩
  rw [← hz]
  obtain ⟨n, hn⟩ : ∃ n, n = l.length := ⟨_, rfl⟩
  rw [← hn]
  have HN := Lib.hid hn
  unfold mayL at hz
  rw [← hn] at hz hl
  have B := Lib.hid ((Below.refl w.heap.size w).alloc (Nat.le_refl _) (.cells #[.int .i64 c, .int .i64 e, .int .i64 q] 23))
  by_cases h1 : 1 ≤ n
  · by_cases h6 : n ≤ 6
    · have h1' : ¬ (n : Int) < 1 := by omega
      have h6' : ¬ (6 : Int) < (n : Int) := by omega
      rw [decide_eq_true h1, decide_eq_true h6, Bool.true_and, Bool.true_and] at hz
      have HZ := Lib.hid hz
      have HROW := Lib.hid (fun V (hV : Below w.heap.size w V) => hrow.below hV)
      have HS := Lib.hid hs
      have HC : (w.alloc (.cells #[.int .i64 c, .int .i64 e, .int .i64 q] 23)).cell? ⟨w.heap.size, 0, none⟩ = some (.int .i64 c) := cell_of_row _ _ _ _ _ _ (Go.heap_alloc_new _ _)
      obtain ⟨W0, hW0⟩ : ∃ V, V = w.alloc (.cells #[.int .i64 c, .int .i64 e, .int .i64 q] 23) := ⟨_, rfl⟩
      have SZ : Hid (W0.heap.size = w.heap.size + 1) := Lib.hid (by rw [hW0]; simp)
      have B0 : Hid (Below w.heap.size w W0) := Lib.hid (by rw [hW0]; exact B.out)
      rw [← hW0] at HC
      have HC := Lib.hid HC
      have HW0 := Lib.hid hW0
      clear hz hrow hs hn hW0 B
      go_enter Tryz.func66, Tryz.ntmps66
      go_wp2_with fail
      rw [← HW0.out]
      clear HW0
      go_loopw [18, 5] (fun iv lv wr => ∃ (j : Nat), iv = .int .i64 j ∧ lv = .int .i64 (lastM l j) ∧ j ≤ n ∧ Hid (z = mayMs c (lastM l j) (l.drop j)) ∧ Hid (Below W0.heap.size W0 wr)) (fun iv _ _ => n - (intOf iv).toNat)
      case atStart => exact ⟨0, rfl, rfl, Nat.zero_le _, Lib.hid HZ.out, Lib.hid (Below.refl _ _)⟩
      case round =>
        obtain ⟨j, rfl, rfl, hjn, hst, hb⟩ := hrel
        by_cases hj : j < n
        · have hj' : (j : Int) < (n : Int) := by omega
          have hjl : j < l.length := by rw [← HN.out]; exact hj
          rcases HROW.out _ (below_step B0.out hb.out) with e | ⟨b, off, rfl, hlt, hcs⟩
          · exfalso
            rw [e] at hjl
            exact absurd hjl (Nat.not_lt_zero _)
          obtain ⟨x0, x1⟩ := hcs j hjl
          have HT := Lib.hid (fun V => isterm_any l[j].2 (HS.out _ (List.getElem_mem hjl)) V)
          have hst2 : z = (mayM1 c (lastM l j) l[j] && mayMs c l[j].1 (l.drop (j + 1))) := by rw [hst.out, List.drop_eq_getElem_cons hjl, mayMs]
          have xc : wr.cell? ⟨w.heap.size, 0, none⟩ = some (.int .i64 c) := (hb.out.cell (p := ⟨w.heap.size, 0, none⟩) (by rw [SZ.out]; exact Nat.lt_succ_self _)).trans HC.out
          have HNX : Hid (lastM l (j + 1) = l[j].1) := Lib.hid (lastM_succ l j hjl)
          generalize hla : lastM l j = last at *
          generalize l[j] = m at *
          obtain ⟨o, d⟩ := m
          dsimp only at *
          unfold mayM1 at hst2
          dsimp only at hst2
          obtain ⟨W2, hW2, n0, k2, b2, s2⟩ := row_box wr #[.int .i64 0, .string ⟨#[]⟩] #[.int .i64 o, .string d] 51
          have c0 : W2.cell? ⟨wr.heap.size, 0, none⟩ = some (.int .i64 o) := cell_of_row _ _ _ _ _ _ k2
          have c1 : W2.cell? ⟨wr.heap.size, 1, none⟩ = some (.string d) := cell_of_row _ _ _ _ _ _ k2
          have xc2 : W2.cell? ⟨w.heap.size, 0, none⟩ = some (.int .i64 c) := (b2.cell (p := ⟨w.heap.size, 0, none⟩) (by have := hb.out.size; have := SZ.out; show w.heap.size < wr.heap.size; omega)).trans xc
          have N0 := Lib.hid n0
          have HW2 := Lib.hid hW2
          have HST := Lib.hid hst2
          have HB2 : Hid (Below W0.heap.size W0 W2) := Lib.hid (below_step hb.out b2)
          have BW : Hid (Below w.heap.size w W2) := Lib.hid (below_step (below_step B0.out hb.out) b2)
          have SZ3 : Hid (w.heap.size ≤ W2.heap.size) := Lib.hid BW.out.size
          have HHB := hb
          have C0 : Hid (∀ V, Below W2.heap.size W2 V → V.cell? ⟨wr.heap.size, 0, none⟩ = some (.int .i64 o)) := Lib.hid (fun V hV => (hV.cell (p := ⟨wr.heap.size, 0, none⟩) (by rw [s2]; exact Nat.lt_succ_self _)).trans c0)
          clear hst hst2 hb hcs hlt n0 hW2 k2 b2 s2 hjl xc
          generalize hoo : orgP o = oo at *
          cases oo with
          | false =>
            go_wp2_with (first | (refine wpList_store_row rfl 51 _ _ rfl wr.heap.size #[.int .i64 o, .string d] rfl rfl 51 #[.int .i64 0, .string ⟨#[]⟩] N0.out (mem_info _ _) rfl (mem_one _ _) ?_; rw [← HW2.out]) | (go_at_call 107; refine (HO.out _ _).mono ?_; rintro e w1 ⟨rfl, h2⟩; rw [h2]; clear h2 w1) | (go_at_call 108; refine (HT.out _).mono ?_; rintro e w3 ⟨rfl, b3⟩) | fail)
            go_ret
            exact ⟨by rw [HST.out]; simp, BW.out⟩
          | true =>
            by_cases hoc : o = c
            · subst hoc
              go_wp2_with (first | (refine wpList_store_row rfl 51 _ _ rfl wr.heap.size #[.int .i64 o, .string d] rfl rfl 51 #[.int .i64 0, .string ⟨#[]⟩] N0.out (mem_info _ _) rfl (mem_one _ _) ?_; rw [← HW2.out]) | (go_at_call 107; refine (HO.out _ _).mono ?_; rintro e w1 ⟨rfl, h2⟩; rw [h2]; clear h2 w1) | (go_at_call 108; refine (HT.out _).mono ?_; rintro e w3 ⟨rfl, b3⟩) | fail)
              go_ret
              exact ⟨by rw [HST.out]; simp, BW.out⟩
            · have hoc' : (o == c) = false := beq_eq_false_iff_ne.2 hoc
              by_cases hlo : last < o
              · have hlo' : ¬ o ≤ last := by omega
                generalize termP d = td at *
                cases td with
                | false =>
                  go_wp2_with (first | (refine wpList_store_row rfl 51 _ _ rfl wr.heap.size #[.int .i64 o, .string d] rfl rfl 51 #[.int .i64 0, .string ⟨#[]⟩] N0.out (mem_info _ _) rfl (mem_one _ _) ?_; rw [← HW2.out]) | (go_at_call 107; refine (HO.out _ _).mono ?_; rintro e w1 ⟨rfl, h2⟩; rw [h2]; clear h2 w1) | (go_at_call 108; refine (HT.out _).mono ?_; rintro e w3 ⟨rfl, b3⟩) | fail)
                  go_ret
                  exact ⟨by rw [HST.out]; simp, below_step BW.out b3⟩
                | true =>
                  go_wp2_with (first | (refine wpList_store_row rfl 51 _ _ rfl wr.heap.size #[.int .i64 o, .string d] rfl rfl 51 #[.int .i64 0, .string ⟨#[]⟩] N0.out (mem_info _ _) rfl (mem_one _ _) ?_; rw [← HW2.out]) | (go_at_call 107; refine (HO.out _ _).mono ?_; rintro e w1 ⟨rfl, h2⟩; rw [h2]; clear h2 w1) | (go_at_call 108; refine (HT.out _).mono ?_; rintro e w3 ⟨rfl, b3⟩; have c3 := C0.out _ b3) | fail)
                  go_roundw
                  case rel => exact ⟨j + 1, by go_num, by rw [HNX.out], by omega, Lib.hid (by rw [HST.out, HNX.out]; simp [hoc', hlo]), Lib.hid (below_step HB2.out b3)⟩
                  case measure => simp [intOf]; omega
              · have hlo' : o ≤ last := by omega
                go_wp2_with (first | (refine wpList_store_row rfl 51 _ _ rfl wr.heap.size #[.int .i64 o, .string d] rfl rfl 51 #[.int .i64 0, .string ⟨#[]⟩] N0.out (mem_info _ _) rfl (mem_one _ _) ?_; rw [← HW2.out]) | (go_at_call 107; refine (HO.out _ _).mono ?_; rintro e w1 ⟨rfl, h2⟩; rw [h2]; clear h2 w1) | (go_at_call 108; refine (HT.out _).mono ?_; rintro e w3 ⟨rfl, b3⟩) | fail)
                go_ret
                exact ⟨by rw [HST.out]; simp; intros; omega, BW.out⟩
        · obtain rfl : j = n := by omega
          have HE : Hid (z = true) := Lib.hid (by rw [hst.out, HN.out, List.drop_length]; rfl)
          have BW : Hid (Below w.heap.size w wr) := Lib.hid (below_step B0.out hb.out)
          clear hst hb
          go_wp2_with fail
          go_ret
          exact ⟨by rw [HE.out]; rfl, BW.out⟩
    · have h1' : ¬ (n : Int) < 1 := by omega
      have h6' : (6 : Int) < (n : Int) := by omega
      rw [decide_eq_false h6, Bool.and_false, Bool.false_and] at hz
      subst hz
      clear hrow hs
      go_enter Tryz.func66, Tryz.ntmps66
      go_wp2_with fail
      go_ret
      exact ⟨rfl, B.out⟩
  · have h1' : (n : Int) < 1 := by omega
    rw [decide_eq_false h1, Bool.false_and, Bool.false_and] at hz
    subst hz
    clear hrow hs
    go_enter Tryz.func66, Tryz.ntmps66
    go_wp2_with fail
    go_ret
    exact ⟨rfl, B.out⟩
end Go.Proofs.YtbdlegjklfkdmaaGreatDoor.Pl

namespace Go.Proofs.YtbdlegjklfkdmaaGreatDoor.Pl
open Go.RowKit

/-- What comes out, or what is thrown. -/
def Out12 {α : Type} (o : Option α) (f : α → Value) : Ending := match o with | some a => .returned (f a) | none => boom12 7
theorem made12_ok (t : ByteArray) (w : World) : Calls Tryz.prog 69 #[.string t, .int .i64 0] w fun x w' => x = .returned (.string t) ∧ w' = w := by
  go_enter Tryz.func69, Tryz.ntmps69
  go_wp2_with (go_at_call 110; refine (needw_ok 5 _).mono ?_; rintro e w2 ⟨rfl, rfl⟩)
  go_ret
  exact ⟨rfl, rfl⟩
theorem made12_bad (t : ByteArray) (c : Nat) (hc : c ≠ 0) (w : World) : Calls Tryz.prog 69 #[.string t, .int .i64 c] w fun x w' => x = boom12 5 ∧ w' = w := by
  have hz : ((c : Int) == 0) = false := by rw [beq_eq_false_iff_ne]; omega
  go_enter Tryz.func69, Tryz.ntmps69
  go_wp2_with (go_at_call 110; refine (needw_bad 5 _).mono ?_; rintro e w2 ⟨rfl, rfl⟩)
  exact ⟨rfl, rfl, rfl⟩
set_option maxHeartbeats 1000000 in
set_option maxRecDepth 100000 in
theorem number_any (s : ByteArray) (hs : s.size ≤ 281474976710656) (w : World) : Calls Tryz.prog 119 #[.string s] w fun x w' => x = Out12 (rdN s) (.int .i64 ·) ∧ Below w.heap.size w w' := by
  have HR := fun V => readnum6_any s hs V
  have hz : rdN s = if (readnumP (bl s)).2 = true then some ((readnumP (bl s)).1 : Int) else none := rfl
  generalize readnumP (bl s) = p at *
  generalize rdN s = z at *
  obtain ⟨v, ok⟩ := p
  cases ok with
  | true =>
    rw [if_pos rfl] at hz
    subst hz
    rw [show nb2 (v, true) = .tuple #[.int .i64 v, .bool true] from rfl] at HR
    have HR := Lib.hid HR
    go_enter Tryz.func119, Tryz.ntmps119
    go_wp2_with (first | (go_at_call 47; refine (HR.out _).mono ?_; rintro e w1 ⟨rfl, b1⟩) | (go_at_call 110; refine (needw_ok 7 _).mono ?_; rintro e w2 ⟨rfl, rfl⟩))
    go_ret
    exact ⟨rfl, b1⟩
  | false =>
    rw [if_neg (by simp)] at hz
    subst hz
    rw [show nb2 (v, false) = .tuple #[.int .i64 v, .bool false] from rfl] at HR
    have HR := Lib.hid HR
    go_enter Tryz.func119, Tryz.ntmps119
    go_wp2_with (first | (go_at_call 47; refine (HR.out _).mono ?_; rintro e w1 ⟨rfl, b1⟩) | (go_at_call 110; refine (needw_bad 7 _).mono ?_; rintro e w2 ⟨rfl, rfl⟩))
    exact ⟨by first | rfl | trivial, rfl, b1⟩
/-- Box b holds the parts that are still to be read. -/
def NextAt (w : World) (B b : Nat) (l : List ByteArray) : Prop := ∃ ao cap, Boxed w b 53 (.slice ao l.length cap) ∧ l.length ≤ cap ∧ TxtRow w ao l ∧ (∀ x ∈ l, x.size ≤ 16384) ∧ l.length ≤ 1000 ∧ B ≤ b ∧ ∀ g off, ao = some ⟨g, off, none⟩ → B ≤ g
abbrev nextV (b : Nat) : Value := .func (.func 141) #[] #[ptr12 b]
theorem NextAt.lt {w : World} {B b : Nat} {l : List ByteArray} (h : NextAt w B b l) : b < w.heap.size := by
  obtain ⟨ao, cap, h1, _⟩ := h
  exact (Array.getElem?_eq_some_iff.1 h1).1
theorem NextAt.below {w w' : World} {B b : Nat} {l : List ByteArray} (h : NextAt w B b l) (hb : Below w.heap.size w w') : NextAt w' B b l := by
  have hlt := h.lt
  obtain ⟨ao, cap, h1, h2, h3, h4⟩ := h
  exact ⟨ao, cap, (hb.block b hlt).trans h1, h2, h3.below hb, h4⟩
theorem NextAt.fresh {w : World} {B b : Nat} {l : List ByteArray} (h : NextAt w B b l) : B ≤ b := by
  obtain ⟨ao, cap, h1, h2, h3, h4, h5, h6, h7⟩ := h
  exact h6
theorem NextAt.size {w : World} {B b : Nat} {l : List ByteArray} (h : NextAt w B b l) : ∀ x ∈ l, x.size ≤ 281474976710656 := by
  obtain ⟨ao, cap, h1, h2, h3, h4, h5, h6, h7⟩ := h
  exact fun x hx => Nat.le_trans (h4 x hx) (by decide)
theorem NextAt.turn {F : Nat → Prop} {w w' : World} {B b : Nat} {l : List ByteArray} (h : NextAt w B b l) (ht : Turn F w w') (hF : ∀ k, F k → k < B) : NextAt w' B b l := by
  have hlt := h.lt
  obtain ⟨ao, cap, h1, h2, h3, h4, h5, h6, h7⟩ := h
  refine ⟨ao, cap, (ht.block b hlt fun e => by have := hF b e; omega).trans h1, h2, ?_, h4, h5, h6, h7⟩
  rcases h3 with h3 | ⟨g, off, e, hlt2, hc⟩
  · exact .inl h3
  · exact txt_block (.inr ⟨g, off, e, hlt2, hc⟩) ht.size fun g' off' e' => by
      have hg := h7 g' off' e'
      rw [e] at e'
      cases e'
      exact ht.block _ hlt2 fun k => by have := hF _ k; omega
theorem txt_off {w : World} {b g off : Nat} {ao : Option Addr} {n c : Nat} {l : List ByteArray} (h : TxtRow w ao l) (h0 : l ≠ []) (hq : Boxed w b 53 (.slice ao n c)) (e : ao = some ⟨g, off, none⟩) : g ≠ b := by
  rintro rfl
  rcases h with h | ⟨g', off', e', hlt, hc⟩
  · exact h0 h
  · rw [e] at e'
    cases e'
    have h1 := hc 0 (List.length_pos_iff.2 h0)
    rw [Nat.add_zero] at h1
    unfold World.cell? at h1
    unfold Boxed at hq
    simp only [hq] at h1
    by_cases k : off = 0
    · subst k
      simp at h1
    · have : (#[Value.slice ao n c] : Array Value)[off]? = none := by
        rw [Array.getElem?_eq_none]
        simp
        omega
      simp [this] at h1
set_option maxHeartbeats 1000000 in
set_option maxRecDepth 100000 in
theorem next_none (B b : Nat) (w : World) (h : NextAt w B b []) : Calls Tryz.prog 141 #[ptr12 b] w fun x w' => x = boom12 7 ∧ w' = w := by
  obtain ⟨ao, cap, h1, _⟩ := h
  have c1 := h1.cell
  clear h1
  rw [List.length_nil] at c1
  go_enter Tryz.func141, Tryz.ntmps141
  go_wp2_with (first | (go_at_call 110; refine (needw_bad 7 _).mono ?_; rintro e w2 ⟨rfl, rfl⟩))
  exact ⟨by first | rfl | trivial, rfl, rfl⟩
set_option maxHeartbeats 1000000 in
set_option maxRecDepth 100000 in
theorem next_some (B b : Nat) (p : ByteArray) (r : List ByteArray) (w : World) (h : NextAt w B b (p :: r)) : Calls Tryz.prog 141 #[ptr12 b] w fun x w' => x = .returned (.string p) ∧ NextAt w' B b r ∧ Turn (· = b) w w' := by
  have hlt := h.lt
  obtain ⟨ao, cap, h1, h2, h3, h4, h5, h6, h7⟩ := h
  have hne : ∀ g off, ao = some ⟨g, off, none⟩ → g ≠ b := fun g off e => txt_off h3 (by simp) h1 e
  rcases h3 with h3 | ⟨g, off, rfl, hg, hc⟩
  · cases h3
  have c1 := h1.cell
  have c2 := h1.frozen
  have c0 := hc 0 (by simp)
  rw [Nat.add_zero, List.getD_cons_zero] at c0
  have hcr : ∀ V, (Instr.sliceAt 53 (.slice (some ⟨g, off, none⟩) (p :: r).length cap) (some (.int .i64 1)) none none).run Tryz.prog V = .ok (.slice (if cap = 1 then some ⟨g, off, none⟩ else (some ⟨g, off, none⟩ : Option Addr).map (·.add 1)) ((p :: r).length - 1) (cap - 1)) V := fun V => cut_rest (some ⟨g, off, none⟩) (p :: r).length cap 1 (by simp) V
  have hlen : (p :: r).length - 1 = r.length := by simp
  rw [hlen] at hcr
  have HEND := Lib.hid (show NextAt (w.setCell ⟨b, 0, none⟩ (.slice (if cap = 1 then some ⟨g, off, none⟩ else (some ⟨g, off, none⟩ : Option Addr).map (·.add 1)) r.length (cap - 1))) B b r ∧ Turn (· = b) w (w.setCell ⟨b, 0, none⟩ (.slice (if cap = 1 then some ⟨g, off, none⟩ else (some ⟨g, off, none⟩ : Option Addr).map (·.add 1)) r.length (cap - 1))) from by
    have hr := rest_row2 (.inr ⟨g, off, rfl, hg, hc⟩ : TxtRow w (some ⟨g, off, none⟩) (p :: r)) h2 1
    rw [List.drop_one, List.tail_cons] at hr
    have hga : ∀ g' off', (if cap = 1 then some ⟨g, off, none⟩ else (some ⟨g, off, none⟩ : Option Addr).map (·.add 1)) = some ⟨g', off', none⟩ → g' = g := fun g' off' e => by
      split at e
      · cases e; rfl
      · simp only [Option.map_some, Option.some.injEq, Addr.add] at e
        split at e <;> (cases e; rfl)
    refine ⟨⟨_, _, h1.set _, by rw [List.length_cons] at h2; omega, ?_, fun x hx => h4 x (List.mem_cons_of_mem _ hx), by rw [List.length_cons] at h5; omega, h6, fun g' off' e => (hga g' off' e).symm ▸ h7 g off rfl⟩, ⟨rfl, rfl, rfl, by simp, fun k hk hk2 => Below.heap_setCell _ _ _ _ hk2⟩⟩
    refine txt_block hr (by simp) fun g' off' e => Below.heap_setCell _ _ _ _ ?_
    rw [hga g' off' e]
    exact hne g off rfl)
  generalize (if cap = 1 then some ⟨g, off, none⟩ else (some ⟨g, off, none⟩ : Option Addr).map (·.add 1)) = ao2 at *
  have hp : 0 < (p :: r).length := by simp
  generalize hm : (p :: r).length = m at *
  have hm1 : (0 : Int) < (m : Int) := by omega
  clear hc hne h1 h2 h4 h5 h6 h7 hm
  go_enter Tryz.func141, Tryz.ntmps141
  go_wp2_with (first | (go_at_call 110; refine (needw_ok 7 _).mono ?_; rintro e w2 ⟨rfl, rfl⟩) | fail)
  go_ret
  exact ⟨rfl, HEND.out.1, HEND.out.2⟩
end Go.Proofs.YtbdlegjklfkdmaaGreatDoor.Pl

namespace Go.Proofs.YtbdlegjklfkdmaaGreatDoor.Pl
open Go.RowKit

/-- What reading parts comes to: what is left in box b, and a state; or it throws. -/
def ReadP {α : Type} (B b : Nat) (o : Option (α × List ByteArray)) (St : α → World → Prop) (Fr : World → Prop) : Ending → World → Prop := fun e V =>
  match o with
  | some (x, l) => e = .returned (.tuple #[]) ∧ NextAt V B b l ∧ St x V
  | none => e = boom12 7 ∧ Fr V
def RowP {α : Type} (o : Option α) (St : α → World → Prop) (Fr : World → Prop) : Ending → World → Prop := fun e V =>
  match o with
  | some x => e = .returned (.tuple #[]) ∧ St x V
  | none => e = boom12 7 ∧ Fr V
theorem partsB_len (t : ByteArray) : (partsB t).length ≤ 32 := by
  unfold partsB
  rw [List.length_map]
  by_cases hc : checkP (bl t) = 0
  · obtain ⟨h, l, c, hv, e, hk, _⟩ := kind_tree12 hc
    have e2 : partsP (bl t) = (l.map Tm.enc, true) := by unfold partsP; rw [← e, treeOf_enc hv]
    rw [e2, List.length_map]
    cases hk <;> omega
  · have e2 : partsP (bl t) = ([], false) := by unfold partsP; rw [treeOf_none hc]
    rw [e2]; simp
theorem partsB_size (t : ByteArray) : ∀ x ∈ partsB t, x.size ≤ 16384 := by
  intro x hx
  unfold partsB at hx
  obtain ⟨y, hy, rfl⟩ := List.mem_map.1 hx
  by_cases hc : checkP (bl t) = 0
  · obtain ⟨h, l, c, hv, e, hk, _⟩ := kind_tree12 hc
    have e2 : partsP (bl t) = (l.map Tm.enc, true) := by unfold partsP; rw [← e, treeOf_enc hv]
    rw [e2] at hy
    obtain ⟨u, hu, rfl⟩ := List.mem_map.1 hy
    have := (node_valid_parts hv u hu).2.2
    show (tb u.enc).size ≤ 16384
    unfold tb
    rw [size_lit]
    exact this
  · have e2 : partsP (bl t) = ([], false) := by unfold partsP; rw [treeOf_none hc]
    rw [e2] at hy; cases hy
theorem parts_is {L : List ByteArray} {t : ByteArray} (h : L.map bl = (partsP (bl t)).1) : L = partsB t := by
  unfold partsB
  rw [← h, map_tb_bl]
theorem own_shape12 {W : World} {B : Nat} {v : Value} {O : List ByteArray} (h : OwnT W B v O) : ∃ oo cap, v = .slice oo O.length cap ∧ O.length ≤ cap ∧ TxtRow W oo O ∧ ∀ b off, oo = some ⟨b, off, none⟩ → B ≤ b := by
  obtain ⟨a, c, e, hr, hB⟩ := ownT_row2 h
  rcases h.2 with ⟨rfl, h0⟩ | ⟨g, cap, cur, rfl, _, _, hc, _⟩
  · injection e with e1 e2 e3
    exact ⟨a, c, by rw [← e1, ← e2, ← e3], by omega, hr, hB⟩
  · injection e with e1 e2 e3
    exact ⟨a, c, by rw [← e1, ← e3], by omega, hr, hB⟩
theorem parts12_any (t : ByteArray) (ht : t.size ≤ 281474976710656) (w : World) :
    Calls Tryz.prog 23 #[.string t] w fun e w' => ∃ ao cap, e = .returned (.tuple #[.slice ao (partsB t).length cap, .bool (partsP (bl t)).2]) ∧ (partsB t).length ≤ cap ∧ TxtRow w' ao (partsB t) ∧ (∀ b off, ao = some ⟨b, off, none⟩ → w.heap.size ≤ b) ∧ Below w.heap.size w w' := by
  refine (parts6_any t ht w).mono ?_
  rintro e w' ⟨v, L, rfl, hL, hp, hb⟩
  obtain ⟨ao, cap, rfl, hc, hr, hB⟩ := own_shape12 hL
  have e := parts_is hp
  rw [← e]
  exact ⟨ao, cap, rfl, hc, hr, hB, hb⟩
set_option maxHeartbeats 4000000 in
set_option maxRecDepth 100000 in
theorem row12_any {α : Type} (t : ByteArray) (ht : t.size ≤ 281474976710656) (fn : FuncId) (caps : Array Value) (hcf : ∀ (args : Array Value) (V : World), (callFunc fn args).run Tryz.prog V = .ok (.enter fn args) V)
    (g : List ByteArray → Option (α × List ByteArray)) (St : α → World → Prop) (Fr : World → Prop) (w : World)
    (hFr : ∀ V, Below w.heap.size w V → Fr V) (hSF : ∀ x V, St x V → Fr V)
    (H : ∀ V b, Below w.heap.size w V → NextAt V w.heap.size b (partsB t) → Calls Tryz.prog fn (#[nextV b] ++ caps) V (ReadP w.heap.size b (g (partsB t)) St Fr)) :
    Calls Tryz.prog 117 #[.string t, .func (.func fn) #[] caps] w (RowP (rowR t g) St Fr) := by
  have HK := fun V => tkind_any t ht V
  have HP := Lib.hid (fun V => parts12_any t ht V)
  have HPL := Lib.hid (partsB_len t)
  have HPS := Lib.hid (partsB_size t)
  have hz : rowR t g = if kindP (bl t) = 3 then endR (g (partsB t)) else none := rfl
  have HH := Lib.hid H
  have HFR := Lib.hid hFr
  have HSF := Lib.hid hSF
  have h6 := kindP_le (bl t)
  clear H hFr hSF
  generalize rowR t g = z at *
  by_cases hk : kindP (bl t) = 3
  · rw [if_pos hk] at hz
    rw [hk] at HK
    have HK := Lib.hid HK
    generalize g (partsB t) = o at *
    clear hk h6
    have hmf : ∀ (fn : Fn) (first cap : Array Value) (w : World), (Instr.makeFunc fn first cap).run Tryz.prog w = .ok (.func fn first cap) w := fun _ _ _ _ => rfl
    have HZ := Lib.hid hz
    clear hz
    go_enter Tryz.func117, Tryz.ntmps117
    go_wp2_with (first | (go_at_call 85; refine (HK.out _).mono ?_; rintro e w1 ⟨rfl, b1⟩) | (go_at_call 110; refine (needw_ok 7 _).mono ?_; rintro e w2 ⟨rfl, hw2⟩; rw [hw2]; clear hw2 w2) | (go_at_call 23; refine (HP.out _).mono ?_; rintro e w3 ⟨ao, cap, rfl, hcap, hrow, haB, b3⟩) | fail)
    have hB3 : Below w.heap.size w w3 := by first | exact below_step b1 b3 | exact b3
    have hN : NextAt (w3.alloc (.cells #[.slice ao (partsB t).length cap] 53)) w.heap.size w3.heap.size (partsB t) :=
      ⟨ao, cap, Boxed.new w3 _ _, hcap, hrow.below ((Below.refl _ _).alloc (Nat.le_refl _) _), HPS.out, by have := HPL.out; omega, hB3.size, fun b off e => Nat.le_trans b1.size (haB b off e)⟩
    have hB4 : Below w.heap.size w (w3.alloc (.cells #[.slice ao (partsB t).length cap] 53)) := hB3.alloc hB3.size _
    refine (HH.out _ _ hB4 hN).mono ?_
    clear hN hB4 hrow hcap haB b1 b3
    have HZ2 := HZ.out
    clear HZ HH
    intro e V h
    cases o with
    | none =>
      obtain ⟨rfl, h2⟩ := h
      have HF := Lib.hid h2
      rw [show endR (none : Option (α × List ByteArray)) = none from rfl] at HZ2
      subst HZ2
      clear h2
      go_wp2_with fail
      exact ⟨by first | rfl | trivial, rfl, HF.out⟩
    | some y =>
      obtain ⟨x, l⟩ := y
      obtain ⟨rfl, hN, hS⟩ := h
      obtain ⟨ao2, cap2, n1, _⟩ := hN
      have c1 := n1.cell
      have HS := Lib.hid hS
      clear n1 hS
      cases l with
      | nil =>
        rw [List.length_nil] at c1
        rw [show endR (some (x, ([] : List ByteArray))) = some x from rfl] at HZ2
        subst HZ2
        go_wp2_with (first | (go_at_call 110; refine (needw_ok 7 _).mono ?_; rintro e w2 ⟨rfl, hw2⟩; rw [hw2]; clear hw2 w2) | fail)
        go_end0
        exact ⟨rfl, HS.out⟩
      | cons p r =>
        generalize hm : (p :: r).length = m at *
        have hm1 : (((m : Nat) : Int) == 0) = false := beq_eq_false_iff_ne.2 (by rw [List.length_cons] at hm; omega)
        clear hm
        rw [show endR (some (x, p :: r)) = none from rfl] at HZ2
        subst HZ2
        go_wp2_with (first | (go_at_call 110; refine (needw_bad 7 _).mono ?_; rintro e w2 ⟨rfl, hw2⟩; rw [hw2]; clear hw2 w2) | fail)
        exact ⟨by first | rfl | trivial, rfl, HSF.out _ _ HS.out⟩
  · have hz0 : z = none := hz.trans (if_neg hk)
    subst hz0
    have hk2 : ((kindP (bl t) : Nat) : Int) ≠ 3 := by omega
    have hk3 : (((kindP (bl t) : Nat) : Int) == 3) = false := beq_eq_false_iff_ne.2 hk2
    generalize kindP (bl t) = kd at *
    have HK := Lib.hid HK
    clear hz
    go_enter Tryz.func117, Tryz.ntmps117
    go_wp2_with (first | (go_at_call 85; refine (HK.out _).mono ?_; rintro e w1 ⟨rfl, b1⟩) | (go_at_call 110; refine (needw_bad 7 _).mono ?_; rintro e w2 ⟨rfl, hw2⟩; rw [hw2]; clear hw2 w2) | fail)
    exact ⟨by first | rfl | trivial, rfl, HFR.out _ b1⟩
end Go.Proofs.YtbdlegjklfkdmaaGreatDoor.Pl

namespace Go.Proofs.YtbdlegjklfkdmaaGreatDoor.Pl
open Go.RowKit

/-- Block x is a transaction. -/
def XAt (w : World) (x : Nat) (c e q : Int) : Prop := w.heap[x]? = some (.cells #[.int .i64 c, .int .i64 e, .int .i64 q] 23 (0, 0))
theorem XAt.lt {w : World} {x : Nat} {c e q : Int} (h : XAt w x c e q) : x < w.heap.size := (Array.getElem?_eq_some_iff.1 h).1
theorem XAt.turn {F : Nat → Prop} {w w' : World} {x : Nat} {c e q : Int} (h : XAt w x c e q) (ht : Turn F w w') (hx : ¬ F x) : XAt w' x c e q := (ht.block x h.lt hx).trans h
theorem XAt.cells {w : World} {x : Nat} {c e q : Int} (h : XAt w x c e q) : w.cell? ⟨x, 0, none⟩ = some (.int .i64 c) ∧ w.cell? ⟨x, 1, none⟩ = some (.int .i64 e) ∧ w.cell? ⟨x, 2, none⟩ = some (.int .i64 q) ∧ w.frozen? ⟨x, 0, none⟩ = false ∧ w.frozen? ⟨x, 1, none⟩ = false ∧ w.frozen? ⟨x, 2, none⟩ = false := by
  unfold XAt at h
  refine ⟨cell_of_row _ _ _ _ _ _ h, cell_of_row _ _ _ _ _ _ h, cell_of_row _ _ _ _ _ _ h, ?_, ?_, ?_⟩ <;> simp [World.frozen?, h]
theorem XAt.set0 {w : World} {x : Nat} {c e q : Int} (h : XAt w x c e q) (v : Int) : XAt (w.setCell ⟨x, 0, none⟩ (.int .i64 v)) x v e q := by
  unfold XAt at h ⊢
  rw [setCell_eq_setRow w x 0 _ _ (0, 0) _ h, setRow_heap w x _ _ _ _ h]; rfl
theorem XAt.set1 {w : World} {x : Nat} {c e q : Int} (h : XAt w x c e q) (v : Int) : XAt (w.setCell ⟨x, 1, none⟩ (.int .i64 v)) x c v q := by
  unfold XAt at h ⊢
  rw [setCell_eq_setRow w x 1 _ _ (0, 0) _ h, setRow_heap w x _ _ _ _ h]; rfl
theorem XAt.set2 {w : World} {x : Nat} {c e q : Int} (h : XAt w x c e q) (v : Int) : XAt (w.setCell ⟨x, 2, none⟩ (.int .i64 v)) x c e v := by
  unfold XAt at h ⊢
  rw [setCell_eq_setRow w x 2 _ _ (0, 0) _ h, setRow_heap w x _ _ _ _ h]; rfl
theorem turn_cell (w : World) (x k : Nat) (v : Value) : Turn (· = x) w (w.setCell ⟨x, k, none⟩ v) := ⟨rfl, rfl, rfl, by simp, fun j _ hj => Below.heap_setCell _ _ _ _ hj⟩
theorem turn_none {w w' : World} (h : Below w.heap.size w w') : Turn (fun _ => False) w w' := turn_below h
/-- What reading a transaction's numbers leaves. -/
def TxSt (w0 : World) (x : Nat) (r : Int × Int × Int) (V : World) : Prop := Turn (· = x) w0 V ∧ XAt V x r.1 r.2.1 r.2.2
set_option maxHeartbeats 4000000 in
set_option maxRecDepth 100000 in
theorem txn1_any (w0 : World) (x b : Nat) (hx : x < w0.heap.size) (l : List ByteArray) (V : World) (ht : Turn (· = x) w0 V) (hN : NextAt V w0.heap.size b l) (hX : XAt V x 0 0 0) :
    Calls Tryz.prog 118 #[nextV b, ptr12 x] V (ReadP w0.heap.size b (txnG l) (TxSt w0 x) (Turn (· = x) w0)) := by
  obtain ⟨z, hz⟩ : ∃ z, z = txnG l := ⟨_, rfl⟩
  rw [← hz]
  have hbx : ¬ x = b := fun e => by have := hN.fresh; omega
  have HX := Lib.hid hx
  have HBX := Lib.hid hbx
  have HF := Lib.hid hN.fresh
  have TT := Lib.hid ht
  have HN := Lib.hid hN
  have HXA := Lib.hid hX
  have HZ := Lib.hid hz
  clear hx hbx ht hN hX hz
  go_enter Tryz.func118, Tryz.ntmps118
  go_wp2_with fail
  cases l with
  | nil =>
    have hz : z = none := by rw [HZ.out]; simp [txnG, getN]
    subst hz
    refine (next_none _ b _ HN.out).mono ?_; rintro e V1 ⟨rfl, hw⟩; rw [hw]; clear hw V1
    go_wp2_with fail
    exact ⟨by first | rfl | trivial, rfl, TT.out⟩
  | cons a0 l1 =>
    have HS0 := Lib.hid (HN.out.size a0 (List.mem_cons_self ..))
    refine (next_some _ b a0 l1 _ HN.out).mono ?_; rintro e V1 ⟨rfl, n1, t1⟩
    have T1 := Lib.hid (turn_trans TT.out t1 (fun _ e => .inr (e ▸ HF.out)))
    have X1 := Lib.hid (HXA.out.turn t1 HBX.out)
    have N1 := Lib.hid n1
    clear n1 t1 TT HXA HN
    go_wp2_with fail
    have HNm := fun W => number_any a0 HS0.out W
    cases hc : rdN a0 with
    | none =>
      rw [hc] at HNm; simp only [Out12] at HNm
      have hz : z = none := by rw [HZ.out]; simp [txnG, getN_cons, hc]
      subst hz
      refine (HNm _).mono ?_; rintro e V2 ⟨rfl, b2⟩
      have TF := Lib.hid (turn_trans T1.out (turn_none b2) (fun _ e => e.elim))
      go_wp2_with fail
      exact ⟨by first | rfl | trivial, rfl, TF.out⟩
    | some c =>
      rw [hc] at HNm; simp only [Out12] at HNm
      refine (HNm _).mono ?_; rintro e V2 ⟨rfl, b2⟩
      have X2 := X1.out.turn (turn_none b2) (fun e => e)
      obtain ⟨x0, x1, x2, f0, f1, f2⟩ := X2.cells
      have T2 := turn_trans T1.out (turn_none b2) (fun _ e => e.elim)
      obtain ⟨W1, hW1⟩ : ∃ W, W = V2.setCell ⟨x, 0, none⟩ (.int .i64 c) := ⟨_, rfl⟩
      have TT := Lib.hid (show Turn (· = x) w0 W1 from hW1 ▸ turn_trans T2 (turn_cell V2 x 0 _) (fun _ e => .inl e))
      have HXA := Lib.hid (show XAt W1 x c 0 0 from hW1 ▸ X2.set0 c)
      have HN := Lib.hid (show NextAt W1 w0.heap.size b l1 from hW1 ▸ (N1.out.below b2).turn (turn_cell V2 x 0 _) (fun k e => by have := HX.out; omega))
      have HW1 := Lib.hid hW1
      clear b2 X2 T2 T1 X1 N1 HNm hW1
      go_wp2_with fail
      (try rw [← HW1.out])
      clear HW1 x0 x1 x2 f0 f1 f2
      cases l1 with
      | nil =>
        have hz : z = none := by rw [HZ.out]; simp [txnG, getN, hc]
        subst hz
        refine (next_none _ b _ HN.out).mono ?_; rintro e V1 ⟨rfl, hw⟩; rw [hw]; clear hw V1
        go_wp2_with fail
        exact ⟨by first | rfl | trivial, rfl, TT.out⟩
      | cons a1 l2 =>
        have HS1 := Lib.hid (HN.out.size a1 (List.mem_cons_self ..))
        refine (next_some _ b a1 l2 _ HN.out).mono ?_; rintro e V1 ⟨rfl, n1, t1⟩
        have T1 := Lib.hid (turn_trans TT.out t1 (fun _ e => .inr (e ▸ HF.out)))
        have X1 := Lib.hid (HXA.out.turn t1 HBX.out)
        have N1 := Lib.hid n1
        clear n1 t1 TT HXA HN
        go_wp2_with fail
        have HNm := fun W => number_any a1 HS1.out W
        cases he : rdN a1 with
        | none =>
          rw [he] at HNm; simp only [Out12] at HNm
          have hz : z = none := by rw [HZ.out]; simp [txnG, getN_cons, he, hc]
          subst hz
          refine (HNm _).mono ?_; rintro e V2 ⟨rfl, b2⟩
          have TF := Lib.hid (turn_trans T1.out (turn_none b2) (fun _ e => e.elim))
          go_wp2_with fail
          exact ⟨by first | rfl | trivial, rfl, TF.out⟩
        | some e =>
          rw [he] at HNm; simp only [Out12] at HNm
          refine (HNm _).mono ?_; rintro e V2 ⟨rfl, b2⟩
          have X2 := X1.out.turn (turn_none b2) (fun e => e)
          obtain ⟨x0, x1, x2, f0, f1, f2⟩ := X2.cells
          have T2 := turn_trans T1.out (turn_none b2) (fun _ e => e.elim)
          obtain ⟨W2, hW2⟩ : ∃ W, W = V2.setCell ⟨x, 1, none⟩ (.int .i64 e) := ⟨_, rfl⟩
          have TT := Lib.hid (show Turn (· = x) w0 W2 from hW2 ▸ turn_trans T2 (turn_cell V2 x 1 _) (fun _ e => .inl e))
          have HXA := Lib.hid (show XAt W2 x c e 0 from hW2 ▸ X2.set1 e)
          have HN := Lib.hid (show NextAt W2 w0.heap.size b l2 from hW2 ▸ (N1.out.below b2).turn (turn_cell V2 x 1 _) (fun k e => by have := HX.out; omega))
          have HW2 := Lib.hid hW2
          clear b2 X2 T2 T1 X1 N1 HNm hW2
          go_wp2_with fail
          (try rw [← HW2.out])
          clear HW2 x0 x1 x2 f0 f1 f2
          cases l2 with
          | nil =>
            have hz : z = none := by rw [HZ.out]; simp [txnG, getN, hc, he]
            subst hz
            refine (next_none _ b _ HN.out).mono ?_; rintro e V1 ⟨rfl, hw⟩; rw [hw]; clear hw V1
            go_wp2_with fail
            exact ⟨by first | rfl | trivial, rfl, TT.out⟩
          | cons a2 l3 =>
            have HS2 := Lib.hid (HN.out.size a2 (List.mem_cons_self ..))
            refine (next_some _ b a2 l3 _ HN.out).mono ?_; rintro e V1 ⟨rfl, n1, t1⟩
            have T1 := Lib.hid (turn_trans TT.out t1 (fun _ e => .inr (e ▸ HF.out)))
            have X1 := Lib.hid (HXA.out.turn t1 HBX.out)
            have N1 := Lib.hid n1
            clear n1 t1 TT HXA HN
            go_wp2_with fail
            have HNm := fun W => number_any a2 HS2.out W
            cases hq : rdN a2 with
            | none =>
              rw [hq] at HNm; simp only [Out12] at HNm
              have hz : z = none := by rw [HZ.out]; simp [txnG, getN_cons, hq, hc, he]
              subst hz
              refine (HNm _).mono ?_; rintro e V2 ⟨rfl, b2⟩
              have TF := Lib.hid (turn_trans T1.out (turn_none b2) (fun _ e => e.elim))
              go_wp2_with fail
              exact ⟨by first | rfl | trivial, rfl, TF.out⟩
            | some q =>
              rw [hq] at HNm; simp only [Out12] at HNm
              refine (HNm _).mono ?_; rintro e V2 ⟨rfl, b2⟩
              have X2 := X1.out.turn (turn_none b2) (fun e => e)
              obtain ⟨x0, x1, x2, f0, f1, f2⟩ := X2.cells
              have T2 := turn_trans T1.out (turn_none b2) (fun _ e => e.elim)
              obtain ⟨W3, hW3⟩ : ∃ W, W = V2.setCell ⟨x, 2, none⟩ (.int .i64 q) := ⟨_, rfl⟩
              have TT := Lib.hid (show Turn (· = x) w0 W3 from hW3 ▸ turn_trans T2 (turn_cell V2 x 2 _) (fun _ e => .inl e))
              have HXA := Lib.hid (show XAt W3 x c e q from hW3 ▸ X2.set2 q)
              have HN := Lib.hid (show NextAt W3 w0.heap.size b l3 from hW3 ▸ (N1.out.below b2).turn (turn_cell V2 x 2 _) (fun k e => by have := HX.out; omega))
              have HW3 := Lib.hid hW3
              clear b2 X2 T2 T1 X1 N1 HNm hW3
              go_wp2_with fail
              (try rw [← HW3.out])
              have hz : z = some ((c, e, q), l3) := by rw [HZ.out]; simp [txnG, getN_cons, hc, he, hq]
              subst hz
              go_end0
              exact ⟨rfl, HW3.out ▸ HN.out, HW3.out ▸ TT.out, HW3.out ▸ HXA.out⟩
abbrev txV (r : Int × Int × Int) : Value := .agg #[.int .i64 r.1, .int .i64 r.2.1, .int .i64 r.2.2]
theorem tx_info (a b c : Value) : (Tryz.prog.info? 23).map (·.size) = some (#[a, b, c].size) := by kernel_rfl
theorem tx_one (a b c : Int) : (#[.int .i64 a, .int .i64 b, .int .i64 c] : Array Value).all (·.oneCell') = true := by simp [Value.oneCell']
theorem call_txn1 (args : Array Value) (V : World) : (callFunc 118 args).run Tryz.prog V = .ok (.enter 118 args) V := by kernel_rfl
theorem xat_new (w : World) (c e q : Int) : XAt (w.alloc (.cells #[.int .i64 c, .int .i64 e, .int .i64 q] 23)) w.heap.size c e q := Go.heap_alloc_new _ _
theorem XAt.below {w w' : World} {x : Nat} {c e q : Int} (h : XAt w x c e q) (hb : Below w.heap.size w w') : XAt w' x c e q := (hb.block x h.lt).trans h
theorem XAt.row {w : World} {x : Nat} {a b c : Int} (h : XAt w x a b c) (c' e' q' : Int) : XAt (w.setRow x #[.int .i64 c', .int .i64 e', .int .i64 q']) x c' e' q' := setRow_heap _ _ _ _ _ _ h
theorem turn_row (w : World) (x : Nat) (v : Array Value) : Turn (· = x) w (w.setRow x v) := ⟨rfl, rfl, rfl, by simp [World.setRow], fun j _ hj => setRow_other _ _ _ _ hj⟩
set_option maxHeartbeats 4000000 in
set_option maxRecDepth 100000 in
theorem txn12_any (t : ByteArray) (ht : t.size ≤ 281474976710656) (w : World) : Calls Tryz.prog 84 #[.string t] w fun e w' => e = Out12 (txnR t) txV ∧ Below w.heap.size w w' := by
  obtain ⟨W0, hW0⟩ : ∃ V, V = (w.alloc (.cells #[.int .i64 0, .int .i64 0, .int .i64 0] 23)).alloc (.cells #[.int .i64 0, .int .i64 0, .int .i64 0] 23) := ⟨_, rfl⟩
  have sz : W0.heap.size = w.heap.size + 2 := by rw [hW0]; simp
  have xa : XAt W0 w.heap.size 0 0 0 := by rw [hW0]; exact (xat_new w 0 0 0).below ((Below.refl _ _).alloc (Nat.le_refl _) _)
  have xb : XAt W0 (w.heap.size + 1) 0 0 0 := by
    rw [hW0]
    have := xat_new (w.alloc (.cells #[.int .i64 0, .int .i64 0, .int .i64 0] 23)) 0 0 0
    rwa [World.size_alloc] at this
  have B0 : Below w.heap.size w W0 := by rw [hW0]; exact ((Below.refl _ w).alloc (Nat.le_refl _) _).alloc (by simp) _
  have HR := row12_any t ht 118 #[ptr12 (w.heap.size + 1)] call_txn1 txnG (TxSt W0 (w.heap.size + 1)) (Turn (· = w.heap.size + 1) W0) W0 (fun V hV => turn_below hV) (fun _ V h => h.1)
    (fun V b hV hN => txn1_any W0 (w.heap.size + 1) b (by omega) _ V (turn_below hV) hN (xb.below hV))
  have hz : txnR t = match rowR t txnG with | some (c, e, q) => if mayX c e q = true then some (c, e, q) else none | none => none := rfl
  have BT : ∀ V, Turn (· = w.heap.size + 1) W0 V → Below w.heap.size w V := fun V h => B0.trans (turn_to h (fun b e => by omega) (by omega))
  have XA : ∀ V, Turn (· = w.heap.size + 1) W0 V → XAt V w.heap.size 0 0 0 := fun V h => xa.turn h (by omega)
  generalize txnR t = z at *
  have HW0 := Lib.hid hW0
  have BT := Lib.hid BT
  have XA := Lib.hid XA
  have SZ := Lib.hid sz
  clear hW0 B0 xa xb sz
  cases hg : rowR t txnG with
  | none =>
    rw [hg] at HR hz
    (try simp only at hz)
    subst hz
    (unfold RowP at HR; dsimp only at HR)
    have HR := Lib.hid HR
    go_enter Tryz.func84, Tryz.ntmps84
    go_wp2_with (go_at_call 117; rw [← HW0.out]; refine HR.out.mono ?_; rintro e V ⟨rfl, hT⟩)
    exact ⟨by first | rfl | trivial, rfl, BT.out _ hT⟩
  | some r =>
    obtain ⟨c, e, q⟩ := r
    rw [hg] at HR hz
    (try simp only at hz)
    (unfold RowP TxSt at HR; dsimp only at HR)
    have HR := Lib.hid HR
    have HM := fun V => maytxn_any c e q V
    cases hm : mayX c e q with
    | true =>
      rw [hm] at HM
      rw [hm, if_pos rfl] at hz
      subst hz
      have HM := Lib.hid HM
      go_enter Tryz.func84, Tryz.ntmps84
      go_wp2_with (first | (go_at_call 117; rw [← HW0.out]; refine HR.out.mono ?_; rintro e1 V ⟨rfl, hT, hX⟩; obtain ⟨x0, x1, x2, -⟩ := hX.cells) | (go_at_call 71; refine (HM.out _).mono ?_; rintro e2 V2 ⟨rfl, b2⟩; have X2 := hX.below b2; obtain ⟨y0, y1, y2, -⟩ := X2.cells) | (go_at_call 110; refine (needw_ok 7 _).mono ?_; rintro e2 V3 ⟨rfl, hw⟩; rw [hw]; clear hw V3) | (refine wpList_store_row rfl 23 _ _ rfl w.heap.size #[.int .i64 c, .int .i64 e, .int .i64 q] rfl rfl 23 #[.int .i64 0, .int .i64 0, .int .i64 0] ((XA.out _ hT).below b2) (tx_info _ _ _) rfl (tx_one _ _ _) ?_) | fail)
      have XR := Lib.hid ((XA.out _ hT).below b2)
      have B2 := Lib.hid (below_step (BT.out _ hT) b2)
      have SV : Hid (w.heap.size ≤ V2.heap.size) := Lib.hid B2.out.size
      refine bodyPost_ret (results_cell_row (fn := Tryz.f84) (p := 2) (ty := 23) rfl _ _ w.heap.size 23 #[.int .i64 c, .int .i64 e, .int .i64 q] (0, 0) _ rfl (XR.out.row c e q) Tryz.underlying23 rfl (tx_info _ _ _)) rfl ?_
      exact ⟨rfl, B2.out.trans (turn_to (turn_row V2 w.heap.size _) (fun b e => by omega) SV.out)⟩
    | false =>
      rw [hm] at HM
      rw [hm, if_neg (by simp)] at hz
      subst hz
      have HM := Lib.hid HM
      go_enter Tryz.func84, Tryz.ntmps84
      go_wp2_with (first | (go_at_call 117; rw [← HW0.out]; refine HR.out.mono ?_; rintro e1 V ⟨rfl, hT, hX⟩; obtain ⟨x0, x1, x2, -⟩ := hX.cells) | (go_at_call 71; refine (HM.out _).mono ?_; rintro e2 V2 ⟨rfl, b2⟩) | (go_at_call 110; refine (needw_bad 7 _).mono ?_; rintro e2 V3 ⟨rfl, hw⟩; rw [hw]; clear hw V3) | fail)
      exact ⟨by first | rfl | trivial, rfl, below_step (BT.out _ hT) b2⟩
end Go.Proofs.YtbdlegjklfkdmaaGreatDoor.Pl

namespace Go.Proofs.YtbdlegjklfkdmaaGreatDoor.Pl
open Go.RowKit

/-- A struct handed back by a cell, and a value beside it. -/
theorem results_row_tmp {P : Program} {fn : Func} {p u : Tmp} {ty : TypeId} (h : fn.results = #[.cell p ty, .tmp u]) (tmps : Array Value) (w : World) (g : Nat) (t : TypeId) (cs : Array Value) (fr : Nat × Nat) (d : TypeDesc)
    (hp : tmps.getD p undef = .pointer (some ⟨g, 0, none⟩)) (hg : w.heap[g]? = some (.cells cs t fr))
    (hu : P.underlying ty = some d) (hd : (match d with | .struct _ | .array _ _ => true | _ => false) = true) (hi : (P.info? ty).map (·.size) = some cs.size) :
    (results fn tmps).run P w = .ok (.tuple #[.agg cs, tmps.getD u undef]) w := by
  rw [results_cell_tmp h, hp]
  simp [asAddr, run_loadVar_row w g t ty cs fr d hg hu hd hi, Result.andThen]
/-- A transaction, or zero. -/
def txGet (o : Option (Int × Int × Int)) : Int × Int × Int := o.getD (0, 0, 0)
/-- What ReadTxn's closure leaves. -/
def RdTx (t : ByteArray) (w : World) (z : Nat) (V : World) : Prop := (z = if (txnR t).isSome then 0 else 7) ∧ XAt V (w.heap.size + 2) (txGet (txnR t)).1 (txGet (txnR t)).2.1 (txGet (txnR t)).2.2 ∧ XAt V (w.heap.size + 1) 0 0 0 ∧ Below w.heap.size w V
set_option maxHeartbeats 4000000 in
set_option maxRecDepth 100000 in
theorem readtxn1_any (t : ByteArray) (ht : t.size ≤ 281474976710656) (w W : World) (hb : Boxed W w.heap.size 9 (.string t)) (h1 : XAt W (w.heap.size + 1) 0 0 0) (h2 : XAt W (w.heap.size + 2) 0 0 0) (h3 : Boxed W (w.heap.size + 3) 29 (.int .i64 0)) (hB : Below w.heap.size w W) :
    Calls Tryz.prog 83 #[ptr12 w.heap.size, ptr12 (w.heap.size + 2)] W (DonePost (w.heap.size + 3) (RdTx t w)) := by
  have HT := fun V => txn12_any t ht V
  have hg : ∀ z V, RdTx t w z V ↔ (z = if (txnR t).isSome then 0 else 7) ∧ XAt V (w.heap.size + 2) (txGet (txnR t)).1 (txGet (txnR t)).2.1 (txGet (txnR t)).2.2 ∧ XAt V (w.heap.size + 1) 0 0 0 ∧ Below w.heap.size w V := fun _ _ => Iff.rfl
  have c0 := hb.cell
  have H3L : w.heap.size + 3 < W.heap.size := (Array.getElem?_eq_some_iff.1 h3).1
  have HB3 := Lib.hid h3
  have HX1 := Lib.hid h1
  have HX2 := Lib.hid h2
  have HBB := Lib.hid hB
  clear h1 h2 hB h3 hb
  cases hr : txnR t with
  | none =>
    rw [hr] at HT hg
    simp only [Out12] at HT
    have HT := Lib.hid HT
    have HG := Lib.hid hg
    clear hg
    go_enter Tryz.func83, Tryz.ntmps83
    go_wp2_with (first | (go_at_call 84; refine (HT.out _).mono ?_; rintro e1 V ⟨rfl, b1⟩) | fail)
    exact ⟨by first | rfl | trivial, (b1.block _ H3L).trans HB3.out, .inr ⟨7, rfl, (HG.out _ _).2 ⟨rfl, HX2.out.below b1, HX1.out.below b1, below_step HBB.out b1⟩⟩⟩
  | some r =>
    obtain ⟨c, e, q⟩ := r
    rw [hr] at HT hg
    simp only [Out12] at HT
    have HT := Lib.hid HT
    have HG := Lib.hid hg
    clear hg
    go_enter Tryz.func83, Tryz.ntmps83
    go_wp2_with (first | (go_at_call 84; refine (HT.out _).mono ?_; rintro e1 V ⟨rfl, b1⟩) | (refine wpList_store_row rfl 23 _ _ rfl (w.heap.size + 2) #[.int .i64 c, .int .i64 e, .int .i64 q] rfl rfl 23 #[.int .i64 0, .int .i64 0, .int .i64 0] (HX2.out.below b1) (tx_info _ _ _) rfl (tx_one _ _ _) ?_) | fail)
    go_end0
    have tr := turn_row V (w.heap.size + 2) #[.int .i64 c, .int .i64 e, .int .i64 q]
    have hlt := b1.size
    exact ⟨(tr.block _ (by omega) (by omega)).trans ((b1.block _ H3L).trans HB3.out), .inl ⟨rfl, (HG.out _ _).2 ⟨rfl, (HX2.out.below b1).row c e q, (HX1.out.below b1).turn tr (by omega), (below_step HBB.out b1).trans (turn_to tr (fun b e => by omega) (by omega))⟩⟩⟩
theorem call_readtxn1 (args : Array Value) (V : World) : (callFunc 83 args).run Tryz.prog V = .ok (.enter 83 args) V := by kernel_rfl
set_option maxHeartbeats 4000000 in
set_option maxRecDepth 100000 in
theorem readtxn12_any (t : ByteArray) (ht : t.size ≤ 281474976710656) (w : World) : Calls Tryz.prog 45 #[.string t] w fun e w' => e = .returned (.tuple #[txV (txGet (txnR t)), .bool (txnR t).isSome]) ∧ Below w.heap.size w w' := by
  obtain ⟨W0, hW0⟩ : ∃ V, V = ((w.alloc (.cells #[.string t] 9)).alloc (.cells #[.int .i64 0, .int .i64 0, .int .i64 0] 23)).alloc (.cells #[.int .i64 0, .int .i64 0, .int .i64 0] 23) := ⟨_, rfl⟩
  have sz : W0.heap.size = w.heap.size + 3 := by rw [hW0]; simp
  have hb : Boxed W0 w.heap.size 9 (.string t) := by rw [hW0]; exact ((Boxed.new w _ _).alloc _).alloc _
  have h1 : XAt W0 (w.heap.size + 1) 0 0 0 := by
    rw [hW0]
    have := (xat_new (w.alloc (.cells #[.string t] 9)) 0 0 0).below ((Below.refl _ _).alloc (Nat.le_refl _) (.cells #[.int .i64 0, .int .i64 0, .int .i64 0] 23))
    rwa [World.size_alloc] at this
  have h2 : XAt W0 (w.heap.size + 2) 0 0 0 := by
    rw [hW0]
    have := xat_new ((w.alloc (.cells #[.string t] 9)).alloc (.cells #[.int .i64 0, .int .i64 0, .int .i64 0] 23)) 0 0 0
    rwa [World.size_alloc, World.size_alloc] at this
  have B0 : Below w.heap.size w W0 := by rw [hW0]; exact (((Below.refl _ w).alloc (Nat.le_refl _) _).alloc (by simp) _).alloc (by simp; omega) _
  have ba := (Below.refl W0.heap.size W0).alloc (Nat.le_refl _) (.cells #[.int .i64 0] 29)
  have h3 : Boxed (W0.alloc (.cells #[.int .i64 0] 29)) (w.heap.size + 3) 29 (.int .i64 0) := by rw [← sz]; exact Boxed.new _ _ _
  have HC := caught_any 83 #[ptr12 w.heap.size, ptr12 (w.heap.size + 2)] call_readtxn1 W0 (RdTx t w) (by
    rw [sz]
    exact readtxn1_any t ht w _ ((ba.block _ (by omega)).trans hb) (h1.below ba) (h2.below ba) h3 (below_step B0 ba))
  rw [sz] at HC
  have HC2 : Calls Tryz.prog 67 #[.func (.func 83) #[] #[ptr12 w.heap.size, ptr12 (w.heap.size + 1 + 1)]] W0 (fun e V => e = .returned (.int .i64 ((if (txnR t).isSome then 0 else 7 : Nat) : Int)) ∧ XAt V (w.heap.size + 1 + 1) (txGet (txnR t)).1 (txGet (txnR t)).2.1 (txGet (txnR t)).2.2 ∧ XAt V (w.heap.size + 1) 0 0 0 ∧ Below w.heap.size w V) := by
    refine HC.mono ?_
    rintro e V ⟨z, V1, rfl, ⟨rfl, x2, x1, bV⟩, rfl⟩
    have tc := turn_cell V1 (w.heap.size + 3) 0 (.int .i64 ((if (txnR t).isSome then 0 else 7 : Nat) : Int))
    exact ⟨rfl, x2.turn tc (by omega), x1.turn tc (by omega), bV.trans (turn_to tc (fun b e => by omega) bV.size)⟩
  clear HC
  generalize (txnR t).isSome = ok at *
  generalize txGet (txnR t) = r at *
  obtain ⟨c, e, q⟩ := r
  dsimp only at HC2
  have HW0 := Lib.hid hW0
  clear hW0 sz hb h1 h2 B0 ba h3
  cases ok
  · have HC := Lib.hid HC2
    clear HC2
    go_enter Tryz.func45, Tryz.ntmps45
    go_wp2_with (first | (go_at_call 67; rw [← HW0.out]; refine HC.out.mono ?_; rintro e1 V ⟨rfl, x2, x1, bV⟩; obtain ⟨c0, c1, c2, -⟩ := x2.cells) | (refine wpList_store_row rfl 23 _ _ rfl (w.heap.size + 1) #[.int .i64 c, .int .i64 e, .int .i64 q] rfl rfl 23 #[.int .i64 0, .int .i64 0, .int .i64 0] x1 (tx_info _ _ _) rfl (tx_one _ _ _) ?_) | fail)
    refine bodyPost_ret (results_row_tmp (fn := Tryz.f45) (p := 2) (u := 3) (ty := 23) rfl _ _ (w.heap.size + 1) 23 #[.int .i64 c, .int .i64 e, .int .i64 q] (0, 0) _ rfl (x1.row c e q) Tryz.underlying23 rfl (tx_info _ _ _)) rfl ?_
    exact ⟨rfl, bV.trans (turn_to (turn_row V (w.heap.size + 1) _) (fun b e => by omega) bV.size)⟩
  · have HC := Lib.hid HC2
    clear HC2
    go_enter Tryz.func45, Tryz.ntmps45
    go_wp2_with (first | (go_at_call 67; rw [← HW0.out]; refine HC.out.mono ?_; rintro e1 V ⟨rfl, x2, x1, bV⟩; obtain ⟨c0, c1, c2, -⟩ := x2.cells) | (refine wpList_store_row rfl 23 _ _ rfl (w.heap.size + 1) #[.int .i64 c, .int .i64 e, .int .i64 q] rfl rfl 23 #[.int .i64 0, .int .i64 0, .int .i64 0] x1 (tx_info _ _ _) rfl (tx_one _ _ _) ?_) | fail)
    refine bodyPost_ret (results_row_tmp (fn := Tryz.f45) (p := 2) (u := 3) (ty := 23) rfl _ _ (w.heap.size + 1) 23 #[.int .i64 c, .int .i64 e, .int .i64 q] (0, 0) _ rfl (x1.row c e q) Tryz.underlying23 rfl (tx_info _ _ _)) rfl ?_
    exact ⟨rfl, bV.trans (turn_to (turn_row V (w.heap.size + 1) _) (fun b e => by omega) bV.size)⟩
end Go.Proofs.YtbdlegjklfkdmaaGreatDoor.Pl

namespace Go.Proofs.YtbdlegjklfkdmaaGreatDoor.Pl
open Go.RowKit

structure Bt where
  c : Int
  e : Int
  q : Int
  aud : Int
  mem : List Mb
  org : Int
/-- Where a member stands in a row. -/
def placeP (o : Int) : List Mb → Option Nat
  | [] => none
  | m :: r => if m.1 = o then some 0 else (placeP o r).map (· + 1)
def mayBt (b : Bt) : Bool := mayX b.c b.e b.q && (orgP b.aud && (mayL b.c b.mem && (placeP b.org b.mem).isSome))
def ballotW : List UInt8 := [98, 97, 108, 108, 111, 116]
def bodyL (b : Bt) : List (List UInt8) := [(dataP ballotW).1, txnT b.c b.e b.q, (numP b.aud).1, (membersT b.mem).1, (numP b.org).1]
def bodyP (b : Bt) : List UInt8 × Nat := if mayBt b = false then ([], 2) else if (membersT b.mem).2 ≠ 0 then ([], 5) else rowP (bodyL b)
def zeroBt : Bt := ⟨0, 0, 0, 0, [], 0⟩
noncomputable def candBt (p1 p2 p3 p4 : ByteArray) : Bt :=
  ⟨(txGet (txnR p1)).1, (txGet (txnR p1)).2.1, (txGet (txnR p1)).2.2, (rdN p2).getD 0, (membersR (txGet (txnR p1)).1 p3).getD [], (rdN p4).getD 0⟩
noncomputable def readBt (t : ByteArray) : Option Bt :=
  match partsB t with
  | [_, p1, p2, p3, p4] => @ite _ (kindP (bl t) = 3 ∧ bodyP (candBt p1 p2 p3 p4) = (bl t, 0)) (Classical.propDecidable _) (some (candBt p1 p2 p3 p4)) none
  | _ => none
def digestP (b : Bt) : ByteArray := if mayBt b = true then (match placeP b.org b.mem with | some i => (b.mem.getD i (0, ByteArray.empty)).2 | none => ⟨#[]⟩) else ⟨#[]⟩
theorem place_at {o : Int} : ∀ {l : List Mb} {i : Nat}, placeP o l = some i → ∃ h : i < l.length, l[i].1 = o ∧ ∀ j (hj : j < i), (l[j]'(Nat.lt_trans hj h)).1 ≠ o
  | [], _, h => by cases h
  | m :: r, i, h => by
    unfold placeP at h
    split at h
    · rename_i e
      cases h
      exact ⟨Nat.zero_lt_succ _, e, fun j hj => absurd hj (Nat.not_lt_zero _)⟩
    · rename_i e
      cases k : placeP o r with
      | none => rw [k] at h; cases h
      | some n =>
        rw [k] at h
        obtain rfl : n + 1 = i := Option.some.inj h
        obtain ⟨hn, e1, e2⟩ := place_at k
        refine ⟨Nat.succ_lt_succ hn, e1, fun j hj => ?_⟩
        cases j with
        | zero => exact e
        | succ j => exact e2 j (Nat.lt_of_succ_lt_succ hj)
theorem mayBt_iff {b : Bt} : mayBt b = true ↔ mayX b.c b.e b.q = true ∧ orgP b.aud = true ∧ mayL b.c b.mem = true ∧ ∃ i, placeP b.org b.mem = some i := by
  unfold mayBt
  simp only [Bool.and_eq_true, Option.isSome_iff_exists]
theorem mayBt_org {b : Bt} (h : mayBt b = true) : orgP b.org = true := by
  obtain ⟨_, _, hl, i, hi⟩ := mayBt_iff.1 h
  obtain ⟨hlt, e, _⟩ := place_at hi
  have := (mayMs_all (mayL_iff.1 hl).2.2 _ (List.getElem_mem hlt)).1
  rwa [e] at this
theorem body_row {b : Bt} {s : List UInt8} (h : bodyP b = (s, 0)) : mayBt b = true ∧ (membersT b.mem).2 = 0 ∧ rowP (bodyL b) = (s, 0) := by
  unfold bodyP at h
  split at h
  · cases h
  · rename_i h1
    split at h
    · cases h
    · rename_i h2
      refine ⟨?_, ?_, h⟩
      · cases k : mayBt b with
        | true => rfl
        | false => exact absurd k h1
      · apply Classical.byContradiction
        exact h2
/-- What is read of a body is the ballot. -/
theorem body_parts {b : Bt} {s : List UInt8} (h : bodyP b = (s, 0)) : kindP s = 3 ∧ partsB (tb s) = (bodyL b).map tb ∧ candBt (tb (txnT b.c b.e b.q)) (tb (numP b.aud).1) (tb (membersT b.mem).1) (tb (numP b.org).1) = b := by
  obtain ⟨hm, h5, hr⟩ := body_row h
  obtain ⟨hx, ho, hl, _⟩ := mayBt_iff.1 hm
  obtain ⟨k1, k2, _⟩ := row_read (by unfold bodyL; simp) hr
  refine ⟨k1, by unfold partsB; rw [bl_tb, k2], ?_⟩
  have ha := orgP_iff.1 ho
  have hg := orgP_iff.1 (mayBt_org hm)
  unfold candBt
  rw [txnR_ok hx, (rdN_num ha.1 (by omega)).1, (rdN_num hg.1 (by omega)).1]
  show (⟨b.c, b.e, b.q, b.aud, (membersR b.c (tb (membersT b.mem).1)).getD [], b.org⟩ : Bt) = b
  rw [membersR_ok hl h5]
  rfl
theorem body_read {b : Bt} {s : List UInt8} (h : bodyP b = (s, 0)) : readBt (tb s) = some b := by
  obtain ⟨k1, k2, k3⟩ := body_parts h
  unfold readBt
  rw [k2]
  show @ite _ (kindP (bl (tb s)) = 3 ∧ bodyP (candBt (tb (txnT b.c b.e b.q)) (tb (numP b.aud).1) (tb (membersT b.mem).1) (tb (numP b.org).1)) = (bl (tb s), 0)) (Classical.propDecidable _) (some (candBt (tb (txnT b.c b.e b.q)) (tb (numP b.aud).1) (tb (membersT b.mem).1) (tb (numP b.org).1))) none = some b
  rw [k3]
  exact if_pos ⟨k1, h⟩
theorem read_body {t : ByteArray} {b : Bt} (h : readBt t = some b) : bodyP b = (bl t, 0) ∧ mayBt b = true := by
  unfold readBt at h
  split at h
  · split at h
    · rename_i k
      obtain rfl := Option.some.inj h
      exact ⟨k.2, (body_row k.2).1⟩
    · cases h
  · cases h
end Go.Proofs.YtbdlegjklfkdmaaGreatDoor.Pl

namespace Go.Proofs.YtbdlegjklfkdmaaGreatDoor.Pl
open Go.RowKit

/-- The receiver of suites of terms. -/
def symV : Value := .agg #[]

set_option maxRecDepth 100000 in
theorem skey8_any (c : Cry) (m : List UInt8) (n : ByteArray) (hn : n.size ≤ 20000) (w : World) :
    Calls Tryz.prog 185 #[symV, .string n] w fun e w' => e = .returned (st2 (keyP c true m (bl n))) ∧ Below w.heap.size w w' := by
  have H := Lib.hid (fun V => atom6_any n (by omega) V)
  have B0 := Lib.hid ((Below.refl w.heap.size w).alloc (Nat.le_refl _) (.cells #[] 84))
  rw [key8_terms]
  generalize atomP (bl n) = R at *
  obtain ⟨r, x⟩ := R
  unfold st2 at H ⊢
  dsimp only at H ⊢
  clear hn
  unfold symV
  go_enter Tryz.func185, Tryz.ntmps185
  go_wp2_with fail
  refine (H.out _).mono ?_; rintro e w1 ⟨rfl, b1⟩
  have B1 := Lib.hid (below_step B0.out b1)
  clear b1
  go_wp2_with fail
  go_ret2
  exact ⟨rfl, B1.out⟩

set_option maxRecDepth 100000 in
theorem smac8_any (c : Cry) (k t : ByteArray) (hk : k.size ≤ 20000) (ht : t.size ≤ 20000) (w : World) :
    Calls Tryz.prog 186 #[symV, .string k, .string t] w fun e w' => e = .returned (st2 (mac8P c true (bl k) (bl t))) ∧ Below w.heap.size w w' := by
  have H := Lib.hid (fun V => mac6_any k t (by omega) (by omega) V)
  have B0 := Lib.hid ((Below.refl w.heap.size w).alloc (Nat.le_refl _) (.cells #[] 84))
  rw [mac8_terms]
  generalize madeP [109] [bl k, bl t] = R at *
  obtain ⟨r, x⟩ := R
  unfold st2 at H ⊢
  dsimp only at H ⊢
  clear hk ht
  unfold symV
  go_enter Tryz.func186, Tryz.ntmps186
  go_wp2_with fail
  refine (H.out _).mono ?_; rintro e w1 ⟨rfl, b1⟩
  have B1 := Lib.hid (below_step B0.out b1)
  clear b1
  go_wp2_with fail
  go_ret2
  exact ⟨rfl, B1.out⟩

end Go.Proofs.YtbdlegjklfkdmaaGreatDoor.Pl
