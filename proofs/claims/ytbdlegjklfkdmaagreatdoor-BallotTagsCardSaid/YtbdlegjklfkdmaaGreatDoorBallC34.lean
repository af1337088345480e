/- What has turned of the memory; a row's rest as a slice. A map whose values are kept as they are: what it holds; looked up, and stored to. Wire's need and caught: what is thrown is caught, and handed back as a number. Whether an organisation, a term, a transaction may be. Whether members may be. How wire reads a row's parts one by one. How wire reads a row, by what reads its parts. What wire reads as a transaction. ReadTxn of wire. Ballots as terms, over plain bytes: which may be, what their bodies are, what is read. A row of members that the call owns; append of members to it. How wire reads the fields of a message: a decision; a vote. How wire reads the fields of a message: what is asked. append of texts to a row that the call owns; numbers and Txn of wire. Txn of wire; the parts of a transaction, and of a decision. The parts of a decision, and of a vote; what a message's term is made by. Whose ballot it is: the members that are gone over, and the one that is found; mathematics. What the suite's own isTerm and datum answer, and what suites of terms make and open. -/
import Derived.Test.YtbdlegjklfkdmaaGreatDoorBallC15
import Derived.Test.YtbdlegjklfkdmaaGreatDoorBallC33
import Derived.Laws.OwnMore
import Derived.Laws.Slices
import Derived.Laws.AppendOwnNone
import Derived.Maps.RangeWalk
import Derived.Maps.OwnSet
import Derived.DefersIn
import Derived.RecoverIn
import Derived.Recover
import Derived.WalkLawsBesides
import Derived.Laws.Rows
import Derived.Laws.Tables
import Derived.Deep.RegionHeld3
import Derived.Laws.ResultCell
import Derived.Test.YtbdlegjklfkdmaaGreatDoorBallC30
import Derived.Test.YtbdlegjklfkdmaaGreatDoorBallC32
import Derived.Test.YtbdlegjklfkdmaaGreatDoorBallC28
namespace Go.Proofs.YtbdlegjklfkdmaaGreatDoor.Pl
open Go.RowKit

/-- What has turned: what is in F alone. -/
structure Turn (F : Nat → Prop) (w w' : World) : Prop where
  os : w'.os = w.os
  tape : w'.tape = w.tape
  output : w'.output = w.output
  size : w.heap.size ≤ w'.heap.size
  block : ∀ k, k < w.heap.size → ¬ F k → w'.heap[k]? = w.heap[k]?
theorem turn_to {F : Nat → Prop} {B : Nat} {w w' : World} (h : Turn F w w') (hF : ∀ b, F b → B ≤ b) (hB : B ≤ w.heap.size) : Below B w w' :=
  ⟨h.os, h.tape, h.output, h.size, fun k hk => h.block k (Nat.lt_of_lt_of_le hk hB) (fun e => by have := hF k e; omega)⟩
theorem txt_block {w w' : World} {ao : Option Addr} {l : List ByteArray} (h : TxtRow w ao l) (hs : w.heap.size ≤ w'.heap.size) (hb : ∀ b off, ao = some ⟨b, off, none⟩ → w'.heap[b]? = w.heap[b]?) : TxtRow w' ao l := by
  rcases h with h | ⟨b, off, e, hlt, hc⟩
  · exact .inl h
  · exact .inr ⟨b, off, e, Nat.lt_of_lt_of_le hlt hs, fun j hj => (World.cell?_of_block (a := ⟨b, off + j, none⟩) (hb b off e)).trans (hc j hj)⟩
end Go.Proofs.YtbdlegjklfkdmaaGreatDoor.Pl

namespace Go.Proofs.YtbdlegjklfkdmaaGreatDoor.Pl
open Go.RowKit Go.Maps
open Go.WideElems (rg)

abbrev valE (v : Value) : Option (DataW Value × List MemPlace) := some (.held v, [])
/-- Block m is a map of just these keys, each with its value. -/
def MapV (w : World) (k : TypeId) (m : Nat) (X : List (Lit × Value)) : Prop := ∃ D : DataW Value, w.ownsMap Tryz.prog k valE m X.length D ∧ Maps.size D = X.length ∧ (∀ s, s ∉ X.map Prod.fst → Maps.has D s = false ∧ ∀ z, D.atKey s z = z) ∧ ∀ p ∈ X, Maps.has D p.1 = true ∧ ∀ z, D.atKey p.1 z = .held p.2
theorem MapV.of_block {w w' : World} {k : TypeId} {m : Nat} {X : List (Lit × Value)} (h : MapV w k m X) (hb : w'.heap[m]? = w.heap[m]?) : MapV w' k m X := by
  obtain ⟨D, ⟨es, clock, h1, h2⟩, h3⟩ := h
  exact ⟨D, ⟨es, clock, hb.trans h1, h2⟩, h3⟩
theorem MapV.lt {w : World} {k : TypeId} {m : Nat} {X : List (Lit × Value)} (h : MapV w k m X) : m < w.heap.size := by
  obtain ⟨D, h1, _⟩ := h
  exact h1.lt
theorem MapV.below {w w' : World} {k : TypeId} {m : Nat} {X : List (Lit × Value)} (h : MapV w k m X) (hb : Below w.heap.size w w') : MapV w' k m X := h.of_block (hb.block m h.lt)
theorem MapV.ex {w : World} {k : TypeId} {m : Nat} {X : List (Lit × Value)} (h : MapV w k m X) : ∃ es clock, w.heap[m]? = some (.map es clock) := by
  obtain ⟨D, ⟨es, clock, h1, _⟩, _⟩ := h
  exact ⟨es, clock, h1⟩
theorem tightV {w : World} {k : TypeId} {m n : Nat} {D : DataW Value} (h : w.ownsMap Tryz.prog k valE m n D) : w.ownsMap Tryz.prog k valE m (Maps.size D) D := by
  obtain ⟨es, clock, hb, F, _, rfl⟩ := h
  exact ⟨es, clock, hb, F, by simp [Maps.size, length_sorted], rfl⟩
theorem MapV.store {w : World} {k t e : TypeId} {m : Nat} {X : List (Lit × Value)} (h : MapV w k m X) (hX : X.length ≤ 1000000000) (K : Keyed Tryz.prog k) (ht : Tryz.prog.underlying t = some (.map k e)) (key val : Value) (kl : Lit) (hkey : keyOf Tryz.prog k key = some kl) (hl : WideAt.IsKeyLit kl) (hn : kl ∉ X.map Prod.fst) :
    ∃ w', (Instr.mapUpdate t (.map (some m)) key val).run Tryz.prog w = .ok () w' ∧ MapV w' k m (X ++ [(kl, val)]) ∧ w.mapTurned w' m := by
  obtain ⟨D, h1, h2, h3, h4⟩ := h
  obtain ⟨w', r1, r2, r3⟩ := h1.store (val := val) (d := .held val) (ps := []) K ht (by unfold maxLen; omega) hkey rfl
  have hD : Maps.size (D.put kl (.held val)) = (X ++ [(kl, val)]).length := by
    rw [size_put (h1.tidy K), (h3 kl hn).1, h2, List.length_append]
    rfl
  refine ⟨w', r1, ⟨_, ?_, hD, fun u hu => ?_, fun p hp => ?_⟩, r3⟩
  · rw [← hD]
    exact tightV r2
  · rw [List.map_append, List.mem_append, not_or] at hu
    have hne : u ≠ kl := fun e => hu.2 (by simp [e])
    exact ⟨by rw [has_put_other hne]; exact (h3 u hu.1).1, fun z => by rw [atKey_put_other hne]; exact (h3 u hu.1).2 z⟩
  · rcases List.mem_append.1 hp with hp | hp
    · have hne : p.1 ≠ kl := fun e => hn (e ▸ List.mem_map_of_mem hp)
      exact ⟨by rw [has_put_other hne]; exact (h4 p hp).1, fun z => by rw [atKey_put_other hne]; exact (h4 p hp).2 z⟩
    · rw [List.mem_singleton.1 hp]
      exact ⟨has_put_same h1.isMap hl _, fun z => atKey_put_same h1.isMap hl _ _⟩
section
variable {ops : Array Oper} {rest : List Oper} {o : Oper} {a : Act} {Q : Exit → Act → World → Prop} {w : World}
end
end Go.Proofs.YtbdlegjklfkdmaaGreatDoor.Pl

namespace Go.Proofs.YtbdlegjklfkdmaaGreatDoor.Pl
open Go.RowKit Go.Shelf
attribute [local go_sem] Oper.semAt_some

/-- What is thrown. -/
abbrev boom12 (c : Nat) : Ending := .panicked [{ v := .iface 29 (.int .i64 c), recovered := false }]
abbrev ptr12 (r : Nat) : Value := .pointer (some ⟨r, 0, none⟩)
theorem needw_ok (c : Nat) (w : World) : Calls Tryz.prog 110 #[.bool true, .int .i64 c] w fun x w' => x = .returned (.tuple #[]) ∧ w' = w := by
  go_enter Tryz.func110, Tryz.ntmps110
  go_wp2
  go_end0
  exact ⟨rfl, rfl⟩
theorem needw_bad (c : Nat) (w : World) : Calls Tryz.prog 110 #[.bool false, .int .i64 c] w fun x w' => x = boom12 c ∧ w' = w := by
  go_enter Tryz.func110, Tryz.ntmps110
  go_wp2
  exact ⟨rfl, rfl, rfl⟩
theorem assert12_none (w : World) : (Instr.typeAssert .nilIface 20 29 true).run Tryz.prog w = .ok (.tuple #[.int .i64 0, .bool false]) w := by kernel_rfl
theorem assert12_err (c : Nat) (w : World) : (Instr.typeAssert (.iface 29 (.int .i64 c)) 20 29 true).run Tryz.prog w = .ok (.tuple #[.int .i64 c, .bool true]) w := by kernel_rfl
theorem catch12_idle (b : Nat) (w : World) :
    CallsD Tryz.prog 109 #[ptr12 b] .returning w fun e u' w' => e = .returned (.tuple #[]) ∧ u' = .returning ∧ w' = w := by
  refine callsD_of_wpS Tryz.func109 rfl fun c₀ cs hu => ?_
  apply wpS_seq
  apply wpS_region
  simp [wpOpsS, go_sem, recoverD, hu, Tryz.ntmps109, Exit.thenS, assert12_none]
  apply wpS_seq
  apply wpS_region
  simp [wpOpsS, go_sem, Exit.thenS]
  refine wpS_cond (t := false) (by simp [Act.eval, Array.replicate]) ?_
  simp only [Bool.false_eq_true, if_false]
  refine wpS_of_wp (wp_skip ?_)
  cases c₀
  simp_all [bodyPostS, results, Tryz.results109]
set_option maxHeartbeats 4000000 in
set_option maxRecDepth 100000 in
theorem catch12_thrown (b z : Nat) (w : World) (u : Value) (hb : Boxed w b 29 u) :
    CallsD Tryz.prog 109 #[ptr12 b] (.panicking [{ v := .iface 29 (.int .i64 z), recovered := false }]) w fun e u' w' =>
      e = .returned (.tuple #[]) ∧ u' = .panicking [{ v := .iface 29 (.int .i64 z), recovered := true }] ∧ w' = w.setCell ⟨b, 0, none⟩ (.int .i64 z) := by
  have hb1 := hb.cell
  have hb2 := hb.frozen
  refine callsD_of_wpS Tryz.func109 rfl fun c₀ cs hu => ?_
  apply wpS_seq
  apply wpS_region
  simp [wpOpsS, go_sem, recoverD, hu, Tryz.ntmps109, Exit.thenS, assert12_err]
  apply wpS_seq
  apply wpS_region
  simp [wpOpsS, go_sem, Exit.thenS]
  refine wpS_cond (t := true) (by simp [Act.eval, Array.replicate]) ?_
  simp only [if_true]
  refine wpS_of_wp ?_
  go_wp2_with fail
  simp [bodyPostS, results, Tryz.results109, Array.replicate]
theorem caught_results (V : World) (n z : Nat) (tmps : Array Value) (h2 : tmps.getD 2 undef = ptr12 n) (b1 : Boxed V n 29 (.int .i64 z)) :
    (results Tryz.f67 tmps).run Tryz.prog V = .ok (.int .i64 z) V := by
  have c1 := b1.cell
  have h2' : tmps[2]?.getD undef = ptr12 n := by simpa using h2
  simp [results, Tryz.results67, go_sem, h2', c1, asAddr]
/-- What was done, or what was thrown. -/
def DonePost (n : Nat) (R : Nat → World → Prop) (e : Ending) (V : World) : Prop := Boxed V n 29 (.int .i64 0) ∧ ((e = .returned (.tuple #[]) ∧ R 0 V) ∨ ∃ z : Nat, e = boom12 z ∧ R z V)
set_option maxHeartbeats 4000000 in
set_option maxRecDepth 100000 in
theorem caught_any (fn : FuncId) (caps : Array Value) (hcf : ∀ (args : Array Value) (V : World), (callFunc fn args).run Tryz.prog V = .ok (.enter fn args) V) (w : World) (R : Nat → World → Prop)
    (h : Calls Tryz.prog fn caps (w.alloc (.cells #[.int .i64 0] 29)) (DonePost w.heap.size R)) :
    Calls Tryz.prog 67 #[.func (.func fn) #[] caps] w fun e w' => ∃ (z : Nat) (V : World), e = .returned (.int .i64 z) ∧ R z V ∧ w' = V.setCell ⟨w.heap.size, 0, none⟩ (.int .i64 z) := by
  have HH := Lib.hid h
  clear h
  go_enter_defers Tryz.func67, Tryz.ntmps67
  go_wp2_with fail
  refine HH.out.mono ?_
  rintro e V ⟨hbx, ⟨rfl, hR⟩ | ⟨z, rfl, hR⟩⟩
  · have c1 := hbx.cell
    have c2 := hbx.frozen
    have HR := Lib.hid hR
    have HB := Lib.hid hbx
    clear hR hbx
    go_wp2_with fail
    refine leaves_cons (f := 109) (args := #[ptr12 w.heap.size]) (by simp) (by simp [go_sem]) ?_
    refine (catch12_idle _ _).mono ?_
    rintro e u' v' ⟨rfl, rfl, rfl⟩
    exact ⟨_, caught_results _ w.heap.size 0 _ rfl (HB.out.set _), 0, V, rfl, HR.out, rfl⟩
  · have HR := Lib.hid hR
    have HB := Lib.hid hbx
    clear hR hbx
    go_wp2_with fail
    refine leaves_cons (f := 109) (args := #[ptr12 w.heap.size]) (by simp) (by simp [go_sem]) ?_
    refine (catch12_thrown _ z _ _ HB.out).mono ?_
    rintro e u' v' ⟨rfl, rfl, rfl⟩
    exact ⟨_, caught_results _ w.heap.size z _ rfl (HB.out.set _), z, V, rfl, HR.out, rfl⟩
end Go.Proofs.YtbdlegjklfkdmaaGreatDoor.Pl

namespace Go.Proofs.YtbdlegjklfkdmaaGreatDoor.Pl
open Go.RowKit

set_option maxHeartbeats 1000000 in
set_option maxRecDepth 100000 in
theorem isorg_any (v : Int) (w : World) : Calls Tryz.prog 107 #[.int .i64 v] w fun x w' => x = .returned (.bool (orgP v)) ∧ w' = w := by
  by_cases h1 : (0 : Int) ≤ v
  · by_cases h2 : v < 8
    · have hz : orgP v = true := orgP_iff.2 ⟨h1, h2⟩
      rw [hz]
      clear hz
      go_enter Tryz.func107, Tryz.ntmps107
      go_wp2
      go_ret
      exact ⟨rfl, rfl⟩
    · have hz : orgP v = false := by rw [← Bool.not_eq_true]; exact fun e => h2 (orgP_iff.1 e).2
      rw [hz]
      clear hz
      go_enter Tryz.func107, Tryz.ntmps107
      go_wp2
      go_ret
      exact ⟨rfl, rfl⟩
  · have hz : orgP v = false := by rw [← Bool.not_eq_true]; exact fun e => h1 (orgP_iff.1 e).1
    rw [hz]
    clear hz
    go_enter Tryz.func107, Tryz.ntmps107
    go_wp2
    go_ret
    exact ⟨rfl, rfl⟩
set_option maxHeartbeats 1000000 in
set_option maxRecDepth 100000 in
theorem isterm_any (s : ByteArray) (hs : s.size ≤ 281474976710656) (w : World) : Calls Tryz.prog 108 #[.string s] w fun x w' => x = .returned (.bool (termP s)) ∧ Below w.heap.size w w' := by
  have HC := Lib.hid (check_any s hs w)
  have q : (((checkP (bl s) : Nat) : Int) == 0) = termP s := by
    unfold termP
    by_cases h : checkP (bl s) = 0
    · rw [h]; rfl
    · rw [beq_eq_false_iff_ne.2 h]; exact beq_eq_false_iff_ne.2 (by omega)
  generalize termP s = z at *
  generalize checkP (bl s) = c at *
  go_enter Tryz.func108, Tryz.ntmps108
  go_wp2_with (refine HC.out.mono ?_; rintro e w1 ⟨rfl, b1⟩)
  go_ret
  exact ⟨rfl, b1⟩
set_option maxHeartbeats 1000000 in
set_option maxRecDepth 100000 in
theorem maytxn_any (c e q : Int) (w : World) : Calls Tryz.prog 71 #[.agg #[.int .i64 c, .int .i64 e, .int .i64 q]] w fun x w' => x = .returned (.bool (mayX c e q)) ∧ Below w.heap.size w w' := by
  have HO := Lib.hid (fun V => isorg_any c V)
  have hz : mayX c e q = (orgP c && decide (1 ≤ e) && decide (e ≤ 255) && decide (1 ≤ q) && decide (q ≤ 65535)) := rfl
  generalize mayX c e q = z at *
  generalize orgP c = oc at *
  have HZ := Lib.hid hz
  clear hz
  have B := Lib.hid ((Below.refl w.heap.size w).alloc (Nat.le_refl _) (.cells #[.int .i64 c, .int .i64 e, .int .i64 q] 23))
  cases oc with
  | false =>
    go_enter Tryz.func71, Tryz.ntmps71
    go_wp2_with (go_at_call 107; refine (HO.out _).mono ?_; rintro e w1 ⟨rfl, rfl⟩)
    go_ret
    exact ⟨by rw [HZ.out]; simp [], B.out⟩
  | true =>
    by_cases he1 : (1 : Int) ≤ e
    · by_cases he2 : e ≤ 255
      · by_cases hq1 : (1 : Int) ≤ q
        · by_cases hq2 : q ≤ 65535
          · go_enter Tryz.func71, Tryz.ntmps71
            go_wp2_with (go_at_call 107; refine (HO.out _).mono ?_; rintro e w1 ⟨rfl, rfl⟩)
            go_ret
            exact ⟨by rw [HZ.out]; simp [he1, he2, hq1, hq2], B.out⟩
          · go_enter Tryz.func71, Tryz.ntmps71
            go_wp2_with (go_at_call 107; refine (HO.out _).mono ?_; rintro e w1 ⟨rfl, rfl⟩)
            go_ret
            exact ⟨by rw [HZ.out]; simp [he1, he2, hq1] <;> omega, B.out⟩
        · go_enter Tryz.func71, Tryz.ntmps71
          go_wp2_with (go_at_call 107; refine (HO.out _).mono ?_; rintro e w1 ⟨rfl, rfl⟩)
          go_ret
          exact ⟨by rw [HZ.out]; simp [he1, he2] <;> omega, B.out⟩
      · go_enter Tryz.func71, Tryz.ntmps71
        go_wp2_with (go_at_call 107; refine (HO.out _).mono ?_; rintro e w1 ⟨rfl, rfl⟩)
        go_ret
        exact ⟨by rw [HZ.out]; simp [he1] <;> omega, B.out⟩
    · go_enter Tryz.func71, Tryz.ntmps71
      go_wp2_with (go_at_call 107; refine (HO.out _).mono ?_; rintro e w1 ⟨rfl, rfl⟩)
      go_ret
      exact ⟨by rw [HZ.out]; simp <;> omega, B.out⟩
/-- A row of members in memory. -/
def MemRow (w : World) (ao : Option Addr) (l : List Mb) : Prop := l = [] ∨ ∃ b off, ao = some ⟨b, off, none⟩ ∧ b < w.heap.size ∧ ∀ j, (hj : j < l.length) → w.cell? ⟨b, off + j * 2, none⟩ = some (.int .i64 l[j].1) ∧ w.cell? ⟨b, off + j * 2 + 1, none⟩ = some (.string l[j].2)
theorem MemRow.below {w w' : World} {ao : Option Addr} {l : List Mb} (h : MemRow w ao l) (hb : Below w.heap.size w w') : MemRow w' ao l := by
  rcases h with h | ⟨b, off, e, hlt, hc⟩
  · exact .inl h
  · exact .inr ⟨b, off, e, Nat.lt_of_lt_of_le hlt hb.size, fun j hj => ⟨(hb.cell (p := ⟨b, off + j * 2, none⟩) hlt).trans (hc j hj).1, (hb.cell (p := ⟨b, off + j * 2 + 1, none⟩) hlt).trans (hc j hj).2⟩⟩
/-- A new box, then stored to. -/
theorem row_box (wr : World) (cs ds : Array Value) (t : TypeId) : ∃ W2, W2 = (wr.alloc (.cells cs t)).setRow wr.heap.size ds ∧ (wr.alloc (.cells cs t)).heap[wr.heap.size]? = some (.cells cs t (0, 0)) ∧
    W2.heap[wr.heap.size]? = some (.cells ds t (0, 0)) ∧ Below wr.heap.size wr W2 ∧ W2.heap.size = wr.heap.size + 1 := by
  refine ⟨_, rfl, ?_⟩
  have a0 := Go.heap_alloc_new wr (.cells cs t)
  have h2 := (Below.refl wr.heap.size wr).alloc (Nat.le_refl _) (.cells cs t)
  exact ⟨a0, setRow_heap _ _ _ _ _ _ a0, ⟨h2.os, h2.tape, h2.output, by simp [World.setRow], fun k hk => (setRow_other _ _ _ _ (by omega)).trans (h2.block k hk)⟩, by simp [World.setRow]⟩
theorem mem_info (a b : Value) : (Tryz.prog.info? 51).map (·.size) = some (#[a, b].size) := by kernel_rfl
theorem mem_one (o : Int) (d : ByteArray) : (#[.int .i64 o, .string d] : Array Value).all (·.oneCell') = true := by simp [Value.oneCell']
end Go.Proofs.YtbdlegjklfkdmaaGreatDoor.Pl

namespace Go.Proofs.YtbdlegjklfkdmaaGreatDoor.Pl
open Go.RowKit

/-- The member before. -/
def lastM (l : List Mb) (j : Nat) : Int := if j = 0 then -1 else (l.getD (j - 1) (0, ByteArray.empty)).1
theorem lastM_succ (l : List Mb) (j : Nat) (hj : j < l.length) : lastM l (j + 1) = l[j].1 := by
  simp [lastM, List.getD_eq_getElem?_getD, hj]
set_option maxHeartbeats 4000000 in
set_option maxRecDepth 100000 in
theorem maymems_any (c e q : Int) (l : List Mb) (ao : Option Addr) (cap : Nat) (hs : ∀ m ∈ l, m.2.size ≤ 281474976710656) (hl : l.length ≤ 9223372036854775807) (w : World) (hrow : MemRow w ao l) :
    Calls Tryz.prog 66 #[.agg #[.int .i64 c, .int .i64 e, .int .i64 q], .slice ao l.length cap] w fun x w' => x = .returned (.bool (mayL c l)) ∧ Below w.heap.size w w' := by
  have HO := Lib.hid (fun v V => isorg_any v V)
  obtain ⟨z, hz⟩ : ∃ z, z = mayL c l := ⟨_, rfl⟩
  rw [← hz]
  obtain ⟨n, hn⟩ : ∃ n, n = l.length := ⟨_, rfl⟩
  rw [← hn]
  have HN := Lib.hid hn
  unfold mayL at hz
  rw [← hn] at hz hl
  have B := Lib.hid ((Below.refl w.heap.size w).alloc (Nat.le_refl _) (.cells #[.int .i64 c, .int .i64 e, .int .i64 q] 23))
  by_cases h1 : 1 ≤ n
  · by_cases h6 : n ≤ 6
    · have h1' : ¬ (n : Int) < 1 := by omega
      have h6' : ¬ (6 : Int) < (n : Int) := by omega
      rw [decide_eq_true h1, decide_eq_true h6, Bool.true_and, Bool.true_and] at hz
      have HZ := Lib.hid hz
      have HROW := Lib.hid (fun V (hV : Below w.heap.size w V) => hrow.below hV)
      have HS := Lib.hid hs
      have HC : (w.alloc (.cells #[.int .i64 c, .int .i64 e, .int .i64 q] 23)).cell? ⟨w.heap.size, 0, none⟩ = some (.int .i64 c) := cell_of_row _ _ _ _ _ _ (Go.heap_alloc_new _ _)
      obtain ⟨W0, hW0⟩ : ∃ V, V = w.alloc (.cells #[.int .i64 c, .int .i64 e, .int .i64 q] 23) := ⟨_, rfl⟩
      have SZ : Hid (W0.heap.size = w.heap.size + 1) := Lib.hid (by rw [hW0]; simp)
      have B0 : Hid (Below w.heap.size w W0) := Lib.hid (by rw [hW0]; exact B.out)
      rw [← hW0] at HC
      have HC := Lib.hid HC
      have HW0 := Lib.hid hW0
      clear hz hrow hs hn hW0 B
      go_enter Tryz.func66, Tryz.ntmps66
      go_wp2_with fail
      rw [← HW0.out]
      clear HW0
      go_loopw [18, 5] (fun iv lv wr => ∃ (j : Nat), iv = .int .i64 j ∧ lv = .int .i64 (lastM l j) ∧ j ≤ n ∧ Hid (z = mayMs c (lastM l j) (l.drop j)) ∧ Hid (Below W0.heap.size W0 wr)) (fun iv _ _ => n - (intOf iv).toNat)
      case atStart => exact ⟨0, rfl, rfl, Nat.zero_le _, Lib.hid HZ.out, Lib.hid (Below.refl _ _)⟩
      case round =>
        obtain ⟨j, rfl, rfl, hjn, hst, hb⟩ := hrel
        by_cases hj : j < n
        · have hj' : (j : Int) < (n : Int) := by omega
          have hjl : j < l.length := by rw [← HN.out]; exact hj
          rcases HROW.out _ (below_step B0.out hb.out) with e | ⟨b, off, rfl, hlt, hcs⟩
          · exfalso
            rw [e] at hjl
            exact absurd hjl (Nat.not_lt_zero _)
          obtain ⟨x0, x1⟩ := hcs j hjl
          have HT := Lib.hid (fun V => isterm_any l[j].2 (HS.out _ (List.getElem_mem hjl)) V)
          have hst2 : z = (mayM1 c (lastM l j) l[j] && mayMs c l[j].1 (l.drop (j + 1))) := by rw [hst.out, List.drop_eq_getElem_cons hjl, mayMs]
          have xc : wr.cell? ⟨w.heap.size, 0, none⟩ = some (.int .i64 c) := (hb.out.cell (p := ⟨w.heap.size, 0, none⟩) (by rw [SZ.out]; exact Nat.lt_succ_self _)).trans HC.out
          have HNX : Hid (lastM l (j + 1) = l[j].1) := Lib.hid (lastM_succ l j hjl)
          generalize hla : lastM l j = last at *
          generalize l[j] = m at *
          obtain ⟨o, d⟩ := m
          dsimp only at *
          unfold mayM1 at hst2
          dsimp only at hst2
          obtain ⟨W2, hW2, n0, k2, b2, s2⟩ := row_box wr #[.int .i64 0, .string ⟨#[]⟩] #[.int .i64 o, .string d] 51
          have c0 : W2.cell? ⟨wr.heap.size, 0, none⟩ = some (.int .i64 o) := cell_of_row _ _ _ _ _ _ k2
          have c1 : W2.cell? ⟨wr.heap.size, 1, none⟩ = some (.string d) := cell_of_row _ _ _ _ _ _ k2
          have xc2 : W2.cell? ⟨w.heap.size, 0, none⟩ = some (.int .i64 c) := (b2.cell (p := ⟨w.heap.size, 0, none⟩) (by have := hb.out.size; have := SZ.out; show w.heap.size < wr.heap.size; omega)).trans xc
          have N0 := Lib.hid n0
          have HW2 := Lib.hid hW2
          have HST := Lib.hid hst2
          have HB2 : Hid (Below W0.heap.size W0 W2) := Lib.hid (below_step hb.out b2)
          have BW : Hid (Below w.heap.size w W2) := Lib.hid (below_step (below_step B0.out hb.out) b2)
          have SZ3 : Hid (w.heap.size ≤ W2.heap.size) := Lib.hid BW.out.size
          have HHB := hb
          have C0 : Hid (∀ V, Below W2.heap.size W2 V → V.cell? ⟨wr.heap.size, 0, none⟩ = some (.int .i64 o)) := Lib.hid (fun V hV => (hV.cell (p := ⟨wr.heap.size, 0, none⟩) (by rw [s2]; exact Nat.lt_succ_self _)).trans c0)
          clear hst hst2 hb hcs hlt n0 hW2 k2 b2 s2 hjl xc
          generalize hoo : orgP o = oo at *
          cases oo with
          | false =>
            go_wp2_with (first | (refine wpList_store_row rfl 51 _ _ rfl wr.heap.size #[.int .i64 o, .string d] rfl rfl 51 #[.int .i64 0, .string ⟨#[]⟩] N0.out (mem_info _ _) rfl (mem_one _ _) ?_; rw [← HW2.out]) | (go_at_call 107; refine (HO.out _ _).mono ?_; rintro e w1 ⟨rfl, h2⟩; rw [h2]; clear h2 w1) | (go_at_call 108; refine (HT.out _).mono ?_; rintro e w3 ⟨rfl, b3⟩) | fail)
            go_ret
            exact ⟨by rw [HST.out]; simp, BW.out⟩
          | true =>
            by_cases hoc : o = c
            · subst hoc
              go_wp2_with (first | (refine wpList_store_row rfl 51 _ _ rfl wr.heap.size #[.int .i64 o, .string d] rfl rfl 51 #[.int .i64 0, .string ⟨#[]⟩] N0.out (mem_info _ _) rfl (mem_one _ _) ?_; rw [← HW2.out]) | (go_at_call 107; refine (HO.out _ _).mono ?_; rintro e w1 ⟨rfl, h2⟩; rw [h2]; clear h2 w1) | (go_at_call 108; refine (HT.out _).mono ?_; rintro e w3 ⟨rfl, b3⟩) | fail)
              go_ret
              exact ⟨by rw [HST.out]; simp, BW.out⟩
            · have hoc' : (o == c) = false := beq_eq_false_iff_ne.2 hoc
              by_cases hlo : last < o
              · have hlo' : ¬ o ≤ last := by omega
                generalize termP d = td at *
                cases td with
                | false =>
                  go_wp2_with (first | (refine wpList_store_row rfl 51 _ _ rfl wr.heap.size #[.int .i64 o, .string d] rfl rfl 51 #[.int .i64 0, .string ⟨#[]⟩] N0.out (mem_info _ _) rfl (mem_one _ _) ?_; rw [← HW2.out]) | (go_at_call 107; refine (HO.out _ _).mono ?_; rintro e w1 ⟨rfl, h2⟩; rw [h2]; clear h2 w1) | (go_at_call 108; refine (HT.out _).mono ?_; rintro e w3 ⟨rfl, b3⟩) | fail)
                  go_ret
                  exact ⟨by rw [HST.out]; simp, below_step BW.out b3⟩
                | true =>
                  go_wp2_with (first | (refine wpList_store_row rfl 51 _ _ rfl wr.heap.size #[.int .i64 o, .string d] rfl rfl 51 #[.int .i64 0, .string ⟨#[]⟩] N0.out (mem_info _ _) rfl (mem_one _ _) ?_; rw [← HW2.out]) | (go_at_call 107; refine (HO.out _ _).mono ?_; rintro e w1 ⟨rfl, h2⟩; rw [h2]; clear h2 w1) | (go_at_call 108; refine (HT.out _).mono ?_; rintro e w3 ⟨rfl, b3⟩; have c3 := C0.out _ b3) | fail)
                  go_roundw
                  case rel => exact ⟨j + 1, by go_num, by rw [HNX.out], by omega, Lib.hid (by rw [HST.out, HNX.out]; simp [hoc', hlo]), Lib.hid (below_step HB2.out b3)⟩
                  case measure => simp [intOf]; omega
              · have hlo' : o ≤ last := by omega
                go_wp2_with (first | (refine wpList_store_row rfl 51 _ _ rfl wr.heap.size #[.int .i64 o, .string d] rfl rfl 51 #[.int .i64 0, .string ⟨#[]⟩] N0.out (mem_info _ _) rfl (mem_one _ _) ?_; rw [← HW2.out]) | (go_at_call 107; refine (HO.out _ _).mono ?_; rintro e w1 ⟨rfl, h2⟩; rw [h2]; clear h2 w1) | (go_at_call 108; refine (HT.out _).mono ?_; rintro e w3 ⟨rfl, b3⟩) | fail)
                go_ret
                exact ⟨by rw [HST.out]; simp; intros; omega, BW.out⟩
        · obtain rfl : j = n := by omega
          have HE : Hid (z = true) := Lib.hid (by rw [hst.out, HN.out, List.drop_length]; rfl)
          have BW : Hid (Below w.heap.size w wr) := Lib.hid (below_step B0.out hb.out)
          clear hst hb
          go_wp2_with fail
          go_ret
          exact ⟨by rw [HE.out]; rfl, BW.out⟩
    · have h1' : ¬ (n : Int) < 1 := by omega
      have h6' : (6 : Int) < (n : Int) := by omega
      rw [decide_eq_false h6, Bool.and_false, Bool.false_and] at hz
      subst hz
      clear hrow hs
      go_enter Tryz.func66, Tryz.ntmps66
      go_wp2_with fail
      go_ret
      exact ⟨rfl, B.out⟩
  · have h1' : (n : Int) < 1 := by omega
    rw [decide_eq_false h1, Bool.false_and, Bool.false_and] at hz
    subst hz
    clear hrow hs
    go_enter Tryz.func66, Tryz.ntmps66
    go_wp2_with fail
    go_ret
    exact ⟨rfl, B.out⟩
end Go.Proofs.YtbdlegjklfkdmaaGreatDoor.Pl

namespace Go.Proofs.YtbdlegjklfkdmaaGreatDoor.Pl
open Go.RowKit

theorem made12_ok (t : ByteArray) (w : World) : Calls Tryz.prog 69 #[.string t, .int .i64 0] w fun x w' => x = .returned (.string t) ∧ w' = w := by
  go_enter Tryz.func69, Tryz.ntmps69
  go_wp2_with (go_at_call 110; refine (needw_ok 5 _).mono ?_; rintro e w2 ⟨rfl, rfl⟩)
  go_ret
  exact ⟨rfl, rfl⟩
theorem made12_bad (t : ByteArray) (c : Nat) (hc : c ≠ 0) (w : World) : Calls Tryz.prog 69 #[.string t, .int .i64 c] w fun x w' => x = boom12 5 ∧ w' = w := by
  have hz : ((c : Int) == 0) = false := by rw [beq_eq_false_iff_ne]; omega
  go_enter Tryz.func69, Tryz.ntmps69
  go_wp2_with (go_at_call 110; refine (needw_bad 5 _).mono ?_; rintro e w2 ⟨rfl, rfl⟩)
  exact ⟨rfl, rfl, rfl⟩
/-- Box b holds the parts that are still to be read. -/
def NextAt (w : World) (B b : Nat) (l : List ByteArray) : Prop := ∃ ao cap, Boxed w b 53 (.slice ao l.length cap) ∧ l.length ≤ cap ∧ TxtRow w ao l ∧ (∀ x ∈ l, x.size ≤ 16384) ∧ l.length ≤ 1000 ∧ B ≤ b ∧ ∀ g off, ao = some ⟨g, off, none⟩ → B ≤ g
theorem NextAt.lt {w : World} {B b : Nat} {l : List ByteArray} (h : NextAt w B b l) : b < w.heap.size := by
  obtain ⟨ao, cap, h1, _⟩ := h
  exact (Array.getElem?_eq_some_iff.1 h1).1
theorem NextAt.below {w w' : World} {B b : Nat} {l : List ByteArray} (h : NextAt w B b l) (hb : Below w.heap.size w w') : NextAt w' B b l := by
  have hlt := h.lt
  obtain ⟨ao, cap, h1, h2, h3, h4⟩ := h
  exact ⟨ao, cap, (hb.block b hlt).trans h1, h2, h3.below hb, h4⟩
theorem NextAt.size {w : World} {B b : Nat} {l : List ByteArray} (h : NextAt w B b l) : ∀ x ∈ l, x.size ≤ 281474976710656 := by
  obtain ⟨ao, cap, h1, h2, h3, h4, h5, h6, h7⟩ := h
  exact fun x hx => Nat.le_trans (h4 x hx) (by decide)
theorem NextAt.turn {F : Nat → Prop} {w w' : World} {B b : Nat} {l : List ByteArray} (h : NextAt w B b l) (ht : Turn F w w') (hF : ∀ k, F k → k < B) : NextAt w' B b l := by
  have hlt := h.lt
  obtain ⟨ao, cap, h1, h2, h3, h4, h5, h6, h7⟩ := h
  refine ⟨ao, cap, (ht.block b hlt fun e => by have := hF b e; omega).trans h1, h2, ?_, h4, h5, h6, h7⟩
  rcases h3 with h3 | ⟨g, off, e, hlt2, hc⟩
  · exact .inl h3
  · exact txt_block (.inr ⟨g, off, e, hlt2, hc⟩) ht.size fun g' off' e' => by
      have hg := h7 g' off' e'
      rw [e] at e'
      cases e'
      exact ht.block _ hlt2 fun k => by have := hF _ k; omega
end Go.Proofs.YtbdlegjklfkdmaaGreatDoor.Pl

namespace Go.Proofs.YtbdlegjklfkdmaaGreatDoor.Pl
open Go.RowKit

theorem parts_is {L : List ByteArray} {t : ByteArray} (h : L.map bl = (partsP (bl t)).1) : L = partsB t := by
  unfold partsB
  rw [← h, map_tb_bl]
theorem own_shape12 {W : World} {B : Nat} {v : Value} {O : List ByteArray} (h : OwnT W B v O) : ∃ oo cap, v = .slice oo O.length cap ∧ O.length ≤ cap ∧ TxtRow W oo O ∧ ∀ b off, oo = some ⟨b, off, none⟩ → B ≤ b := by
  obtain ⟨a, c, e, hr, hB⟩ := ownT_row2 h
  rcases h.2 with ⟨rfl, h0⟩ | ⟨g, cap, cur, rfl, _, _, hc, _⟩
  · injection e with e1 e2 e3
    exact ⟨a, c, by rw [← e1, ← e2, ← e3], by omega, hr, hB⟩
  · injection e with e1 e2 e3
    exact ⟨a, c, by rw [← e1, ← e3], by omega, hr, hB⟩
theorem parts12_any (t : ByteArray) (ht : t.size ≤ 281474976710656) (w : World) :
    Calls Tryz.prog 23 #[.string t] w fun e w' => ∃ ao cap, e = .returned (.tuple #[.slice ao (partsB t).length cap, .bool (partsP (bl t)).2]) ∧ (partsB t).length ≤ cap ∧ TxtRow w' ao (partsB t) ∧ (∀ b off, ao = some ⟨b, off, none⟩ → w.heap.size ≤ b) ∧ Below w.heap.size w w' := by
  refine (parts6_any t ht w).mono ?_
  rintro e w' ⟨v, L, rfl, hL, hp, hb⟩
  obtain ⟨ao, cap, rfl, hc, hr, hB⟩ := own_shape12 hL
  have e := parts_is hp
  rw [← e]
  exact ⟨ao, cap, rfl, hc, hr, hB, hb⟩
end Go.Proofs.YtbdlegjklfkdmaaGreatDoor.Pl

namespace Go.Proofs.YtbdlegjklfkdmaaGreatDoor.Pl
open Go.RowKit

/-- Block x is a transaction. -/
def XAt (w : World) (x : Nat) (c e q : Int) : Prop := w.heap[x]? = some (.cells #[.int .i64 c, .int .i64 e, .int .i64 q] 23 (0, 0))
theorem XAt.lt {w : World} {x : Nat} {c e q : Int} (h : XAt w x c e q) : x < w.heap.size := (Array.getElem?_eq_some_iff.1 h).1
theorem XAt.turn {F : Nat → Prop} {w w' : World} {x : Nat} {c e q : Int} (h : XAt w x c e q) (ht : Turn F w w') (hx : ¬ F x) : XAt w' x c e q := (ht.block x h.lt hx).trans h
theorem XAt.cells {w : World} {x : Nat} {c e q : Int} (h : XAt w x c e q) : w.cell? ⟨x, 0, none⟩ = some (.int .i64 c) ∧ w.cell? ⟨x, 1, none⟩ = some (.int .i64 e) ∧ w.cell? ⟨x, 2, none⟩ = some (.int .i64 q) ∧ w.frozen? ⟨x, 0, none⟩ = false ∧ w.frozen? ⟨x, 1, none⟩ = false ∧ w.frozen? ⟨x, 2, none⟩ = false := by
  unfold XAt at h
  refine ⟨cell_of_row _ _ _ _ _ _ h, cell_of_row _ _ _ _ _ _ h, cell_of_row _ _ _ _ _ _ h, ?_, ?_, ?_⟩ <;> simp [World.frozen?, h]
theorem turn_cell (w : World) (x k : Nat) (v : Value) : Turn (· = x) w (w.setCell ⟨x, k, none⟩ v) := ⟨rfl, rfl, rfl, by simp, fun j _ hj => Below.heap_setCell _ _ _ _ hj⟩
theorem xat_new (w : World) (c e q : Int) : XAt (w.alloc (.cells #[.int .i64 c, .int .i64 e, .int .i64 q] 23)) w.heap.size c e q := Go.heap_alloc_new _ _
theorem XAt.below {w w' : World} {x : Nat} {c e q : Int} (h : XAt w x c e q) (hb : Below w.heap.size w w') : XAt w' x c e q := (hb.block x h.lt).trans h
theorem XAt.row {w : World} {x : Nat} {a b c : Int} (h : XAt w x a b c) (c' e' q' : Int) : XAt (w.setRow x #[.int .i64 c', .int .i64 e', .int .i64 q']) x c' e' q' := setRow_heap _ _ _ _ _ _ h
end Go.Proofs.YtbdlegjklfkdmaaGreatDoor.Pl

namespace Go.Proofs.YtbdlegjklfkdmaaGreatDoor.Pl
open Go.RowKit

/-- A transaction, or zero. -/
def txGet (o : Option (Int × Int × Int)) : Int × Int × Int := o.getD (0, 0, 0)
end Go.Proofs.YtbdlegjklfkdmaaGreatDoor.Pl

namespace Go.Proofs.YtbdlegjklfkdmaaGreatDoor.Pl
open Go.RowKit

structure Bt where
  c : Int
  e : Int
  q : Int
  aud : Int
  mem : List Mb
  org : Int
/-- Where a member stands in a row. -/
def placeP (o : Int) : List Mb → Option Nat
  | [] => none
  | m :: r => if m.1 = o then some 0 else (placeP o r).map (· + 1)
def mayBt (b : Bt) : Bool := mayX b.c b.e b.q && (orgP b.aud && (mayL b.c b.mem && (placeP b.org b.mem).isSome))
def ballotW : List UInt8 := [98, 97, 108, 108, 111, 116]
def bodyL (b : Bt) : List (List UInt8) := [(dataP ballotW).1, txnT b.c b.e b.q, (numP b.aud).1, (membersT b.mem).1, (numP b.org).1]
def bodyP (b : Bt) : List UInt8 × Nat := if mayBt b = false then ([], 2) else if (membersT b.mem).2 ≠ 0 then ([], 5) else rowP (bodyL b)
noncomputable def candBt (p1 p2 p3 p4 : ByteArray) : Bt :=
  ⟨(txGet (txnR p1)).1, (txGet (txnR p1)).2.1, (txGet (txnR p1)).2.2, (rdN p2).getD 0, (membersR (txGet (txnR p1)).1 p3).getD [], (rdN p4).getD 0⟩
theorem place_at {o : Int} : ∀ {l : List Mb} {i : Nat}, placeP o l = some i → ∃ h : i < l.length, l[i].1 = o ∧ ∀ j (hj : j < i), (l[j]'(Nat.lt_trans hj h)).1 ≠ o
  | [], _, h => by cases h
  | m :: r, i, h => by
    unfold placeP at h
    split at h
    · rename_i e
      cases h
      exact ⟨Nat.zero_lt_succ _, e, fun j hj => absurd hj (Nat.not_lt_zero _)⟩
    · rename_i e
      cases k : placeP o r with
      | none => rw [k] at h; cases h
      | some n =>
        rw [k] at h
        obtain rfl : n + 1 = i := Option.some.inj h
        obtain ⟨hn, e1, e2⟩ := place_at k
        refine ⟨Nat.succ_lt_succ hn, e1, fun j hj => ?_⟩
        cases j with
        | zero => exact e
        | succ j => exact e2 j (Nat.lt_of_succ_lt_succ hj)
theorem mayBt_iff {b : Bt} : mayBt b = true ↔ mayX b.c b.e b.q = true ∧ orgP b.aud = true ∧ mayL b.c b.mem = true ∧ ∃ i, placeP b.org b.mem = some i := by
  unfold mayBt
  simp only [Bool.and_eq_true, Option.isSome_iff_exists]
theorem mayBt_org {b : Bt} (h : mayBt b = true) : orgP b.org = true := by
  obtain ⟨_, _, hl, i, hi⟩ := mayBt_iff.1 h
  obtain ⟨hlt, e, _⟩ := place_at hi
  have := (mayMs_all (mayL_iff.1 hl).2.2 _ (List.getElem_mem hlt)).1
  rwa [e] at this
theorem body_row {b : Bt} {s : List UInt8} (h : bodyP b = (s, 0)) : mayBt b = true ∧ (membersT b.mem).2 = 0 ∧ rowP (bodyL b) = (s, 0) := by
  unfold bodyP at h
  split at h
  · cases h
  · rename_i h1
    split at h
    · cases h
    · rename_i h2
      refine ⟨?_, ?_, h⟩
      · cases k : mayBt b with
        | true => rfl
        | false => exact absurd k h1
      · apply Classical.byContradiction
        exact h2
/-- What is read of a body is the ballot. -/
theorem body_parts {b : Bt} {s : List UInt8} (h : bodyP b = (s, 0)) : kindP s = 3 ∧ partsB (tb s) = (bodyL b).map tb ∧ candBt (tb (txnT b.c b.e b.q)) (tb (numP b.aud).1) (tb (membersT b.mem).1) (tb (numP b.org).1) = b := by
  obtain ⟨hm, h5, hr⟩ := body_row h
  obtain ⟨hx, ho, hl, _⟩ := mayBt_iff.1 hm
  obtain ⟨k1, k2, _⟩ := row_read (by unfold bodyL; simp) hr
  refine ⟨k1, by unfold partsB; rw [bl_tb, k2], ?_⟩
  have ha := orgP_iff.1 ho
  have hg := orgP_iff.1 (mayBt_org hm)
  unfold candBt
  rw [txnR_ok hx, (rdN_num ha.1 (by omega)).1, (rdN_num hg.1 (by omega)).1]
  show (⟨b.c, b.e, b.q, b.aud, (membersR b.c (tb (membersT b.mem).1)).getD [], b.org⟩ : Bt) = b
  rw [membersR_ok hl h5]
  rfl
end Go.Proofs.YtbdlegjklfkdmaaGreatDoor.Pl

namespace Go.Proofs.YtbdlegjklfkdmaaGreatDoor.Pl
open Go.RowKit

theorem add12 {b off k : Nat} : (⟨b, off, none⟩ : Addr).add k = ⟨b, off + k, none⟩ := by simp [Addr.add]
theorem memRow_one (V : World) (o : Int) (d : ByteArray) : MemRow (V.alloc (.cells #[.int .i64 o, .string d] 51)) (some ⟨V.heap.size, 0, none⟩) [(o, d)] := by
  have h := Go.heap_alloc_new V (.cells #[.int .i64 o, .string d] 51)
  refine .inr ⟨V.heap.size, 0, rfl, by simp, fun j hj => ?_⟩
  obtain rfl : j = 0 := by simpa using hj
  exact ⟨cell_of_row _ _ _ _ _ _ h, cell_of_row _ _ _ _ _ _ h⟩
/-- Block x is a member. -/
def MAt (w : World) (x : Nat) (o : Int) (d : ByteArray) : Prop := w.heap[x]? = some (.cells #[.int .i64 o, .string d] 51 (0, 0))
theorem MAt.lt {w : World} {x : Nat} {o : Int} {d : ByteArray} (h : MAt w x o d) : x < w.heap.size := (Array.getElem?_eq_some_iff.1 h).1
theorem MAt.turn {F : Nat → Prop} {w w' : World} {x : Nat} {o : Int} {d : ByteArray} (h : MAt w x o d) (ht : Turn F w w') (hx : ¬ F x) : MAt w' x o d := (ht.block x h.lt hx).trans h
theorem MAt.below {w w' : World} {x : Nat} {o : Int} {d : ByteArray} (h : MAt w x o d) (hb : Below w.heap.size w w') : MAt w' x o d := (hb.block x h.lt).trans h
theorem MAt.cells {w : World} {x : Nat} {o : Int} {d : ByteArray} (h : MAt w x o d) : w.cell? ⟨x, 0, none⟩ = some (.int .i64 o) ∧ w.cell? ⟨x, 1, none⟩ = some (.string d) ∧ w.frozen? ⟨x, 0, none⟩ = false ∧ w.frozen? ⟨x, 1, none⟩ = false := by
  unfold MAt at h
  refine ⟨cell_of_row _ _ _ _ _ _ h, cell_of_row _ _ _ _ _ _ h, ?_, ?_⟩ <;> simp [World.frozen?, h]
end Go.Proofs.YtbdlegjklfkdmaaGreatDoor.Pl

namespace Go.Proofs.YtbdlegjklfkdmaaGreatDoor.Pl
open Go.RowKit

theorem NextAt.cell {V : World} {B b g k : Nat} {v : Value} {l : List ByteArray} (h : NextAt V B b l) (hg : g < B) : NextAt (V.setCell ⟨g, k, none⟩ v) B b l := h.turn (turn_cell V g k v) (fun _ e => e ▸ hg)
end Go.Proofs.YtbdlegjklfkdmaaGreatDoor.Pl

namespace Go.Proofs.YtbdlegjklfkdmaaGreatDoor.Pl
open Go.RowKit

theorem drew12 (W : World) : Below W.heap.size W W.drew := (Below.refl _ _).drew

end Go.Proofs.YtbdlegjklfkdmaaGreatDoor.Pl

namespace Go.Proofs.YtbdlegjklfkdmaaGreatDoor.Pl
open Go.RowKit

theorem appT12_run {W : World} {B : Nat} {v : Value} {l m : List ByteArray} {ao : Option Addr} {cap : Nat} (hown : OwnT W B v l) (hB : B ≤ W.heap.size) (hrow : TxtRow W ao m) (hp : ao = none → cap = 0) (hl : l.length + m.length ≤ 1000000) :
    ∃ v' w', (Builtin.append_ #[53, 53] 53 #[v, .slice ao m.length cap]).run Tryz.prog W = .ok v' w' ∧ OwnT w' B v' (l ++ m) ∧ W.grownBy w' v.ownBlock := by
  obtain ⟨i0, hi, hz0, hz1, hz2⟩ := info_parts infoStr
  cases ao with
  | none =>
    have h0 : m = [] := by
      rcases hrow with h0 | ⟨b, off, hb, _⟩
      · exact h0
      · cases hb
    subst h0
    obtain rfl := hp rfl
    have hr := run_append_owned_none (P := Tryz.prog) (w := W) B 53 53 9 i0 1 Tryz.underlying53 hi v l.length _ hown
    exact ⟨v, W, hr, by rw [List.append_nil]; exact hown, ⟨rfl, rfl, rfl, Nat.le_refl _, fun _ _ _ => rfl⟩⟩
  | some ad =>
    have hcell : ∀ j u, (txts m)[j]? = some u → W.cell? (ad.add j) = some u := by
      intro j u hu
      have hj := (List.getElem?_eq_some_iff.1 hu).1
      rw [txts_length] at hj
      rcases hrow with h0 | ⟨b, off, hb, hlt, hc⟩
      · subst h0; simp at hj
      · cases hb
        rw [add12, hc j hj, ← txts_at m j hj, hu]
    have hone : ∀ u ∈ txts m, u.oneCell' = true := by
      intro u hu
      obtain ⟨x, _, rfl⟩ := List.mem_map.1 hu
      rfl
    obtain ⟨v', w', hr, g1, g2, _⟩ := run_append_own (P := Tryz.prog) W B 53 53 9 i0 (.string ⟨#[]⟩) 1 16 Tryz.underlying53 hi hz0 hz1 hz2 (by rfl) (by decide) v l.length _ hown ad m.length cap (txts m) (by rw [txts_length, Nat.mul_one]) hcell hone (by unfold maxLen; omega) (by omega) hB
    refine ⟨v', w', hr, ?_, g2⟩
    unfold OwnT
    rw [List.length_append, show txts (l ++ m) = txts l ++ txts m from List.map_append]
    exact g1
theorem wpList_appT {ops : Array Oper} {rest : List Oper} {o : Oper} {a : Act} {Q : Exit → Act → World → Prop} {W : World} (hgd : o.guard = none) (s x : Operand)
    (ho : o.op = .call { callee := .builtin .append, args := #[s, x], argTypes := #[53, 53] }) (hty : o.type = 53) {B : Nat} {v : Value} {l m : List ByteArray} {ao : Option Addr} {cap : Nat} (hs : a.eval s = v) (hx : a.eval x = .slice ao m.length cap)
    (hown : OwnT W B v l) (hB : B ≤ W.heap.size) (hrow : TxtRow W ao m) (hp : ao = none → cap = 0) (hl : l.length + m.length ≤ 1000000)
    (K : ∀ v' w', OwnT w' B v' (l ++ m) → W.grownBy w' v.ownBlock → wpList Tryz.prog ops Q rest (a.put o.dst v') w') : wpList Tryz.prog ops Q (o :: rest) a W := by
  obtain ⟨v', w', hr, h2, h3⟩ := appT12_run hown hB hrow hp hl
  refine wpList_plain hgd fun K' hK' => ?_
  unfold Oper.wp execOp
  simp only [ho, hty, resolve, invoke, builtin, Sem.run_bind, Sem.run_pure, Result.andThen_ok, List.map_toArray, List.map_cons, List.map_nil, hs, hx, hr]
  exact hK' _ _ (K v' w' h2 h3)
theorem wpOp_appT {ops : Array Oper} {o : Oper} {a : Act} {K : Act → World → Prop} {Q : Exit → Act → World → Prop} {W : World} (hw : Region.wanted o (yielded ops a.tmps) = true) (s x : Operand)
    (ho : o.op = .call { callee := .builtin .append, args := #[s, x], argTypes := #[53, 53] }) (hty : o.type = 53) {B : Nat} {v : Value} {l m : List ByteArray} {ao : Option Addr} {cap : Nat} (hs : a.eval s = v) (hx : a.eval x = .slice ao m.length cap)
    (hown : OwnT W B v l) (hB : B ≤ W.heap.size) (hrow : TxtRow W ao m) (hp : ao = none → cap = 0) (hl : l.length + m.length ≤ 1000000)
    (h : ∀ v' w', OwnT w' B v' (l ++ m) → W.grownBy w' v.ownBlock → K (a.put o.dst v') w') :
    if Region.wanted o (yielded ops a.tmps) = true then Oper.wp Tryz.prog o a W K Q else K (a.put o.dst undef) W := by
  obtain ⟨v', w', hr, h2, h3⟩ := appT12_run hown hB hrow hp hl
  rw [if_pos hw]
  unfold Oper.wp execOp
  simp only [ho, hty, resolve, invoke, builtin, Sem.run_bind, Sem.run_pure, Result.andThen_ok, List.map_toArray, List.map_cons, List.map_nil, hs, hx, hr]
  exact h v' w' h2 h3
theorem txt_one (V : World) (x : ByteArray) : TxtRow (V.alloc (.cells #[.string x] 9)) (some ⟨V.heap.size, 0, none⟩) [x] := by
  have h := Go.heap_alloc_new V (.cells #[.string x] 9)
  refine .inr ⟨V.heap.size, 0, rfl, by simp, fun j hj => ?_⟩
  obtain rfl : j = 0 := by simpa using hj
  exact cell_of_row _ _ _ _ _ _ h
theorem txt_two12 (V : World) (x y : ByteArray) : TxtRow (V.alloc (.cells #[.string x, .string y] 9)) (some ⟨V.heap.size, 0, none⟩) [x, y] := by
  have h := Go.heap_alloc_new V (.cells #[.string x, .string y] 9)
  refine .inr ⟨V.heap.size, 0, rfl, by simp, fun j hj => ?_⟩
  have : j = 0 ∨ j = 1 := by simp at hj; omega
  rcases this with rfl | rfl <;> exact cell_of_row _ _ _ _ _ _ h
theorem txt_three (V : World) (x y z : ByteArray) : TxtRow (V.alloc (.cells #[.string x, .string y, .string z] 9)) (some ⟨V.heap.size, 0, none⟩) [x, y, z] := by
  have h := Go.heap_alloc_new V (.cells #[.string x, .string y, .string z] 9)
  refine .inr ⟨V.heap.size, 0, rfl, by simp, fun j hj => ?_⟩
  have : j = 0 ∨ j = 1 ∨ j = 2 := by simp at hj; omega
  rcases this with rfl | rfl | rfl <;> exact cell_of_row _ _ _ _ _ _ h
theorem ownT_blk {w : World} {B : Nat} {v : Value} {l : List ByteArray} (h : OwnT w B v l) : ∀ k, v.ownBlock = some k → B ≤ k := by
  intro k e
  rcases h.2 with ⟨rfl, _⟩ | ⟨g, cap, cur, rfl, hbg, _⟩
  · cases e
  · obtain rfl : g = k := Option.some.inj e
    exact hbg
/-- A row of numbers. -/
def IntR (w : World) (ao : Option Addr) (l : List Int) : Prop := ∃ b off, ao = some ⟨b, off, none⟩ ∧ b < w.heap.size ∧ ∀ j, (hj : j < l.length) → w.cell? ⟨b, off + j, none⟩ = some (.int .i64 l[j])
theorem IntR.below {w w' : World} {ao : Option Addr} {l : List Int} (h : IntR w ao l) (hb : Below w.heap.size w w') : IntR w' ao l := by
  obtain ⟨b, off, e, hlt, hc⟩ := h
  exact ⟨b, off, e, Nat.lt_of_lt_of_le hlt hb.size, fun j hj => (hb.cell (p := ⟨b, off + j, none⟩) hlt).trans (hc j hj)⟩
def numT (v : Int) : ByteArray := tb (numP v).1
set_option maxHeartbeats 4000000 in
set_option maxRecDepth 100000 in
theorem numbers_any (c e q : Int) (hm : mayX c e q = true) (ao : Option Addr) (cap : Nat) (w : World) (hrow : IntR w ao [c, e, q]) :
    Calls Tryz.prog 72 #[.slice ao 3 cap] w fun x w' => x = .returned (.string (tb (txnT c e q))) ∧ Below w.heap.size w w' := by
  obtain ⟨h1, h2, h3⟩ := mayX_iff.1 hm
  obtain ⟨t1, -⟩ := txn_ok hm
  have hnum : ∀ v ∈ [c, e, q], -9223372036854775808 ≤ v ∧ v ≤ 9223372036854775807 ∧ numP v = ((numP v).1, 0) ∧ (numT v).size ≤ 19 := by
    intro v hv
    have hv2 : 0 ≤ v ∧ v ≤ 2147483647 := by
      simp only [List.mem_cons, List.not_mem_nil, or_false] at hv
      rcases hv with rfl | rfl | rfl <;> omega
    obtain ⟨n1, n2, -⟩ := num_ok hv2.1 hv2.2
    exact ⟨by omega, by omega, Prod.ext rfl n1, by unfold numT tb; rw [size_lit]; exact n2⟩
  have HL : Hid (∀ bo bc V, 3 ≤ bc → TxtRow V bo ([c, e, q].map numT) → Calls Tryz.prog 70 #[.slice bo 3 bc] V fun x w' => x = .returned (.tuple #[.string (tb (txnT c e q)), .int .i64 0]) ∧ Below V.heap.size V w') := Lib.hid (fun bo bc V hbc hV => by
    have h := row6_any ([c, e, q].map numT) bo bc (by simpa using hbc) (by simp) (fun x hx => by
      obtain ⟨v, hv, rfl⟩ := List.mem_map.1 hx
      have := (hnum v hv).2.2.2
      omega) V hV
    have e : rowP (([c, e, q].map numT).map bl) = (txnT c e q, 0) := t1
    rw [e] at h
    exact h)
  have HNUM := Lib.hid hnum
  have HROW := Lib.hid (fun V (hV : Below w.heap.size w V) => hrow.below hV)
  clear hrow hnum t1 h1 h2 h3 hm
  obtain ⟨li, hli⟩ : ∃ li, li = [c, e, q] := ⟨_, rfl⟩
  rw [← hli] at HROW HNUM HL
  have h3 : Hid (li.length = 3) := Lib.hid (by rw [hli]; rfl)
  generalize tb (txnT c e q) = res at *
  clear hli
  go_enter Tryz.func72, Tryz.ntmps72
  go_wp2_with fail
  go_loopw [8, 3] (fun iv pv wr => ∃ j : Nat, iv = .int .i64 j ∧ j ≤ 3 ∧ Hid (OwnT wr w.heap.size pv ((li.take j).map numT)) ∧ Hid (Below w.heap.size w wr)) (fun iv _ _ => 3 - (intOf iv).toNat)
  case atStart => exact ⟨0, rfl, by decide, Lib.hid (ownT_nil _ _), Lib.hid (Below.refl _ _)⟩
  case round =>
    obtain ⟨j, rfl, hj3, hown, hb⟩ := hrel
    by_cases hj : j < 3
    · have hj' : (j : Int) < 3 := by omega
      have hjl : j < li.length := by rw [h3.out]; exact hj
      obtain ⟨b, off, rfl, hlt, hcs⟩ := HROW.out _ hb.out
      have x0 := hcs j hjl
      obtain ⟨n1, n2, n3, n4⟩ := HNUM.out _ (List.getElem_mem hjl)
      have HN := fun V => num6_any li[j] n1 n2 V
      have HTK : Hid ((li.take (j + 1)).map numT = (li.take j).map numT ++ [numT li[j]]) := Lib.hid (by rw [List.take_succ_eq_append_getElem hjl, List.map_append]; rfl)
      rw [n3, show st2 ((numP li[j]).1, 0) = .tuple #[.string (numT li[j]), .int .i64 0] from rfl] at HN
      have HN := Lib.hid HN
      have HLN : Hid (((li.take j).map numT).length ≤ 3) := Lib.hid (by rw [List.length_map, List.length_take]; omega)
      generalize numT li[j] = y at *
      generalize li[j] = v at *
      clear n3 n4 hcs hjl
      go_wp2_with (first | (go_at_call 28; refine (HN.out _).mono ?_; rintro e w1 ⟨rfl, b1⟩) | (go_at_call 69; refine (made12_ok _ _).mono ?_; rintro e w2 ⟨rfl, hw⟩; rw [hw]; clear hw w2) | (at_builtin; refine wpList_appT (B := w.heap.size) (l := (li.take j).map numT) (m := [y]) (ao := some ⟨w1.heap.size, 0, none⟩) (cap := 1) rfl _ _ rfl rfl rfl rfl (ownT_below (ownT_below hown.out b1) ((Below.refl _ _).alloc (Nat.le_refl _) _)) (by have := b1.size; have := hb.out.size; rw [World.size_alloc]; omega) (txt_one w1 y) (by intro e; cases e) (by have := HLN.out; simp only [List.length_cons, List.length_nil]; omega) ?_; intro v' w' ho' hg'; have HO' := Lib.hid ho'; have HB' := Lib.hid (((hb.out.trans (b1.mono hb.out.size)).alloc (by have := b1.size; have := hb.out.size; omega) (.cells #[.string y] 9)).grown hg' (by have := b1.size; have := hb.out.size; rw [World.size_alloc]; omega) (ownT_blk hown.out)); clear ho' hg') | fail)
      go_roundw
      case rel => exact ⟨j + 1, by go_num, by omega, Lib.hid (by rw [HTK.out]; exact HO'.out), HB'⟩
      case measure => simp [intOf]; omega
    · obtain rfl : j = 3 := by omega
      have hown2 := hown.out
      rw [List.take_of_length_le (by rw [h3.out]; exact Nat.le_refl _)] at hown2
      obtain ⟨bo, bcap, rfl, hc, hr, _⟩ := own_shape12 hown2
      have hl3 : (li.map numT).length = 3 := by rw [List.length_map]; exact h3.out
      rw [hl3] at hc ⊢
      have HC := Lib.hid hc
      have HR := Lib.hid hr
      clear hown hown2 hr hc
      go_wp2_with (first | (go_at_call 70; refine (HL.out _ _ _ HC.out HR.out).mono ?_; rintro e w1 ⟨rfl, b1⟩) | (go_at_call 69; refine (made12_ok _ _).mono ?_; rintro e w2 ⟨rfl, hw⟩; rw [hw]; clear hw w2) | fail)
      go_ret
      exact ⟨rfl, below_step hb.out b1⟩
end Go.Proofs.YtbdlegjklfkdmaaGreatDoor.Pl

namespace Go.Proofs.YtbdlegjklfkdmaaGreatDoor.Pl
open Go.RowKit

theorem int_three (V : World) (c e q : Int) : IntR (V.alloc (.cells #[.int .i64 c, .int .i64 e, .int .i64 q] 3)) (some ⟨V.heap.size, 0, none⟩) [c, e, q] := by
  have h := Go.heap_alloc_new V (.cells #[.int .i64 c, .int .i64 e, .int .i64 q] 3)
  refine ⟨V.heap.size, 0, rfl, by simp, fun j hj => ?_⟩
  have : j = 0 ∨ j = 1 ∨ j = 2 := by simp at hj; omega
  rcases this with rfl | rfl | rfl <;> exact cell_of_row _ _ _ _ _ _ h
/-- A transaction's term, or why there is none. -/
def txP (c e q : Int) : List UInt8 × Nat := if mayX c e q = true then (txnT c e q, 0) else ([], 2)
set_option maxHeartbeats 4000000 in
set_option maxRecDepth 100000 in
theorem txn12x_any (c e q : Int) (w : World) : Calls Tryz.prog 27 #[.agg #[.int .i64 c, .int .i64 e, .int .i64 q]] w fun x w' => x = .returned (st2 (txP c e q)) ∧ Below w.heap.size w w' := by
  have HM := fun V => maytxn_any c e q V
  obtain ⟨W0, hW0⟩ : ∃ V, V = w.alloc (.cells #[.int .i64 c, .int .i64 e, .int .i64 q] 23) := ⟨_, rfl⟩
  have X0 := Lib.hid (show XAt W0 w.heap.size c e q from hW0 ▸ xat_new w c e q)
  have B0 := Lib.hid (show Below w.heap.size w W0 from hW0 ▸ (Below.refl _ _).alloc (Nat.le_refl _) _)
  have HW0 := Lib.hid hW0
  clear hW0
  unfold txP
  cases hm : mayX c e q with
  | false =>
    rw [hm] at HM
    rw [if_neg (by simp)]
    have HM := Lib.hid HM
    go_enter Tryz.func27, Tryz.ntmps27
    go_wp2_with (first | (go_at_call 71; rw [← HW0.out]; refine (HM.out _).mono ?_; rintro e1 V ⟨rfl, b1⟩) | fail)
    go_ret2
    exact ⟨rfl, below_step B0.out b1⟩
  | true =>
    have HNB := Lib.hid (fun ao cap V hV => numbers_any c e q hm ao cap V hV)
    rw [hm] at HM
    rw [if_pos rfl, show st2 (txnT c e q, 0) = .tuple #[.string (tb (txnT c e q)), .int .i64 0] from rfl]
    have HM := Lib.hid HM
    clear hm
    generalize tb (txnT c e q) = res at *
    go_enter Tryz.func27, Tryz.ntmps27
    go_wp2_with (first | (go_at_call 71; rw [← HW0.out]; refine (HM.out _).mono ?_; rintro e1 V ⟨rfl, b1⟩; obtain ⟨x0, x1, x2, -⟩ := (X0.out.below b1).cells) | (go_at_call 72; refine (HNB.out _ _ _ (int_three V c e q)).mono ?_; rintro e2 V2 ⟨rfl, b2⟩) | fail)
    go_ret2
    exact ⟨rfl, below_step ((below_step B0.out b1).alloc (by have := b1.size; have := B0.out.size; omega) _) b2⟩
end Go.Proofs.YtbdlegjklfkdmaaGreatDoor.Pl

namespace Go.Proofs.YtbdlegjklfkdmaaGreatDoor.Pl
open Go.RowKit

theorem num12_any (v : Int) (h0 : 0 ≤ v) (h1 : v ≤ 2147483647) (w : World) : Calls Tryz.prog 28 #[.int .i64 v] w fun e w' => e = .returned (.tuple #[.string (numT v), .int .i64 0]) ∧ Below w.heap.size w w' := by
  have h := num6_any v (by omega) (by omega) w
  rw [show numP v = ((numP v).1, 0) from Prod.ext rfl (num_ok h0 h1).1] at h
  exact h
theorem numT_size {v : Int} (h0 : 0 ≤ v) (h1 : v ≤ 2147483647) : (numT v).size ≤ 19 := by
  unfold numT tb
  rw [size_lit]
  exact (num_ok h0 h1).2.1
/-- Behind an append of texts that were laid out just before. -/
theorem app_grown12 {B : Nat} {w V w' : World} {v : Value} {l : List ByteArray} {o : Obj} (hB : Below B w V) (hs : B ≤ V.heap.size) (hown : OwnT V B v l) (hg : (V.alloc o).grownBy w' v.ownBlock) : Below B w w' :=
  (hB.alloc hs o).grown hg (by rw [World.size_alloc]; omega) (ownT_blk hown)
end Go.Proofs.YtbdlegjklfkdmaaGreatDoor.Pl

namespace Go.Proofs.YtbdlegjklfkdmaaGreatDoor.Pl
open Go.RowKit

/-- The members that are gone over. -/
def listL (b : Bt) : List Mb := if mayX b.c b.e b.q = true ∧ orgP b.aud = true ∧ mayL b.c b.mem = true then b.mem else []
def zeroMb : Mb := (0, ⟨#[]⟩)
/-- The member whose ballot it is. -/
def voterP (b : Bt) : Mb × Bool := match placeP b.org (listL b) with | some i => ((listL b).getD i zeroMb, true) | none => (zeroMb, false)
theorem place_nil (o : Int) : placeP o [] = none := rfl
theorem place_no {o : Int} : ∀ {l : List Mb}, (∀ m ∈ l, m.1 ≠ o) → placeP o l = none
  | [], _ => rfl
  | a :: r, h => by
    unfold placeP
    rw [if_neg (h a (by simp)), place_no (fun m hm => h m (by simp [hm]))]
    rfl
theorem place_hit {o : Int} {x : Mb} {r : List Mb} : ∀ {q : List Mb}, (∀ m ∈ q, m.1 ≠ o) → x.1 = o → placeP o (q ++ x :: r) = some q.length
  | [], _, e => by unfold placeP; exact if_pos e
  | a :: q, h, e => by
    show (if a.1 = o then some 0 else (placeP o (q ++ x :: r)).map (· + 1)) = some (q.length + 1)
    rw [if_neg (h a (by simp)), place_hit (fun m hm => h m (by simp [hm])) e]
    rfl
theorem mayMs_low {c : Int} : ∀ {last : Int} {l : List Mb}, mayMs c last l = true → ∀ m ∈ l, last < m.1
  | _, [], _, m, hm => by cases hm
  | last, x :: r, h, m, hm => by
    simp only [mayMs, Bool.and_eq_true] at h
    have h1 : last < x.1 := by
      have := h.1
      simp only [mayM1, Bool.and_eq_true, decide_eq_true_eq] at this
      exact this.1.2
    rcases List.mem_cons.1 hm with rfl | hm
    · exact h1
    · have := mayMs_low h.2 m hm; omega
theorem mayMs_after {c : Int} {x : Mb} {r : List Mb} : ∀ {last : Int} {q : List Mb}, mayMs c last (q ++ x :: r) = true → ∀ m ∈ r, x.1 < m.1
  | _, [], h, m, hm => by
    have h' : mayMs c _ (x :: r) = true := h
    simp only [mayMs, Bool.and_eq_true] at h'
    exact mayMs_low h'.2 m hm
  | _, a :: q, h, m, hm => by
    have h' : mayMs c _ (a :: (q ++ x :: r)) = true := h
    simp only [mayMs, Bool.and_eq_true] at h'
    exact mayMs_after h'.2 m hm
theorem listL_asc {b : Bt} {q r : List Mb} {x : Mb} (h : listL b = q ++ x :: r) : ∀ m ∈ r, x.1 < m.1 := by
  unfold listL at h
  split at h
  · rename_i k
    have := (mayL_iff.1 k.2.2).2.2
    rw [h] at this
    exact mayMs_after this
  · exact absurd (congrArg List.length h) (by simp)
theorem voter_all {b : Bt} (h : ∀ m ∈ listL b, m.1 < b.org) : voterP b = (zeroMb, false) := by
  unfold voterP
  rw [place_no (fun m hm => by have := h m hm; omega)]
theorem voter_hit {b : Bt} {q : List Mb} {x : Mb} (hp : q ++ [x] <+: listL b) (h : ∀ m ∈ q, m.1 < b.org) (e : x.1 = b.org) : voterP b = (x, true) := by
  obtain ⟨r, hr⟩ := hp
  rw [List.append_assoc] at hr
  have k : placeP b.org (listL b) = some q.length := by
    rw [← hr]
    exact place_hit (fun m hm => by have := h m hm; omega) e
  unfold voterP
  rw [k]
  show ((listL b).getD q.length zeroMb, true) = _
  rw [← hr]
  simp
theorem voter_miss {b : Bt} {q : List Mb} {x : Mb} (hp : q ++ [x] <+: listL b) (h : ∀ m ∈ q, m.1 < b.org) (e : b.org < x.1) : voterP b = (zeroMb, false) := by
  obtain ⟨r, hr⟩ := hp
  rw [List.append_assoc] at hr
  have hr' : listL b = q ++ x :: r := hr.symm
  unfold voterP
  rw [place_no (fun m hm => by
    rw [hr'] at hm
    rcases List.mem_append.1 hm with hm | hm
    · have := h m hm; omega
    · rcases List.mem_cons.1 hm with rfl | hm
      · omega
      · have := listL_asc hr' m hm; omega)]
theorem voter_may (b : Bt) : (voterP b).2 = mayBt b := by
  unfold voterP listL mayBt
  by_cases k : mayX b.c b.e b.q = true ∧ orgP b.aud = true ∧ mayL b.c b.mem = true
  · rw [if_pos k, k.1, k.2.1, k.2.2]
    cases placeP b.org b.mem <;> rfl
  · rw [if_neg k, place_nil]
    show false = _
    cases h1 : mayX b.c b.e b.q <;> cases h2 : orgP b.aud <;> cases h3 : mayL b.c b.mem <;> first | rfl | exact absurd ⟨h1, h2, h3⟩ k
end Go.Proofs.YtbdlegjklfkdmaaGreatDoor.Pl

namespace Go.Proofs.YtbdlegjklfkdmaaGreatDoor.Pl
open Go.RowKit

/-- What a datum says, as a text; nothing, where it is none. -/
noncomputable def keyD (t : ByteArray) : ByteArray := ⟨(strD (bl t)).toArray⟩
theorem bl_keyD (t : ByteArray) : bl (keyD t) = strD (bl t) := bl_mk _
theorem keyD_size (t : ByteArray) : (keyD t).size ≤ t.size := by rw [← bl_length, bl_keyD, ← bl_length]; exact strD_len _
theorem keyD_no {t : ByteArray} (h : kindP (bl t) ≠ 1) : keyD t = ⟨#[]⟩ := by rw [keyD, strD_no h]
theorem eq0 (c : Nat) : ((c : Int) == 0) = (c == 0) := by rw [Bool.eq_iff_iff, beq_iff_eq, beq_iff_eq]; omega
theorem ne1_yes {k : Nat} (h : k = 1) : ((k : Int) != 1) = false := by subst h; rfl
theorem ne1_no {k : Nat} (h : k ≠ 1) : ((k : Int) != 1) = true := by rw [bne_iff_ne]; omega
theorem zero_yes {c : Nat} (h : c = 0) : (c == 0) = true := by subst h; rfl
theorem zero_no {c : Nat} (h : c ≠ 0) : (c == 0) = false := by rw [beq_eq_false_iff_ne]; exact h
set_option maxRecDepth 100000 in
theorem isterm8_any (t : ByteArray) (ht : t.size ≤ 281474976710656) (w : World) :
    Calls Tryz.prog 197 #[.string t] w fun e w' => e = .returned (.bool (checkP (bl t) == 0)) ∧ Below w.heap.size w w' := by
  have HC := Lib.hid (check_any t ht w)
  rw [← eq0]
  generalize checkP (bl t) = c at *
  clear ht
  go_enter Tryz.func197, Tryz.ntmps197
  go_wp2_with fail
  refine HC.out.mono ?_; rintro e w1 ⟨rfl, b1⟩
  have B1 := Lib.hid b1
  clear b1
  go_wp2_with fail
  go_ret
  exact ⟨rfl, B1.out⟩
set_option maxRecDepth 100000 in
theorem datum8_any (t : ByteArray) (ht : t.size ≤ 281474976710656) (w : World) :
    Calls Tryz.prog 196 #[.string t] w fun e w' => e = .returned (.tuple #[.string (keyD t), .bool (kindP (bl t) == 1)]) ∧ Below w.heap.size w w' := by
  have HK := Lib.hid (tkind_any t ht w)
  have HT := Lib.hid (fun V => text6_any t ht V)
  by_cases h : kindP (bl t) = 1
  · rw [text_yes h, show tb2 (strD (bl t), true) = .tuple #[.string (keyD t), .bool true] from rfl] at HT
    have q := ne1_yes h
    rw [show (kindP (bl t) == 1) = true by rw [h]; rfl]
    generalize kindP (bl t) = k at *
    generalize keyD t = y at *
    clear h ht
    go_enter Tryz.func196, Tryz.ntmps196
    go_wp2_with fail
    refine HK.out.mono ?_; rintro e w1 ⟨rfl, b1⟩
    have B1 := Lib.hid b1
    clear b1
    go_wp2_with fail
    refine (HT.out w1).mono ?_; rintro e w2 ⟨rfl, b2⟩
    have B2 := Lib.hid (below_step B1.out b2)
    clear b2
    go_wp2_with fail
    go_ret2
    exact ⟨rfl, B2.out⟩
  · have q := ne1_no h
    rw [show (kindP (bl t) == 1) = false by rw [beq_eq_false_iff_ne]; exact h, keyD_no h]
    generalize kindP (bl t) = k at *
    clear h ht HT
    go_enter Tryz.func196, Tryz.ntmps196
    go_wp2_with fail
    refine HK.out.mono ?_; rintro e w1 ⟨rfl, b1⟩
    have B1 := Lib.hid b1
    clear b1
    go_wp2_with fail
    go_ret2
    exact ⟨rfl, B1.out⟩

/-- The receiver of suites of terms. -/
def symV : Value := .agg #[]

set_option maxRecDepth 100000 in
theorem skey8_any (c : Cry) (m : List UInt8) (n : ByteArray) (hn : n.size ≤ 20000) (w : World) :
    Calls Tryz.prog 185 #[symV, .string n] w fun e w' => e = .returned (st2 (keyP c true m (bl n))) ∧ Below w.heap.size w w' := by
  have H := Lib.hid (fun V => atom6_any n (by omega) V)
  have B0 := Lib.hid ((Below.refl w.heap.size w).alloc (Nat.le_refl _) (.cells #[] 84))
  rw [key8_terms]
  generalize atomP (bl n) = R at *
  obtain ⟨r, x⟩ := R
  unfold st2 at H ⊢
  dsimp only at H ⊢
  clear hn
  unfold symV
  go_enter Tryz.func185, Tryz.ntmps185
  go_wp2_with fail
  refine (H.out _).mono ?_; rintro e w1 ⟨rfl, b1⟩
  have B1 := Lib.hid (below_step B0.out b1)
  clear b1
  go_wp2_with fail
  go_ret2
  exact ⟨rfl, B1.out⟩

set_option maxRecDepth 100000 in
theorem smac8_any (c : Cry) (k t : ByteArray) (hk : k.size ≤ 20000) (ht : t.size ≤ 20000) (w : World) :
    Calls Tryz.prog 186 #[symV, .string k, .string t] w fun e w' => e = .returned (st2 (mac8P c true (bl k) (bl t))) ∧ Below w.heap.size w w' := by
  have H := Lib.hid (fun V => mac6_any k t (by omega) (by omega) V)
  have B0 := Lib.hid ((Below.refl w.heap.size w).alloc (Nat.le_refl _) (.cells #[] 84))
  rw [mac8_terms]
  generalize madeP [109] [bl k, bl t] = R at *
  obtain ⟨r, x⟩ := R
  unfold st2 at H ⊢
  dsimp only at H ⊢
  clear hk ht
  unfold symV
  go_enter Tryz.func186, Tryz.ntmps186
  go_wp2_with fail
  refine (H.out _).mono ?_; rintro e w1 ⟨rfl, b1⟩
  have B1 := Lib.hid (below_step B0.out b1)
  clear b1
  go_wp2_with fail
  go_ret2
  exact ⟨rfl, B1.out⟩

end Go.Proofs.YtbdlegjklfkdmaaGreatDoor.Pl
