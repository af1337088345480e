/- What term.Read answers: it goes over the places, and catches what is thrown. What term's Check, are, valid, kind, Kind and Text answer. What term's Size and Depth answer. What term's stands and Has answer. What term's Data, Atom, Num, ReadNum, termAt, join, Row, Hash, Mac and Seal answer. What term's join, Row, Hash, Mac and Seal answer. -/
import Derived.Test.YtbdlegjklfkdmaaGreatDoorBallA8
import Derived.DefersIn
import Derived.RecoverIn
import Derived.Recover
import Derived.Test.YtbdlegjklfkdmaaGreatDoorBallA2
import Derived.Test.YtbdlegjklfkdmaaGreatDoorBallA3
import Derived.Test.YtbdlegjklfkdmaaGreatDoorShelf
import Derived.Lib.Join
namespace Go.Proofs.YtbdlegjklfkdmaaGreatDoor.Pl
open Go.RowKit Go.Shelf
attribute [local go_sem] Oper.semAt_some

theorem assert_none (w : World) : (Instr.typeAssert .nilIface 20 29 true).run Tryz.prog w = .ok (.tuple #[.int .i64 0, .bool false]) w := by kernel_rfl
theorem assert_errno (w : World) (f : Nat) : (Instr.typeAssert (.iface 29 (.int .i64 f)) 20 29 true).run Tryz.prog w = .ok (.tuple #[.int .i64 f, .bool true]) w := by kernel_rfl

theorem catch_idle (b c n : Nat) (w : World) :
    CallsDIn Fence.wide n Tryz.prog 137 #[.pointer (some ⟨b, 0, none⟩), .pointer (some ⟨c, 0, none⟩)] .returning w fun e u' w' => e = .returned (.tuple #[]) ∧ u' = .returning ∧ w' = w := by
  refine callsDIn_of_wpSIn Tryz.func137 rfl trivial fun c₀ cs hu => ?_
  apply wpSIn_seq
  apply wpSIn_region
  simp [wpOpsSIn, go_sem, recoverD, hu, Tryz.ntmps137, Exit.thenS, assert_none]
  apply wpSIn_seq
  apply wpSIn_region
  simp [wpOpsSIn, go_sem, Exit.thenS]
  refine wpSIn_cond (t := false) (by simp [Act.eval, Array.replicate]) ?_
  simp only [Bool.false_eq_true, if_false]
  refine wpSIn_of_wpIn rfl (wpIn_skip ?_)
  cases c₀
  simp_all [bodyPostS, results, Tryz.results137]
theorem catch_thrown (b c n f : Nat) (w : World) (u v : Value) (hbc : c ≠ b) (hb : Boxed w b 3 u) (hc : Boxed w c 29 v) :
    CallsDIn Fence.wide n Tryz.prog 137 #[.pointer (some ⟨b, 0, none⟩), .pointer (some ⟨c, 0, none⟩)] (.panicking [{ v := .iface 29 (.int .i64 f), recovered := false }]) w fun e u' w' =>
      e = .returned (.tuple #[]) ∧ u' = .panicking [{ v := .iface 29 (.int .i64 f), recovered := true }] ∧ w' = (w.setCell ⟨b, 0, none⟩ (.int .i64 0)).setCell ⟨c, 0, none⟩ (.int .i64 f) := by
  have hb1 := hb.cell
  have hb2 := hb.frozen
  have hc0 := hc.other (B' := b) hbc (.int .i64 0)
  have hc1 := hc0.cell
  have hc2 := hc0.frozen
  refine callsDIn_of_wpSIn Tryz.func137 rfl trivial fun c₀ cs hu => ?_
  apply wpSIn_seq
  apply wpSIn_region
  simp [wpOpsSIn, go_sem, recoverD, hu, Tryz.ntmps137, Exit.thenS, assert_errno]
  apply wpSIn_seq
  apply wpSIn_region
  simp [wpOpsSIn, go_sem, Exit.thenS]
  refine wpSIn_cond (t := true) (by simp [Act.eval, Array.replicate]) ?_
  simp only [if_true]
  apply wpSIn_region
  simp [wpOpsSIn, go_sem, hb1, hb2, hc1, hc2, bodyPostS, results, Tryz.results137, Array.replicate]

/-- The last place's end. -/
def lastH (l : List Pl6) : Nat := (l.getLast?.map (·.head)).getD 0
theorem lastH_snoc (l : List Pl6) (p : Pl6) : lastH (l ++ [p]) = p.head := by simp [lastH]
theorem vis_front (s : ByteArray) : frontP (bl s) = if (vis s).2.2 = 0 then (if 16384 < lastH (vis s).1 then (0, 5) else (lastH (vis s).1, 0)) else (0, (vis s).2.2) := by
  have h := vis_read (bl s) 16 0
  rw [List.drop_zero] at h
  have hl := vis_last (bl s) 16 0
  unfold vis frontP
  by_cases h0 : (readP 16 (bl s)).2 = 0
  · rw [if_pos h0] at h
    have h2 : (visP (bl s) 16 0).2.2 = 0 := by rw [h]
    obtain ⟨q, p, e1, e2⟩ := hl h2
    rw [if_pos h0, if_pos h2, e1, lastH_snoc, e2, h, Nat.zero_add]
    split
    · rfl
    · exact Prod.ext rfl h0
  · rw [if_neg h0] at h
    have h2 : (visP (bl s) 16 0).2.2 = (readP 16 (bl s)).2 := by rw [h]
    rw [if_neg h0, if_neg (by rw [h2]; exact h0), h2]
theorem lastH_le (s : ByteArray) (q : List Pl6) (h : q <+: (vis s).1) : lastH q ≤ s.size := by
  have hk := (vis_ok (bl s) 16 0 (Nat.le_refl _) (Nat.zero_le _)).1
  rcases List.eq_nil_or_concat q with rfl | ⟨r, p, rfl⟩
  · simp [lastH]
  · rw [List.concat_eq_append, lastH_snoc]
    have := (hk p (h.subset (by simp))).2.1
    rwa [bl_length] at this
theorem vis_any (s : ByteArray) (p : Pl6) (q : List Pl6) (h : q ++ [p] <+: (vis s).1) : okPl (bl s) p :=
  (vis_ok (bl s) 16 0 (Nat.le_refl _) (Nat.zero_le _)).1 p (h.subset (by simp))

/-- What Read's results hold while it goes over the places. -/
def ReadI (w : World) (pre : List Pl6) (W : World) : Prop := (Boxed W w.heap.size 3 (.int .i64 (lastH pre)) ∧ Boxed W (w.heap.size + 1) 29 (.int .i64 0)) ∧ Below w.heap.size w W
theorem readI_own (w : World) (B : Nat) (h : w.heap.size ≤ B) : OwnFrom B (ReadI w) :=
  OwnFrom.and (OwnFrom.and (Own.from (boxed_own _ _ _) _) (Own.from (boxed_own _ _ _) _)) (ownFrom_below (Nat.le_refl _) h)

/-- A round's variable: a place in a block of its own. -/
def PlAx (B : Nat) (mk : Nat → Pl6 → Act) (x : Pl6) (a' : Act) (W : World) : Prop := ∃ b, B ≤ b ∧ W.heap[b]? = some (Obj.cells (cellsPl x) 102 (0, 0)) ∧ a' = mk b x
theorem plAx_own (B : Nat) (mk : Nat → Pl6 → Act) (C : Nat) (x : Pl6) (a' : Act) : OwnFrom C (fun (_ : Unit) W => PlAx B mk x a' W) := by
  intro s' X Y row hs' hg hr
  obtain ⟨b, h1, h2, h3⟩ := hs'
  refine ⟨b, h1, ?_, h3⟩
  refine (hg.block b (Array.getElem?_eq_some_iff.1 h2).1 (fun e => ?_)).trans h2
  obtain ⟨o, ho, hcl⟩ := (hr b e.symm).2
  rw [h2] at ho; cases ho; cases hcl
theorem KeepP.setBox {W : World} {B : Nat} {t : TypeId} {u : Value} (h : Boxed W B t u) (ht : t ≠ 102) (v : Value) : KeepP W (W.setCell ⟨B, 0, none⟩ v) :=
  ⟨(KeepsOthers.setCell W ⟨B, 0, none⟩ v).size, fun b cs hb => (Below.heap_setCell W ⟨B, 0, none⟩ v b (fun e => by
    have e' : b = B := e
    subst e'
    rw [show W.heap[b]? = _ from h] at hb
    cases hb
    exact ht rfl)).trans hb⟩
theorem place_cells {W : World} {b : Nat} {x : Pl6} (h : W.heap[b]? = some (Obj.cells (cellsPl x) 102 (0, 0))) :
    W.cell? ⟨b, 0, none⟩ = some (.int .i64 x.at_) ∧ W.cell? ⟨b, 1, none⟩ = some (.int .i64 x.dep) ∧ W.cell? ⟨b, 2, none⟩ = some (.int .i64 x.head) ∧ W.cell? ⟨b, 3, none⟩ = some (.int .i64 x.parts) := by
  refine ⟨?_, ?_, ?_, ?_⟩ <;> simp [World.cell?, h, cellsPl]

/-- The deferred call of Read. -/
abbrev readDef (B : Nat) : Deferred := { target := .fn (.func 137) #[.pointer (some ⟨B, 0, none⟩), .pointer (some ⟨B + 1, 0, none⟩)], args := #[] }
def ReadPost (w : World) (n e : Nat) (x : Ending) (w' : World) : Prop := x = .returned (.tuple #[.int .i64 n, .int .i64 e]) ∧ Below w.heap.size w w'
theorem read_results (w V : World) (n e : Nat) (tmps : Array Value) (h2 : tmps.getD 2 undef = .pointer (some ⟨w.heap.size, 0, none⟩)) (h3 : tmps.getD 3 undef = .pointer (some ⟨w.heap.size + 1, 0, none⟩))
    (bN : Boxed V w.heap.size 3 (.int .i64 n)) (bE : Boxed V (w.heap.size + 1) 29 (.int .i64 e)) :
    (results Tryz.f106 tmps).run Tryz.prog V = .ok (.tuple #[.int .i64 n, .int .i64 e]) V := by
  have c1 := bN.cell
  have c2 := bE.cell
  have h2' : tmps[2]?.getD undef = .pointer (some ⟨w.heap.size, 0, none⟩) := by simpa using h2
  have h3' : tmps[3]?.getD undef = .pointer (some ⟨w.heap.size + 1, 0, none⟩) := by simpa using h3
  simp [results, Tryz.results106, go_sem, h2', h3', c1, c2, asAddr]
theorem read_leave (w V : World) (n e D : Nat) (hDD : w.heap.size + 2 ≤ D) (hD : V.heap[D]? = some (.deferred (some []))) (tmps : Array Value) (h2 : tmps.getD 2 undef = .pointer (some ⟨w.heap.size, 0, none⟩)) (h3 : tmps.getD 3 undef = .pointer (some ⟨w.heap.size + 1, 0, none⟩))
    (bN : Boxed V w.heap.size 3 (.int .i64 n)) (bE : Boxed V (w.heap.size + 1) 29 (.int .i64 e)) (hb : Below w.heap.size w V) :
    LeavesInM Fence.wide 5 Tryz.prog Tryz.f106 tmps (ReadPost w n e) [markOf D, readDef w.heap.size] .returning V := by
  refine ⟨by simp, .inl ⟨D, _, rfl, run_takeDeferred hD, ?_⟩⟩
  have bN' : Boxed (V.putObj D (.deferred none)) w.heap.size 3 (.int .i64 n) := (World.putObj_heap_other (by omega)).trans bN
  have bE' : Boxed (V.putObj D (.deferred none)) (w.heap.size + 1) 29 (.int .i64 e) := (World.putObj_heap_other (by omega)).trans bE
  have hb' : Below w.heap.size w (V.putObj D (.deferred none)) := hb.grown (grownBy_putObj' V D _) hb.size (fun k e => by cases e; omega)
  refine ⟨by simp, .inr ⟨hdd _, _, _, 137, #[.pointer (some ⟨w.heap.size, 0, none⟩), .pointer (some ⟨w.heap.size + 1, 0, none⟩)], rfl, by simp [invoke, go_sem], fun g _ => trivial, ?_⟩⟩
  refine (catch_idle _ _ _ _).mono ?_
  rintro x u' w' ⟨rfl, rfl, rfl⟩
  exact ⟨_, read_results w _ n e tmps h2 h3 bN' bE', rfl, hb'⟩
theorem read_thrown (w V : World) (n e f D : Nat) (hDD : w.heap.size + 2 ≤ D) (hD : V.heap[D]? = some (.deferred (some []))) (tmps : Array Value) (h2 : tmps.getD 2 undef = .pointer (some ⟨w.heap.size, 0, none⟩)) (h3 : tmps.getD 3 undef = .pointer (some ⟨w.heap.size + 1, 0, none⟩))
    (bN : Boxed V w.heap.size 3 (.int .i64 n)) (bE : Boxed V (w.heap.size + 1) 29 (.int .i64 e)) (hb : Below w.heap.size w V) :
    LeavesInM Fence.wide 5 Tryz.prog Tryz.f106 tmps (ReadPost w 0 f) [markOf D, readDef w.heap.size] (.panicking [{ v := .iface 29 (.int .i64 f), recovered := false }]) V := by
  refine ⟨by simp, .inl ⟨D, _, rfl, run_takeDeferred hD, ?_⟩⟩
  have bN' : Boxed (V.putObj D (.deferred none)) w.heap.size 3 (.int .i64 n) := (World.putObj_heap_other (by omega)).trans bN
  have bE' : Boxed (V.putObj D (.deferred none)) (w.heap.size + 1) 29 (.int .i64 e) := (World.putObj_heap_other (by omega)).trans bE
  have hb' : Below w.heap.size w (V.putObj D (.deferred none)) := hb.grown (grownBy_putObj' V D _) hb.size (fun k e => by cases e; omega)
  refine ⟨by simp, .inr ⟨hdd _, _, _, 137, #[.pointer (some ⟨w.heap.size, 0, none⟩), .pointer (some ⟨w.heap.size + 1, 0, none⟩)], rfl, by simp [invoke, go_sem], fun g _ => trivial, ?_⟩⟩
  refine (catch_thrown _ _ _ f _ _ _ (by omega) bN' bE').mono ?_
  rintro x u' w' ⟨rfl, rfl, rfl⟩
  have bN2 := (bN'.set (.int .i64 0)).other (B' := w.heap.size + 1) (by omega) (.int .i64 f)
  have bE2 := (bE'.other (B' := w.heap.size) (by omega) (.int .i64 0)).set (.int .i64 f)
  refine ⟨_, read_results w _ 0 f tmps h2 h3 bN2 bE2, rfl, ?_⟩
  exact (hb'.setCell (p := ⟨w.heap.size, 0, none⟩) (Nat.le_refl _) _).setCell (p := ⟨w.heap.size + 1, 0, none⟩) (Nat.le_succ _) _

abbrev readAct (s : ByteArray) (B b : Nat) (x : Pl6) : Act :=
  { tmps := #[.string s, undef, .pointer (some ⟨B, 0, none⟩), .pointer (some ⟨B + 1, 0, none⟩), .pointer (some ⟨b, 0, none⟩), .func (.func 137) #[] #[.pointer (some ⟨B, 0, none⟩), .pointer (some ⟨B + 1, 0, none⟩)], .string s, .func (.func 104) #[] #[.pointer (some ⟨B + 1 + 1, 0, none⟩)], encPl x, undef, undef, undef, undef, undef], defers := [] }

set_option maxRecDepth 100000 in
set_option maxHeartbeats 4000000 in
theorem read6_any (s : ByteArray) (hs : s.size ≤ 281474976710656) (w : World) :
    Calls Tryz.prog 106 #[.string s] w fun e w' => e = .returned (.tuple #[.int .i64 (frontP (bl s)).1, .int .i64 (frontP (bl s)).2]) ∧ Below w.heap.size w w' := by
  have hmf : ∀ (fn : Fn) (first cap : Array Value) (w : World), (Instr.makeFunc fn first cap).run Tryz.prog w = .ok (.func fn first cap) w := fun _ _ _ _ => rfl
  refine (callsIn_wide (n := 5)).1 ?_
  refine callsIn_of_wp_marks Tryz.func106 rfl trivial ?_ rfl
  simp only [Tryz.ntmps106, List.size_toArray, List.length_cons, List.length_nil, Nat.reduceAdd, Nat.reduceSub, Array.replicate_succ, Array.replicate_zero, List.push_toArray, List.append_toArray, List.nil_append, List.cons_append]
  gi_wp2_with (refine ⟨trivial, ?_⟩; gi_at_call 64; refine (callsIn_wide.2 (places_in s _)).mono ?_; rintro e w1 ⟨rfl, rfl⟩)
  obtain ⟨W0, hW0⟩ : ∃ W0, ((w.alloc (.cells #[.int .i64 0] 3)).alloc (.cells #[.int .i64 0] 29)).alloc (.cells #[.string s] 9) = W0 := ⟨_, rfl⟩
  have bN : Boxed W0 w.heap.size 3 (.int .i64 0) := by rw [← hW0]; exact ((Boxed.new w _ _).alloc _).alloc _
  have bE : Boxed W0 (w.heap.size + 1) 29 (.int .i64 0) := by rw [← hW0]; have h := (Boxed.new (w.alloc (.cells #[.int .i64 0] 3)) 29 (.int .i64 0)).alloc (.cells #[.string s] 9); simpa using h
  have bS : Boxed W0 (w.heap.size + 2) 9 (.string s) := by rw [← hW0]; have h := Boxed.new ((w.alloc (.cells #[.int .i64 0] 3)).alloc (.cells #[.int .i64 0] 29)) 9 (.string s); simpa using h
  have hB0 : Below w.heap.size w W0 := by rw [← hW0]; exact (((Below.refl _ w).alloc (Nat.le_refl _) _).alloc (by simp) _).alloc (by simp; omega) _
  have hsz : W0.heap.size = w.heap.size + 3 := by rw [← hW0]; simp
  rw [hW0]
  clear hW0
  refine wpIn_places s hs (w.heap.size + 2) bS rfl (ReadI w) (fun _ _ _ => False) (readI_own w _ (by omega)) (fun c => fun _ _ _ _ h _ _ => h) ⟨⟨bN, bE⟩, hB0⟩
    (PlAx (w.heap.size + 2) (readAct s w.heap.size)) (plAx_own _ _ _) ?assign ?body ?done ?stop ?throw
  case assign =>
    intro m l pre x W K hi hK
    have hzr := Lib.hid hK
    clear hK
    unfold encPl cellsPl
    gi_wp2
    have hlt := hi.1.2.lt
    exact hzr.out _ _ ((KeepsOthers.alloc _ _).from _) (KeepP.alloc _ _) ((readI_own w W0.heap.size (by omega)).alloc _ hi) ⟨W.heap.size, by omega, World.alloc_heap_new _ _, rfl⟩
  case body =>
    rintro m l pre x a' W hl hi ⟨b, hb, hbx, rfl⟩ hpre
    have hx2 := (place_cells hbx).2.2.1
    have hc := hi.1.1.cell
    have hf := hi.1.1.frozen
    have HI := Lib.hid hi
    have HX := Lib.hid hbx
    clear hi hbx hpre bN bE bS
    unfold readAct
    gi_wp2
    obtain ⟨⟨b1, b2⟩, b3⟩ := HI.out
    refine ⟨(KeepsOthers.setCell _ _ _).from _, KeepP.setBox b1 (by decide) _, ⟨?_, b2.other (by omega) _⟩, b3.setCell (p := ⟨w.heap.size, 0, none⟩) (Nat.le_refl _) _⟩
    rw [lastH_snoc]
    exact b1.set _
  case done =>
    rintro D W hD hz ⟨⟨b1, b2⟩, b3⟩ hK
    have hfr := vis_front s
    rw [if_pos hz] at hfr
    have hle := lastH_le s _ (List.prefix_refl _)
    have hDD : w.heap.size + 2 ≤ D := by omega
    have hc := b1.cell
    have hf := b1.frozen
    have hce := b2.cell
    have hfe := b2.frozen
    have HL := Lib.hid hle
    generalize lastH (vis s).1 = n at *
    clear bN bE bS hz hle hB0 hD hsz
    by_cases hn : 16384 < n
    · rw [if_pos hn] at hfr
      have hn' : (16384 : Int) < (n : Int) := by omega
      have B1 := Lib.hid b1
      have B2 := Lib.hid b2
      have B3 := Lib.hid b3
      have HK := Lib.hid hK
      have c2 := (b2.other (B' := w.heap.size) (by omega) (.int .i64 0)).cell
      have f2 := (b2.other (B' := w.heap.size) (by omega) (.int .i64 0)).frozen
      clear hn b1 b2 b3 hK
      gi_wp2
      try rw [hfr]
      refine read_leave w _ 0 5 D hDD ?_ _ rfl rfl ((B1.out.set _).other (by omega) _) ((B2.out.other (by omega) _).set _) ((B3.out.setCell (p := ⟨w.heap.size, 0, none⟩) (Nat.le_refl _) _).setCell (p := ⟨w.heap.size + 1, 0, none⟩) (Nat.le_succ _) _)
      exact ((KeepsOthers.setCell _ _ _).same _ _ ((KeepsOthers.setCell _ _ _).same _ _ HK.out rfl) rfl)
    · rw [if_neg hn] at hfr
      have hn' : ¬ (16384 : Int) < (n : Int) := by omega
      have B1 := Lib.hid b1
      have B2 := Lib.hid b2
      have B3 := Lib.hid b3
      have HK := Lib.hid hK
      have c2 := (b2.other (B' := w.heap.size) (by omega) (.int .i64 n)).cell
      have f2 := (b2.other (B' := w.heap.size) (by omega) (.int .i64 n)).frozen
      clear hn b1 b2 b3 hK
      gi_wp2
      try rw [hfr]
      refine read_leave w _ n 0 D hDD ?_ _ rfl rfl ((B1.out.set _).other (by omega) _) ((B2.out.other (by omega) _).set _) ((B3.out.setCell (p := ⟨w.heap.size, 0, none⟩) (Nat.le_refl _) _).setCell (p := ⟨w.heap.size + 1, 0, none⟩) (Nat.le_succ _) _)
      exact ((KeepsOthers.setCell _ _ _).same _ _ ((KeepsOthers.setCell _ _ _).same _ _ HK.out rfl) rfl)
  case stop =>
    rintro D c pre W hD hq h hK
    exact h.elim
  case throw =>
    rintro D W hD hz ⟨⟨b1, b2⟩, b3⟩ hK
    have hfr := vis_front s
    rw [if_neg hz] at hfr
    gi_wp2
    try rw [hfr]
    exact read_thrown w W _ _ _ D (by omega) hK _ rfl rfl b1 b2 b3
end Go.Proofs.YtbdlegjklfkdmaaGreatDoor.Pl

namespace Go.Proofs.YtbdlegjklfkdmaaGreatDoor.Pl
open Go.RowKit

theorem front_len (s : ByteArray) (h0 : (frontP (bl s)).2 = 0) : (frontP (bl s)).1 ≤ s.size := by
  obtain ⟨t, _, h1, h2⟩ := front_sound (s := bl s) (n := (frontP (bl s)).1) (by rw [← h0])
  have h3 := congrArg List.length h2
  rw [List.length_append, bl_length] at h3
  omega
set_option maxRecDepth 100000 in
theorem check_any (s : ByteArray) (hs : s.size ≤ 281474976710656) (w : World) :
    Calls Tryz.prog 103 #[.string s] w fun e w' => e = .returned (.int .i64 (checkP (bl s))) ∧ Below w.heap.size w w' := by
  have HC := Lib.hid (fun V => read6_any s hs V)
  obtain ⟨z, hz⟩ : ∃ z, z = checkP (bl s) := ⟨_, rfl⟩
  have hle : (frontP (bl s)).2 = 0 → (frontP (bl s)).1 ≤ s.size := fun h0 => by
    exact front_len s h0
  rw [← hz]
  unfold checkP at hz
  rw [bl_length] at hz
  generalize frontP (bl s) = r at *
  obtain ⟨m, f⟩ := r
  simp only at hz hle
  by_cases hf : f = 0
  · subst hf
    rw [if_pos rfl] at hz
    have hle := hle rfl
    by_cases hm : m = s.size
    · have HZ := Lib.hid (hz.trans (if_pos hm))
      have q : ¬ (m : Int) < (s.size : Int) := by omega
      clear hz hm hs hle
      go_enter Tryz.func103, Tryz.ntmps103
      go_wp2_with (go_at_call 106; refine (HC.out _).mono ?_; rintro e w1 ⟨rfl, b1⟩)
      go_ret
      exact ⟨by rw [HZ.out]; rfl, b1⟩
    · have HZ := Lib.hid (hz.trans (if_neg hm))
      have q : (m : Int) < (s.size : Int) := by omega
      clear hz hm hs hle
      go_enter Tryz.func103, Tryz.ntmps103
      go_wp2_with (go_at_call 106; refine (HC.out _).mono ?_; rintro e w1 ⟨rfl, b1⟩)
      go_ret
      exact ⟨by rw [HZ.out]; rfl, b1⟩
  · have HZ := Lib.hid (hz.trans (if_neg hf))
    have qf : ((f : Int) == 0) = false := by rw [beq_eq_false_iff_ne]; omega
    clear hz hf hs hle
    go_enter Tryz.func103, Tryz.ntmps103
    go_wp2_with (go_at_call 106; refine (HC.out _).mono ?_; rintro e w1 ⟨rfl, b1⟩)
    go_ret
    exact ⟨by rw [HZ.out]; rfl, b1⟩

set_option maxHeartbeats 1000000 in
set_option maxRecDepth 100000 in
theorem are_any (l : List ByteArray) (ao : Option Addr) (cap : Nat) (hl : l.length ≤ 281474976710656) (hx : ∀ x ∈ l, x.size ≤ 281474976710656) (w : World) (hrow : TxtRow w ao l) (r : Bool) (hr : r = true ↔ ∀ x ∈ l, checkP (bl x) = 0) :
    Calls Tryz.prog 63 #[.slice ao l.length cap] w fun e w' => e = .returned (.bool r) ∧ Below w.heap.size w w' := by
  have HROW := Lib.hid hrow
  have HNO : Hid (∀ k, k < l.length → checkP (bl (l.getD k ByteArray.empty)) ≠ 0 → r = false) := Lib.hid (fun k hk e => by
    cases er : r with
    | false => rfl
    | true => exact absurd (hr.1 er _ (getD_mem6 l k hk)) e)
  have HIN : Hid ((∀ k, k < l.length → checkP (bl (l.getD k ByteArray.empty)) = 0) → r = true) := Lib.hid (fun h => hr.2 (fun x hx => by
    obtain ⟨k, hk, rfl⟩ := mem_getD6 hx
    exact h k hk))
  have HX : Hid (∀ k, k < l.length → (l.getD k ByteArray.empty).size ≤ 281474976710656) := Lib.hid (fun k hk => hx _ (getD_mem6 l k hk))
  obtain ⟨n, hn⟩ : ∃ n, n = l.length := ⟨_, rfl⟩
  have HN := Lib.hid hn
  rw [← hn] at hl ⊢
  clear hrow hr hn hx
  go_enter Tryz.func63, Tryz.ntmps63
  go_wp2_with fail
  go_loopw [7] (fun iv wr => ∃ k : Nat, iv = .int .i64 k ∧ k ≤ n ∧ Hid (∀ j, j < k → checkP (bl (l.getD j ByteArray.empty)) = 0) ∧ Hid (Below w.heap.size w wr)) (fun iv _ => n - (intOf iv).toNat)
  case atStart => exact ⟨0, rfl, Nat.zero_le _, Lib.hid (fun j hj => absurd hj (Nat.not_lt_zero j)), Lib.hid (Below.refl _ _)⟩
  case round =>
    obtain ⟨k, rfl, hkn, hch, hb⟩ := hrel
    by_cases hk : k < n
    · have hk' : (k : Int) < (n : Int) := by omega
      rcases HROW.out.below hb.out with e | ⟨b, off, rfl, hlt, hc⟩
      · exfalso; have := HN.out; rw [e] at this; simp at this; omega
      have ck := hc k (by have := HN.out; omega)
      have HK := Lib.hid (HNO.out k (by have := HN.out; omega))
      have HC := Lib.hid (fun V => check_any (l.getD k ByteArray.empty) (HX.out k (by have := HN.out; omega)) V)
      have HY : Hid (checkP (bl (l.getD k ByteArray.empty)) = 0 → ∀ j, j < k + 1 → checkP (bl (l.getD j ByteArray.empty)) = 0) := Lib.hid (fun h j hj => by
        by_cases e : j = k
        · rw [e]; exact h
        · exact hch.out j (by omega))
      generalize l.getD k ByteArray.empty = y at *
      generalize checkP (bl y) = c at *
      clear hc hlt
      by_cases e : c = 0
      · subst e
        have HQ := Lib.hid (HY.out rfl)
        go_wp2_with (go_at_call 103; refine (HC.out _).mono ?_; rintro e w1 ⟨rfl, b1⟩)
        go_roundw
        case rel => exact ⟨k + 1, by go_num, by omega, HQ, Lib.hid (below_step hb.out b1)⟩
        case measure => simp [intOf]; omega
      · have q : ((c : Int) != 0) = true := by rw [bne_iff_ne]; omega
        have HQ := Lib.hid (HK.out e)
        clear e
        go_wp2_with (go_at_call 103; refine (HC.out _).mono ?_; rintro e w1 ⟨rfl, b1⟩)
        go_ret
        exact ⟨ret6_bool HQ.out.symm, below_step hb.out b1⟩
    · obtain rfl : k = n := by omega
      have HQ := Lib.hid (HIN.out (fun j hj => hch.out j (by have := HN.out; omega)))
      clear hk hkn
      go_wp2_with fail
      go_ret
      exact ⟨ret6_bool HQ.out.symm, hb.out⟩

theorem valid6_any (s : ByteArray) (hs : s.size ≤ 281474976710656) (w : World) :
    Calls Tryz.prog 138 #[.string s] w fun e w' => e = .returned (st2 (if checkP (bl s) = 0 then (bl s, 0) else ([], 5))) ∧ Below w.heap.size w w' := by
  have HC := Lib.hid (fun V => check_any s hs V)
  generalize checkP (bl s) = c at *
  by_cases h : c = 0
  · subst h
    rw [if_pos rfl]
    go_enter Tryz.func138, Tryz.ntmps138
    go_wp2_with (go_at_call 103; refine (HC.out _).mono ?_; rintro e w1 ⟨rfl, b1⟩)
    go_ret2
    exact ⟨rfl, b1⟩
  · have q : ((c : Int) != 0) = true := by rw [bne_iff_ne]; omega
    rw [if_neg h]
    clear h
    go_enter Tryz.func138, Tryz.ntmps138
    go_wp2_with (go_at_call 103; refine (HC.out _).mono ?_; rintro e w1 ⟨rfl, b1⟩)
    go_ret2
    exact ⟨rfl, b1⟩

/-- The letters. -/
def letterK (b : UInt8) : Nat := if b = 100 then 1 else if b = 97 then 2 else if b = 114 then 3 else if b = 104 then 4 else if b = 109 then 5 else if b = 115 then 6 else 0
set_option maxHeartbeats 1000000 in
set_option maxRecDepth 100000 in
theorem kind6_any (b : UInt8) (w : World) :
    Calls Tryz.prog 120 #[.string ⟨#[b]⟩] w fun e w' => e = .returned (.int .u8 (letterK b)) ∧ w' = w := by
  by_cases e100 : b = 100
  · subst e100
    go_enter Tryz.func120, Tryz.ntmps120
    go_wp2_with fail
    go_ret
    exact ⟨rfl, rfl⟩
  by_cases e97 : b = 97
  · subst e97
    go_enter Tryz.func120, Tryz.ntmps120
    go_wp2_with fail
    go_ret
    exact ⟨rfl, rfl⟩
  by_cases e114 : b = 114
  · subst e114
    go_enter Tryz.func120, Tryz.ntmps120
    go_wp2_with fail
    go_ret
    exact ⟨rfl, rfl⟩
  by_cases e104 : b = 104
  · subst e104
    go_enter Tryz.func120, Tryz.ntmps120
    go_wp2_with fail
    go_ret
    exact ⟨rfl, rfl⟩
  by_cases e109 : b = 109
  · subst e109
    go_enter Tryz.func120, Tryz.ntmps120
    go_wp2_with fail
    go_ret
    exact ⟨rfl, rfl⟩
  by_cases e115 : b = 115
  · subst e115
    go_enter Tryz.func120, Tryz.ntmps120
    go_wp2_with fail
    go_ret
    exact ⟨rfl, rfl⟩
  have HZ : Hid (letterK b = 0) := Lib.hid (by unfold letterK; simp [e100, e97, e114, e104, e109, e115])
  have lit : ∀ c : UInt8, (⟨#[c]⟩ : ByteArray).toList = [c] := fun c => by rw [Lib.toList_data]
  obtain ⟨n100, m100⟩ := str6_ne (a := ⟨#[b]⟩) (b := ⟨#[100]⟩) (fun h => e100 (by injection h with h; simpa using h))
  rw [lit 100] at n100 m100
  obtain ⟨n97, m97⟩ := str6_ne (a := ⟨#[b]⟩) (b := ⟨#[97]⟩) (fun h => e97 (by injection h with h; simpa using h))
  rw [lit 97] at n97 m97
  obtain ⟨n114, m114⟩ := str6_ne (a := ⟨#[b]⟩) (b := ⟨#[114]⟩) (fun h => e114 (by injection h with h; simpa using h))
  rw [lit 114] at n114 m114
  obtain ⟨n104, m104⟩ := str6_ne (a := ⟨#[b]⟩) (b := ⟨#[104]⟩) (fun h => e104 (by injection h with h; simpa using h))
  rw [lit 104] at n104 m104
  obtain ⟨n109, m109⟩ := str6_ne (a := ⟨#[b]⟩) (b := ⟨#[109]⟩) (fun h => e109 (by injection h with h; simpa using h))
  rw [lit 109] at n109 m109
  obtain ⟨n115, m115⟩ := str6_ne (a := ⟨#[b]⟩) (b := ⟨#[115]⟩) (fun h => e115 (by injection h with h; simpa using h))
  rw [lit 115] at n115 m115
  generalize (⟨#[b]⟩ : ByteArray) = sb at *
  rw [HZ.out]
  go_enter Tryz.func120, Tryz.ntmps120
  go_wp2_with fail
  go_ret
  exact ⟨rfl, rfl⟩

theorem kind_of {s : List UInt8} (h : checkP s = 0) : ∃ b r, s = b :: r ∧ kindP s = letterK b ∧ (letterK b = 1 ∨ letterK b = 2 → (rdt r 1024).2.2 = 0 ∧ textP s = ((rdt r 1024).1, true)) ∧
    (letterK b ≠ 1 → letterK b ≠ 2 → textP s = ([], false)) := by
  obtain ⟨t, ht, te⟩ := check_iff.1 h
  obtain ⟨hd, l⟩ := t
  have hg := ht.1
  simp only [Tm.good] at hg
  rw [Tm.enc_node] at te
  obtain ⟨c, hk⟩ := head_kind hg.1
  cases hk with
  | data t e1 e2 e3 =>
    refine ⟨100, txt t ++ encs l, by rw [← te, e1]; rfl, ?_, fun _ => ?_, fun h => absurd rfl h⟩
    · unfold kindP; rw [if_pos h, ← te, e1]; rfl
    · have hr := rdt_txt (t := t) (by rw [two64]; omega) (encs l) 1024 (by omega)
      refine ⟨by rw [hr], ?_⟩
      unfold textP
      rw [if_pos ⟨h, .inl (by rw [← te, e1]; rfl)⟩, ← te, e1]
      rfl
  | atom t e1 e2 e4 e3 =>
    refine ⟨97, txt t ++ encs l, by rw [← te, e1]; rfl, ?_, fun _ => ?_, fun _ h => absurd rfl h⟩
    · unfold kindP; rw [if_pos h, ← te, e1]; rfl
    · have hr := rdt_txt (t := t) (by rw [two64]; omega) (encs l) 1024 (by omega)
      refine ⟨by rw [hr], ?_⟩
      unfold textP
      rw [if_pos ⟨h, .inr (by rw [← te, e1]; rfl)⟩, ← te, e1]
      rfl
  | row v e1 e2 e3 =>
    refine ⟨114, enc v ++ encs l, by rw [← te, e1]; rfl, ?_, fun h => absurd h (by decide), fun _ _ => ?_⟩
    · unfold kindP; rw [if_pos h, ← te, e1]; rfl
    · unfold textP; rw [if_neg (by rintro ⟨_, h | h⟩ <;> (rw [← te, e1] at h; exact absurd h (by simp)))]
  | hash e1 e3 =>
    refine ⟨104, encs l, by rw [← te, e1]; rfl, ?_, fun h => absurd h (by decide), fun _ _ => ?_⟩
    · unfold kindP; rw [if_pos h, ← te, e1]; rfl
    · unfold textP; rw [if_neg (by rintro ⟨_, h | h⟩ <;> (rw [← te, e1] at h; exact absurd h (by simp)))]
  | mac e1 e3 =>
    refine ⟨109, encs l, by rw [← te, e1]; rfl, ?_, fun h => absurd h (by decide), fun _ _ => ?_⟩
    · unfold kindP; rw [if_pos h, ← te, e1]; rfl
    · unfold textP; rw [if_neg (by rintro ⟨_, h | h⟩ <;> (rw [← te, e1] at h; exact absurd h (by simp)))]
  | seal_ e1 e3 =>
    refine ⟨115, encs l, by rw [← te, e1]; rfl, ?_, fun h => absurd h (by decide), fun _ _ => ?_⟩
    · unfold kindP; rw [if_pos h, ← te, e1]; rfl
    · unfold textP; rw [if_neg (by rintro ⟨_, h | h⟩ <;> (rw [← te, e1] at h; exact absurd h (by simp)))]
theorem kind_no {s : List UInt8} (h : checkP s ≠ 0) : kindP s = 0 ∧ textP s = ([], false) := by
  unfold kindP textP
  exact ⟨if_neg h, if_neg (fun e => h e.1)⟩

/-- One text in a row of its own. -/
theorem are1_any (s : ByteArray) (hs : s.size ≤ 281474976710656) (w : World) :
    Calls Tryz.prog 63 #[.slice (some ⟨w.heap.size, 0, none⟩) 1 1] (w.alloc (.cells #[.string s] 9)) fun e w' => e = .returned (.bool (checkP (bl s) == 0)) ∧ Below w.heap.size w w' :=
  (are_any [s] (some ⟨w.heap.size, 0, none⟩) 1 (by simp) (fun x hx => by simp at hx; rw [hx]; exact hs) _ (row1 w s) (checkP (bl s) == 0) (by simp)).mono (fun e w' h => ⟨h.1, below_step ((Below.refl _ _).alloc (Nat.le_refl _) _) h.2⟩)
theorem tslice_to (x : ByteArray) (b : Nat) (h2 : b ≤ x.size) (V : World) : (Instr.sliceAt 9 (.string x) none (some (.int .i64 (b : Int))) none).run Tryz.prog V = .ok (.string (x.extract 0 b)) V := by
  have h1 : (0 : Int) ≤ (b : Int) := by omega
  have h3 : (b : Int) ≤ (x.size : Int) := by omega
  go_simp

set_option maxHeartbeats 1000000 in
set_option maxRecDepth 100000 in
theorem tkind_any (s : ByteArray) (hs : s.size ≤ 281474976710656) (w : World) :
    Calls Tryz.prog 85 #[.string s] w fun e w' => e = .returned (.int .u8 (kindP (bl s))) ∧ Below w.heap.size w w' := by
  have HA := Lib.hid (are1_any s hs w)
  by_cases hc : checkP (bl s) = 0
  · rw [may_yes hc] at HA
    obtain ⟨b, r, e1, e2, _⟩ := kind_of hc
    have hpos : 0 < s.size := by rw [size_bl, e1]; simp
    have h1 : s.extract 0 1 = ⟨#[b]⟩ := bl_inj (by rw [bl_extract, e1]; rfl)
    have sl : ∀ V : World, (Instr.sliceAt 9 (.string s) none (some (.int .i64 1)) none).run Tryz.prog V = .ok (.string ⟨#[b]⟩) V := fun V => by
      rw [← h1]; exact tslice_to s 1 hpos V
    have HK := Lib.hid (fun V => kind6_any b V)
    rw [e2]
    generalize letterK b = k at *
    generalize (⟨#[b]⟩ : ByteArray) = sb at *
    clear hc e1 e2 hpos h1 hs
    go_enter Tryz.func85, Tryz.ntmps85
    go_wp2_with (first | (go_at_call 63; refine HA.out.mono ?_; rintro e w1 ⟨rfl, b1⟩) | (go_at_call 120; refine (HK.out _).mono ?_; rintro e w2 ⟨rfl, rfl⟩))
    go_ret
    exact ⟨rfl, b1⟩
  · rw [may_no hc] at HA
    rw [(kind_no hc).1]
    clear hc
    go_enter Tryz.func85, Tryz.ntmps85
    go_wp2_with (first | (go_at_call 63; refine HA.out.mono ?_; rintro e w1 ⟨rfl, b1⟩))
    go_ret
    exact ⟨rfl, b1⟩

set_option maxHeartbeats 1000000 in
set_option maxRecDepth 100000 in
theorem text6_any (s : ByteArray) (hs : s.size ≤ 281474976710656) (w : World) :
    Calls Tryz.prog 86 #[.string s] w fun e w' => e = .returned (tb2 (textP (bl s))) ∧ Below w.heap.size w w' := by
  have HA := Lib.hid (tkind_any s hs w)
  by_cases hc : checkP (bl s) = 0
  · obtain ⟨b, r, e1, e2, e3, e4⟩ := kind_of hc
    have hpos : 1 ≤ s.size := by rw [size_bl, e1]; simp
    have hx : bl (s.extract 1 s.size) = r := by rw [bl_from, e1]; rfl
    have sl : ∀ V : World, (Instr.sliceAt 9 (.string s) (some (.int .i64 1)) none none).run Tryz.prog V = .ok (.string (s.extract 1 s.size)) V := tslice_from s 1 hpos
    have hxs : (s.extract 1 s.size).size ≤ 281474976710656 := by rw [size_bl, bl_from, List.length_drop, bl_length]; omega
    rw [e2] at HA
    generalize letterK b = k at *
    generalize s.extract 1 s.size = x at *
    have HT := Lib.hid (fun V => readtext_any x 1024 V hxs (by decide) (by decide))
    rw [show x.data.toList = bl x from rfl, hx] at HT
    by_cases hk1 : k = 1
    · subst hk1
      obtain ⟨f1, f2⟩ := e3 (.inl rfl)
      rw [f2]
      obtain ⟨z, hz⟩ : ∃ z, z = rdt r 1024 := ⟨_, rfl⟩
      rw [← hz] at HT f1 ⊢
      obtain ⟨t, n, f⟩ := z
      simp only at f1
      subst f1
      clear e1 e2 e3 e4 hx hxs hz hc hs f2
      go_enter Tryz.func86, Tryz.ntmps86
      go_wp2_with (first | (go_at_call 85; refine HA.out.mono ?_; rintro e w1 ⟨rfl, b1⟩) | (go_at_call 121; refine (HT.out _).mono ?_; rintro e w2 ⟨rfl, b2⟩))
      go_ret2
      exact ⟨rfl, below_step b1 b2⟩
    · have q1 : ((k : Int) == 1) = false := by rw [beq_eq_false_iff_ne]; omega
      by_cases hk2 : k = 2
      · subst hk2
        obtain ⟨f1, f2⟩ := e3 (.inr rfl)
        rw [f2]
        obtain ⟨z, hz⟩ : ∃ z, z = rdt r 1024 := ⟨_, rfl⟩
        rw [← hz] at HT f1 ⊢
        obtain ⟨t, n, f⟩ := z
        simp only at f1
        subst f1
        clear e1 e2 e3 e4 hx hxs hz hc hs f2
        go_enter Tryz.func86, Tryz.ntmps86
        go_wp2_with (first | (go_at_call 85; refine HA.out.mono ?_; rintro e w1 ⟨rfl, b1⟩) | (go_at_call 121; refine (HT.out _).mono ?_; rintro e w2 ⟨rfl, b2⟩))
        go_ret2
        exact ⟨rfl, below_step b1 b2⟩
      · have q2 : ((k : Int) == 2) = false := by rw [beq_eq_false_iff_ne]; omega
        rw [e4 hk1 hk2]
        clear e1 e2 e3 e4 hx hxs hc hs hk1 hk2
        go_enter Tryz.func86, Tryz.ntmps86
        go_wp2_with (first | (go_at_call 85; refine HA.out.mono ?_; rintro e w1 ⟨rfl, b1⟩))
        go_ret2
        exact ⟨rfl, b1⟩
  · rw [(kind_no hc).1] at HA
    rw [(kind_no hc).2]
    clear hc
    go_enter Tryz.func86, Tryz.ntmps86
    go_wp2_with (first | (go_at_call 85; refine HA.out.mono ?_; rintro e w1 ⟨rfl, b1⟩))
    go_ret2
    exact ⟨rfl, b1⟩
end Go.Proofs.YtbdlegjklfkdmaaGreatDoor.Pl

namespace Go.Proofs.YtbdlegjklfkdmaaGreatDoor.Pl
open Go.RowKit Go.Shelf
attribute [local go_sem] Oper.semAt_some

/-- The places of a term. -/
theorem vis_term {s : ByteArray} (h : checkP (bl s) = 0) : ∃ T : Tm, T.valid ∧ bl s = T.enc ∧ treeOf (bl s) = some T ∧ vis s = ((offT 0 1 T).map Prod.fst, T.enc.length, 0) := by
  obtain ⟨T, tv, te, tr⟩ := tree_of h
  refine ⟨T, tv, te, tr, ?_⟩
  have h1 := vis_tree (bl s) T tv.1 16 tv.2.1 (Nat.le_refl _) 0 [] (by rw [List.drop_zero, te, List.append_nil])
  rw [Nat.zero_add] at h1
  exact h1
theorem below_mark {B : Nat} {w V : World} {D : Nat} {o : Obj} (h : Below B w V) (hB : B ≤ D) (hD : V.heap[D]? = some o) (o' : Obj) : Below B w (V.putObj D o') :=
  h.grown (grownBy_putObj' V D o') (by have := (Array.getElem?_eq_some_iff.1 hD).1; omega) (fun k e => by cases e; exact hB)
theorem leave_mark {n : Nat} {fn : Func} {tmps : Array Value} {R : Ending → World → Prop} {D : Nat} {V : World} {v : Value} (hm : V.heap[D]? = some (.deferred (some [])))
    (h : (results fn tmps).run Tryz.prog (V.putObj D (.deferred none)) = .ok v (V.putObj D (.deferred none))) (hR : R (.returned v) (V.putObj D (.deferred none))) :
    LeavesInM Fence.wide n Tryz.prog fn tmps R [markOf D] .returning V :=
  ⟨by simp, .inl ⟨D, _, rfl, run_takeDeferred hm, v, h, hR⟩⟩
theorem vis_count {s : ByteArray} (h : checkP (bl s) = 0) (q : List Pl6) (hq : q <+: (vis s).1) : q.length ≤ 16384 := by
  obtain ⟨T, tv, te, tr, hv⟩ := vis_term h
  have h1 := hq.length_le
  rw [hv, List.length_map] at h1
  have h2 : (offT 0 1 T).length = T.places.length := by rw [← offs_snd T 0 1, List.length_map]
  have h3 := places_count T tv.1
  have h4 := tv.2.2
  omega

end Go.Proofs.YtbdlegjklfkdmaaGreatDoor.Pl

namespace Go.Proofs.YtbdlegjklfkdmaaGreatDoor.Pl
open Go.RowKit Go.Shelf
attribute [local go_sem] Oper.semAt_some

theorem offs_place {T : Tm} {y : Pl6 × Tm} (hy : y ∈ offT 0 1 T) : y.2 ∈ T.places := by
  rw [← offs_snd T 0 1]
  exact List.mem_map_of_mem hy
theorem keepsOthers_below {W W' : World} (h : Below W.heap.size W W') : KeepsOthers W W' :=
  KeepsOthers.of_grownBy (row := none) ⟨h.os, h.tape, h.output, h.size, fun k hk _ => h.block k hk⟩ (fun _ _ e => by cases e)
end Go.Proofs.YtbdlegjklfkdmaaGreatDoor.Pl

namespace Go.Proofs.YtbdlegjklfkdmaaGreatDoor.Pl
open Go.RowKit

set_option maxRecDepth 100000 in
theorem data6_any (s : ByteArray) (hs : s.size ≤ 281474976710656) (w : World) :
    Calls Tryz.prog 73 #[.string s] w fun e w' => e = .returned (st2 (dataP (bl s))) ∧ Below w.heap.size w w' := by
  by_cases h : 1024 < s.size
  · have HZ : Hid (dataP (bl s) = ([], 5)) := Lib.hid (by unfold dataP; rw [bl_length]; exact if_pos h)
    have h' : (1024 : Int) < (s.size : Int) := by omega
    clear h
    go_enter Tryz.func73, Tryz.ntmps73
    go_wp2_with fail
    go_ret2
    exact ⟨by rw [HZ.out]; rfl, Below.refl _ _⟩
  · have HZ : Hid (dataP (bl s) = (100 :: txt (bl s), 0)) := Lib.hid (by unfold dataP; rw [bl_length]; exact if_neg h)
    have h' : ¬ (1024 : Int) < (s.size : Int) := by omega
    have HT := Lib.hid (fun V => text_any s V hs)
    rw [text_list] at HT
    have hcat : (⟨#[100]⟩ : ByteArray).size + (⟨(txt s.data.toList).toArray⟩ : ByteArray).size ≤ 9223372036854775807 := by
      have h4 : (⟨(txt s.data.toList).toArray⟩ : ByteArray).size = (txt s.data.toList).length := size_lit _
      have := txt_le s.data.toList
      have h2 : s.data.toList.length = s.size := bl_length s
      have h3 : (⟨#[100]⟩ : ByteArray).size = 1 := rfl
      omega
    have HC : Hid ((⟨#[100]⟩ ++ ⟨(txt s.data.toList).toArray⟩ : ByteArray) = ⟨(100 :: txt (bl s)).toArray⟩) := Lib.hid (cat_front _ _)
    generalize (⟨(txt s.data.toList).toArray⟩ : ByteArray) = t at *
    clear h hs
    go_enter Tryz.func73, Tryz.ntmps73
    go_wp2_with (go_at_call 112; refine (HT.out _).mono ?_; rintro e w1 ⟨rfl, b1⟩)
    go_ret2
    exact ⟨by rw [HZ.out, st2, ← HC.out]; rfl, b1⟩

set_option maxRecDepth 100000 in
theorem atom6_any (s : ByteArray) (hs : s.size ≤ 281474976710656) (w : World) :
    Calls Tryz.prog 187 #[.string s] w fun e w' => e = .returned (st2 (atomP (bl s))) ∧ Below w.heap.size w w' := by
  have HN := Lib.hid (fun V => isname_any s hs V)
  by_cases h : 32 < s.size
  · have HZ : Hid (atomP (bl s) = ([], 5)) := Lib.hid (by unfold atomP; rw [bl_length]; exact if_pos h)
    have h' : (32 : Int) < (s.size : Int) := by omega
    clear h
    go_enter Tryz.func187, Tryz.ntmps187
    go_wp2_with fail
    go_ret2
    exact ⟨by rw [HZ.out]; rfl, Below.refl _ _⟩
  · have h' : ¬ (32 : Int) < (s.size : Int) := by omega
    cases hno : nameOK (bl s) with
    | false =>
      have HZ : Hid (atomP (bl s) = ([], 7)) := Lib.hid (by unfold atomP; rw [bl_length, if_neg h, if_pos hno])
      rw [hno] at HN
      clear h hs hno
      go_enter Tryz.func187, Tryz.ntmps187
      go_wp2_with (go_at_call 160; refine (HN.out _).mono ?_; rintro e w1 ⟨rfl, b1⟩)
      go_ret2
      exact ⟨by rw [HZ.out]; rfl, b1⟩
    | true =>
      have HZ : Hid (atomP (bl s) = (97 :: txt (bl s), 0)) := Lib.hid (by unfold atomP; rw [bl_length, if_neg h, if_neg (by rw [hno]; decide)])
      rw [hno] at HN
      have HT := Lib.hid (fun V => text_any s V hs)
      rw [text_list] at HT
      have hcat : (⟨#[97]⟩ : ByteArray).size + (⟨(txt s.data.toList).toArray⟩ : ByteArray).size ≤ 9223372036854775807 := by
        have h4 : (⟨(txt s.data.toList).toArray⟩ : ByteArray).size = (txt s.data.toList).length := size_lit _
        have := txt_le s.data.toList
        have h2 : s.data.toList.length = s.size := bl_length s
        have h3 : (⟨#[97]⟩ : ByteArray).size = 1 := rfl
        omega
      have HC : Hid ((⟨#[97]⟩ ++ ⟨(txt s.data.toList).toArray⟩ : ByteArray) = ⟨(97 :: txt (bl s)).toArray⟩) := Lib.hid (cat_front _ _)
      generalize (⟨(txt s.data.toList).toArray⟩ : ByteArray) = t at *
      clear h hs hno
      go_enter Tryz.func187, Tryz.ntmps187
      go_wp2_with (first | (go_at_call 160; refine (HN.out _).mono ?_; rintro e w1 ⟨rfl, b1⟩) | (go_at_call 112; refine (HT.out _).mono ?_; rintro e w2 ⟨rfl, b2⟩))
      go_ret2
      exact ⟨by rw [HZ.out, st2, ← HC.out]; rfl, below_step b1 b2⟩

set_option maxRecDepth 100000 in
theorem num6_any (v : Int) (h0 : -9223372036854775808 ≤ v) (h1 : v ≤ 9223372036854775807) (w : World) :
    Calls Tryz.prog 28 #[.int .i64 v] w fun e w' => e = .returned (st2 (numP v)) ∧ Below w.heap.size w w' := by
  by_cases hn : v < 0
  · have HZ : Hid (numP v = ([], 2)) := Lib.hid (if_neg (by omega))
    go_enter Tryz.func28, Tryz.ntmps28
    go_wp2_with fail
    go_ret2
    exact ⟨by rw [HZ.out]; rfl, Below.refl _ _⟩
  · by_cases hm : 2147483647 < v
    · have HZ : Hid (numP v = ([], 2)) := Lib.hid (if_neg (by omega))
      go_enter Tryz.func28, Tryz.ntmps28
      go_wp2_with fail
      go_ret2
      exact ⟨by rw [HZ.out]; rfl, Below.refl _ _⟩
    · obtain ⟨n, rfl⟩ := Int.eq_ofNat_of_zero_le (show 0 ≤ v by omega)
      have HZ : Hid (numP (n : Int) = dataP (enc n)) := Lib.hid (by rw [dataP_enc]; exact if_pos ⟨by omega, by omega⟩)
      have hcv : ∀ V : World, (convert 3 108 (.int .i64 (n : Int))).run Tryz.prog V = .ok (.int .u64 (n : Int)) V := fun V => by
        have hw : IntKind.u64.wrap (n : Int) = (n : Int) := IntWalk.u64_in _ (by omega)
        go_simp
      have HN := Lib.hid (fun V => num_any n (by rw [two64]; omega) V)
      have HD := Lib.hid (fun V => data6_any ⟨(enc n).toArray⟩ (by rw [size_lit]; have := enc_len n; omega) V)
      rw [bl_mk] at HD
      generalize (⟨(enc n).toArray⟩ : ByteArray) = t at *
      clear h0 h1
      unfold st2 at HD
      go_enter Tryz.func28, Tryz.ntmps28
      go_wp2_with (first | (go_at_call 74; refine (HN.out _).mono ?_; rintro e w1 ⟨rfl, b1⟩) | (go_at_call 73; refine (HD.out _).mono ?_; rintro e w2 ⟨rfl, b2⟩))
      go_ret2
      exact ⟨by rw [HZ.out]; rfl, below_step b1 b2⟩

set_option maxHeartbeats 1000000 in
set_option maxRecDepth 100000 in
theorem termat_any (s : ByteArray) (p : Nat) (hp : p ≤ s.size) (hs : s.size ≤ 281474976710656) (w : World) :
    Calls Tryz.prog 65 #[.string s, .int .i64 p] w fun e w' => e = .returned (.string (s.extract p (p + (frontP ((bl s).drop p)).1))) ∧ Below w.heap.size w w' := by
  have sl : ∀ V : World, (Instr.sliceAt 9 (.string s) (some (.int .i64 (p : Int))) none none).run Tryz.prog V = .ok (.string (s.extract p s.size)) V := tslice_from s p hp
  have hx : bl (s.extract p s.size) = (bl s).drop p := bl_from s p
  have hxl : (s.extract p s.size).size + p = s.size := by rw [size_bl, hx, List.length_drop, bl_length]; omega
  rw [← hx]
  generalize s.extract p s.size = x at *
  have hle : (frontP (bl x)).1 ≤ x.size := by
    by_cases h0 : (frontP (bl x)).2 = 0
    · exact front_len x h0
    · have : (frontP (bl x)).1 = 0 := by
        unfold frontP at h0 ⊢
        split
        · split
          · rfl
          · rename_i h1 h2; rw [if_pos h1, if_neg h2] at h0; exact absurd h1 h0
        · rfl
      omega
  have HR := Lib.hid (fun V => read6_any x (by omega) V)
  generalize frontP (bl x) = fr at *
  obtain ⟨n, f⟩ := fr
  simp only at hle ⊢
  have sl2 : ∀ V : World, (Instr.sliceAt 9 (.string s) (some (.int .i64 (p : Int))) (some (.int .i64 ((p : Int) + (n : Int)))) none).run Tryz.prog V = .ok (.string (s.extract p (p + n))) V := fun V => tslice_mid s p (p + n) (by omega) (by omega) V
  have HC := Lib.hid (fun V => clone_any (s.extract p (p + n)) V (by rw [size_bl, bl_extract, List.length_drop, List.length_take, bl_length]; omega))
  generalize s.extract p (p + n) = y at *
  clear hx
  go_enter Tryz.func65, Tryz.ntmps65
  go_wp2_with (first | (go_at_call 106; refine (HR.out _).mono ?_; rintro e w1 ⟨rfl, b1⟩) | (go_at_call 35; refine (HC.out _).mono ?_; rintro e w2 ⟨rfl, b2⟩))
  go_ret
  exact ⟨rfl, below_step b1 b2⟩

theorem kind_data {s : List UInt8} (h : kindP s = 1) : (textP s).2 = true := by
  by_cases hc : checkP s = 0
  · obtain ⟨b, r, _, e2, e3, _⟩ := kind_of hc
    rw [(e3 (.inl (by rw [← e2]; exact h))).2]
  · rw [(kind_no hc).1] at h; cases h

set_option maxHeartbeats 1000000 in
set_option maxRecDepth 100000 in
theorem readnum6_any (s : ByteArray) (hs : s.size ≤ 281474976710656) (w : World) :
    Calls Tryz.prog 47 #[.string s] w fun e w' => e = .returned (nb2 (readnumP (bl s))) ∧ Below w.heap.size w w' := by
  have HT := Lib.hid (fun V => text6_any s hs V)
  have HK := Lib.hid (fun V => tkind_any s hs V)
  obtain ⟨z, hz⟩ : ∃ z, z = readnumP (bl s) := ⟨_, rfl⟩
  rw [← hz]
  unfold readnumP at hz
  have hkd := kind_data (s := bl s)
  have hk6 := kindP_le (bl s)
  have hx1 : (textP (bl s)).1.length ≤ 281474976710656 := by have := textP_len (bl s); rw [bl_length] at this; omega
  generalize textP (bl s) = q at *
  obtain ⟨x, is⟩ := q
  simp only at hz hx1 hkd
  generalize kindP (bl s) = kd at *
  have HR := Lib.hid (fun V => readnum_any ⟨x.toArray⟩ (by rw [size_lit]; omega) V)
  have hxe : (⟨x.toArray⟩ : ByteArray).data.toList = x := rfl
  rw [hxe] at HR
  have hsz : (⟨x.toArray⟩ : ByteArray).size = x.length := size_lit x
  clear hxe
  rw [show tb2 (x, is) = .tuple #[.string ⟨x.toArray⟩, .bool is] from rfl] at HT
  generalize (⟨x.toArray⟩ : ByteArray) = X at *
  obtain ⟨v, m, er, hr⟩ : ∃ v m er, rdn x = (v, m, er) := ⟨_, _, _, rfl⟩
  have hmx : m ≤ 281474976710656 := by
    rcases rdn_err hr with h | ⟨_, h, _⟩
    · subst h
      have h1 := (rdn_sound hr).2.1
      omega
    · omega
  have hmx2 : er = 0 → m ≤ x.length := fun h => by subst h; exact (rdn_sound hr).2.1
  generalize x.length = xl at *
  rw [hr] at HR hz
  simp only at HR hz
  have HRX := Lib.hid (show (X.size : Int) = xl by rw [hsz])
  clear hr hs hx1
  by_cases hk : kd = 1
  · subst hk
    obtain rfl := hkd rfl
    by_cases he : er = 0
    · subst he
      have hmx2 := hmx2 rfl
      by_cases hm : m = xl
      · have q : ¬ (m : Int) < (X.size : Int) := by omega
        by_cases hvm : v ≤ 2147483647
        · have HZ : Hid (z = (v, true)) := Lib.hid (by rw [hz, if_pos ⟨rfl, rfl, rfl, hm, hvm⟩])
          have hcv : ∀ V : World, (convert 108 3 (.int .u64 (v : Int))).run Tryz.prog V = .ok (.int .i64 (v : Int)) V := fun V => by
            have hw : IntKind.i64.wrap (v : Int) = (v : Int) := IntWalk.i64_in _ (by omega)
            go_simp
          have q2 : ¬ (2147483647 : Int) < (v : Int) := by omega
          clear hz hm hmx2 hsz
          go_enter Tryz.func47, Tryz.ntmps47
          go_wp2_with (first | (go_at_call 85; refine (HK.out _).mono ?_; rintro e w1 ⟨rfl, b1⟩) | (go_at_call 86; refine (HT.out _).mono ?_; rintro e w2 ⟨rfl, b2⟩) | (go_at_call 87; refine (HR.out _).mono ?_; rintro e w3 ⟨rfl, rfl⟩))
          go_ret2
          exact ⟨by rw [HZ.out]; rfl, below_step b1 b2⟩
        · have HZ : Hid (z = (0, false)) := Lib.hid (by rw [hz, if_neg]; rintro ⟨_, _, _, _, h⟩; exact hvm h)
          have q2 : (2147483647 : Int) < (v : Int) := by omega
          clear hz hm hmx2 hsz hvm
          go_enter Tryz.func47, Tryz.ntmps47
          go_wp2_with (first | (go_at_call 85; refine (HK.out _).mono ?_; rintro e w1 ⟨rfl, b1⟩) | (go_at_call 86; refine (HT.out _).mono ?_; rintro e w2 ⟨rfl, b2⟩) | (go_at_call 87; refine (HR.out _).mono ?_; rintro e w3 ⟨rfl, rfl⟩))
          go_ret2
          exact ⟨by rw [HZ.out]; rfl, below_step b1 b2⟩
      · have HZ : Hid (z = (0, false)) := Lib.hid (by rw [hz, if_neg]; rintro ⟨_, _, _, h, _⟩; exact hm h)
        have q : (m : Int) < (X.size : Int) := by omega
        clear hz hm hmx2 hsz
        go_enter Tryz.func47, Tryz.ntmps47
        go_wp2_with (first | (go_at_call 85; refine (HK.out _).mono ?_; rintro e w1 ⟨rfl, b1⟩) | (go_at_call 86; refine (HT.out _).mono ?_; rintro e w2 ⟨rfl, b2⟩) | (go_at_call 87; refine (HR.out _).mono ?_; rintro e w3 ⟨rfl, rfl⟩))
        go_ret2
        exact ⟨by rw [HZ.out]; rfl, below_step b1 b2⟩
    · have HZ : Hid (z = (0, false)) := Lib.hid (by rw [hz, if_neg]; rintro ⟨_, _, h, _⟩; exact he h)
      have q : ((er : Int) != 0) = true := by rw [bne_iff_ne]; omega
      clear hz he hmx2 hsz
      go_enter Tryz.func47, Tryz.ntmps47
      go_wp2_with (first | (go_at_call 85; refine (HK.out _).mono ?_; rintro e w1 ⟨rfl, b1⟩) | (go_at_call 86; refine (HT.out _).mono ?_; rintro e w2 ⟨rfl, b2⟩) | (go_at_call 87; refine (HR.out _).mono ?_; rintro e w3 ⟨rfl, rfl⟩))
      go_ret2
      exact ⟨by rw [HZ.out]; rfl, below_step b1 b2⟩
  · have HZ : Hid (z = (0, false)) := Lib.hid (by rw [hz, if_neg]; rintro ⟨_, h, _⟩; exact hk h)
    have q : ((kd : Int) != 1) = true := by rw [bne_iff_ne]; omega
    clear hz hk hmx2 hsz hkd
    go_enter Tryz.func47, Tryz.ntmps47
    go_wp2_with (first | (go_at_call 85; refine (HK.out _).mono ?_; rintro e w1 ⟨rfl, b1⟩))
    go_ret2
    exact ⟨by rw [HZ.out]; rfl, b1⟩
end Go.Proofs.YtbdlegjklfkdmaaGreatDoor.Pl

namespace Go.Proofs.YtbdlegjklfkdmaaGreatDoor.Pl
open Go.RowKit

theorem join_flat : ∀ l : List (List UInt8), Lib.join l [] = l.flatten := by
  intro l
  cases l with
  | nil => rfl
  | cons x r =>
    rw [Lib.join_cons]
    have : Lib.joinTail [] r = r.flatten := by
      unfold Lib.joinTail
      congr 1
      induction r with
      | nil => rfl
      | cons y r ih => simp
    rw [this]; rfl

theorem joined6_any (l : List ByteArray) (ao : Option Addr) (cap : Nat) (hcap : l.length ≤ cap) (hl : l.length ≤ 1000) (hx : ((l.map bl).flatten).length ≤ 100000) (w : World) (hrow : TxtRow w ao l) :
    Calls Tryz.prog 139 #[.slice ao l.length cap, .string ⟨#[]⟩] w fun e w' => e = .returned (.string ⟨((l.map bl).flatten).toArray⟩) ∧ Below w.heap.size w w' := by
  rcases hrow with rfl | ⟨b, off, rfl, hlt, hc⟩
  · exact (Tryz.strings_Join_none ao cap ⟨#[]⟩ w).mono (fun e w' h => ⟨h.1, by rw [h.2]; exact Below.refl _ _⟩)
  · have hj : Lib.join (l.map (·.data.toList)) (⟨#[]⟩ : ByteArray).data.toList = (l.map bl).flatten := join_flat _
    have h := Tryz.strings_Join b off cap l ⟨#[]⟩ w (fun j x hj => by
        have hlt : j < l.length := (List.getElem?_eq_some_iff.1 hj).1
        rw [hc j hlt, List.getD_eq_getElem?_getD, hj]; rfl) hlt (by omega) hcap (by rw [hj]; omega)
    rwa [hj] at h

set_option maxHeartbeats 2000000 in
set_option maxRecDepth 100000 in
theorem join6_any (front : ByteArray) (l : List ByteArray) (ao : Option Addr) (cap : Nat) (hcap : l.length ≤ cap) (hf : front.size ≤ 100) (hl : l.length ≤ 1000) (hx : ∀ x ∈ l, x.size ≤ 100000) (w : World) (hrow : TxtRow w ao l) :
    Calls Tryz.prog 111 #[.string front, .slice ao l.length cap] w fun e w' => e = .returned (st2 (madeP (bl front) (l.map bl))) ∧ Below w.heap.size w w' := by
  have HROW := Lib.hid hrow
  obtain ⟨z, hz⟩ : ∃ z, z = madeP (bl front) (l.map bl) := ⟨_, rfl⟩
  rw [← hz]
  unfold madeP at hz
  by_cases hall : ∀ x ∈ l, checkP (bl x) = 0
  · rw [if_pos (by intro x hx'; obtain ⟨y, hy, rfl⟩ := List.mem_map.1 hx'; exact hall y hy)] at hz
    have HA := Lib.hid (fun V hV => are_any l ao cap (by omega) (fun x h => Nat.le_trans (hx x h) (by decide)) V hV true (by simpa using hall))
    have HX : Hid (∀ k, k < l.length → (l.getD k ByteArray.empty).size ≤ 16384) := Lib.hid (fun k hk => by rw [size_bl]; exact check_len (hall _ (getD_mem6 l k hk)))
    have HCL : Hid (∀ k, (catL l k).length ≤ ((l.map bl).flatten).length) := Lib.hid (fun k => catL_le l k)
    have hbig : ∀ m : List ByteArray, (∀ x ∈ m, checkP (bl x) = 0) → ((m.map bl).flatten).length ≤ m.length * 16384 := by
      intro m
      induction m with
      | nil => intro _; simp
      | cons x m ih =>
        intro h
        have h1 := ih (fun y hy => h y (List.mem_cons_of_mem _ hy))
        have h2 := check_len (h x (List.mem_cons_self ..))
        rw [List.map_cons, List.flatten_cons, List.length_append, List.length_cons, Nat.succ_mul]
        omega
    have hbg := hbig l hall
    have hbg2 : ((l.map bl).flatten).length ≤ 16384000 := by omega
    have HALL : Hid (catL l l.length = (l.map bl).flatten) := Lib.hid (catL_all l _ (Nat.le_refl _))
    have HS : Hid (∀ k, k < l.length → catL l (k + 1) = catL l k ++ bl (l.getD k ByteArray.empty)) := Lib.hid (fun k hk => catL_succ l k hk)
    have HJ := Lib.hid (fun (h : ((l.map bl).flatten).length ≤ 100000) V hV => joined6_any l ao cap hcap hl h V hV)
    have hfl : (bl front ++ (l.map bl).flatten).length = front.size + ((l.map bl).flatten).length := by rw [List.length_append, bl_length]
    generalize (l.map bl).flatten = F at *
    obtain ⟨n, hn⟩ : ∃ n, n = l.length := ⟨_, rfl⟩
    have HN := Lib.hid hn
    rw [← hn] at HA HJ hl ⊢
    have HFL := Lib.hid hfl
    have HZ := Lib.hid hz
    have HBG := Lib.hid hbg2
    have HF := Lib.hid hf
    clear hall hx hrow hbig hbg hbg2 hn hfl hz hcap hf
    go_enter Tryz.func111, Tryz.ntmps111
    go_wp2_with (go_at_call 63; refine (HA.out _ HROW.out).mono ?_; rintro e w1 ⟨rfl, b1⟩)
    go_loopw [6, 16] (fun sv iv wr => ∃ k : Nat, sv = .int .i64 ((front.size + (catL l k).length : Nat) : Int) ∧ iv = .int .i64 k ∧ k ≤ n ∧ Hid (Below w.heap.size w wr)) (fun _ iv _ => n - (intOf iv).toNat)
    case atStart => exact ⟨0, by simp [catL_zero], rfl, Nat.zero_le _, Lib.hid b1⟩
    case round =>
      obtain ⟨k, rfl, rfl, hkn, hb⟩ := hrel
      have hsz : front.size + (catL l k).length ≤ 20000000 := by have := HCL.out k; have := HBG.out; have := HF.out; omega
      by_cases hk : k < n
      · have hk' : (k : Int) < (n : Int) := by omega
        rcases HROW.out.below hb.out with e | ⟨b, off, rfl, hlt, hc⟩
        · exfalso; have := HN.out; rw [e] at this; simp at this; omega
        have ck := hc k (by have := HN.out; omega)
        have hy := HX.out k (by have := HN.out; omega)
        have HST : Hid (front.size + (catL l (k + 1)).length = front.size + (catL l k).length + (l.getD k ByteArray.empty).size) := Lib.hid (by rw [HS.out k (by have := HN.out; omega), List.length_append, bl_length, Nat.add_assoc])
        generalize l.getD k ByteArray.empty = y at *
        generalize front.size + (catL l k).length = q at *
        clear hc hlt
        go_wp2_with fail
        go_roundw
        case rel => exact ⟨k + 1, by rw [HST.out]; go_num, by go_num, by omega, hb⟩
        case measure => simp [intOf]; omega
      · obtain rfl : k = n := by omega
        have HT : Hid (front.size + (catL l k).length = (bl front ++ F).length) := Lib.hid (by rw [HFL.out]; have := HALL.out; rw [← HN.out] at this; rw [this])
        rw [HT.out] at hsz ⊢
        by_cases hT : 16384 < (bl front ++ F).length
        · have h' : (16384 : Int) < (((bl front ++ F).length : Nat) : Int) := by omega
          have HZ2 : Hid (z = ([], 5)) := Lib.hid (by rw [HZ.out, if_neg (fun h => by have := check_len h; omega)])
          clear hT hk hkn hsz
          generalize (bl front ++ F).length = q at *
          go_wp2_with fail
          go_ret2
          exact ⟨by rw [HZ2.out]; rfl, hb.out⟩
        · have h' : ¬ (16384 : Int) < (((bl front ++ F).length : Nat) : Int) := by omega
          have hFl : F.length ≤ 100000 := by have := HFL.out; omega
          have HJ2 := Lib.hid (HJ.out hFl)
          have hcat : front.size + (⟨F.toArray⟩ : ByteArray).size ≤ 9223372036854775807 := by rw [size_lit F]; have := HF.out; omega
          have HV := Lib.hid (fun V => valid6_any (front ++ ⟨F.toArray⟩) (by rw [ByteArray.size_append, size_lit F]; have := HF.out; omega) V)
          have HB : Hid (bl (front ++ ⟨F.toArray⟩) = bl front ++ F) := Lib.hid (cat_bytes _ _)
          have hV2 := HV.out
          rw [HB.out, ← HZ.out] at hV2
          unfold st2 at hV2
          have HV3 := Lib.hid hV2
          clear hT hk hkn hsz hFl HV hV2
          generalize (bl front ++ F).length = q at *
          generalize (⟨F.toArray⟩ : ByteArray) = ft at *
          go_wp2_with (first | (go_at_call 139; refine (HJ2.out _ (HROW.out.below hb.out)).mono ?_; rintro e w2 ⟨rfl, b2⟩) | (go_at_call 138; refine (HV3.out _).mono ?_; rintro e w3 ⟨rfl, b3⟩))
          go_ret2
          exact ⟨rfl, below_step (below_step hb.out b2) b3⟩
  · have HZ : Hid (z = ([], 2)) := Lib.hid (by
      rw [hz, if_neg]
      intro h
      exact hall (fun x hx' => h _ (List.mem_map.2 ⟨x, hx', rfl⟩)))
    have HA := Lib.hid (fun V hV => are_any l ao cap (by omega) (fun x h => Nat.le_trans (hx x h) (by decide)) V hV false (by simpa using hall))
    clear hall hx hz hrow
    generalize l.length = n at *
    go_enter Tryz.func111, Tryz.ntmps111
    go_wp2_with (go_at_call 63; refine (HA.out _ HROW.out).mono ?_; rintro e w1 ⟨rfl, b1⟩)
    go_ret2
    exact ⟨by rw [HZ.out]; rfl, b1⟩

set_option maxRecDepth 100000 in
theorem mac6_any (a b : ByteArray) (ha : a.size ≤ 100000) (hb : b.size ≤ 100000) (w : World) :
    Calls Tryz.prog 188 #[.string a, .string b] w fun e w' => e = .returned (st2 (madeP [109] [bl a, bl b])) ∧ Below w.heap.size w w' := by
  have HM := Lib.hid (join6_any ⟨#[109]⟩ [a, b] (some ⟨w.heap.size, 0, none⟩) 2 (by simp) (by decide) (by simp) (fun x hx => by simp at hx; rcases hx with rfl | rfl <;> assumption) _ (row2 w a b))
  have B0 := Lib.hid ((Below.refl w.heap.size w).alloc (Nat.le_refl _) (.cells #[.string a, .string b] 9))
  unfold st2 at HM
  clear ha hb
  go_enter Tryz.func188, Tryz.ntmps188
  go_wp2_with (go_at_call 111; refine HM.out.mono ?_; rintro e w1 ⟨rfl, b1⟩)
  go_ret2
  exact ⟨rfl, below_step B0.out b1⟩
set_option maxRecDepth 100000 in
theorem row6_any (l : List ByteArray) (ao : Option Addr) (cap : Nat) (hcap : l.length ≤ cap) (hl : l.length ≤ 1000) (hx : ∀ x ∈ l, x.size ≤ 100000) (w : World) (hrow : TxtRow w ao l) :
    Calls Tryz.prog 70 #[.slice ao l.length cap] w fun e w' => e = .returned (st2 (rowP (l.map bl))) ∧ Below w.heap.size w w' := by
  have HN := Lib.hid (fun V => num_any l.length (by rw [two64]; omega) V)
  have hs : (⟨(enc l.length).toArray⟩ : ByteArray).size ≤ 9 := by rw [size_lit]; exact (enc_len _).2
  have hcat : (⟨#[114]⟩ : ByteArray).size + (⟨(enc l.length).toArray⟩ : ByteArray).size ≤ 9223372036854775807 := by
    have h3 : (⟨#[114]⟩ : ByteArray).size = 1 := rfl
    omega
  have hf : (⟨#[114]⟩ ++ ⟨(enc l.length).toArray⟩ : ByteArray).size ≤ 100 := by
    rw [ByteArray.size_append]
    have h3 : (⟨#[114]⟩ : ByteArray).size = 1 := rfl
    omega
  have HE : Hid (bl (⟨#[114]⟩ ++ ⟨(enc l.length).toArray⟩ : ByteArray) = 114 :: enc (l.map bl).length) := Lib.hid (by rw [cat_front, bl_mk, List.length_map])
  have hM := fun V hV => join6_any (⟨#[114]⟩ ++ ⟨(enc l.length).toArray⟩) l ao cap hcap hf hl hx V hV
  rw [HE.out, show madeP (114 :: enc (l.map bl).length) (l.map bl) = rowP (l.map bl) from rfl] at hM
  unfold st2 at hM
  have HM := Lib.hid hM
  have HROW := Lib.hid hrow
  have hcv : ∀ V : World, (convert 3 108 (.int .i64 ((l.length : Nat) : Int))).run Tryz.prog V = .ok (.int .u64 ((l.length : Nat) : Int)) V := fun V => by
    have hw : IntKind.u64.wrap ((l.length : Nat) : Int) = ((l.length : Nat) : Int) := IntWalk.u64_in _ (by omega)
    go_simp
  generalize (⟨(enc l.length).toArray⟩ : ByteArray) = t at *
  generalize rowP (l.map bl) = rp at *
  obtain ⟨n, hn⟩ : ∃ n, n = l.length := ⟨_, rfl⟩
  rw [← hn] at HN hcv HM ⊢
  clear hs hf hx hrow hn hl hM hcap
  go_enter Tryz.func70, Tryz.ntmps70
  go_wp2_with (first | (go_at_call 74; refine (HN.out _).mono ?_; rintro e w1 ⟨rfl, b1⟩) | (go_at_call 111; refine (HM.out _ (HROW.out.below b1)).mono ?_; rintro e w2 ⟨rfl, b2⟩))
  go_ret2
  exact ⟨rfl, below_step b1 b2⟩
end Go.Proofs.YtbdlegjklfkdmaaGreatDoor.Pl
