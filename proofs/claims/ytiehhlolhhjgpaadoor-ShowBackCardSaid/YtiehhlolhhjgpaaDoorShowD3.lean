/- What term.Read answers: it goes over the places, and catches what is thrown. What the document's Parts, Size, depth, Depth, In and Has of layer 6 answer. What term's Check, are, valid, kind, Kind and Text answer. What show's need and made answer or throw, and how its reader goes through a text. What the program's isPlain, Plain, Width of show answer. What show.readerOf, digit, bytesOf, built answer, and what plain and bytes read. What term's Data, Atom, Num, ReadNum, termAt, join, Row, Hash, Mac and Seal answer. What term's join, Row, Hash, Mac and Seal answer. The program's table of frames, and what show.framed answers. What term's Size and Depth answer. What term's stands and Has answer. What strings.Builder's copyCheck, WriteString do to a builder of the caller's own, and what they leave alone. What strings.Builder's WriteByte does to a builder of the caller's own. What show.bytesOf answers or throws. What the document's front, value, atom and quoted of layer 7 answer. -/
import Derived.Test.YtiehhlolhhjgpaaDoorShowD2
import Derived.DefersIn
import Derived.RecoverIn
import Derived.Recover
import Derived.Test.YtiehhlolhhjgpaaDoorShowD1
import Derived.WalkLawsBesides
import Derived.Laws.RangeString
import Derived.Laws.RangeAny
import Derived.Lib.OthersKept
import Derived.Deep.RegionHeld3
import Derived.Laws.Rows
import Derived.Laws.Tables
import Derived.Test.YtiehhlolhhjgpaaDoorShelf
import Derived.Lib.Join
import Derived.LoopTactic
import Derived.Deep.QuietTactic
import Derived.BigQuiet
import Derived.Handy
import Derived.Outline
import Derived.Shelf.Strings.Builder1
import Derived.Shelf.Strings.BuilderK
import Derived.Lib.Builder
import Derived.Lib.AppendStr
import Derived.Lib.UnsafeStr
import Derived.Laws.Externs
namespace Go.Proofs.YtiehhlolhhjgpaaDoor.Pl
open Go.RowKit Go.Shelf
attribute [local go_sem] Oper.semAt_some

theorem assert_none (w : World) : (Instr.typeAssert .nilIface 20 24 true).run Tryd.prog w = .ok (.tuple #[.int .i64 0, .bool false]) w := by kernel_rfl
theorem assert_errno (w : World) (f : Nat) : (Instr.typeAssert (.iface 24 (.int .i64 f)) 20 24 true).run Tryd.prog w = .ok (.tuple #[.int .i64 f, .bool true]) w := by kernel_rfl

theorem catch_idle (b c n : Nat) (w : World) :
    CallsDIn Fence.wide n Tryd.prog 37 #[.pointer (some ⟨b, 0, none⟩), .pointer (some ⟨c, 0, none⟩)] .returning w fun e u' w' => e = .returned (.tuple #[]) ∧ u' = .returning ∧ w' = w := by
  refine callsDIn_of_wpSIn Tryd.func37 rfl trivial fun c₀ cs hu => ?_
  apply wpSIn_seq
  apply wpSIn_region
  simp [wpOpsSIn, go_sem, recoverD, hu, Tryd.ntmps37, Exit.thenS, assert_none]
  apply wpSIn_seq
  apply wpSIn_region
  simp [wpOpsSIn, go_sem, Exit.thenS]
  refine wpSIn_cond (t := false) (by simp [Act.eval, Array.replicate]) ?_
  simp only [Bool.false_eq_true, if_false]
  refine wpSIn_of_wpIn rfl (wpIn_skip ?_)
  cases c₀
  simp_all [bodyPostS, results, Tryd.results37]
theorem catch_thrown (b c n f : Nat) (w : World) (u v : Value) (hbc : c ≠ b) (hb : Boxed w b 3 u) (hc : Boxed w c 24 v) :
    CallsDIn Fence.wide n Tryd.prog 37 #[.pointer (some ⟨b, 0, none⟩), .pointer (some ⟨c, 0, none⟩)] (.panicking [{ v := .iface 24 (.int .i64 f), recovered := false }]) w fun e u' w' =>
      e = .returned (.tuple #[]) ∧ u' = .panicking [{ v := .iface 24 (.int .i64 f), recovered := true }] ∧ w' = (w.setCell ⟨b, 0, none⟩ (.int .i64 0)).setCell ⟨c, 0, none⟩ (.int .i64 f) := by
  have hb1 := hb.cell
  have hb2 := hb.frozen
  have hc0 := hc.other (B' := b) hbc (.int .i64 0)
  have hc1 := hc0.cell
  have hc2 := hc0.frozen
  refine callsDIn_of_wpSIn Tryd.func37 rfl trivial fun c₀ cs hu => ?_
  apply wpSIn_seq
  apply wpSIn_region
  simp [wpOpsSIn, go_sem, recoverD, hu, Tryd.ntmps37, Exit.thenS, assert_errno]
  apply wpSIn_seq
  apply wpSIn_region
  simp [wpOpsSIn, go_sem, Exit.thenS]
  refine wpSIn_cond (t := true) (by simp [Act.eval, Array.replicate]) ?_
  simp only [if_true]
  apply wpSIn_region
  simp [wpOpsSIn, go_sem, hb1, hb2, hc1, hc2, bodyPostS, results, Tryd.results37, Array.replicate]

/-- The last place's end. -/
def lastH (l : List Pl6) : Nat := (l.getLast?.map (·.head)).getD 0
theorem lastH_snoc (l : List Pl6) (p : Pl6) : lastH (l ++ [p]) = p.head := by simp [lastH]
theorem vis_front (s : ByteArray) : frontP (bl s) = if (vis s).2.2 = 0 then (if 16384 < lastH (vis s).1 then (0, 5) else (lastH (vis s).1, 0)) else (0, (vis s).2.2) := by
  have h := vis_read (bl s) 16 0
  rw [List.drop_zero] at h
  have hl := vis_last (bl s) 16 0
  unfold vis frontP
  by_cases h0 : (readP 16 (bl s)).2 = 0
  · rw [if_pos h0] at h
    have h2 : (visP (bl s) 16 0).2.2 = 0 := by rw [h]
    obtain ⟨q, p, e1, e2⟩ := hl h2
    rw [if_pos h0, if_pos h2, e1, lastH_snoc, e2, h, Nat.zero_add]
    split
    · rfl
    · exact Prod.ext rfl h0
  · rw [if_neg h0] at h
    have h2 : (visP (bl s) 16 0).2.2 = (readP 16 (bl s)).2 := by rw [h]
    rw [if_neg h0, if_neg (by rw [h2]; exact h0), h2]
theorem lastH_le (s : ByteArray) (q : List Pl6) (h : q <+: (vis s).1) : lastH q ≤ s.size := by
  have hk := (vis_ok (bl s) 16 0 (Nat.le_refl _) (Nat.zero_le _)).1
  rcases List.eq_nil_or_concat q with rfl | ⟨r, p, rfl⟩
  · simp [lastH]
  · rw [List.concat_eq_append, lastH_snoc]
    have := (hk p (h.subset (by simp))).2.1
    rwa [bl_length] at this
theorem vis_any (s : ByteArray) (p : Pl6) (q : List Pl6) (h : q ++ [p] <+: (vis s).1) : okPl (bl s) p :=
  (vis_ok (bl s) 16 0 (Nat.le_refl _) (Nat.zero_le _)).1 p (h.subset (by simp))

/-- What Read's results hold while it goes over the places. -/
def ReadI (w : World) (pre : List Pl6) (W : World) : Prop := (Boxed W w.heap.size 3 (.int .i64 (lastH pre)) ∧ Boxed W (w.heap.size + 1) 24 (.int .i64 0)) ∧ Below w.heap.size w W
theorem readI_own (w : World) (B : Nat) (h : w.heap.size ≤ B) : OwnFrom B (ReadI w) :=
  OwnFrom.and (OwnFrom.and (Own.from (boxed_own _ _ _) _) (Own.from (boxed_own _ _ _) _)) (ownFrom_below (Nat.le_refl _) h)

/-- A round's variable: a place in a block of its own. -/
def PlAx (B : Nat) (mk : Nat → Pl6 → Act) (x : Pl6) (a' : Act) (W : World) : Prop := ∃ b, B ≤ b ∧ W.heap[b]? = some (Obj.cells (cellsPl x) 56 (0, 0)) ∧ a' = mk b x
theorem plAx_own (B : Nat) (mk : Nat → Pl6 → Act) (C : Nat) (x : Pl6) (a' : Act) : OwnFrom C (fun (_ : Unit) W => PlAx B mk x a' W) := by
  intro s' X Y row hs' hg hr
  obtain ⟨b, h1, h2, h3⟩ := hs'
  refine ⟨b, h1, ?_, h3⟩
  refine (hg.block b (Array.getElem?_eq_some_iff.1 h2).1 (fun e => ?_)).trans h2
  obtain ⟨o, ho, hcl⟩ := (hr b e.symm).2
  rw [h2] at ho; cases ho; cases hcl
theorem KeepP.setBox {W : World} {B : Nat} {t : TypeId} {u : Value} (h : Boxed W B t u) (ht : t ≠ 56) (v : Value) : KeepP W (W.setCell ⟨B, 0, none⟩ v) :=
  ⟨(KeepsOthers.setCell W ⟨B, 0, none⟩ v).size, fun b cs hb => (Below.heap_setCell W ⟨B, 0, none⟩ v b (fun e => by
    have e' : b = B := e
    subst e'
    rw [show W.heap[b]? = _ from h] at hb
    cases hb
    exact ht rfl)).trans hb⟩
theorem place_cells {W : World} {b : Nat} {x : Pl6} (h : W.heap[b]? = some (Obj.cells (cellsPl x) 56 (0, 0))) :
    W.cell? ⟨b, 0, none⟩ = some (.int .i64 x.at_) ∧ W.cell? ⟨b, 1, none⟩ = some (.int .i64 x.dep) ∧ W.cell? ⟨b, 2, none⟩ = some (.int .i64 x.head) ∧ W.cell? ⟨b, 3, none⟩ = some (.int .i64 x.parts) := by
  refine ⟨?_, ?_, ?_, ?_⟩ <;> simp [World.cell?, h, cellsPl]

/-- The deferred call of Read. -/
abbrev readDef (B : Nat) : Deferred := { target := .fn (.func 37) #[.pointer (some ⟨B, 0, none⟩), .pointer (some ⟨B + 1, 0, none⟩)], args := #[] }
def ReadPost (w : World) (n e : Nat) (x : Ending) (w' : World) : Prop := x = .returned (.tuple #[.int .i64 n, .int .i64 e]) ∧ Below w.heap.size w w'
theorem read_results (w V : World) (n e : Nat) (tmps : Array Value) (h2 : tmps.getD 2 undef = .pointer (some ⟨w.heap.size, 0, none⟩)) (h3 : tmps.getD 3 undef = .pointer (some ⟨w.heap.size + 1, 0, none⟩))
    (bN : Boxed V w.heap.size 3 (.int .i64 n)) (bE : Boxed V (w.heap.size + 1) 24 (.int .i64 e)) :
    (results Tryd.f21 tmps).run Tryd.prog V = .ok (.tuple #[.int .i64 n, .int .i64 e]) V := by
  have c1 := bN.cell
  have c2 := bE.cell
  have h2' : tmps[2]?.getD undef = .pointer (some ⟨w.heap.size, 0, none⟩) := by simpa using h2
  have h3' : tmps[3]?.getD undef = .pointer (some ⟨w.heap.size + 1, 0, none⟩) := by simpa using h3
  simp [results, Tryd.results21, go_sem, h2', h3', c1, c2, asAddr]
theorem read_leave (w V : World) (n e D : Nat) (hDD : w.heap.size + 2 ≤ D) (hD : V.heap[D]? = some (.deferred (some []))) (tmps : Array Value) (h2 : tmps.getD 2 undef = .pointer (some ⟨w.heap.size, 0, none⟩)) (h3 : tmps.getD 3 undef = .pointer (some ⟨w.heap.size + 1, 0, none⟩))
    (bN : Boxed V w.heap.size 3 (.int .i64 n)) (bE : Boxed V (w.heap.size + 1) 24 (.int .i64 e)) (hb : Below w.heap.size w V) :
    LeavesInM Fence.wide 5 Tryd.prog Tryd.f21 tmps (ReadPost w n e) [markOf D, readDef w.heap.size] .returning V := by
  refine ⟨by simp, .inl ⟨D, _, rfl, run_takeDeferred hD, ?_⟩⟩
  have bN' : Boxed (V.putObj D (.deferred none)) w.heap.size 3 (.int .i64 n) := (World.putObj_heap_other (by omega)).trans bN
  have bE' : Boxed (V.putObj D (.deferred none)) (w.heap.size + 1) 24 (.int .i64 e) := (World.putObj_heap_other (by omega)).trans bE
  have hb' : Below w.heap.size w (V.putObj D (.deferred none)) := hb.grown (grownBy_putObj' V D _) hb.size (fun k e => by cases e; omega)
  refine ⟨by simp, .inr ⟨hdd _, _, _, 37, #[.pointer (some ⟨w.heap.size, 0, none⟩), .pointer (some ⟨w.heap.size + 1, 0, none⟩)], rfl, by simp [invoke, go_sem], fun g _ => trivial, ?_⟩⟩
  refine (catch_idle _ _ _ _).mono ?_
  rintro x u' w' ⟨rfl, rfl, rfl⟩
  exact ⟨_, read_results w _ n e tmps h2 h3 bN' bE', rfl, hb'⟩
theorem read_thrown (w V : World) (n e f D : Nat) (hDD : w.heap.size + 2 ≤ D) (hD : V.heap[D]? = some (.deferred (some []))) (tmps : Array Value) (h2 : tmps.getD 2 undef = .pointer (some ⟨w.heap.size, 0, none⟩)) (h3 : tmps.getD 3 undef = .pointer (some ⟨w.heap.size + 1, 0, none⟩))
    (bN : Boxed V w.heap.size 3 (.int .i64 n)) (bE : Boxed V (w.heap.size + 1) 24 (.int .i64 e)) (hb : Below w.heap.size w V) :
    LeavesInM Fence.wide 5 Tryd.prog Tryd.f21 tmps (ReadPost w 0 f) [markOf D, readDef w.heap.size] (.panicking [{ v := .iface 24 (.int .i64 f), recovered := false }]) V := by
  refine ⟨by simp, .inl ⟨D, _, rfl, run_takeDeferred hD, ?_⟩⟩
  have bN' : Boxed (V.putObj D (.deferred none)) w.heap.size 3 (.int .i64 n) := (World.putObj_heap_other (by omega)).trans bN
  have bE' : Boxed (V.putObj D (.deferred none)) (w.heap.size + 1) 24 (.int .i64 e) := (World.putObj_heap_other (by omega)).trans bE
  have hb' : Below w.heap.size w (V.putObj D (.deferred none)) := hb.grown (grownBy_putObj' V D _) hb.size (fun k e => by cases e; omega)
  refine ⟨by simp, .inr ⟨hdd _, _, _, 37, #[.pointer (some ⟨w.heap.size, 0, none⟩), .pointer (some ⟨w.heap.size + 1, 0, none⟩)], rfl, by simp [invoke, go_sem], fun g _ => trivial, ?_⟩⟩
  refine (catch_thrown _ _ _ f _ _ _ (by omega) bN' bE').mono ?_
  rintro x u' w' ⟨rfl, rfl, rfl⟩
  have bN2 := (bN'.set (.int .i64 0)).other (B' := w.heap.size + 1) (by omega) (.int .i64 f)
  have bE2 := (bE'.other (B' := w.heap.size) (by omega) (.int .i64 0)).set (.int .i64 f)
  refine ⟨_, read_results w _ 0 f tmps h2 h3 bN2 bE2, rfl, ?_⟩
  exact (hb'.setCell (p := ⟨w.heap.size, 0, none⟩) (Nat.le_refl _) _).setCell (p := ⟨w.heap.size + 1, 0, none⟩) (Nat.le_succ _) _

abbrev readAct (s : ByteArray) (B b : Nat) (x : Pl6) : Act :=
  { tmps := #[.string s, undef, .pointer (some ⟨B, 0, none⟩), .pointer (some ⟨B + 1, 0, none⟩), .pointer (some ⟨b, 0, none⟩), .func (.func 37) #[] #[.pointer (some ⟨B, 0, none⟩), .pointer (some ⟨B + 1, 0, none⟩)], .string s, .func (.func 52) #[] #[.pointer (some ⟨B + 1 + 1, 0, none⟩)], encPl x, undef, undef, undef, undef, undef], defers := [] }

set_option maxRecDepth 100000 in
set_option maxHeartbeats 4000000 in
theorem read6_any (s : ByteArray) (hs : s.size ≤ 281474976710656) (w : World) :
    Calls Tryd.prog 21 #[.string s] w fun e w' => e = .returned (.tuple #[.int .i64 (frontP (bl s)).1, .int .i64 (frontP (bl s)).2]) ∧ Below w.heap.size w w' := by
  have hmf : ∀ (fn : Fn) (first cap : Array Value) (w : World), (Instr.makeFunc fn first cap).run Tryd.prog w = .ok (.func fn first cap) w := fun _ _ _ _ => rfl
  refine (callsIn_wide (n := 5)).1 ?_
  refine callsIn_of_wp_marks Tryd.func21 rfl trivial ?_ rfl
  simp only [Tryd.ntmps21, List.size_toArray, List.length_cons, List.length_nil, Nat.reduceAdd, Nat.reduceSub, Array.replicate_succ, Array.replicate_zero, List.push_toArray, List.append_toArray, List.nil_append, List.cons_append]
  gi_wp2_with (refine ⟨trivial, ?_⟩; gi_at_call 31; refine (callsIn_wide.2 (places_in s _)).mono ?_; rintro e w1 ⟨rfl, rfl⟩)
  obtain ⟨W0, hW0⟩ : ∃ W0, ((w.alloc (.cells #[.int .i64 0] 3)).alloc (.cells #[.int .i64 0] 24)).alloc (.cells #[.string s] 9) = W0 := ⟨_, rfl⟩
  have bN : Boxed W0 w.heap.size 3 (.int .i64 0) := by rw [← hW0]; exact ((Boxed.new w _ _).alloc _).alloc _
  have bE : Boxed W0 (w.heap.size + 1) 24 (.int .i64 0) := by rw [← hW0]; have h := (Boxed.new (w.alloc (.cells #[.int .i64 0] 3)) 24 (.int .i64 0)).alloc (.cells #[.string s] 9); simpa using h
  have bS : Boxed W0 (w.heap.size + 2) 9 (.string s) := by rw [← hW0]; have h := Boxed.new ((w.alloc (.cells #[.int .i64 0] 3)).alloc (.cells #[.int .i64 0] 24)) 9 (.string s); simpa using h
  have hB0 : Below w.heap.size w W0 := by rw [← hW0]; exact (((Below.refl _ w).alloc (Nat.le_refl _) _).alloc (by simp) _).alloc (by simp; omega) _
  have hsz : W0.heap.size = w.heap.size + 3 := by rw [← hW0]; simp
  rw [hW0]
  clear hW0
  refine wpIn_places s hs (w.heap.size + 2) bS rfl (ReadI w) (fun _ _ _ => False) (readI_own w _ (by omega)) (fun c => fun _ _ _ _ h _ _ => h) ⟨⟨bN, bE⟩, hB0⟩
    (PlAx (w.heap.size + 2) (readAct s w.heap.size)) (plAx_own _ _ _) ?assign ?body ?done ?stop ?throw
  case assign =>
    intro m l pre x W K hi hK
    have hzr := Lib.hid hK
    clear hK
    unfold encPl cellsPl
    gi_wp2
    have hlt := hi.1.2.lt
    exact hzr.out _ _ ((KeepsOthers.alloc _ _).from _) (KeepP.alloc _ _) ((readI_own w W0.heap.size (by omega)).alloc _ hi) ⟨W.heap.size, by omega, World.alloc_heap_new _ _, rfl⟩
  case body =>
    rintro m l pre x a' W hl hi ⟨b, hb, hbx, rfl⟩ hpre
    have hx2 := (place_cells hbx).2.2.1
    have hc := hi.1.1.cell
    have hf := hi.1.1.frozen
    have HI := Lib.hid hi
    have HX := Lib.hid hbx
    clear hi hbx hpre bN bE bS
    unfold readAct
    gi_wp2
    obtain ⟨⟨b1, b2⟩, b3⟩ := HI.out
    refine ⟨(KeepsOthers.setCell _ _ _).from _, KeepP.setBox b1 (by decide) _, ⟨?_, b2.other (by omega) _⟩, b3.setCell (p := ⟨w.heap.size, 0, none⟩) (Nat.le_refl _) _⟩
    rw [lastH_snoc]
    exact b1.set _
  case done =>
    rintro D W hD hz ⟨⟨b1, b2⟩, b3⟩ hK
    have hfr := vis_front s
    rw [if_pos hz] at hfr
    have hle := lastH_le s _ (List.prefix_refl _)
    have hDD : w.heap.size + 2 ≤ D := by omega
    have hc := b1.cell
    have hf := b1.frozen
    have hce := b2.cell
    have hfe := b2.frozen
    have HL := Lib.hid hle
    generalize lastH (vis s).1 = n at *
    clear bN bE bS hz hle hB0 hD hsz
    by_cases hn : 16384 < n
    · rw [if_pos hn] at hfr
      have hn' : (16384 : Int) < (n : Int) := by omega
      have B1 := Lib.hid b1
      have B2 := Lib.hid b2
      have B3 := Lib.hid b3
      have HK := Lib.hid hK
      have c2 := (b2.other (B' := w.heap.size) (by omega) (.int .i64 0)).cell
      have f2 := (b2.other (B' := w.heap.size) (by omega) (.int .i64 0)).frozen
      clear hn b1 b2 b3 hK
      gi_wp2
      try rw [hfr]
      refine read_leave w _ 0 5 D hDD ?_ _ rfl rfl ((B1.out.set _).other (by omega) _) ((B2.out.other (by omega) _).set _) ((B3.out.setCell (p := ⟨w.heap.size, 0, none⟩) (Nat.le_refl _) _).setCell (p := ⟨w.heap.size + 1, 0, none⟩) (Nat.le_succ _) _)
      exact ((KeepsOthers.setCell _ _ _).same _ _ ((KeepsOthers.setCell _ _ _).same _ _ HK.out rfl) rfl)
    · rw [if_neg hn] at hfr
      have hn' : ¬ (16384 : Int) < (n : Int) := by omega
      have B1 := Lib.hid b1
      have B2 := Lib.hid b2
      have B3 := Lib.hid b3
      have HK := Lib.hid hK
      have c2 := (b2.other (B' := w.heap.size) (by omega) (.int .i64 n)).cell
      have f2 := (b2.other (B' := w.heap.size) (by omega) (.int .i64 n)).frozen
      clear hn b1 b2 b3 hK
      gi_wp2
      try rw [hfr]
      refine read_leave w _ n 0 D hDD ?_ _ rfl rfl ((B1.out.set _).other (by omega) _) ((B2.out.other (by omega) _).set _) ((B3.out.setCell (p := ⟨w.heap.size, 0, none⟩) (Nat.le_refl _) _).setCell (p := ⟨w.heap.size + 1, 0, none⟩) (Nat.le_succ _) _)
      exact ((KeepsOthers.setCell _ _ _).same _ _ ((KeepsOthers.setCell _ _ _).same _ _ HK.out rfl) rfl)
  case stop =>
    rintro D c pre W hD hq h hK
    exact h.elim
  case throw =>
    rintro D W hD hz ⟨⟨b1, b2⟩, b3⟩ hK
    have hfr := vis_front s
    rw [if_neg hz] at hfr
    gi_wp2
    try rw [hfr]
    exact read_thrown w W _ _ _ D (by omega) hK _ rfl rfl b1 b2 b3
end Go.Proofs.YtiehhlolhhjgpaaDoor.Pl

namespace Go.Proofs.YtiehhlolhhjgpaaDoor.Pl
open Go.RowKit

theorem tree_of {s : List UInt8} (h : checkP s = 0) : ∃ t : Tm, t.valid ∧ s = t.enc ∧ treeOf s = some t := by
  obtain ⟨t, h1, h2, h3⟩ := treeOf_some h
  exact ⟨t, h1, h2.symm, h3⟩
theorem may_yes {s : ByteArray} (h : checkP (bl s) = 0) : (checkP (bl s) == 0) = true := by rw [h]; rfl
theorem may_no {s : ByteArray} (h : checkP (bl s) ≠ 0) : (checkP (bl s) == 0) = false := by rw [beq_eq_false_iff_ne]; exact h
theorem valid_size {t : Tm} (h : t.valid) {s : ByteArray} (e : bl s = t.enc) : s.size ≤ 16384 := by rw [size_bl, e]; exact h.2.2

/-- Two rows of texts, by their bytes. -/
theorem map_bl_tx (l : List Tm) : (l.map tx).map bl = l.map Tm.enc := by rw [List.map_map]; rfl

theorem deeps_take (l : List Tm) (k : Nat) (h : k < l.length) : deeps (l.take (k + 1)) = max (deeps (l.take k)) l[k].deep := by
  have ap : ∀ a b : List Tm, deeps (a ++ b) = max (deeps a) (deeps b) := by
    intro a b
    induction a with
    | nil => simp [deeps]
    | cons t a ih => simp only [List.cons_append, deeps, ih]; omega
  rw [List.take_succ_eq_append_getElem h, ap]
  simp [deeps]
set_option maxHeartbeats 1000000 in
set_option maxRecDepth 100000 in
theorem rin_any (l : List ByteArray) (ao : Option Addr) (cap : Nat) (hl : l.length ≤ 281474976710656) (s : ByteArray) (w : World) (hrow : TxtRow w ao l) (r : Bool) (hr : r = true ↔ s ∈ l) :
    Calls Tryd.prog 17 #[.slice ao l.length cap, .string s] w fun e w' => e = .returned (.bool r) ∧ Below w.heap.size w w' := by
  have HROW := Lib.hid hrow
  have HIN : Hid (∀ k, k < l.length → l.getD k ByteArray.empty = s → r = true) := Lib.hid (fun k hk e => hr.2 (by rw [← e]; exact getD_mem6 l k hk))
  have HNO : Hid ((∀ k, k < l.length → l.getD k ByteArray.empty ≠ s) → r = false) := Lib.hid (fun h => by
    cases e : r with
    | false => rfl
    | true =>
      obtain ⟨k, hk, e2⟩ := mem_getD6 (hr.1 e)
      exact absurd e2 (h k hk))
  obtain ⟨n, hn⟩ : ∃ n, n = l.length := ⟨_, rfl⟩
  have HN := Lib.hid hn
  rw [← hn] at hl ⊢
  clear hrow hr hn
  go_enter Tryd.func17, Tryd.ntmps17
  go_wp2_with fail
  go_loopw [5] (fun iv wr => ∃ k : Nat, iv = .int .i64 k ∧ k ≤ n ∧ Hid (∀ j, j < k → l.getD j ByteArray.empty ≠ s) ∧ Hid (Below w.heap.size w wr)) (fun iv _ => n - (intOf iv).toNat)
  case atStart => exact ⟨0, rfl, Nat.zero_le _, Lib.hid (fun j hj => absurd hj (Nat.not_lt_zero j)), Lib.hid (Below.refl _ _)⟩
  case round =>
    obtain ⟨k, rfl, hkn, hch, hb⟩ := hrel
    by_cases hk : k < n
    · have hk' : (k : Int) < (n : Int) := by omega
      rcases HROW.out.below hb.out with e | ⟨b, off, rfl, hlt, hc⟩
      · exfalso; have := HN.out; rw [e] at this; simp at this; omega
      have ck := hc k (by have := HN.out; omega)
      have HK := Lib.hid (HIN.out k (by have := HN.out; omega))
      have HX : Hid (l.getD k ByteArray.empty ≠ s → ∀ j, j < k + 1 → l.getD j ByteArray.empty ≠ s) := Lib.hid (fun h j hj => by
        by_cases e : j = k
        · rw [e]; exact h
        · exact hch.out j (by omega))
      generalize l.getD k ByteArray.empty = y at *
      clear hc hlt
      by_cases e : y = s
      · have HQ := Lib.hid (HK.out e)
        subst e
        go_wp2_with fail
        go_ret
        exact ⟨ret6_bool HQ.out.symm, hb.out⟩
      · obtain ⟨g1, g2⟩ := str6_ne e
        have HQ := Lib.hid (HX.out e)
        clear e
        go_wp2_with fail
        go_roundw
        case rel => exact ⟨k + 1, by go_num, by omega, HQ, hb⟩
        case measure => simp [intOf]; omega
    · obtain rfl : k = n := by omega
      have HQ := Lib.hid (HNO.out (fun j hj => hch.out j (by have := HN.out; omega)))
      clear hk hkn
      go_wp2_with fail
      go_ret
      exact ⟨ret6_bool HQ.out.symm, hb.out⟩
theorem hasP_places {s f : List UInt8} {t u : Tm} (hs : treeOf s = some t) (hf : treeOf f = some u) : hasP s f = true ↔ f ∈ t.places.map Tm.enc := by
  unfold hasP placesP
  rw [hs, hf]
  simp only [decide_eq_true_iff]
end Go.Proofs.YtiehhlolhhjgpaaDoor.Pl

namespace Go.Proofs.YtiehhlolhhjgpaaDoor.Pl
open Go.RowKit

theorem front_len (s : ByteArray) (h0 : (frontP (bl s)).2 = 0) : (frontP (bl s)).1 ≤ s.size := by
  obtain ⟨t, _, h1, h2⟩ := front_sound (s := bl s) (n := (frontP (bl s)).1) (by rw [← h0])
  have h3 := congrArg List.length h2
  rw [List.length_append, bl_length] at h3
  omega
set_option maxRecDepth 100000 in
theorem check_any (s : ByteArray) (hs : s.size ≤ 281474976710656) (w : World) :
    Calls Tryd.prog 8 #[.string s] w fun e w' => e = .returned (.int .i64 (checkP (bl s))) ∧ Below w.heap.size w w' := by
  have HC := Lib.hid (fun V => read6_any s hs V)
  obtain ⟨z, hz⟩ : ∃ z, z = checkP (bl s) := ⟨_, rfl⟩
  have hle : (frontP (bl s)).2 = 0 → (frontP (bl s)).1 ≤ s.size := fun h0 => by
    exact front_len s h0
  rw [← hz]
  unfold checkP at hz
  rw [bl_length] at hz
  generalize frontP (bl s) = r at *
  obtain ⟨m, f⟩ := r
  simp only at hz hle
  by_cases hf : f = 0
  · subst hf
    rw [if_pos rfl] at hz
    have hle := hle rfl
    by_cases hm : m = s.size
    · have HZ := Lib.hid (hz.trans (if_pos hm))
      have q : ¬ (m : Int) < (s.size : Int) := by omega
      clear hz hm hs hle
      go_enter Tryd.func8, Tryd.ntmps8
      go_wp2_with (go_at_call 21; refine (HC.out _).mono ?_; rintro e w1 ⟨rfl, b1⟩)
      go_ret
      exact ⟨by rw [HZ.out]; rfl, b1⟩
    · have HZ := Lib.hid (hz.trans (if_neg hm))
      have q : (m : Int) < (s.size : Int) := by omega
      clear hz hm hs hle
      go_enter Tryd.func8, Tryd.ntmps8
      go_wp2_with (go_at_call 21; refine (HC.out _).mono ?_; rintro e w1 ⟨rfl, b1⟩)
      go_ret
      exact ⟨by rw [HZ.out]; rfl, b1⟩
  · have HZ := Lib.hid (hz.trans (if_neg hf))
    have qf : ((f : Int) == 0) = false := by rw [beq_eq_false_iff_ne]; omega
    clear hz hf hs hle
    go_enter Tryd.func8, Tryd.ntmps8
    go_wp2_with (go_at_call 21; refine (HC.out _).mono ?_; rintro e w1 ⟨rfl, b1⟩)
    go_ret
    exact ⟨by rw [HZ.out]; rfl, b1⟩

set_option maxHeartbeats 1000000 in
set_option maxRecDepth 100000 in
theorem are_any (l : List ByteArray) (ao : Option Addr) (cap : Nat) (hl : l.length ≤ 281474976710656) (hx : ∀ x ∈ l, x.size ≤ 281474976710656) (w : World) (hrow : TxtRow w ao l) (r : Bool) (hr : r = true ↔ ∀ x ∈ l, checkP (bl x) = 0) :
    Calls Tryd.prog 30 #[.slice ao l.length cap] w fun e w' => e = .returned (.bool r) ∧ Below w.heap.size w w' := by
  have HROW := Lib.hid hrow
  have HNO : Hid (∀ k, k < l.length → checkP (bl (l.getD k ByteArray.empty)) ≠ 0 → r = false) := Lib.hid (fun k hk e => by
    cases er : r with
    | false => rfl
    | true => exact absurd (hr.1 er _ (getD_mem6 l k hk)) e)
  have HIN : Hid ((∀ k, k < l.length → checkP (bl (l.getD k ByteArray.empty)) = 0) → r = true) := Lib.hid (fun h => hr.2 (fun x hx => by
    obtain ⟨k, hk, rfl⟩ := mem_getD6 hx
    exact h k hk))
  have HX : Hid (∀ k, k < l.length → (l.getD k ByteArray.empty).size ≤ 281474976710656) := Lib.hid (fun k hk => hx _ (getD_mem6 l k hk))
  obtain ⟨n, hn⟩ : ∃ n, n = l.length := ⟨_, rfl⟩
  have HN := Lib.hid hn
  rw [← hn] at hl ⊢
  clear hrow hr hn hx
  go_enter Tryd.func30, Tryd.ntmps30
  go_wp2_with fail
  go_loopw [7] (fun iv wr => ∃ k : Nat, iv = .int .i64 k ∧ k ≤ n ∧ Hid (∀ j, j < k → checkP (bl (l.getD j ByteArray.empty)) = 0) ∧ Hid (Below w.heap.size w wr)) (fun iv _ => n - (intOf iv).toNat)
  case atStart => exact ⟨0, rfl, Nat.zero_le _, Lib.hid (fun j hj => absurd hj (Nat.not_lt_zero j)), Lib.hid (Below.refl _ _)⟩
  case round =>
    obtain ⟨k, rfl, hkn, hch, hb⟩ := hrel
    by_cases hk : k < n
    · have hk' : (k : Int) < (n : Int) := by omega
      rcases HROW.out.below hb.out with e | ⟨b, off, rfl, hlt, hc⟩
      · exfalso; have := HN.out; rw [e] at this; simp at this; omega
      have ck := hc k (by have := HN.out; omega)
      have HK := Lib.hid (HNO.out k (by have := HN.out; omega))
      have HC := Lib.hid (fun V => check_any (l.getD k ByteArray.empty) (HX.out k (by have := HN.out; omega)) V)
      have HY : Hid (checkP (bl (l.getD k ByteArray.empty)) = 0 → ∀ j, j < k + 1 → checkP (bl (l.getD j ByteArray.empty)) = 0) := Lib.hid (fun h j hj => by
        by_cases e : j = k
        · rw [e]; exact h
        · exact hch.out j (by omega))
      generalize l.getD k ByteArray.empty = y at *
      generalize checkP (bl y) = c at *
      clear hc hlt
      by_cases e : c = 0
      · subst e
        have HQ := Lib.hid (HY.out rfl)
        go_wp2_with (go_at_call 8; refine (HC.out _).mono ?_; rintro e w1 ⟨rfl, b1⟩)
        go_roundw
        case rel => exact ⟨k + 1, by go_num, by omega, HQ, Lib.hid (below_step hb.out b1)⟩
        case measure => simp [intOf]; omega
      · have q : ((c : Int) != 0) = true := by rw [bne_iff_ne]; omega
        have HQ := Lib.hid (HK.out e)
        clear e
        go_wp2_with (go_at_call 8; refine (HC.out _).mono ?_; rintro e w1 ⟨rfl, b1⟩)
        go_ret
        exact ⟨ret6_bool HQ.out.symm, below_step hb.out b1⟩
    · obtain rfl : k = n := by omega
      have HQ := Lib.hid (HIN.out (fun j hj => hch.out j (by have := HN.out; omega)))
      clear hk hkn
      go_wp2_with fail
      go_ret
      exact ⟨ret6_bool HQ.out.symm, hb.out⟩

theorem valid6_any (s : ByteArray) (hs : s.size ≤ 281474976710656) (w : World) :
    Calls Tryd.prog 57 #[.string s] w fun e w' => e = .returned (st2 (if checkP (bl s) = 0 then (bl s, 0) else ([], 5))) ∧ Below w.heap.size w w' := by
  have HC := Lib.hid (fun V => check_any s hs V)
  generalize checkP (bl s) = c at *
  by_cases h : c = 0
  · subst h
    rw [if_pos rfl]
    go_enter Tryd.func57, Tryd.ntmps57
    go_wp2_with (go_at_call 8; refine (HC.out _).mono ?_; rintro e w1 ⟨rfl, b1⟩)
    go_ret2
    exact ⟨rfl, b1⟩
  · have q : ((c : Int) != 0) = true := by rw [bne_iff_ne]; omega
    rw [if_neg h]
    clear h
    go_enter Tryd.func57, Tryd.ntmps57
    go_wp2_with (go_at_call 8; refine (HC.out _).mono ?_; rintro e w1 ⟨rfl, b1⟩)
    go_ret2
    exact ⟨rfl, b1⟩

/-- The letters. -/
def letterK (b : UInt8) : Nat := if b = 100 then 1 else if b = 97 then 2 else if b = 114 then 3 else if b = 104 then 4 else if b = 109 then 5 else if b = 115 then 6 else 0
set_option maxHeartbeats 1000000 in
set_option maxRecDepth 100000 in
theorem kind6_any (b : UInt8) (w : World) :
    Calls Tryd.prog 33 #[.string ⟨#[b]⟩] w fun e w' => e = .returned (.int .u8 (letterK b)) ∧ w' = w := by
  by_cases e100 : b = 100
  · subst e100
    go_enter Tryd.func33, Tryd.ntmps33
    go_wp2_with fail
    go_ret
    exact ⟨rfl, rfl⟩
  by_cases e97 : b = 97
  · subst e97
    go_enter Tryd.func33, Tryd.ntmps33
    go_wp2_with fail
    go_ret
    exact ⟨rfl, rfl⟩
  by_cases e114 : b = 114
  · subst e114
    go_enter Tryd.func33, Tryd.ntmps33
    go_wp2_with fail
    go_ret
    exact ⟨rfl, rfl⟩
  by_cases e104 : b = 104
  · subst e104
    go_enter Tryd.func33, Tryd.ntmps33
    go_wp2_with fail
    go_ret
    exact ⟨rfl, rfl⟩
  by_cases e109 : b = 109
  · subst e109
    go_enter Tryd.func33, Tryd.ntmps33
    go_wp2_with fail
    go_ret
    exact ⟨rfl, rfl⟩
  by_cases e115 : b = 115
  · subst e115
    go_enter Tryd.func33, Tryd.ntmps33
    go_wp2_with fail
    go_ret
    exact ⟨rfl, rfl⟩
  have HZ : Hid (letterK b = 0) := Lib.hid (by unfold letterK; simp [e100, e97, e114, e104, e109, e115])
  have lit : ∀ c : UInt8, (⟨#[c]⟩ : ByteArray).toList = [c] := fun c => by rw [Lib.toList_data]
  obtain ⟨n100, m100⟩ := str6_ne (a := ⟨#[b]⟩) (b := ⟨#[100]⟩) (fun h => e100 (by injection h with h; simpa using h))
  rw [lit 100] at n100 m100
  obtain ⟨n97, m97⟩ := str6_ne (a := ⟨#[b]⟩) (b := ⟨#[97]⟩) (fun h => e97 (by injection h with h; simpa using h))
  rw [lit 97] at n97 m97
  obtain ⟨n114, m114⟩ := str6_ne (a := ⟨#[b]⟩) (b := ⟨#[114]⟩) (fun h => e114 (by injection h with h; simpa using h))
  rw [lit 114] at n114 m114
  obtain ⟨n104, m104⟩ := str6_ne (a := ⟨#[b]⟩) (b := ⟨#[104]⟩) (fun h => e104 (by injection h with h; simpa using h))
  rw [lit 104] at n104 m104
  obtain ⟨n109, m109⟩ := str6_ne (a := ⟨#[b]⟩) (b := ⟨#[109]⟩) (fun h => e109 (by injection h with h; simpa using h))
  rw [lit 109] at n109 m109
  obtain ⟨n115, m115⟩ := str6_ne (a := ⟨#[b]⟩) (b := ⟨#[115]⟩) (fun h => e115 (by injection h with h; simpa using h))
  rw [lit 115] at n115 m115
  generalize (⟨#[b]⟩ : ByteArray) = sb at *
  rw [HZ.out]
  go_enter Tryd.func33, Tryd.ntmps33
  go_wp2_with fail
  go_ret
  exact ⟨rfl, rfl⟩

theorem kind_of {s : List UInt8} (h : checkP s = 0) : ∃ b r, s = b :: r ∧ kindP s = letterK b ∧ (letterK b = 1 ∨ letterK b = 2 → (rdt r 1024).2.2 = 0 ∧ textP s = ((rdt r 1024).1, true)) ∧
    (letterK b ≠ 1 → letterK b ≠ 2 → textP s = ([], false)) := by
  obtain ⟨t, ht, te⟩ := check_iff.1 h
  obtain ⟨hd, l⟩ := t
  have hg := ht.1
  simp only [Tm.good] at hg
  rw [Tm.enc_node] at te
  obtain ⟨c, hk⟩ := head_kind hg.1
  cases hk with
  | data t e1 e2 e3 =>
    refine ⟨100, txt t ++ encs l, by rw [← te, e1]; rfl, ?_, fun _ => ?_, fun h => absurd rfl h⟩
    · unfold kindP; rw [if_pos h, ← te, e1]; rfl
    · have hr := rdt_txt (t := t) (by rw [two64]; omega) (encs l) 1024 (by omega)
      refine ⟨by rw [hr], ?_⟩
      unfold textP
      rw [if_pos ⟨h, .inl (by rw [← te, e1]; rfl)⟩, ← te, e1]
      rfl
  | atom t e1 e2 e4 e3 =>
    refine ⟨97, txt t ++ encs l, by rw [← te, e1]; rfl, ?_, fun _ => ?_, fun _ h => absurd rfl h⟩
    · unfold kindP; rw [if_pos h, ← te, e1]; rfl
    · have hr := rdt_txt (t := t) (by rw [two64]; omega) (encs l) 1024 (by omega)
      refine ⟨by rw [hr], ?_⟩
      unfold textP
      rw [if_pos ⟨h, .inr (by rw [← te, e1]; rfl)⟩, ← te, e1]
      rfl
  | row v e1 e2 e3 =>
    refine ⟨114, enc v ++ encs l, by rw [← te, e1]; rfl, ?_, fun h => absurd h (by decide), fun _ _ => ?_⟩
    · unfold kindP; rw [if_pos h, ← te, e1]; rfl
    · unfold textP; rw [if_neg (by rintro ⟨_, h | h⟩ <;> (rw [← te, e1] at h; exact absurd h (by simp)))]
  | hash e1 e3 =>
    refine ⟨104, encs l, by rw [← te, e1]; rfl, ?_, fun h => absurd h (by decide), fun _ _ => ?_⟩
    · unfold kindP; rw [if_pos h, ← te, e1]; rfl
    · unfold textP; rw [if_neg (by rintro ⟨_, h | h⟩ <;> (rw [← te, e1] at h; exact absurd h (by simp)))]
  | mac e1 e3 =>
    refine ⟨109, encs l, by rw [← te, e1]; rfl, ?_, fun h => absurd h (by decide), fun _ _ => ?_⟩
    · unfold kindP; rw [if_pos h, ← te, e1]; rfl
    · unfold textP; rw [if_neg (by rintro ⟨_, h | h⟩ <;> (rw [← te, e1] at h; exact absurd h (by simp)))]
  | seal_ e1 e3 =>
    refine ⟨115, encs l, by rw [← te, e1]; rfl, ?_, fun h => absurd h (by decide), fun _ _ => ?_⟩
    · unfold kindP; rw [if_pos h, ← te, e1]; rfl
    · unfold textP; rw [if_neg (by rintro ⟨_, h | h⟩ <;> (rw [← te, e1] at h; exact absurd h (by simp)))]
theorem kind_no {s : List UInt8} (h : checkP s ≠ 0) : kindP s = 0 ∧ textP s = ([], false) := by
  unfold kindP textP
  exact ⟨if_neg h, if_neg (fun e => h e.1)⟩

/-- One text in a row of its own. -/
theorem are1_any (s : ByteArray) (hs : s.size ≤ 281474976710656) (w : World) :
    Calls Tryd.prog 30 #[.slice (some ⟨w.heap.size, 0, none⟩) 1 1] (w.alloc (.cells #[.string s] 9)) fun e w' => e = .returned (.bool (checkP (bl s) == 0)) ∧ Below w.heap.size w w' :=
  (are_any [s] (some ⟨w.heap.size, 0, none⟩) 1 (by simp) (fun x hx => by simp at hx; rw [hx]; exact hs) _ (row1 w s) (checkP (bl s) == 0) (by simp)).mono (fun e w' h => ⟨h.1, below_step ((Below.refl _ _).alloc (Nat.le_refl _) _) h.2⟩)
theorem tslice_to (x : ByteArray) (b : Nat) (h2 : b ≤ x.size) (V : World) : (Instr.sliceAt 9 (.string x) none (some (.int .i64 (b : Int))) none).run Tryd.prog V = .ok (.string (x.extract 0 b)) V := by
  have h1 : (0 : Int) ≤ (b : Int) := by omega
  have h3 : (b : Int) ≤ (x.size : Int) := by omega
  go_simp

set_option maxHeartbeats 1000000 in
set_option maxRecDepth 100000 in
theorem tkind_any (s : ByteArray) (hs : s.size ≤ 281474976710656) (w : World) :
    Calls Tryd.prog 15 #[.string s] w fun e w' => e = .returned (.int .u8 (kindP (bl s))) ∧ Below w.heap.size w w' := by
  have HA := Lib.hid (are1_any s hs w)
  by_cases hc : checkP (bl s) = 0
  · rw [may_yes hc] at HA
    obtain ⟨b, r, e1, e2, _⟩ := kind_of hc
    have hpos : 0 < s.size := by rw [size_bl, e1]; simp
    have h1 : s.extract 0 1 = ⟨#[b]⟩ := bl_inj (by rw [bl_extract, e1]; rfl)
    have sl : ∀ V : World, (Instr.sliceAt 9 (.string s) none (some (.int .i64 1)) none).run Tryd.prog V = .ok (.string ⟨#[b]⟩) V := fun V => by
      rw [← h1]; exact tslice_to s 1 hpos V
    have HK := Lib.hid (fun V => kind6_any b V)
    rw [e2]
    generalize letterK b = k at *
    generalize (⟨#[b]⟩ : ByteArray) = sb at *
    clear hc e1 e2 hpos h1 hs
    go_enter Tryd.func15, Tryd.ntmps15
    go_wp2_with (first | (go_at_call 30; refine HA.out.mono ?_; rintro e w1 ⟨rfl, b1⟩) | (go_at_call 33; refine (HK.out _).mono ?_; rintro e w2 ⟨rfl, rfl⟩))
    go_ret
    exact ⟨rfl, b1⟩
  · rw [may_no hc] at HA
    rw [(kind_no hc).1]
    clear hc
    go_enter Tryd.func15, Tryd.ntmps15
    go_wp2_with (first | (go_at_call 30; refine HA.out.mono ?_; rintro e w1 ⟨rfl, b1⟩))
    go_ret
    exact ⟨rfl, b1⟩

set_option maxHeartbeats 1000000 in
set_option maxRecDepth 100000 in
theorem text6_any (s : ByteArray) (hs : s.size ≤ 281474976710656) (w : World) :
    Calls Tryd.prog 16 #[.string s] w fun e w' => e = .returned (tb2 (textP (bl s))) ∧ Below w.heap.size w w' := by
  have HA := Lib.hid (tkind_any s hs w)
  by_cases hc : checkP (bl s) = 0
  · obtain ⟨b, r, e1, e2, e3, e4⟩ := kind_of hc
    have hpos : 1 ≤ s.size := by rw [size_bl, e1]; simp
    have hx : bl (s.extract 1 s.size) = r := by rw [bl_from, e1]; rfl
    have sl : ∀ V : World, (Instr.sliceAt 9 (.string s) (some (.int .i64 1)) none none).run Tryd.prog V = .ok (.string (s.extract 1 s.size)) V := tslice_from s 1 hpos
    have hxs : (s.extract 1 s.size).size ≤ 281474976710656 := by rw [size_bl, bl_from, List.length_drop, bl_length]; omega
    rw [e2] at HA
    generalize letterK b = k at *
    generalize s.extract 1 s.size = x at *
    have HT := Lib.hid (fun V => readtext_any x 1024 V hxs (by decide) (by decide))
    rw [show x.data.toList = bl x from rfl, hx] at HT
    by_cases hk1 : k = 1
    · subst hk1
      obtain ⟨f1, f2⟩ := e3 (.inl rfl)
      rw [f2]
      obtain ⟨z, hz⟩ : ∃ z, z = rdt r 1024 := ⟨_, rfl⟩
      rw [← hz] at HT f1 ⊢
      obtain ⟨t, n, f⟩ := z
      simp only at f1
      subst f1
      clear e1 e2 e3 e4 hx hxs hz hc hs f2
      go_enter Tryd.func16, Tryd.ntmps16
      go_wp2_with (first | (go_at_call 15; refine HA.out.mono ?_; rintro e w1 ⟨rfl, b1⟩) | (go_at_call 34; refine (HT.out _).mono ?_; rintro e w2 ⟨rfl, b2⟩))
      go_ret2
      exact ⟨rfl, below_step b1 b2⟩
    · have q1 : ((k : Int) == 1) = false := by rw [beq_eq_false_iff_ne]; omega
      by_cases hk2 : k = 2
      · subst hk2
        obtain ⟨f1, f2⟩ := e3 (.inr rfl)
        rw [f2]
        obtain ⟨z, hz⟩ : ∃ z, z = rdt r 1024 := ⟨_, rfl⟩
        rw [← hz] at HT f1 ⊢
        obtain ⟨t, n, f⟩ := z
        simp only at f1
        subst f1
        clear e1 e2 e3 e4 hx hxs hz hc hs f2
        go_enter Tryd.func16, Tryd.ntmps16
        go_wp2_with (first | (go_at_call 15; refine HA.out.mono ?_; rintro e w1 ⟨rfl, b1⟩) | (go_at_call 34; refine (HT.out _).mono ?_; rintro e w2 ⟨rfl, b2⟩))
        go_ret2
        exact ⟨rfl, below_step b1 b2⟩
      · have q2 : ((k : Int) == 2) = false := by rw [beq_eq_false_iff_ne]; omega
        rw [e4 hk1 hk2]
        clear e1 e2 e3 e4 hx hxs hc hs hk1 hk2
        go_enter Tryd.func16, Tryd.ntmps16
        go_wp2_with (first | (go_at_call 15; refine HA.out.mono ?_; rintro e w1 ⟨rfl, b1⟩))
        go_ret2
        exact ⟨rfl, b1⟩
  · rw [(kind_no hc).1] at HA
    rw [(kind_no hc).2]
    clear hc
    go_enter Tryd.func16, Tryd.ntmps16
    go_wp2_with (first | (go_at_call 15; refine HA.out.mono ?_; rintro e w1 ⟨rfl, b1⟩))
    go_ret2
    exact ⟨rfl, b1⟩
end Go.Proofs.YtiehhlolhhjgpaaDoor.Pl

namespace Go.Proofs.YtiehhlolhhjgpaaDoor.Pl
open Go.RowKit

/-- What is thrown. -/
abbrev boom7 : Ending := .panicked [{ v := .iface 42 (.agg #[]), recovered := false }]

theorem need7_ok (w : World) : Calls Tryd.prog 25 #[.bool true] w fun x w' => x = .returned (.tuple #[]) ∧ w' = w := by
  go_enter Tryd.func25, Tryd.ntmps25
  go_wp2
  go_end0
  exact ⟨rfl, rfl⟩
theorem need7_bad (w : World) : Calls Tryd.prog 25 #[.bool false] w fun x w' => x = boom7 ∧ w' = w := by
  go_enter Tryd.func25, Tryd.ntmps25
  go_wp2
  exact ⟨rfl, rfl, rfl⟩
theorem made7_ok (t : ByteArray) (w : World) : Calls Tryd.prog 44 #[.string t, .int .i64 0] w fun x w' => x = .returned (.string t) ∧ w' = w := by
  go_enter Tryd.func44, Tryd.ntmps44
  go_wp2_with (go_at_call 25; refine (need7_ok _).mono ?_; rintro e w2 ⟨rfl, rfl⟩)
  go_ret
  exact ⟨rfl, rfl⟩
theorem made7_bad (t : ByteArray) (e : Nat) (he : e ≠ 0) (w : World) : Calls Tryd.prog 44 #[.string t, .int .i64 e] w fun x w' => x = boom7 ∧ w' = w := by
  have hz : ((e : Int) == 0) = false := by rw [beq_eq_false_iff_ne]; omega
  go_enter Tryd.func44, Tryd.ntmps44
  go_wp2_with (go_at_call 25; refine (need7_bad _).mono ?_; rintro e w2 ⟨rfl, rfl⟩)
  exact ⟨rfl, rfl, rfl⟩

/-- Nothing but one block's cells has turned; new blocks may be there. -/
def Moved (B : Nat) (W W' : World) : Prop := W.grownBy W' (some B)
theorem Moved.refl (B : Nat) (W : World) : Moved B W W := ⟨rfl, rfl, rfl, Nat.le_refl _, fun _ _ _ => rfl⟩
theorem Moved.trans {B : Nat} {U V W : World} (h : Moved B U V) (k : Moved B V W) : Moved B U W :=
  ⟨k.os.trans h.os, k.tape.trans h.tape, k.output.trans h.output, Nat.le_trans h.size k.size, fun b hb hne => (k.block b (Nat.lt_of_lt_of_le hb h.size) hne).trans (h.block b hb hne)⟩
theorem Moved.of_below {B : Nat} {W W' : World} (h : Below W.heap.size W W') : Moved B W W' := ⟨h.os, h.tape, h.output, h.size, fun b hb _ => h.block b hb⟩
theorem Moved.set (B : Nat) (W : World) (v : Value) : Moved B W (W.setCell ⟨B, 0, none⟩ v) :=
  ⟨rfl, rfl, rfl, by simp [World.setCell], fun k _ hk => Below.heap_setCell _ _ _ _ (fun e => hk (by simp [e]))⟩
theorem Moved.below {B n : Nat} {w W W' : World} (h : Moved B W W') (k : Below n w W) (hB : n ≤ B) (hn : n ≤ W.heap.size) : Below n w W' :=
  k.grown h hn (fun b e => by cases e; exact hB)
theorem Moved.heap {B b : Nat} {W W' : World} {o : Obj} (h : Moved B W W') (hb : b ≠ B) (k : W.heap[b]? = some o) : W'.heap[b]? = some o :=
  (h.block b (Array.getElem?_eq_some_iff.1 k).1 (fun e => hb (Option.some.inj e))).trans k

/-- The reader's two functions, and what it stands at. -/
abbrev skipV (B : Nat) : Value := .func (.func 38) #[] #[.pointer (some ⟨B, 0, none⟩)]
abbrev upV (B : Nat) : Value := .func (.func 40) #[] #[.pointer (some ⟨B, 0, none⟩)]
abbrev rdV (B : Nat) : Value := .agg #[skipV B, upV B]
abbrev At7 (B : Nat) (s : List UInt8) (W : World) : Prop := Boxed W B 9 (.string ⟨s.toArray⟩)

theorem skip7_any (B : Nat) (s m : List UInt8) (w : World) (h : At7 B s w) :
    Calls Tryd.prog 38 #[.string ⟨m.toArray⟩, .pointer (some ⟨B, 0, none⟩)] w fun e w' => e = .returned (.bool (m.isPrefixOf s)) ∧ At7 B (if m.isPrefixOf s then s.drop m.length else s) w' ∧ Moved B w w' := by
  have hc := h.cell
  have hf := h.frozen
  have HH := Lib.hid h
  have HP : Hid (∀ V, Calls Tryd.prog 39 #[.string ⟨s.toArray⟩, .string ⟨m.toArray⟩] V fun e w' => e = .returned (.tuple #[.string ⟨(if m.isPrefixOf s then s.drop m.length else s).toArray⟩, .bool (m.isPrefixOf s)]) ∧ w' = V) := Lib.hid (fun V => Tryd.strings_CutPrefix ⟨s.toArray⟩ ⟨m.toArray⟩ V)
  clear h
  generalize (if m.isPrefixOf s then s.drop m.length else s) = r at *
  generalize m.isPrefixOf s = b at *
  go_enter Tryd.func38, Tryd.ntmps38
  go_wp2_with (go_at_call 39; refine (HP.out _).mono ?_; rintro e w1 ⟨rfl, rfl⟩)
  go_ret
  exact ⟨rfl, HH.out.set _, Moved.set _ _ _⟩
theorem decode_wide (s : ByteArray) (pos : Nat) (h : pos < s.size) (ha : 128 ≤ (s.get! pos).toNat) : ∀ j, j < (Utf8.decode s pos).2 → pos + j < s.size ∧ 128 ≤ (s.get! (pos + j)).toNat := by
  have h0 : ¬ (s.get! (pos + 0)).toNat < 128 := by rw [Nat.add_zero]; omega
  simp only [Utf8.decode, if_neg h0]
  repeat' split
  all_goals
    intro j hj
    simp only [Bool.and_eq_true, beq_iff_eq, decide_eq_true_eq] at *
    have hj4 : j = 0 ∨ j = 1 ∨ j = 2 ∨ j = 3 := by omega
    rcases hj4 with rfl | rfl | rfl | rfl <;> first | omega | (constructor <;> omega)
theorem get_bl (s : List UInt8) (k : Nat) (h : k < s.length) : (⟨s.toArray⟩ : ByteArray).get! k = s.getD k 0 := by
  rw [get_bang _ k (by rw [size_lit]; exact h)]
  rw [List.getD_eq_getElem?_getD, List.getElem?_eq_getElem h]; rfl
/-- How far a rune takes one. -/
theorem up_step (p : UInt8 → Bool) (ends s : List UInt8) (hp : ∀ b, p b = !(ends.contains b)) (ha : ∀ b ∈ ends, b.toNat < 128) (pos : Nat) (h : pos < s.length) (hz : pos ≤ runL p s) :
    ((decide (((Utf8.decode ⟨s.toArray⟩ pos).1 : Int) < 128) && ends.contains ((Utf8.decode ⟨s.toArray⟩ pos).1 : Int).toNat.toUInt8) = true → runL p s = pos) ∧
      ((decide (((Utf8.decode ⟨s.toArray⟩ pos).1 : Int) < 128) && ends.contains ((Utf8.decode ⟨s.toArray⟩ pos).1 : Int).toNat.toUInt8) = false → pos + (Utf8.decode ⟨s.toArray⟩ pos).2 ≤ runL p s) := by
  have hs : pos < (⟨s.toArray⟩ : ByteArray).size := by rw [size_lit]; exact h
  have hg := get_bl s pos h
  have hst := runL_step p s pos h hz
  by_cases hb : (s.getD pos 0).toNat < 128
  · have hx : ((⟨s.toArray⟩ : ByteArray)[pos]'hs) = s.getD pos 0 := by rw [← hg]; exact (get_bang _ pos hs).symm
    rw [decode_ascii _ pos hs (by rw [hx]; exact hb), hx]
    have e : (((s.getD pos 0).toNat : Nat) : Int).toNat.toUInt8 = s.getD pos 0 := by simp
    simp only
    rw [e, decide_eq_true (by omega : (((s.getD pos 0).toNat : Nat) : Int) < 128), Bool.true_and]
    exact ⟨fun k => hst.2 (by rw [hp, k]; rfl), fun k => hst.1 (by rw [hp, k]; rfl)⟩
  · have hx : 128 ≤ ((⟨s.toArray⟩ : ByteArray)[pos]'hs).toNat := by rw [show ((⟨s.toArray⟩ : ByteArray)[pos]'hs) = s.getD pos 0 by rw [← hg]; exact (get_bang _ pos hs).symm]; omega
    have h1 := (decode_high _ pos hs hx).1
    rw [decide_eq_false (by omega), Bool.false_and]
    refine ⟨(fun k => by cases k), fun _ => ?_⟩
    have hw := decode_wide _ pos hs (by rw [hg]; omega)
    have key : ∀ j, j ≤ (Utf8.decode ⟨s.toArray⟩ pos).2 → pos + j ≤ runL p s := by
      intro j
      induction j with
      | zero => intro _; exact hz
      | succ j ih =>
        intro hj
        obtain ⟨k1, k2⟩ := hw j (by omega)
        rw [size_lit] at k1
        rw [get_bl s _ k1] at k2
        refine (runL_step p s (pos + j) k1 (ih (by omega))).1 ?_
        rw [hp]
        cases hc : ends.contains (s.getD (pos + j) 0) with
        | false => rfl
        | true =>
          have := ha _ (List.contains_iff_mem.1 hc)
          omega
    exact key _ (Nat.le_refl _)
set_option maxHeartbeats 2000000 in
set_option maxRecDepth 100000 in
theorem upto7_any (B : Nat) (s ends : List UInt8) (p : UInt8 → Bool) (hp : ∀ b, p b = !(ends.contains b)) (ha : ∀ b ∈ ends, b.toNat < 128) (hs : s.length ≤ 281474976710656) (w : World) (h : At7 B s w) :
    Calls Tryd.prog 40 #[.string ⟨ends.toArray⟩, .pointer (some ⟨B, 0, none⟩)] w fun e w' => e = .returned (.string ⟨(s.take (runL p s)).toArray⟩) ∧ At7 B (s.drop (runL p s)) w' ∧ Moved B w w' := by
  have HU := Lib.hid (up_step p ends s hp ha)
  have HC := Lib.hid (fun (r : Nat) V => containsrune7_any ⟨ends.toArray⟩ ha (r : Int) (Int.natCast_nonneg r) V)
  have HZL : Hid (runL p s ≤ s.length) := Lib.hid (runL_le p s)
  obtain ⟨z, hz⟩ : ∃ z, z = runL p s := ⟨_, rfl⟩
  rw [← hz] at HU HZL ⊢
  have hsz : (⟨s.toArray⟩ : ByteArray).size = s.length := size_lit s
  have hx1 : (⟨s.toArray⟩ : ByteArray).extract 0 z = ⟨(s.take z).toArray⟩ := bl_inj (by rw [bl_extract, bl_mk, bl_mk, List.drop_zero])
  have hx2 : (⟨s.toArray⟩ : ByteArray).extract z (⟨s.toArray⟩ : ByteArray).size = ⟨(s.drop z).toArray⟩ := bl_inj (by rw [bl_from, bl_mk, bl_mk])
  have hs1 : ∀ V : World, (Instr.sliceAt 9 (.string ⟨s.toArray⟩) none (some (.int .i64 (z : Int))) none).run Tryd.prog V = .ok (.string ⟨(s.take z).toArray⟩) V := fun V => by
    rw [← hx1]; exact tslice_to _ z (by rw [hsz]; exact HZL.out) V
  have hs2 : ∀ V : World, (Instr.sliceAt 9 (.string ⟨s.toArray⟩) (some (.int .i64 (z : Int))) none none).run Tryd.prog V = .ok (.string ⟨(s.drop z).toArray⟩) V := fun V => by
    rw [← hx2]; exact tslice_from _ z (by rw [hsz]; exact HZL.out) V
  have hc := h.cell
  have HH := Lib.hid h
  have HX := Lib.hid (And.intro hx1 hx2)
  have HL := Lib.hid hs
  have HBL := Lib.hid h.lt
  unfold At7
  clear hz hx1 hx2 h ha hp hs
  generalize (s.take z).toArray = st at *
  generalize (s.drop z).toArray = sd at *
  go_enter Tryd.func40, Tryd.ntmps40
  go_wp2_with fail
  go_loopw [4] (fun nv wr => ∃ pos : Nat, nv = .int .i64 s.length ∧ Hid (pos ≤ z) ∧ Hid (wr.heap[w.heap.size]? = some (.stringIter ⟨s.toArray⟩ pos)) ∧ Hid (Below w.heap.size w wr)) (fun _ wr => s.length - wr.iterPos w.heap.size)
  case atStart => exact ⟨0, rfl, Lib.hid (Nat.zero_le _), Lib.hid (World.iter_heap w ⟨s.toArray⟩ 0), Lib.hid ((Below.refl _ w).alloc (Nat.le_refl _) _)⟩
  case round =>
    obtain ⟨pos, rfl, hpz, hit, hb⟩ := hrel
    by_cases hp : pos < s.length
    · have hp2 : pos < (⟨s.toArray⟩ : ByteArray).size := by rw [hsz]; exact hp
      have hwd := Lib.hid (width_pos _ pos hp2)
      have HUP := Lib.hid (HU.out pos hp hpz.out)
      have hit2 := Lib.hid (Lib.iterAt_heap wr w.heap.size ⟨s.toArray⟩ pos (pos + (Utf8.decode ⟨s.toArray⟩ pos).2) hit.out)
      have hb2 := Lib.hid (Lib.below_iterAt hb.out (k := w.heap.size) (Nat.le_refl _) ⟨s.toArray⟩ (pos + (Utf8.decode ⟨s.toArray⟩ pos).2))
      have hnx : ∀ ty, (Instr.next (.pointer (some ⟨w.heap.size, 0, none⟩)) true ty).run Tryd.prog wr = _ := fun ty => Lib.run_next_any_at wr w.heap.size ⟨s.toArray⟩ pos ty hit.out hp2
      generalize wr.iterAt w.heap.size ⟨s.toArray⟩ (pos + (Utf8.decode ⟨s.toArray⟩ pos).2) = W1 at *
      have HC1 := Lib.hid (fun V => HC.out (Utf8.decode ⟨s.toArray⟩ pos).1 V)
      rw [bl_mk] at HC1
      generalize Utf8.decode ⟨s.toArray⟩ pos = rd at *
      obtain ⟨r, d⟩ := rd
      simp only at HUP hit2 hnx HC1 hwd
      cases hcn : decide ((r : Int) < 128) && ends.contains (r : Int).toNat.toUInt8 with
      | true =>
        rw [hcn] at HC1
        obtain rfl : z = pos := HUP.out.1 hcn
        have HB1 := Lib.hid hb2.out
        clear hcn HUP hwd
        go_wp2_with (go_at_call 41; refine (HC1.out _).mono ?_; rintro e w2 ⟨rfl, b2⟩; have B2 := Lib.hid (below_step HB1.out b2); have bx2 : At7 B s w2 := (B2.out.block B HBL.out).trans HH.out; have hc2 := bx2.cell; have hf2 := bx2.frozen; have HX2 := Lib.hid bx2; clear b2 bx2)
        go_ret
        exact ⟨rfl, HX2.out.set _, (Moved.of_below B2.out).trans (Moved.set _ _ _)⟩
      | false =>
        rw [hcn] at HC1
        have HN := Lib.hid (HUP.out.2 hcn)
        clear hcn HUP
        go_wp2_with (go_at_call 41; refine (HC1.out _).mono ?_; rintro e w2 ⟨rfl, b2⟩)
        have hit3 := Lib.hid (heap_below b2 hit2.out)
        have B2 := Lib.hid (below_step hb2.out b2)
        clear b2
        go_roundw
        case rel => exact ⟨pos + d, rfl, HN, hit3, B2⟩
        case measure => simp only [World.iterPos, hit3.out, hit.out]; have := hwd.out; omega
    · have hnx : ∀ ty, (Instr.next (.pointer (some ⟨w.heap.size, 0, none⟩)) true ty).run Tryd.prog wr = _ := fun ty => Lib.run_next_end_at wr w.heap.size ⟨s.toArray⟩ pos ty hit.out (by rw [hsz]; exact hp)
      have hzl : z = s.length := by have := HZL.out; have := hpz.out; omega
      have bx2 : At7 B s wr := (hb.out.block B HBL.out).trans HH.out
      have hc2 := bx2.cell
      have hf2 := bx2.frozen
      have HX2 := Lib.hid bx2
      clear hp bx2
      rw [hzl] at hs1 hs2
      go_wp2_with fail
      go_ret
      exact ⟨rfl, HX2.out.set _, (Moved.of_below hb.out).trans (Moved.set _ _ _)⟩
end Go.Proofs.YtiehhlolhhjgpaaDoor.Pl

namespace Go.Proofs.YtiehhlolhhjgpaaDoor.Pl
open Go.RowKit

set_option maxHeartbeats 1000000 in
set_option maxRecDepth 100000 in
theorem isplain_any (c : Int) (w : World) :
    Calls Tryd.prog 75 #[.int .i32 c] w fun e w' => e = .returned (.bool (plainC c)) ∧ w = w' := by
  have hcs : c < 32 ∨ (32 ≤ c ∧ c < 34) ∨ c = 34 ∨ (34 < c ∧ c ≤ 126) ∨ (126 < c ∧ c < 161) ∨ (161 ≤ c ∧ c ≤ 687) ∨ (687 < c ∧ c < 880) ∨ (880 ≤ c ∧ c ≤ 1279) ∨ 1279 < c := by omega
  obtain ⟨z, hz⟩ : ∃ z, z = plainC c := ⟨_, rfl⟩
  rw [← hz]
  unfold plainC at hz
  rcases hcs with h | ⟨h, h'⟩ | h | ⟨h, h'⟩ | ⟨h, h'⟩ | ⟨h, h'⟩ | ⟨h, h'⟩ | ⟨h, h'⟩ | h
  · obtain rfl : z = false := hz.trans (decide_eq_false (by omega))
    have q0 : (c == 34) = false := by rw [beq_eq_false_iff_ne]; omega
    have q1 : decide (32 ≤ c) = false := decide_eq_false (by omega)
    have q2 : decide (161 ≤ c) = false := decide_eq_false (by omega)
    have q3 : decide (880 ≤ c) = false := decide_eq_false (by omega)
    clear hz
    go_enter Tryd.func75, Tryd.ntmps75
    go_wp2_with fail
    go_ret
    exact ⟨rfl, rfl⟩
  · obtain rfl : z = true := hz.trans (decide_eq_true (by omega))
    have q0 : (c == 34) = false := by rw [beq_eq_false_iff_ne]; omega
    have q1 : decide (32 ≤ c) = true := decide_eq_true (by omega)
    have q2 : decide (c ≤ 126) = true := decide_eq_true (by omega)
    clear hz
    go_enter Tryd.func75, Tryd.ntmps75
    go_wp2_with fail
    go_ret
    exact ⟨rfl, rfl⟩
  · subst h
    obtain rfl : z = false := hz.trans (by decide)
    clear hz
    go_enter Tryd.func75, Tryd.ntmps75
    go_wp2_with fail
    go_ret
    exact ⟨rfl, rfl⟩
  · obtain rfl : z = true := hz.trans (decide_eq_true (by omega))
    have q0 : (c == 34) = false := by rw [beq_eq_false_iff_ne]; omega
    have q1 : decide (32 ≤ c) = true := decide_eq_true (by omega)
    have q2 : decide (c ≤ 126) = true := decide_eq_true (by omega)
    clear hz
    go_enter Tryd.func75, Tryd.ntmps75
    go_wp2_with fail
    go_ret
    exact ⟨rfl, rfl⟩
  · obtain rfl : z = false := hz.trans (decide_eq_false (by omega))
    have q0 : (c == 34) = false := by rw [beq_eq_false_iff_ne]; omega
    have q1 : decide (32 ≤ c) = true := decide_eq_true (by omega)
    have q2 : decide (c ≤ 126) = false := decide_eq_false (by omega)
    have q3 : decide (161 ≤ c) = false := decide_eq_false (by omega)
    have q4 : decide (880 ≤ c) = false := decide_eq_false (by omega)
    clear hz
    go_enter Tryd.func75, Tryd.ntmps75
    go_wp2_with fail
    go_ret
    exact ⟨rfl, rfl⟩
  · obtain rfl : z = true := hz.trans (decide_eq_true (by omega))
    have q0 : (c == 34) = false := by rw [beq_eq_false_iff_ne]; omega
    have q1 : decide (32 ≤ c) = true := decide_eq_true (by omega)
    have q2 : decide (c ≤ 126) = false := decide_eq_false (by omega)
    have q3 : decide (161 ≤ c) = true := decide_eq_true (by omega)
    have q4 : decide (c ≤ 687) = true := decide_eq_true (by omega)
    clear hz
    go_enter Tryd.func75, Tryd.ntmps75
    go_wp2_with fail
    go_ret
    exact ⟨rfl, rfl⟩
  · obtain rfl : z = false := hz.trans (decide_eq_false (by omega))
    have q0 : (c == 34) = false := by rw [beq_eq_false_iff_ne]; omega
    have q1 : decide (32 ≤ c) = true := decide_eq_true (by omega)
    have q2 : decide (c ≤ 126) = false := decide_eq_false (by omega)
    have q3 : decide (161 ≤ c) = true := decide_eq_true (by omega)
    have q4 : decide (c ≤ 687) = false := decide_eq_false (by omega)
    have q5 : decide (880 ≤ c) = false := decide_eq_false (by omega)
    clear hz
    go_enter Tryd.func75, Tryd.ntmps75
    go_wp2_with fail
    go_ret
    exact ⟨rfl, rfl⟩
  · obtain rfl : z = true := hz.trans (decide_eq_true (by omega))
    have q0 : (c == 34) = false := by rw [beq_eq_false_iff_ne]; omega
    have q1 : decide (32 ≤ c) = true := decide_eq_true (by omega)
    have q2 : decide (c ≤ 126) = false := decide_eq_false (by omega)
    have q3 : decide (161 ≤ c) = true := decide_eq_true (by omega)
    have q4 : decide (c ≤ 687) = false := decide_eq_false (by omega)
    have q5 : decide (880 ≤ c) = true := decide_eq_true (by omega)
    have q6 : decide (c ≤ 1279) = true := decide_eq_true (by omega)
    clear hz
    go_enter Tryd.func75, Tryd.ntmps75
    go_wp2_with fail
    go_ret
    exact ⟨rfl, rfl⟩
  · obtain rfl : z = false := hz.trans (decide_eq_false (by omega))
    have q0 : (c == 34) = false := by rw [beq_eq_false_iff_ne]; omega
    have q1 : decide (32 ≤ c) = true := decide_eq_true (by omega)
    have q2 : decide (c ≤ 126) = false := decide_eq_false (by omega)
    have q3 : decide (161 ≤ c) = true := decide_eq_true (by omega)
    have q4 : decide (c ≤ 687) = false := decide_eq_false (by omega)
    have q5 : decide (880 ≤ c) = true := decide_eq_true (by omega)
    have q6 : decide (c ≤ 1279) = false := decide_eq_false (by omega)
    clear hz
    go_enter Tryd.func75, Tryd.ntmps75
    go_wp2_with fail
    go_ret
    exact ⟨rfl, rfl⟩

set_option maxHeartbeats 2000000 in
set_option maxRecDepth 100000 in
theorem plain7_any (s : ByteArray) (w : World) :
    Calls Tryd.prog 60 #[.string s] w fun e w' => e = .returned (.bool (plainB (bl s))) ∧ Below w.heap.size w w' := by
  obtain ⟨z, hz⟩ : ∃ z, z = plainB (bl s) := ⟨_, rfl⟩
  rw [← hz]
  have HZ : Hid (z = (runes s).all plainC) := Lib.hid (by rw [hz]; unfold plainB; rw [rn_bl])
  clear hz
  go_enter Tryd.func60, Tryd.ntmps60
  go_wp2_with fail
  go_loopw [] (fun wr => ∃ pos fuel : Nat, Hid (wr.heap[w.heap.size]? = some (.stringIter s pos)) ∧ Hid (Below w.heap.size w wr) ∧ Hid (z = (runesF s fuel pos).all plainC) ∧ Hid (s.size ≤ pos + fuel)) (fun wr => s.size - wr.iterPos w.heap.size)
  case atStart =>
    exact ⟨0, s.size, Lib.hid (World.iter_heap w s 0), Lib.hid ((Below.refl _ w).alloc (Nat.le_refl _) _), HZ, Lib.hid (by omega)⟩
  case round =>
    obtain ⟨pos, fuel, hit, hb, hacc, hfu⟩ := hrel
    by_cases hp : pos < s.size
    · have hwd := Lib.hid (width_pos s pos hp)
      have hit2 := Lib.hid (Lib.iterAt_heap wr w.heap.size s pos (pos + (Utf8.decode s pos).2) hit.out)
      have hb2 := Lib.hid (Lib.below_iterAt hb.out (k := w.heap.size) (Nat.le_refl _) s (pos + (Utf8.decode s pos).2))
      have hnx : ∀ ty, (Instr.next (.pointer (some ⟨w.heap.size, 0, none⟩)) true ty).run Tryd.prog wr = _ := fun ty => Lib.run_next_any_at wr w.heap.size s pos ty hit.out hp
      generalize wr.iterAt w.heap.size s (pos + (Utf8.decode s pos).2) = W1 at *
      have HC := Lib.hid (fun V => isplain_any ((Utf8.decode s pos).1 : Int) V)
      have hf1 : fuel = (fuel - 1) + 1 := by have := hfu.out; omega
      have HST : Hid (z = (plainC ((Utf8.decode s pos).1 : Int) && (runesF s (fuel - 1) (pos + (Utf8.decode s pos).2)).all plainC)) := Lib.hid (by
        rw [hacc.out, hf1, runesF_step s (fuel - 1) pos hp, List.all_cons]; rfl)
      have HF2 : Hid (s.size ≤ pos + (Utf8.decode s pos).2 + (fuel - 1)) := Lib.hid (by have := hfu.out; have := hwd.out; omega)
      obtain ⟨n, hn⟩ : ∃ n, n = (Utf8.decode s pos).1 := ⟨_, rfl⟩
      obtain ⟨dw, hdw⟩ : ∃ dw, dw = (Utf8.decode s pos).2 := ⟨_, rfl⟩
      rw [← hn, ← hdw] at HST
      rw [← hdw] at HF2 hit2 hwd
      rw [← hn] at hnx HC
      clear hn hdw hf1
      cases hpc : plainC (n : Int) with
      | true =>
        rw [hpc] at HC HST
        have HST2 : Hid (z = (runesF s (fuel - 1) (pos + dw)).all plainC) := Lib.hid (HST.out.trans (Bool.true_and _))
        clear hpc
        go_wp2_with (go_at_call 75; refine (HC.out _).mono ?_; rintro e w2 ⟨rfl, rfl⟩)
        go_roundw
        case rel => exact ⟨pos + dw, fuel - 1, hit2, hb2, HST2, HF2⟩
        case measure => simp only [World.iterPos, hit2.out, hit.out]; have := hwd.out; omega
      | false =>
        rw [hpc] at HC HST
        have HST2 : Hid (z = false) := Lib.hid (HST.out.trans (Bool.false_and _))
        clear hpc
        go_wp2_with (go_at_call 75; refine (HC.out _).mono ?_; rintro e w2 ⟨rfl, rfl⟩)
        go_ret
        exact ⟨ret6_bool HST2.out.symm, hb2.out⟩
    · have hnx : ∀ ty, (Instr.next (.pointer (some ⟨w.heap.size, 0, none⟩)) true ty).run Tryd.prog wr = _ := fun ty => Lib.run_next_end_at wr w.heap.size s pos ty hit.out hp
      have HQ : Hid (z = true) := Lib.hid (by rw [hacc.out, runesF_end s fuel pos hp]; rfl)
      clear hp
      go_wp2_with fail
      go_ret
      exact ⟨ret6_bool HQ.out.symm, hb.out⟩

set_option maxHeartbeats 2000000 in
set_option maxRecDepth 100000 in
theorem width7_any (s : ByteArray) (hs : s.size ≤ 281474976710656) (w : World) :
    Calls Tryd.prog 11 #[.string s] w fun e w' => e = .returned (.int .i64 (rn (bl s)).length) ∧ Below w.heap.size w w' := by
  obtain ⟨z, hz⟩ : ∃ z, z = (rn (bl s)).length := ⟨_, rfl⟩
  rw [← hz]
  have HZ : Hid (z = (runes s).length) := Lib.hid (by rw [hz, rn_bl])
  have hzl : z ≤ 281474976710656 := by rw [HZ.out]; exact Nat.le_trans (runes_length s) hs
  clear hz
  go_enter Tryd.func11, Tryd.ntmps11
  go_wp2_with fail
  go_loopw [3] (fun v wr => ∃ pos fuel acc : Nat, v = .int .i64 acc ∧ acc ≤ 281474976710656 ∧ Hid (wr.heap[w.heap.size]? = some (.stringIter s pos)) ∧ Hid (Below w.heap.size w wr) ∧ Hid (z = acc + (runesF s fuel pos).length) ∧ Hid (s.size ≤ pos + fuel)) (fun _ wr => s.size - wr.iterPos w.heap.size)
  case atStart =>
    exact ⟨0, s.size, 0, rfl, by decide, Lib.hid (World.iter_heap w s 0), Lib.hid ((Below.refl _ w).alloc (Nat.le_refl _) _), Lib.hid (by rw [Nat.zero_add]; exact HZ.out), Lib.hid (by omega)⟩
  case round =>
    obtain ⟨pos, fuel, acc, rfl, hal, hit, hb, hacc, hfu⟩ := hrel
    by_cases hp : pos < s.size
    · have hwd := Lib.hid (width_pos s pos hp)
      have hit2 := Lib.hid (Lib.iterAt_heap wr w.heap.size s pos (pos + (Utf8.decode s pos).2) hit.out)
      have hb2 := Lib.hid (Lib.below_iterAt hb.out (k := w.heap.size) (Nat.le_refl _) s (pos + (Utf8.decode s pos).2))
      have hnx : ∀ ty, (Instr.next (.pointer (some ⟨w.heap.size, 0, none⟩)) true ty).run Tryd.prog wr = _ := fun ty => Lib.run_next_any_at wr w.heap.size s pos ty hit.out hp
      generalize wr.iterAt w.heap.size s (pos + (Utf8.decode s pos).2) = W1 at *
      have hf1 : fuel = (fuel - 1) + 1 := by have := hfu.out; omega
      have HST : Hid (z = acc + 1 + (runesF s (fuel - 1) (pos + (Utf8.decode s pos).2)).length) := Lib.hid (by
        rw [hacc.out, hf1, runesF_step s (fuel - 1) pos hp, List.length_cons, Nat.add_sub_cancel]; omega)
      have HF2 : Hid (s.size ≤ pos + (Utf8.decode s pos).2 + (fuel - 1)) := Lib.hid (by have := hfu.out; have := hwd.out; omega)
      have HA2 : Hid (acc + 1 ≤ 281474976710656) := Lib.hid (by have := HST.out; omega)
      clear hf1
      go_wp2_with fail
      go_roundw
      case rel => exact ⟨pos + (Utf8.decode s pos).2, fuel - 1, acc + 1, by go_num, HA2.out, hit2, hb2, HST, HF2⟩
      case measure => simp only [World.iterPos, hit2.out, hit.out]; have := hwd.out; omega
    · have hnx : ∀ ty, (Instr.next (.pointer (some ⟨w.heap.size, 0, none⟩)) true ty).run Tryd.prog wr = _ := fun ty => Lib.run_next_end_at wr w.heap.size s pos ty hit.out hp
      have HQ : Hid (z = acc) := Lib.hid (by rw [hacc.out, runesF_end s fuel pos hp]; rfl)
      clear hp
      go_wp2_with fail
      go_ret
      exact ⟨by rw [HQ.out]; rfl, hb.out⟩
end Go.Proofs.YtiehhlolhhjgpaaDoor.Pl

namespace Go.Proofs.YtiehhlolhhjgpaaDoor.Pl
open Go.RowKit

theorem reader_info : (Tryd.prog.info? 46).map (·.size) = some (#[skipV 0, upV 0].size) := by kernel_rfl
theorem reader_one (B : Nat) : (#[skipV B, upV B]).all (·.oneCell') = true := by
  rw [Array.all_eq_true_iff_forall_mem]
  intro v hv
  simp only [List.mem_toArray, List.mem_cons, List.not_mem_nil, or_false] at hv
  rcases hv with rfl | rfl <;> rfl
set_option maxHeartbeats 1000000 in
set_option maxRecDepth 100000 in
theorem readerof_any (s : List UInt8) (w : World) :
    Calls Tryd.prog 23 #[.string ⟨s.toArray⟩] w fun e w' => e = .returned (rdV (w.heap.size + 1)) ∧ At7 (w.heap.size + 1) s w' ∧ Below w.heap.size w w' := by
  have hmf : ∀ (fn : Fn) (first cap : Array Value) (w : World), (Instr.makeFunc fn first cap).run Tryd.prog w = .ok (.func fn first cap) w := fun _ _ _ _ => rfl
  go_enter Tryd.func23, Tryd.ntmps23
  have N0 := Lib.hid (show ((w.alloc (.cells #[.nilFunc, .nilFunc] 46)).alloc (.cells #[.string ⟨s.toArray⟩] 9)).heap[w.heap.size]? = some (.cells #[.nilFunc, .nilFunc] 46 (0, 0)) from (Lib.alloc_old _ _ _ (by simp)).trans (Go.heap_alloc_new _ _))
  have N1 := Lib.hid (show ((w.alloc (.cells #[.nilFunc, .nilFunc] 46)).alloc (.cells #[.string ⟨s.toArray⟩] 9)).heap[w.heap.size + 1]? = some (.cells #[.string ⟨s.toArray⟩] 9 (0, 0)) by
    have h := Go.heap_alloc_new (w.alloc (.cells #[.nilFunc, .nilFunc] 46)) (.cells #[.string ⟨s.toArray⟩] 9)
    rwa [World.size_alloc] at h)
  have B0 : Hid (Below w.heap.size w ((w.alloc (.cells #[.nilFunc, .nilFunc] 46)).alloc (.cells #[.string ⟨s.toArray⟩] 9))) := Lib.hid (((Below.refl _ _).alloc (Nat.le_refl _) _).alloc (by simp) _)
  go_wp2_with (refine wpList_store_row rfl 46 _ _ rfl w.heap.size #[skipV (w.heap.size + 1), upV (w.heap.size + 1)] rfl rfl 46 #[.nilFunc, .nilFunc] N0.out reader_info rfl (reader_one _) ?_)
  refine bodyPost_ret (v := rdV (w.heap.size + 1)) ?_ rfl ⟨rfl, ?_, ?_⟩
  · exact results_cell_row rfl _ _ w.heap.size 46 _ (0, 0) _ rfl (setRow_heap _ _ _ _ _ _ N0.out) Tryd.underlying46 rfl reader_info
  · exact (setRow_other _ _ _ _ (by omega)).trans N1.out
  · exact ⟨B0.out.os, B0.out.tape, B0.out.output, by simpa [World.setRow] using B0.out.size, fun k hk => (setRow_other _ _ _ _ (by omega)).trans (B0.out.block k hk)⟩

def hexT : List UInt8 := [48, 49, 50, 51, 52, 53, 54, 55, 56, 57, 97, 98, 99, 100, 101, 102]
theorem digit_at : ∀ n, n < 256 → Lib.indexByte hexT n.toUInt8 = if hexB n.toUInt8 = true then (hexV n.toUInt8 : Int) else -1 := by decide +kernel
theorem digit_of (c : UInt8) : Lib.indexByte hexT c = if hexB c = true then (hexV c : Int) else -1 := by
  have h := digit_at c.toNat c.toNat_lt
  have e : c.toNat.toUInt8 = c := by simp
  rwa [e] at h
theorem digit7_ok (c : UInt8) (h : hexB c = true) (w : World) : Calls Tryd.prog 76 #[.int .u8 c.toNat] w fun e w' => e = .returned (.int .u8 (hexV c)) ∧ w' = w := by
  have HI : Hid (∀ V, Calls Tryd.prog 71 #[.string ⟨#[48, 49, 50, 51, 52, 53, 54, 55, 56, 57, 97, 98, 99, 100, 101, 102]⟩, .int .u8 c.toNat] V fun e w' => e = .returned (.int .i64 (hexV c)) ∧ w' = V) := Lib.hid (fun V => (Tryd.strings_IndexByte _ _ V).mono fun e w' ⟨h1, h2⟩ => ⟨by
    have e3 : ((c.toNat : Int).toNat.toUInt8) = c := by simp
    have e4 := digit_of c
    rw [if_pos h] at e4
    rw [h1, e3]
    exact congrArg (fun x => Ending.returned (.int .i64 x)) e4, h2⟩)
  have hv := hexV_lt h
  have h0 : (0 : Int) ≤ (hexV c : Int) := by omega
  have h1 : (hexV c : Int) ≤ 255 := by omega
  clear h hv
  generalize hexV c = v at *
  go_enter Tryd.func76, Tryd.ntmps76
  go_wp2_with (first | (go_at_call 71; refine (HI.out _).mono ?_; rintro e w1 ⟨rfl, rfl⟩) | (go_at_call 25; refine (need7_ok _).mono ?_; rintro e w2 ⟨rfl, rfl⟩))
  go_ret
  exact ⟨rfl, rfl⟩
theorem digit7_bad (c : UInt8) (h : hexB c = false) (w : World) : Calls Tryd.prog 76 #[.int .u8 c.toNat] w fun e w' => e = boom7 ∧ w' = w := by
  have HI : Hid (∀ V, Calls Tryd.prog 71 #[.string ⟨#[48, 49, 50, 51, 52, 53, 54, 55, 56, 57, 97, 98, 99, 100, 101, 102]⟩, .int .u8 c.toNat] V fun e w' => e = .returned (.int .i64 (-1)) ∧ w' = V) := Lib.hid (fun V => (Tryd.strings_IndexByte _ _ V).mono fun e w' ⟨h1, h2⟩ => ⟨by
    have e3 : ((c.toNat : Int).toNat.toUInt8) = c := by simp
    have e4 := digit_of c
    rw [if_neg (by rw [h]; decide)] at e4
    rw [h1, e3]
    exact congrArg (fun x => Ending.returned (.int .i64 x)) e4, h2⟩)
  clear h
  go_enter Tryd.func76, Tryd.ntmps76
  go_wp2_with (first | (go_at_call 71; refine (HI.out _).mono ?_; rintro e w1 ⟨rfl, rfl⟩) | (go_at_call 25; refine (need7_bad _).mono ?_; rintro e w2 ⟨rfl, rfl⟩))
  exact ⟨rfl, rfl, rfl⟩
end Go.Proofs.YtiehhlolhhjgpaaDoor.Pl

namespace Go.Proofs.YtiehhlolhhjgpaaDoor.Pl
open Go.RowKit

set_option maxRecDepth 100000 in
theorem data6_any (s : ByteArray) (hs : s.size ≤ 281474976710656) (w : World) :
    Calls Tryd.prog 18 #[.string s] w fun e w' => e = .returned (st2 (dataP (bl s))) ∧ Below w.heap.size w w' := by
  by_cases h : 1024 < s.size
  · have HZ : Hid (dataP (bl s) = ([], 5)) := Lib.hid (by unfold dataP; rw [bl_length]; exact if_pos h)
    have h' : (1024 : Int) < (s.size : Int) := by omega
    clear h
    go_enter Tryd.func18, Tryd.ntmps18
    go_wp2_with fail
    go_ret2
    exact ⟨by rw [HZ.out]; rfl, Below.refl _ _⟩
  · have HZ : Hid (dataP (bl s) = (100 :: txt (bl s), 0)) := Lib.hid (by unfold dataP; rw [bl_length]; exact if_neg h)
    have h' : ¬ (1024 : Int) < (s.size : Int) := by omega
    have HT := Lib.hid (fun V => text_any s V hs)
    rw [text_list] at HT
    have hcat : (⟨#[100]⟩ : ByteArray).size + (⟨(txt s.data.toList).toArray⟩ : ByteArray).size ≤ 9223372036854775807 := by
      have h4 : (⟨(txt s.data.toList).toArray⟩ : ByteArray).size = (txt s.data.toList).length := size_lit _
      have := txt_le s.data.toList
      have h2 : s.data.toList.length = s.size := bl_length s
      have h3 : (⟨#[100]⟩ : ByteArray).size = 1 := rfl
      omega
    have HC : Hid ((⟨#[100]⟩ ++ ⟨(txt s.data.toList).toArray⟩ : ByteArray) = ⟨(100 :: txt (bl s)).toArray⟩) := Lib.hid (cat_front _ _)
    generalize (⟨(txt s.data.toList).toArray⟩ : ByteArray) = t at *
    clear h hs
    go_enter Tryd.func18, Tryd.ntmps18
    go_wp2_with (go_at_call 29; refine (HT.out _).mono ?_; rintro e w1 ⟨rfl, b1⟩)
    go_ret2
    exact ⟨by rw [HZ.out, st2, ← HC.out]; rfl, b1⟩

set_option maxRecDepth 100000 in
theorem atom6_any (s : ByteArray) (hs : s.size ≤ 281474976710656) (w : World) :
    Calls Tryd.prog 13 #[.string s] w fun e w' => e = .returned (st2 (atomP (bl s))) ∧ Below w.heap.size w w' := by
  have HN := Lib.hid (fun V => isname_any s hs V)
  by_cases h : 32 < s.size
  · have HZ : Hid (atomP (bl s) = ([], 5)) := Lib.hid (by unfold atomP; rw [bl_length]; exact if_pos h)
    have h' : (32 : Int) < (s.size : Int) := by omega
    clear h
    go_enter Tryd.func13, Tryd.ntmps13
    go_wp2_with fail
    go_ret2
    exact ⟨by rw [HZ.out]; rfl, Below.refl _ _⟩
  · have h' : ¬ (32 : Int) < (s.size : Int) := by omega
    cases hno : nameOK (bl s) with
    | false =>
      have HZ : Hid (atomP (bl s) = ([], 7)) := Lib.hid (by unfold atomP; rw [bl_length, if_neg h, if_pos hno])
      rw [hno] at HN
      clear h hs hno
      go_enter Tryd.func13, Tryd.ntmps13
      go_wp2_with (go_at_call 28; refine (HN.out _).mono ?_; rintro e w1 ⟨rfl, b1⟩)
      go_ret2
      exact ⟨by rw [HZ.out]; rfl, b1⟩
    | true =>
      have HZ : Hid (atomP (bl s) = (97 :: txt (bl s), 0)) := Lib.hid (by unfold atomP; rw [bl_length, if_neg h, if_neg (by rw [hno]; decide)])
      rw [hno] at HN
      have HT := Lib.hid (fun V => text_any s V hs)
      rw [text_list] at HT
      have hcat : (⟨#[97]⟩ : ByteArray).size + (⟨(txt s.data.toList).toArray⟩ : ByteArray).size ≤ 9223372036854775807 := by
        have h4 : (⟨(txt s.data.toList).toArray⟩ : ByteArray).size = (txt s.data.toList).length := size_lit _
        have := txt_le s.data.toList
        have h2 : s.data.toList.length = s.size := bl_length s
        have h3 : (⟨#[97]⟩ : ByteArray).size = 1 := rfl
        omega
      have HC : Hid ((⟨#[97]⟩ ++ ⟨(txt s.data.toList).toArray⟩ : ByteArray) = ⟨(97 :: txt (bl s)).toArray⟩) := Lib.hid (cat_front _ _)
      generalize (⟨(txt s.data.toList).toArray⟩ : ByteArray) = t at *
      clear h hs hno
      go_enter Tryd.func13, Tryd.ntmps13
      go_wp2_with (first | (go_at_call 28; refine (HN.out _).mono ?_; rintro e w1 ⟨rfl, b1⟩) | (go_at_call 29; refine (HT.out _).mono ?_; rintro e w2 ⟨rfl, b2⟩))
      go_ret2
      exact ⟨by rw [HZ.out, st2, ← HC.out]; rfl, below_step b1 b2⟩

set_option maxHeartbeats 1000000 in
set_option maxRecDepth 100000 in
theorem termat_any (s : ByteArray) (p : Nat) (hp : p ≤ s.size) (hs : s.size ≤ 281474976710656) (w : World) :
    Calls Tryd.prog 51 #[.string s, .int .i64 p] w fun e w' => e = .returned (.string (s.extract p (p + (frontP ((bl s).drop p)).1))) ∧ Below w.heap.size w w' := by
  have sl : ∀ V : World, (Instr.sliceAt 9 (.string s) (some (.int .i64 (p : Int))) none none).run Tryd.prog V = .ok (.string (s.extract p s.size)) V := tslice_from s p hp
  have hx : bl (s.extract p s.size) = (bl s).drop p := bl_from s p
  have hxl : (s.extract p s.size).size + p = s.size := by rw [size_bl, hx, List.length_drop, bl_length]; omega
  rw [← hx]
  generalize s.extract p s.size = x at *
  have hle : (frontP (bl x)).1 ≤ x.size := by
    by_cases h0 : (frontP (bl x)).2 = 0
    · exact front_len x h0
    · have : (frontP (bl x)).1 = 0 := by
        unfold frontP at h0 ⊢
        split
        · split
          · rfl
          · rename_i h1 h2; rw [if_pos h1, if_neg h2] at h0; exact absurd h1 h0
        · rfl
      omega
  have HR := Lib.hid (fun V => read6_any x (by omega) V)
  generalize frontP (bl x) = fr at *
  obtain ⟨n, f⟩ := fr
  simp only at hle ⊢
  have sl2 : ∀ V : World, (Instr.sliceAt 9 (.string s) (some (.int .i64 (p : Int))) (some (.int .i64 ((p : Int) + (n : Int)))) none).run Tryd.prog V = .ok (.string (s.extract p (p + n))) V := fun V => tslice_mid s p (p + n) (by omega) (by omega) V
  have HC := Lib.hid (fun V => clone_any (s.extract p (p + n)) V (by rw [size_bl, bl_extract, List.length_drop, List.length_take, bl_length]; omega))
  generalize s.extract p (p + n) = y at *
  clear hx
  go_enter Tryd.func51, Tryd.ntmps51
  go_wp2_with (first | (go_at_call 21; refine (HR.out _).mono ?_; rintro e w1 ⟨rfl, b1⟩) | (go_at_call 56; refine (HC.out _).mono ?_; rintro e w2 ⟨rfl, b2⟩))
  go_ret
  exact ⟨rfl, below_step b1 b2⟩

theorem kind_data {s : List UInt8} (h : kindP s = 1) : (textP s).2 = true := by
  by_cases hc : checkP s = 0
  · obtain ⟨b, r, _, e2, e3, _⟩ := kind_of hc
    rw [(e3 (.inl (by rw [← e2]; exact h))).2]
  · rw [(kind_no hc).1] at h; cases h

end Go.Proofs.YtiehhlolhhjgpaaDoor.Pl

namespace Go.Proofs.YtiehhlolhhjgpaaDoor.Pl
open Go.RowKit

theorem join_flat : ∀ l : List (List UInt8), Lib.join l [] = l.flatten := by
  intro l
  cases l with
  | nil => rfl
  | cons x r =>
    rw [Lib.join_cons]
    have : Lib.joinTail [] r = r.flatten := by
      unfold Lib.joinTail
      congr 1
      induction r with
      | nil => rfl
      | cons y r ih => simp
    rw [this]; rfl

theorem joined_any (l : List ByteArray) (ao : Option Addr) (cap : Nat) (hcap : l.length ≤ cap) (hl : l.length ≤ 1000) (hx : ((l.map bl).flatten).length ≤ 100000) (w : World) (hrow : TxtRow w ao l) :
    Calls Tryd.prog 50 #[.slice ao l.length cap, .string ⟨#[]⟩] w fun e w' => e = .returned (.string ⟨((l.map bl).flatten).toArray⟩) ∧ Below w.heap.size w w' := by
  rcases hrow with rfl | ⟨b, off, rfl, hlt, hc⟩
  · exact (Tryd.strings_Join_none ao cap ⟨#[]⟩ w).mono (fun e w' h => ⟨h.1, by rw [h.2]; exact Below.refl _ _⟩)
  · have hj : Lib.join (l.map (·.data.toList)) (⟨#[]⟩ : ByteArray).data.toList = (l.map bl).flatten := join_flat _
    have h := Tryd.strings_Join b off cap l ⟨#[]⟩ w (fun j x hj => by
        have hlt : j < l.length := (List.getElem?_eq_some_iff.1 hj).1
        rw [hc j hlt, List.getD_eq_getElem?_getD, hj]; rfl) hlt (by omega) hcap (by rw [hj]; omega)
    rwa [hj] at h

set_option maxHeartbeats 2000000 in
set_option maxRecDepth 100000 in
theorem join6_any (front : ByteArray) (l : List ByteArray) (ao : Option Addr) (cap : Nat) (hcap : l.length ≤ cap) (hf : front.size ≤ 100) (hl : l.length ≤ 1000) (hx : ∀ x ∈ l, x.size ≤ 100000) (w : World) (hrow : TxtRow w ao l) :
    Calls Tryd.prog 35 #[.string front, .slice ao l.length cap] w fun e w' => e = .returned (st2 (madeP (bl front) (l.map bl))) ∧ Below w.heap.size w w' := by
  have HROW := Lib.hid hrow
  obtain ⟨z, hz⟩ : ∃ z, z = madeP (bl front) (l.map bl) := ⟨_, rfl⟩
  rw [← hz]
  unfold madeP at hz
  by_cases hall : ∀ x ∈ l, checkP (bl x) = 0
  · rw [if_pos (by intro x hx'; obtain ⟨y, hy, rfl⟩ := List.mem_map.1 hx'; exact hall y hy)] at hz
    have HA := Lib.hid (fun V hV => are_any l ao cap (by omega) (fun x h => Nat.le_trans (hx x h) (by decide)) V hV true (by simpa using hall))
    have HX : Hid (∀ k, k < l.length → (l.getD k ByteArray.empty).size ≤ 16384) := Lib.hid (fun k hk => by rw [size_bl]; exact check_len (hall _ (getD_mem6 l k hk)))
    have HCL : Hid (∀ k, (catL l k).length ≤ ((l.map bl).flatten).length) := Lib.hid (fun k => catL_le l k)
    have hbig : ∀ m : List ByteArray, (∀ x ∈ m, checkP (bl x) = 0) → ((m.map bl).flatten).length ≤ m.length * 16384 := by
      intro m
      induction m with
      | nil => intro _; simp
      | cons x m ih =>
        intro h
        have h1 := ih (fun y hy => h y (List.mem_cons_of_mem _ hy))
        have h2 := check_len (h x (List.mem_cons_self ..))
        rw [List.map_cons, List.flatten_cons, List.length_append, List.length_cons, Nat.succ_mul]
        omega
    have hbg := hbig l hall
    have hbg2 : ((l.map bl).flatten).length ≤ 16384000 := by omega
    have HALL : Hid (catL l l.length = (l.map bl).flatten) := Lib.hid (catL_all l _ (Nat.le_refl _))
    have HS : Hid (∀ k, k < l.length → catL l (k + 1) = catL l k ++ bl (l.getD k ByteArray.empty)) := Lib.hid (fun k hk => catL_succ l k hk)
    have HJ := Lib.hid (fun (h : ((l.map bl).flatten).length ≤ 100000) V hV => joined_any l ao cap hcap hl h V hV)
    have hfl : (bl front ++ (l.map bl).flatten).length = front.size + ((l.map bl).flatten).length := by rw [List.length_append, bl_length]
    generalize (l.map bl).flatten = F at *
    obtain ⟨n, hn⟩ : ∃ n, n = l.length := ⟨_, rfl⟩
    have HN := Lib.hid hn
    rw [← hn] at HA HJ hl ⊢
    have HFL := Lib.hid hfl
    have HZ := Lib.hid hz
    have HBG := Lib.hid hbg2
    have HF := Lib.hid hf
    clear hall hx hrow hbig hbg hbg2 hn hfl hz hcap hf
    go_enter Tryd.func35, Tryd.ntmps35
    go_wp2_with (go_at_call 30; refine (HA.out _ HROW.out).mono ?_; rintro e w1 ⟨rfl, b1⟩)
    go_loopw [6, 16] (fun sv iv wr => ∃ k : Nat, sv = .int .i64 ((front.size + (catL l k).length : Nat) : Int) ∧ iv = .int .i64 k ∧ k ≤ n ∧ Hid (Below w.heap.size w wr)) (fun _ iv _ => n - (intOf iv).toNat)
    case atStart => exact ⟨0, by simp [catL_zero], rfl, Nat.zero_le _, Lib.hid b1⟩
    case round =>
      obtain ⟨k, rfl, rfl, hkn, hb⟩ := hrel
      have hsz : front.size + (catL l k).length ≤ 20000000 := by have := HCL.out k; have := HBG.out; have := HF.out; omega
      by_cases hk : k < n
      · have hk' : (k : Int) < (n : Int) := by omega
        rcases HROW.out.below hb.out with e | ⟨b, off, rfl, hlt, hc⟩
        · exfalso; have := HN.out; rw [e] at this; simp at this; omega
        have ck := hc k (by have := HN.out; omega)
        have hy := HX.out k (by have := HN.out; omega)
        have HST : Hid (front.size + (catL l (k + 1)).length = front.size + (catL l k).length + (l.getD k ByteArray.empty).size) := Lib.hid (by rw [HS.out k (by have := HN.out; omega), List.length_append, bl_length, Nat.add_assoc])
        generalize l.getD k ByteArray.empty = y at *
        generalize front.size + (catL l k).length = q at *
        clear hc hlt
        go_wp2_with fail
        go_roundw
        case rel => exact ⟨k + 1, by rw [HST.out]; go_num, by go_num, by omega, hb⟩
        case measure => simp [intOf]; omega
      · obtain rfl : k = n := by omega
        have HT : Hid (front.size + (catL l k).length = (bl front ++ F).length) := Lib.hid (by rw [HFL.out]; have := HALL.out; rw [← HN.out] at this; rw [this])
        rw [HT.out] at hsz ⊢
        by_cases hT : 16384 < (bl front ++ F).length
        · have h' : (16384 : Int) < (((bl front ++ F).length : Nat) : Int) := by omega
          have HZ2 : Hid (z = ([], 5)) := Lib.hid (by rw [HZ.out, if_neg (fun h => by have := check_len h; omega)])
          clear hT hk hkn hsz
          generalize (bl front ++ F).length = q at *
          go_wp2_with fail
          go_ret2
          exact ⟨by rw [HZ2.out]; rfl, hb.out⟩
        · have h' : ¬ (16384 : Int) < (((bl front ++ F).length : Nat) : Int) := by omega
          have hFl : F.length ≤ 100000 := by have := HFL.out; omega
          have HJ2 := Lib.hid (HJ.out hFl)
          have hcat : front.size + (⟨F.toArray⟩ : ByteArray).size ≤ 9223372036854775807 := by rw [size_lit F]; have := HF.out; omega
          have HV := Lib.hid (fun V => valid6_any (front ++ ⟨F.toArray⟩) (by rw [ByteArray.size_append, size_lit F]; have := HF.out; omega) V)
          have HB : Hid (bl (front ++ ⟨F.toArray⟩) = bl front ++ F) := Lib.hid (cat_bytes _ _)
          have hV2 := HV.out
          rw [HB.out, ← HZ.out] at hV2
          unfold st2 at hV2
          have HV3 := Lib.hid hV2
          clear hT hk hkn hsz hFl HV hV2
          generalize (bl front ++ F).length = q at *
          generalize (⟨F.toArray⟩ : ByteArray) = ft at *
          go_wp2_with (first | (go_at_call 50; refine (HJ2.out _ (HROW.out.below hb.out)).mono ?_; rintro e w2 ⟨rfl, b2⟩) | (go_at_call 57; refine (HV3.out _).mono ?_; rintro e w3 ⟨rfl, b3⟩))
          go_ret2
          exact ⟨rfl, below_step (below_step hb.out b2) b3⟩
  · have HZ : Hid (z = ([], 2)) := Lib.hid (by
      rw [hz, if_neg]
      intro h
      exact hall (fun x hx' => h _ (List.mem_map.2 ⟨x, hx', rfl⟩)))
    have HA := Lib.hid (fun V hV => are_any l ao cap (by omega) (fun x h => Nat.le_trans (hx x h) (by decide)) V hV false (by simpa using hall))
    clear hall hx hz hrow
    generalize l.length = n at *
    go_enter Tryd.func35, Tryd.ntmps35
    go_wp2_with (go_at_call 30; refine (HA.out _ HROW.out).mono ?_; rintro e w1 ⟨rfl, b1⟩)
    go_ret2
    exact ⟨by rw [HZ.out]; rfl, b1⟩

set_option maxRecDepth 100000 in
theorem hash6_any (a : ByteArray) (ha : a.size ≤ 100000) (w : World) :
    Calls Tryd.prog 62 #[.string a] w fun e w' => e = .returned (st2 (madeP [104] [bl a])) ∧ Below w.heap.size w w' := by
  have HM := Lib.hid (join6_any ⟨#[104]⟩ [a] (some ⟨w.heap.size, 0, none⟩) 1 (by simp) (by decide) (by simp) (fun x hx => by simp at hx; rw [hx]; exact ha) _ (row1 w a))
  have B0 := Lib.hid ((Below.refl w.heap.size w).alloc (Nat.le_refl _) (.cells #[.string a] 9))
  unfold st2 at HM
  clear ha
  go_enter Tryd.func62, Tryd.ntmps62
  go_wp2_with (go_at_call 35; refine HM.out.mono ?_; rintro e w1 ⟨rfl, b1⟩)
  go_ret2
  exact ⟨rfl, below_step B0.out b1⟩
set_option maxRecDepth 100000 in
theorem mac6_any (a b : ByteArray) (ha : a.size ≤ 100000) (hb : b.size ≤ 100000) (w : World) :
    Calls Tryd.prog 20 #[.string a, .string b] w fun e w' => e = .returned (st2 (madeP [109] [bl a, bl b])) ∧ Below w.heap.size w w' := by
  have HM := Lib.hid (join6_any ⟨#[109]⟩ [a, b] (some ⟨w.heap.size, 0, none⟩) 2 (by simp) (by decide) (by simp) (fun x hx => by simp at hx; rcases hx with rfl | rfl <;> assumption) _ (row2 w a b))
  have B0 := Lib.hid ((Below.refl w.heap.size w).alloc (Nat.le_refl _) (.cells #[.string a, .string b] 9))
  unfold st2 at HM
  clear ha hb
  go_enter Tryd.func20, Tryd.ntmps20
  go_wp2_with (go_at_call 35; refine HM.out.mono ?_; rintro e w1 ⟨rfl, b1⟩)
  go_ret2
  exact ⟨rfl, below_step B0.out b1⟩
set_option maxRecDepth 100000 in
theorem seal6_any (a b c : ByteArray) (ha : a.size ≤ 100000) (hb : b.size ≤ 100000) (hc : c.size ≤ 100000) (w : World) :
    Calls Tryd.prog 63 #[.string a, .string b, .string c] w fun e w' => e = .returned (st2 (madeP [115] [bl a, bl b, bl c])) ∧ Below w.heap.size w w' := by
  have HM := Lib.hid (join6_any ⟨#[115]⟩ [a, b, c] (some ⟨w.heap.size, 0, none⟩) 3 (by simp) (by decide) (by simp) (fun x hx => by simp at hx; rcases hx with rfl | rfl | rfl <;> assumption) _ (row3 w a b c))
  have B0 := Lib.hid ((Below.refl w.heap.size w).alloc (Nat.le_refl _) (.cells #[.string a, .string b, .string c] 9))
  unfold st2 at HM
  clear ha hb hc
  go_enter Tryd.func63, Tryd.ntmps63
  go_wp2_with (go_at_call 35; refine HM.out.mono ?_; rintro e w1 ⟨rfl, b1⟩)
  go_ret2
  exact ⟨rfl, below_step B0.out b1⟩

set_option maxRecDepth 100000 in
theorem row6_any (l : List ByteArray) (ao : Option Addr) (cap : Nat) (hcap : l.length ≤ cap) (hl : l.length ≤ 1000) (hx : ∀ x ∈ l, x.size ≤ 100000) (w : World) (hrow : TxtRow w ao l) :
    Calls Tryd.prog 19 #[.slice ao l.length cap] w fun e w' => e = .returned (st2 (rowP (l.map bl))) ∧ Below w.heap.size w w' := by
  have HN := Lib.hid (fun V => num_any l.length (by rw [two64]; omega) V)
  have hs : (⟨(enc l.length).toArray⟩ : ByteArray).size ≤ 9 := by rw [size_lit]; exact (enc_len _).2
  have hcat : (⟨#[114]⟩ : ByteArray).size + (⟨(enc l.length).toArray⟩ : ByteArray).size ≤ 9223372036854775807 := by
    have h3 : (⟨#[114]⟩ : ByteArray).size = 1 := rfl
    omega
  have hf : (⟨#[114]⟩ ++ ⟨(enc l.length).toArray⟩ : ByteArray).size ≤ 100 := by
    rw [ByteArray.size_append]
    have h3 : (⟨#[114]⟩ : ByteArray).size = 1 := rfl
    omega
  have HE : Hid (bl (⟨#[114]⟩ ++ ⟨(enc l.length).toArray⟩ : ByteArray) = 114 :: enc (l.map bl).length) := Lib.hid (by rw [cat_front, bl_mk, List.length_map])
  have hM := fun V hV => join6_any (⟨#[114]⟩ ++ ⟨(enc l.length).toArray⟩) l ao cap hcap hf hl hx V hV
  rw [HE.out, show madeP (114 :: enc (l.map bl).length) (l.map bl) = rowP (l.map bl) from rfl] at hM
  unfold st2 at hM
  have HM := Lib.hid hM
  have HROW := Lib.hid hrow
  have hcv : ∀ V : World, (convert 3 62 (.int .i64 ((l.length : Nat) : Int))).run Tryd.prog V = .ok (.int .u64 ((l.length : Nat) : Int)) V := fun V => by
    have hw : IntKind.u64.wrap ((l.length : Nat) : Int) = ((l.length : Nat) : Int) := IntWalk.u64_in _ (by omega)
    go_simp
  generalize (⟨(enc l.length).toArray⟩ : ByteArray) = t at *
  generalize rowP (l.map bl) = rp at *
  obtain ⟨n, hn⟩ : ∃ n, n = l.length := ⟨_, rfl⟩
  rw [← hn] at HN hcv HM ⊢
  clear hs hf hx hrow hn hl hM hcap
  go_enter Tryd.func19, Tryd.ntmps19
  go_wp2_with (first | (go_at_call 36; refine (HN.out _).mono ?_; rintro e w1 ⟨rfl, b1⟩) | (go_at_call 35; refine (HM.out _ (HROW.out.below b1)).mono ?_; rintro e w2 ⟨rfl, b2⟩))
  go_ret2
  exact ⟨rfl, below_step b1 b2⟩
end Go.Proofs.YtiehhlolhhjgpaaDoor.Pl

namespace Go.Proofs.YtiehhlolhhjgpaaDoor.Pl
open Go.RowKit

def frameC : Array Value := #[.int .u8 3, .string ⟨#[91]⟩, .string ⟨#[93]⟩, .int .u8 4, .string ⟨#[104, 40]⟩, .string ⟨#[41]⟩, .int .u8 5, .string ⟨#[109, 40]⟩, .string ⟨#[41]⟩, .int .u8 6, .string ⟨#[115, 40]⟩, .string ⟨#[41]⟩]
/-- The program's table of frames is laid. -/
def Frames (w : World) : Prop := 0 < w.heap.size ∧ ∀ j, j < 12 → w.cell? ⟨0, j, none⟩ = frameC[j]?
theorem Frames.below {w w' : World} (h : Frames w) (hb : Below w.heap.size w w') : Frames w' :=
  ⟨Nat.lt_of_lt_of_le h.1 hb.size, fun j hj => (hb.cell (p := ⟨0, j, none⟩) h.1).trans (h.2 j hj)⟩
theorem Frames.kept {w w' : World} {B : Nat} (h : Frames w) (hB : 0 < B) (hb : Below B w w') : Frames w' :=
  ⟨Nat.lt_of_lt_of_le h.1 hb.size, fun j hj => (hb.cell (p := ⟨0, j, none⟩) hB).trans (h.2 j hj)⟩
theorem Frames.cells {w : World} (h : Frames w) :
    (w.cell? ⟨0, 0, none⟩ = some (.int .u8 3) ∧ w.cell? ⟨0, 1, none⟩ = some (.string ⟨#[91]⟩) ∧ w.cell? ⟨0, 2, none⟩ = some (.string ⟨#[93]⟩)) ∧
    (w.cell? ⟨0, 3, none⟩ = some (.int .u8 4) ∧ w.cell? ⟨0, 4, none⟩ = some (.string ⟨#[104, 40]⟩) ∧ w.cell? ⟨0, 5, none⟩ = some (.string ⟨#[41]⟩)) ∧
    (w.cell? ⟨0, 6, none⟩ = some (.int .u8 5) ∧ w.cell? ⟨0, 7, none⟩ = some (.string ⟨#[109, 40]⟩) ∧ w.cell? ⟨0, 8, none⟩ = some (.string ⟨#[41]⟩)) ∧
    (w.cell? ⟨0, 9, none⟩ = some (.int .u8 6) ∧ w.cell? ⟨0, 10, none⟩ = some (.string ⟨#[115, 40]⟩) ∧ w.cell? ⟨0, 11, none⟩ = some (.string ⟨#[41]⟩)) :=
  ⟨⟨h.2 0 (by decide), h.2 1 (by decide), h.2 2 (by decide)⟩, ⟨h.2 3 (by decide), h.2 4 (by decide), h.2 5 (by decide)⟩, ⟨h.2 6 (by decide), h.2 7 (by decide), h.2 8 (by decide)⟩, ⟨h.2 9 (by decide), h.2 10 (by decide), h.2 11 (by decide)⟩⟩
/-- The line of a term that has parts, out of theirs. -/
def frameW (k : Nat) (l : List UInt8) : List UInt8 := if k = 3 then 91 :: (l ++ [93]) else if k = 4 then 104 :: 40 :: (l ++ [41]) else if k = 5 then 109 :: 40 :: (l ++ [41]) else 115 :: 40 :: (l ++ [41])
theorem frame_cat (a b : List UInt8) (l : List UInt8) (s : ByteArray) (hs : bl s = l) : (⟨a.toArray⟩ ++ s ++ ⟨b.toArray⟩ : ByteArray) = ⟨(a ++ (l ++ b)).toArray⟩ := by
  apply bl_inj
  rw [cat_bytes, cat_bytes, bl_mk a, bl_mk b, bl_mk (a ++ (l ++ b)), hs, List.append_assoc]
set_option maxHeartbeats 1000000 in
set_option maxRecDepth 100000 in
theorem framed7_any (k : Nat) (hk : k = 3 ∨ k = 4 ∨ k = 5 ∨ k = 6) (s : ByteArray) (hs : s.size ≤ 100000000) (w : World) (hF : Frames w) :
    Calls Tryd.prog 49 #[.int .u8 k, .string s] w fun e w' => e = .returned (.string ⟨(frameW k (bl s)).toArray⟩) ∧ Below w.heap.size w w' := by
  obtain ⟨⟨c0, c1, c2⟩, ⟨c3, c4, c5⟩, ⟨c6, c7, c8⟩, ⟨c9, c10, c11⟩⟩ := hF.cells
  clear hF
  rcases hk with rfl | rfl | rfl | rfl
  · have HZ := Lib.hid (frame_cat [91] [93] (bl s) s rfl)
    have h1 : (⟨#[91]⟩ : ByteArray).size + s.size ≤ 9223372036854775807 := by have : (⟨#[91]⟩ : ByteArray).size = 1 := rfl; omega
    have h2 : (⟨#[91]⟩ ++ s : ByteArray).size + (⟨#[93]⟩ : ByteArray).size ≤ 9223372036854775807 := by rw [ByteArray.size_append]; have : (⟨#[91]⟩ : ByteArray).size = 1 := rfl; have : (⟨#[93]⟩ : ByteArray).size = 1 := rfl; omega
    go_enter Tryd.func49, Tryd.ntmps49
    go_wp2_with fail
    refine wp_loop_rounds 5 ?_; repeat any_goals (rw [rounds_succ]; go_wp2_with fail)
    go_quiet (fail)
    go_wp2_with fail
    go_ret
    exact ⟨congrArg (fun x => Ending.returned (.string x)) HZ.out, below_drewN (Below.refl _ _) _⟩
  · have HZ := Lib.hid (frame_cat [104, 40] [41] (bl s) s rfl)
    have h1 : (⟨#[104, 40]⟩ : ByteArray).size + s.size ≤ 9223372036854775807 := by have : (⟨#[104, 40]⟩ : ByteArray).size = 2 := rfl; omega
    have h2 : (⟨#[104, 40]⟩ ++ s : ByteArray).size + (⟨#[41]⟩ : ByteArray).size ≤ 9223372036854775807 := by rw [ByteArray.size_append]; have : (⟨#[104, 40]⟩ : ByteArray).size = 2 := rfl; have : (⟨#[41]⟩ : ByteArray).size = 1 := rfl; omega
    go_enter Tryd.func49, Tryd.ntmps49
    go_wp2_with fail
    refine wp_loop_rounds 5 ?_; repeat any_goals (rw [rounds_succ]; go_wp2_with fail)
    go_quiet (fail)
    go_wp2_with fail
    go_ret
    exact ⟨congrArg (fun x => Ending.returned (.string x)) HZ.out, below_drewN (Below.refl _ _) _⟩
  · have HZ := Lib.hid (frame_cat [109, 40] [41] (bl s) s rfl)
    have h1 : (⟨#[109, 40]⟩ : ByteArray).size + s.size ≤ 9223372036854775807 := by have : (⟨#[109, 40]⟩ : ByteArray).size = 2 := rfl; omega
    have h2 : (⟨#[109, 40]⟩ ++ s : ByteArray).size + (⟨#[41]⟩ : ByteArray).size ≤ 9223372036854775807 := by rw [ByteArray.size_append]; have : (⟨#[109, 40]⟩ : ByteArray).size = 2 := rfl; have : (⟨#[41]⟩ : ByteArray).size = 1 := rfl; omega
    go_enter Tryd.func49, Tryd.ntmps49
    go_wp2_with fail
    refine wp_loop_rounds 5 ?_; repeat any_goals (rw [rounds_succ]; go_wp2_with fail)
    go_quiet (fail)
    go_wp2_with fail
    go_ret
    exact ⟨congrArg (fun x => Ending.returned (.string x)) HZ.out, below_drewN (Below.refl _ _) _⟩
  · have HZ := Lib.hid (frame_cat [115, 40] [41] (bl s) s rfl)
    have h1 : (⟨#[115, 40]⟩ : ByteArray).size + s.size ≤ 9223372036854775807 := by have : (⟨#[115, 40]⟩ : ByteArray).size = 2 := rfl; omega
    have h2 : (⟨#[115, 40]⟩ ++ s : ByteArray).size + (⟨#[41]⟩ : ByteArray).size ≤ 9223372036854775807 := by rw [ByteArray.size_append]; have : (⟨#[115, 40]⟩ : ByteArray).size = 2 := rfl; have : (⟨#[41]⟩ : ByteArray).size = 1 := rfl; omega
    go_enter Tryd.func49, Tryd.ntmps49
    go_wp2_with fail
    refine wp_loop_rounds 5 ?_; repeat any_goals (rw [rounds_succ]; go_wp2_with fail)
    go_quiet (fail)
    go_wp2_with fail
    go_ret
    exact ⟨congrArg (fun x => Ending.returned (.string x)) HZ.out, below_drewN (Below.refl _ _) _⟩
end Go.Proofs.YtiehhlolhhjgpaaDoor.Pl

namespace Go.Proofs.YtiehhlolhhjgpaaDoor.Pl
open Go.RowKit Go.Shelf
attribute [local go_sem] Oper.semAt_some

/-- The places of a term. -/
theorem vis_term {s : ByteArray} (h : checkP (bl s) = 0) : ∃ T : Tm, T.valid ∧ bl s = T.enc ∧ treeOf (bl s) = some T ∧ vis s = ((offT 0 1 T).map Prod.fst, T.enc.length, 0) := by
  obtain ⟨T, tv, te, tr⟩ := tree_of h
  refine ⟨T, tv, te, tr, ?_⟩
  have h1 := vis_tree (bl s) T tv.1 16 tv.2.1 (Nat.le_refl _) 0 [] (by rw [List.drop_zero, te, List.append_nil])
  rw [Nat.zero_add] at h1
  exact h1
theorem below_mark {B : Nat} {w V : World} {D : Nat} {o : Obj} (h : Below B w V) (hB : B ≤ D) (hD : V.heap[D]? = some o) (o' : Obj) : Below B w (V.putObj D o') :=
  h.grown (grownBy_putObj' V D o') (by have := (Array.getElem?_eq_some_iff.1 hD).1; omega) (fun k e => by cases e; exact hB)
theorem leave_mark {n : Nat} {fn : Func} {tmps : Array Value} {R : Ending → World → Prop} {D : Nat} {V : World} {v : Value} (hm : V.heap[D]? = some (.deferred (some [])))
    (h : (results fn tmps).run Tryd.prog (V.putObj D (.deferred none)) = .ok v (V.putObj D (.deferred none))) (hR : R (.returned v) (V.putObj D (.deferred none))) :
    LeavesInM Fence.wide n Tryd.prog fn tmps R [markOf D] .returning V :=
  ⟨by simp, .inl ⟨D, _, rfl, run_takeDeferred hm, v, h, hR⟩⟩
theorem vis_count {s : ByteArray} (h : checkP (bl s) = 0) (q : List Pl6) (hq : q <+: (vis s).1) : q.length ≤ 16384 := by
  obtain ⟨T, tv, te, tr, hv⟩ := vis_term h
  have h1 := hq.length_le
  rw [hv, List.length_map] at h1
  have h2 : (offT 0 1 T).length = T.places.length := by rw [← offs_snd T 0 1, List.length_map]
  have h3 := places_count T tv.1
  have h4 := tv.2.2
  omega

/-- A counter's box, and nothing below turned. -/
def CntI (w : World) (B : Nat) (f : List Pl6 → Nat) (pre : List Pl6) (W : World) : Prop := Boxed W B 3 (.int .i64 (f pre)) ∧ Below w.heap.size w W
theorem cntI_own (w : World) (B : Nat) (f : List Pl6 → Nat) (C : Nat) (h : w.heap.size ≤ C) : OwnFrom C (CntI w B f) :=
  OwnFrom.and (Own.from (boxed_own _ _ _) _) (ownFrom_below (Nat.le_refl _) h)

/-- How deep the deepest is. -/
def deepL (l : List Pl6) : Nat := (l.map fun x => x.dep).foldl max 0
theorem deepL_snoc (l : List Pl6) (x : Pl6) : deepL (l ++ [x]) = max (deepL l) x.dep := by
  unfold deepL; rw [List.map_append, List.foldl_append]; rfl
theorem deepL_le (l : List Pl6) (h : ∀ x ∈ l, x.dep ≤ 16) : deepL l ≤ 16 := by
  have hh : ∀ (l : List Pl6) (a : Nat), a ≤ 16 → (∀ x ∈ l, x.dep ≤ 16) → (l.map fun x => x.dep).foldl max a ≤ 16 := by
    intro l
    induction l with
    | nil => intro a ha _; exact ha
    | cons x l ih => intro a ha hx; exact ih _ (show max a x.dep ≤ 16 by have := hx x (List.mem_cons_self ..); omega) (fun y hy => hx y (List.mem_cons_of_mem _ hy))
  exact hh l 0 (by decide) h

end Go.Proofs.YtiehhlolhhjgpaaDoor.Pl

namespace Go.Proofs.YtiehhlolhhjgpaaDoor.Pl
open Go.RowKit Go.Shelf
attribute [local go_sem] Oper.semAt_some

/-- Do the bytes of sub stand in t at a place? -/
def stB (sub t : ByteArray) (x : Pl6) : Bool := Lib.hasPrefix ((bl t).drop x.at_) (bl sub)
theorem offs_place {T : Tm} {y : Pl6 × Tm} (hy : y ∈ offT 0 1 T) : y.2 ∈ T.places := by
  rw [← offs_snd T 0 1]
  exact List.mem_map_of_mem hy
theorem st_at {t sub : ByteArray} {T F : Tm} (hT : T.valid) (eT : bl t = T.enc) (hF : F.valid) (eF : bl sub = F.enc) {y : Pl6 × Tm} (hy : y ∈ offT 0 1 T) : stB sub t y.1 = true ↔ y.2.enc = F.enc := by
  obtain ⟨r, hr⟩ := offs_at (bl t) T 0 1 [] (by rw [List.drop_zero, eT, List.append_nil]) y hy
  have hv := places_valid hT (offs_place hy)
  unfold stB Lib.hasPrefix
  rw [hr, eF, List.isPrefixOf_iff_prefix]
  constructor
  · rintro ⟨r', h⟩
    rw [(enc_front _ hF.1 _ hv.1 _ _ h).1]
  · rintro h
    rw [h]; exact ⟨r, rfl⟩
theorem has_vis {t sub : ByteArray} (ht : checkP (bl t) = 0) (hs : checkP (bl sub) = 0) : hasP (bl t) (bl sub) = true ↔ ∃ x ∈ (vis t).1, stB sub t x = true := by
  obtain ⟨T, tv, te, tr, hv⟩ := vis_term ht
  obtain ⟨F, fv, fe, fr⟩ := tree_of hs
  have h1 : hasP (bl t) (bl sub) = decide (bl sub ∈ T.places.map Tm.enc) := by unfold hasP placesP; rw [tr, fr]
  rw [h1, decide_eq_true_eq, hv, ← offs_snd T 0 1]
  simp only [List.mem_map]
  constructor
  · rintro ⟨u, ⟨y, hy, rfl⟩, e⟩
    exact ⟨y.1, ⟨y, hy, rfl⟩, (st_at tv te fv fe hy).2 (by rw [e, fe])⟩
  · rintro ⟨x, ⟨y, hy, rfl⟩, e⟩
    exact ⟨y.2, ⟨y, hy, rfl⟩, by rw [(st_at tv te fv fe hy).1 e, fe]⟩

set_option maxHeartbeats 1000000 in
set_option maxRecDepth 100000 in
theorem stands_any (sub t : ByteArray) (p : Pl6) (hp : p.at_ ≤ t.size) (w : World) :
    Calls Tryd.prog 32 #[.string sub, .string t, encPl p] w fun e w' => e = .returned (.bool (stB sub t p)) ∧ Below w.heap.size w w' := by
  have sl : ∀ V : World, (Instr.sliceAt 9 (.string t) (some (.int .i64 (p.at_ : Int))) none none).run Tryd.prog V = .ok (.string (t.extract p.at_ t.size)) V := tslice_from t p.at_ hp
  have hx : bl (t.extract p.at_ t.size) = (bl t).drop p.at_ := bl_from t p.at_
  have HP := Lib.hid (fun V => Tryd.strings_HasPrefix (t.extract p.at_ t.size) sub V)
  have HR : Hid (Lib.hasPrefix (t.extract p.at_ t.size).data.toList sub.data.toList = stB sub t p) := Lib.hid (by
    unfold stB; rw [← hx]; rfl)
  rw [HR.out] at HP
  generalize t.extract p.at_ t.size = y at *
  generalize stB sub t p = z at *
  clear HR hx
  unfold encPl cellsPl
  go_enter Tryd.func32, Tryd.ntmps32
  go_wp2_with (go_at_call 54; refine (HP.out _).mono ?_; rintro e w1 ⟨rfl, rfl⟩)
  go_ret
  exact ⟨rfl, (Below.refl _ _).alloc (Nat.le_refl _) _⟩

/-- Two texts in a row of their own. -/
theorem are2_any (s u : ByteArray) (hs : s.size ≤ 281474976710656) (hu : u.size ≤ 281474976710656) (w : World) :
    Calls Tryd.prog 30 #[.slice (some ⟨w.heap.size, 0, none⟩) 2 2] (w.alloc (.cells #[.string s, .string u] 9)) fun e w' => e = .returned (.bool (checkP (bl s) == 0 && checkP (bl u) == 0)) ∧ Below w.heap.size w w' :=
  (are_any [s, u] (some ⟨w.heap.size, 0, none⟩) 2 (by simp) (fun x hx => by simp at hx; rcases hx with rfl | rfl <;> assumption) _ (row2 w s u) (checkP (bl s) == 0 && checkP (bl u) == 0) (by simp)).mono (fun e w' h => ⟨h.1, below_step ((Below.refl _ _).alloc (Nat.le_refl _) _) h.2⟩)

/-- What Has holds while it goes over the places: nothing has stood there. -/
def HasI (w : World) (t sub : ByteArray) (pre : List Pl6) (W : World) : Prop :=
  ((Boxed W w.heap.size 9 (.string t) ∧ Boxed W (w.heap.size + 1) 9 (.string sub)) ∧ Boxed W (w.heap.size + 1 + 1) 4 (.bool false)) ∧ Below w.heap.size w W ∧ ∀ x ∈ pre, stB sub t x = false
def HasX (w : World) (t sub : ByteArray) : Code → List Pl6 → World → Prop
  | .ret => fun pre W => Boxed W (w.heap.size + 1 + 1) 4 (.bool true) ∧ Below w.heap.size w W ∧ ∃ x ∈ pre, stB sub t x = true
  | _ => fun _ _ => False
theorem hasI_own (w : World) (t sub : ByteArray) (B : Nat) (h : w.heap.size ≤ B) : OwnFrom B (HasI w t sub) :=
  OwnFrom.and (OwnFrom.and (OwnFrom.and (Own.from (boxed_own _ _ _) _) (Own.from (boxed_own _ _ _) _)) (Own.from (boxed_own _ _ _) _)) (OwnFrom.and (ownFrom_below (Nat.le_refl _) h) (ownFrom_pure _ _))
theorem hasX_own (w : World) (t sub : ByteArray) (B : Nat) (h : w.heap.size ≤ B) (c : Code) : OwnFrom B (HasX w t sub c) := by
  cases c with
  | ret => exact OwnFrom.and (Own.from (boxed_own _ _ _) _) (OwnFrom.and (ownFrom_below (Nat.le_refl _) h) (ownFrom_pure _ _))
  | _ => exact fun _ _ _ _ hs _ _ => hs.elim

theorem keepsOthers_below {W W' : World} (h : Below W.heap.size W W') : KeepsOthers W W' :=
  KeepsOthers.of_grownBy (row := none) ⟨h.os, h.tape, h.output, h.size, fun k hk _ => h.block k hk⟩ (fun _ _ e => by cases e)
theorem has_results (B : Nat) (V : World) (z : Bool) (tmps : Array Value) (h4 : tmps.getD 4 undef = .pointer (some ⟨B, 0, none⟩)) (b : Boxed V B 4 (.bool z)) :
    (results Tryd.f14 tmps).run Tryd.prog V = .ok (.bool z) V := by
  have c1 := b.cell
  have h4' : tmps[4]?.getD undef = .pointer (some ⟨B, 0, none⟩) := by simpa using h4
  simp [results, Tryd.results14, go_sem, h4', c1, asAddr]

abbrev hasAct (t sub : ByteArray) (B Bp b : Nat) (x : Pl6) : Act :=
  { tmps := #[.string t, .string sub, .pointer (some ⟨B, 0, none⟩), .pointer (some ⟨B + 1, 0, none⟩), .pointer (some ⟨B + 1 + 1, 0, none⟩), .pointer (some ⟨b, 0, none⟩), .string t, .string sub, .slice (some ⟨B + 1 + 1 + 1, 0, none⟩) 2 2, .bool true, .bool false, .string t, .func (.func 52) #[] #[.pointer (some ⟨Bp, 0, none⟩)], encPl x, undef, undef, undef, undef], defers := [] }

set_option maxRecDepth 100000 in
set_option maxHeartbeats 4000000 in
theorem has6_any (t sub : ByteArray) (ht : t.size ≤ 281474976710656) (hs : sub.size ≤ 281474976710656) (w : World) :
    Calls Tryd.prog 14 #[.string t, .string sub] w fun e w' => e = .returned (.bool (hasP (bl t) (bl sub))) ∧ Below w.heap.size w w' := by
  obtain ⟨W1, hW1⟩ : ∃ W1, ((w.alloc (.cells #[.string t] 9)).alloc (.cells #[.string sub] 9)).alloc (.cells #[.bool false] 4) = W1 := ⟨_, rfl⟩
  have hsz : W1.heap.size = w.heap.size + 1 + 1 + 1 := by rw [← hW1]; simp
  have HA := are2_any t sub ht hs W1
  rw [hsz] at HA
  have HA := Lib.hid HA
  have hB1 : Below w.heap.size w W1 := by rw [← hW1]; exact (((Below.refl _ w).alloc (Nat.le_refl _) _).alloc (by simp) _).alloc (by simp; omega) _
  have bT : Boxed W1 w.heap.size 9 (.string t) := by rw [← hW1]; exact ((Boxed.new w _ _).alloc _).alloc _
  have bS : Boxed W1 (w.heap.size + 1) 9 (.string sub) := by rw [← hW1]; have h := (Boxed.new (w.alloc (.cells #[.string t] 9)) 9 (.string sub)).alloc (.cells #[.bool false] 4); simpa using h
  have bR : Boxed W1 (w.heap.size + 1 + 1) 4 (.bool false) := by rw [← hW1]; have h := Boxed.new ((w.alloc (.cells #[.string t] 9)).alloc (.cells #[.string sub] 9)) 4 (.bool false); simpa using h
  have HB := Lib.hid (And.intro hB1 (And.intro bT (And.intro bS bR)))
  have cT := bT.cell
  have cS := bS.cell
  have fR := bR.frozen
  have cR := bR.cell
  clear hB1 bT bS bR
  refine (callsIn_wide (n := 5)).1 ?_
  by_cases hc : checkP (bl t) = 0 ∧ checkP (bl sub) = 0
  · rw [may_yes hc.1, may_yes hc.2, Bool.and_true] at HA
    have hv := has_vis hc.1 hc.2
    have hz0 : (vis t).2.2 = 0 := by obtain ⟨T, _, _, _, h⟩ := vis_term hc.1; rw [h]
    have HV := Lib.hid hv
    have HZ := Lib.hid hz0
    clear hv hc hz0
    refine callsIn_of_wp_marks Tryd.func14 rfl trivial ?_ rfl
    simp only [Tryd.ntmps14, List.size_toArray, List.length_cons, List.length_nil, Nat.reduceAdd, Nat.reduceSub, Array.replicate_succ, Array.replicate_zero, List.push_toArray, List.append_toArray, List.nil_append, List.cons_append]
    gi_wp2_with (first | (refine ⟨trivial, ?_⟩; gi_at_call 30; refine (callsIn_wide.2 HA.out).mono ?_; rintro e w1 ⟨rfl, b1⟩; have cT1 := (b1.cell (p := ⟨w.heap.size, 0, none⟩) (by show w.heap.size < _; omega)).trans cT) | (refine ⟨trivial, ?_⟩; gi_at_call 31; refine (callsIn_wide.2 (places_in t _)).mono ?_; rintro e w2 ⟨rfl, rfl⟩))
    obtain ⟨W0, hW0⟩ : ∃ W0, w1.alloc (.cells #[.string t] 9) = W0 := ⟨_, rfl⟩
    have hb1 := b1.size
    have hs1 : w1.heap.size + 1 = W0.heap.size := by rw [← hW0]; simp
    have bP : Boxed W0 w1.heap.size 9 (.string t) := by rw [← hW0]; exact Boxed.new w1 _ _
    have hI : HasI w t sub [] W0 := by
      obtain ⟨hB1, bT, bS, bR⟩ := HB.out
      have k : ∀ {b : Nat} {ty : TypeId} {v : Value}, b < w.heap.size + 1 + 1 + 1 → Boxed W1 b ty v → Boxed W0 b ty v := fun hlt hb => by
        rw [← hW0]; exact Boxed.alloc (show Boxed w1 _ _ _ from (b1.block _ hlt).trans hb) _
      refine ⟨⟨⟨k (by omega) bT, k (by omega) bS⟩, k (by omega) bR⟩, ?_, fun x hx => by cases hx⟩
      rw [← hW0]
      exact (hB1.trans (b1.mono (by omega))).alloc (by omega) _
    rw [hW0]
    have hw0 : w.heap.size ≤ W0.heap.size := by omega
    clear hW0 b1 cT cS fR cR cT1 HB hW1 hsz hs1 hb1
    generalize w1.heap.size = Bp at *
    refine wpIn_places t ht Bp bP rfl (HasI w t sub) (HasX w t sub) (hasI_own w t sub _ (by omega)) (hasX_own w t sub _ (by omega)) hI
      (PlAx w.heap.size (hasAct t sub w.heap.size Bp)) (plAx_own _ _ _) ?assign ?body ?done ?stop ?throw
    case assign =>
      intro m l pre x W K hi hK
      have hzr := Lib.hid hK
      clear hK
      unfold encPl cellsPl
      gi_wp2
      exact hzr.out _ _ ((KeepsOthers.alloc _ _).from _) (KeepP.alloc _ _) ((hasI_own w t sub W0.heap.size (by omega)).alloc _ hi) ⟨W.heap.size, hi.2.1.size, World.alloc_heap_new _ _, rfl⟩
    case body =>
      rintro m l pre x a' W hl hi ⟨b, hb, hbx, rfl⟩ hpre
      obtain ⟨hx0, hx1, hx2, hx3⟩ := place_cells hbx
      have cT := hi.1.1.1.cell
      have cS := hi.1.1.2.cell
      have fR := hi.1.2.frozen
      have hok := (vis_any t x pre hpre).1
      rw [bl_length] at hok
      have HS := Lib.hid (fun V => stands_any sub t x hok V)
      have HI := Lib.hid hi
      clear hi hbx hpre hok
      cases hst : stB sub t x with
      | false =>
        rw [hst] at HS
        unfold hasAct
        gi_wp2_with (refine ⟨trivial, hdd _, ?_⟩; gi_at_call 32; refine (callsIn_wide.2 (HS.out _)).mono ?_; rintro e w2 ⟨rfl, b2⟩)
        obtain ⟨⟨⟨h1, h2⟩, h3⟩, h4, h5⟩ := HI.out
        refine ⟨(keepsOthers_below b2).from _, KeepP.of_below b2, ⟨⟨(b2.block _ h1.lt).trans h1, (b2.block _ h2.lt).trans h2⟩, (b2.block _ h3.lt).trans h3⟩, below_step h4 b2, ?_⟩
        intro y hy
        rcases List.mem_append.1 hy with hy | hy
        · exact h5 y hy
        · rw [List.mem_singleton.1 hy]; exact hst
      | true =>
        rw [hst] at HS
        unfold hasAct
        gi_wp2_with (refine ⟨trivial, hdd _, ?_⟩; gi_at_call 32; refine (callsIn_wide.2 (HS.out _)).mono ?_; rintro e w2 ⟨rfl, b2⟩; have bR2 : Boxed w2 (w.heap.size + 1 + 1) 4 (.bool false) := (b2.block _ HI.out.1.2.lt).trans HI.out.1.2; have cR2 := bR2.cell; have fR2 := bR2.frozen)
        obtain ⟨⟨⟨h1, h2⟩, h3⟩, h4, h5⟩ := HI.out
        exact ⟨((keepsOthers_below b2).trans (KeepsOthers.setCell _ _ _)).from _, (KeepP.of_below b2).trans (KeepP.setBox bR2 (by decide) _), bR2.set _, (below_step h4 b2).setCell (p := ⟨w.heap.size + 1 + 1, 0, none⟩) (by show w.heap.size ≤ w.heap.size + 1 + 1; omega) _, x, List.mem_append_right _ (List.mem_singleton.2 rfl), hst⟩
    case done =>
      rintro D W hD _ hi hK
      have cR := hi.1.2.cell
      have fR := hi.1.2.frozen
      have HI := Lib.hid hi
      clear hi
      gi_wp2
      obtain ⟨⟨⟨h1, h2⟩, h3⟩, h4, h5⟩ := HI.out
      have hne : D ≠ w.heap.size + 1 + 1 := by
        intro e
        rw [e, show W.heap[w.heap.size + 1 + 1]? = _ from h3] at hK
        cases hK
      have hK' : (W.setCell ⟨w.heap.size + 1 + 1, 0, none⟩ (.bool false)).heap[D]? = some (.deferred (some [])) := (Below.heap_setCell W _ _ D hne).trans hK
      have hR : Boxed ((W.setCell ⟨w.heap.size + 1 + 1, 0, none⟩ (.bool false)).putObj D (.deferred none)) (w.heap.size + 1 + 1) 4 (.bool false) := (World.putObj_heap_other (fun e => hne e.symm)).trans (h3.set _)
      refine leave_mark hK' (has_results _ _ _ _ rfl hR) ⟨?_, below_mark (h4.setCell (p := ⟨w.heap.size + 1 + 1, 0, none⟩) (by show w.heap.size ≤ w.heap.size + 1 + 1; omega) _) (by omega) hK' _⟩
      refine (ret6_bool ?_).symm
      cases e : hasP (bl t) (bl sub) with
      | false => rfl
      | true =>
        obtain ⟨x, hx, hs⟩ := HV.out.1 e
        rw [h5 x hx] at hs; cases hs
    case stop =>
      rintro D c pre W hD hq h hK
      cases c with
      | ret =>
        obtain ⟨h1, h2, x, hx, h3⟩ := h
        gi_wp2
        have hne : D ≠ w.heap.size + 1 + 1 := by
          intro e
          rw [e, show W.heap[w.heap.size + 1 + 1]? = _ from h1] at hK
          cases hK
        refine leave_mark hK (has_results _ _ true _ rfl ((World.putObj_heap_other (fun e => hne e.symm)).trans h1)) ⟨?_, below_mark h2 (by omega) hK _⟩
        refine (ret6_bool ?_).symm
        exact HV.out.2 ⟨x, hq.subset hx, h3⟩
      | _ => exact h.elim
    case throw =>
      rintro D W hD hz hi hK
      exact absurd HZ.out hz
  · have HH : Hid (hasP (bl t) (bl sub) = false) := Lib.hid (by
      unfold hasP
      by_cases h1 : checkP (bl t) = 0
      · have h2 : checkP (bl sub) ≠ 0 := fun h => hc ⟨h1, h⟩
        rw [treeOf_none h2]; cases treeOf (bl t) <;> rfl
      · rw [treeOf_none h1])
    have HF : Hid ((checkP (bl t) == 0 && checkP (bl sub) == 0) = false) := Lib.hid (by
      by_cases h1 : checkP (bl t) = 0
      · rw [may_no (fun h => hc ⟨h1, h⟩), Bool.and_false]
      · rw [may_no h1, Bool.false_and])
    rw [HF.out] at HA
    rw [HH.out]
    clear hc
    refine callsIn_of_wp_marks Tryd.func14 rfl trivial ?_ rfl
    simp only [Tryd.ntmps14, List.size_toArray, List.length_cons, List.length_nil, Nat.reduceAdd, Nat.reduceSub, Array.replicate_succ, Array.replicate_zero, List.push_toArray, List.append_toArray, List.nil_append, List.cons_append]
    gi_wp2_with (first | (refine ⟨trivial, ?_⟩; gi_at_call 30; refine (callsIn_wide.2 HA.out).mono ?_; rintro e w1 ⟨rfl, b1⟩; have bR1 : Boxed w1 (w.heap.size + 1 + 1) 4 (.bool false) := (b1.block _ (by omega)).trans HB.out.2.2.2; have cR1 := bR1.cell; have fR1 := bR1.frozen))
    refine ⟨_, has_results _ _ false _ rfl (bR1.set _), rfl, ?_⟩
    exact (HB.out.1.trans (b1.mono (by omega))).setCell (p := ⟨w.heap.size + 1 + 1, 0, none⟩) (by show w.heap.size ≤ w.heap.size + 1 + 1; omega) _
end Go.Proofs.YtiehhlolhhjgpaaDoor.Pl

namespace Go.Proofs.YtiehhlolhhjgpaaDoor.Pl
open Go.RowKit

theorem sizeBuilder6 : (Tryd.prog.info? 90).map (·.size) = some 2 := by kernel_rfl
theorem liesBuilder6 : liesAt Tryd.prog Tryd.prog.depth 90 (2 / Tryd.prog.cellsOf 90) 0 90 1 = true := by kernel_rfl
theorem infoByte6 : (Tryd.prog.info? 5).map (fun i => (i.zero, i.size, i.bytes)) = some (some (.int .u8 0), 1, 1) := by kernel_rfl

set_option maxHeartbeats 1000000 in
set_option maxRecDepth 100000 in
theorem copyCheck6_used (b : Nat) (w : World) (h0 : w.cell? ⟨b, 0, none⟩ = some (.pointer (some ⟨b, 0, none⟩))) :
    Calls Tryd.prog 77 #[.pointer (some ⟨b, 0, none⟩)] w fun e w' => e = .returned (.tuple #[]) ∧ w' = w := by
  obtain ⟨j, hj, _⟩ := Option.map_eq_some_iff.1 sizeBuilder6
  go_enter Tryd.func77, Tryd.ntmps77
  go_wp2
  rw [Lib.run_neq_ptr_same w _ Tryd.underlying88 hj]
  go_wp2
  go_end0
  exact ⟨rfl, rfl⟩

set_option maxHeartbeats 1000000 in
set_option maxRecDepth 100000 in
theorem copyCheck6_fresh (b : Nat) (w : World) (h0 : w.cell? ⟨b, 0, none⟩ = some (.pointer none)) (hsh : w.shape? b = some (90, 2)) (hfz : w.frozen? ⟨b, 0, none⟩ = false) :
    Calls Tryd.prog 77 #[.pointer (some ⟨b, 0, none⟩)] w fun e w' => e = .returned (.tuple #[]) ∧ w' = w.setCell ⟨b, 0, none⟩ (.pointer (some ⟨b, 0, none⟩)) := by
  obtain ⟨j, hj, hjs⟩ := Option.map_eq_some_iff.1 sizeBuilder6
  go_enter Tryd.func77, Tryd.ntmps77
  go_wp2
  rw [Lib.run_to_unsafe w ⟨b, 0, none⟩ Tryd.underlying88 Tryd.underlying106 hj (by rw [hjs]; decide) hsh (Nat.zero_lt_succ 1)]
  simp only [Result.andThen]
  rw [Oper.upon_value]
  go_wp2
  rw [run_callFunc_extern Tryd.func83 (by kernel_rfl) (by kernel_rfl) (by kernel_rfl) (e := Extern.AbiNoEscape.same) (by kernel_rfl)]
  rw [Lib.run_noEscape]
  simp only [Result.andThen]
  rw [Oper.upon_value]
  go_wp2
  rw [Lib.run_from_unsafe w ⟨b, 0, none⟩ Tryd.underlying106 Tryd.underlying88 hj hsh liesBuilder6]
  simp only [Result.andThen]
  rw [Oper.upon_value]
  go_wp2
  go_end0
  exact ⟨rfl, rfl⟩

theorem copyCheck6_any (B b : Nat) (bs : List Value) (w : World) (h : Lib.IsBuilder 90 5 B b bs w) :
    Calls Tryd.prog 77 #[.pointer (some ⟨b, 0, none⟩)] w fun e w' => e = .returned (.tuple #[]) ∧ (Lib.BuilderAt 90 5 B b (.pointer (some ⟨b, 0, none⟩)) bs w' ∧ Below B w w' ∧ Lib.OthersKept 5 (some b) w w') := by
  rcases h with h | h
  · refine (copyCheck6_fresh b w h.cell0 h.shape h.frozen0).mono ?_
    rintro e w' ⟨rfl, rfl⟩
    exact ⟨rfl, h.used _, (Below.refl B w).setCell (p := ⟨b, 0, none⟩) h.1 _, (Lib.OthersKept.refl _ _ _).setCell ⟨b, 0, none⟩ rfl _⟩
  · refine (copyCheck6_used b w h.cell0).mono ?_
    rintro e w' ⟨rfl, rfl⟩
    exact ⟨rfl, h, Below.refl B _, Lib.OthersKept.refl _ _ _⟩

theorem ownsRow_kind6 {w : World} {B : Nat} {e : TypeId} {v : Value} {n : Nat} {xs : List Value} (h : w.ownsRow B e 1 v n xs) : ∀ g, v.ownBlock = some g → ∃ c fz, w.heap[g]? = some (.cells c e fz) :=
  Lib.ownsRowF_kind (World.ownsRowF_of h)

set_option maxHeartbeats 2000000 in
set_option maxRecDepth 100000 in
theorem writeString6_any (B b : Nat) (l : List UInt8) (s : ByteArray) (w : World) (h : Lib.IsBuilder 90 5 B b (Lib.byteCells l) w) (hlen : l.length + s.size ≤ 140737488355328) (hBw : B ≤ w.heap.size) :
    Calls Tryd.prog 64 #[.pointer (some ⟨b, 0, none⟩), .string s] w fun e w' => e = .returned (.tuple #[.int .i64 s.size, .nilIface]) ∧ (Lib.IsBuilder 90 5 B b (Lib.byteCells (l ++ bl s)) w' ∧ Below B w w' ∧ Lib.OthersKept 5 (some b) w w') := by
  obtain ⟨bs, hbs⟩ : ∃ bs, bs = Lib.byteCells l := ⟨_, rfl⟩
  have hbl : bs.length = l.length := by rw [hbs, Lib.byteCells_length]
  have happ : Lib.byteCells (l ++ bl s) = bs ++ Lib.strCells s := by rw [Lib.byteCells_append, hbs]; rfl
  rw [happ]
  rw [← hbs] at h
  rw [← hbl] at hlen
  clear hbs hbl happ
  obtain ⟨i0, hi, hz0, hz1, hz2⟩ := info_parts infoByte6
  go_enter Tryd.func64, Tryd.ntmps64
  go_wp2_with (go_at_call 77; refine (copyCheck6_any B b bs _ h).mono ?_)
  rintro e w1 ⟨rfl, h1, hb1, hk1⟩
  obtain ⟨hB, v, hbk, hown, hne⟩ := h1
  have c0 : w1.cell? ⟨b, 0, none⟩ = some (.pointer (some ⟨b, 0, none⟩)) := by rw [Lib.cell_of_heap hbk]; rfl
  have c1 : w1.cell? ⟨b, 1, none⟩ = some v := by rw [Lib.cell_of_heap hbk]; rfl
  go_wp2_with (at_builtin; refine Lib.wpList_append_own_string _ rfl _ _ 84 9 rfl B 5 i0 Tryd.underlying84 Tryd.underlying9 hi hz0 hz1 hz2 _ _ _ rfl hown s rfl ?c3 ?c4 ?c5 ?_)
  case c3 => unfold maxLen; omega
  case c4 => omega
  case c5 => have := hb1.size; omega
  intro v' w2 hown' hgrow _
  have hlt : b < w1.heap.size := by
    rcases Nat.lt_or_ge b w1.heap.size with h' | h'
    · exact h'
    · simp [Array.getElem?_eq_none h'] at hbk
  have hb2 : w2.heap[b]? = some (.cells #[.pointer (some ⟨b, 0, none⟩), v] 90 (0, 0)) := by
    rw [hgrow.block b hlt (fun e => hne e.symm)]
    exact hbk
  have d0 : w2.cell? ⟨b, 0, none⟩ = some (.pointer (some ⟨b, 0, none⟩)) := by rw [Lib.cell_of_heap hb2]; rfl
  have d1 : w2.cell? ⟨b, 1, none⟩ = some v := by rw [Lib.cell_of_heap hb2]; rfl
  have f1 : w2.frozen? ⟨b, 1, none⟩ = false := Lib.frozen_of_heap hb2 1
  obtain ⟨ao, n', cap, rfl⟩ : ∃ ao n' cap, v' = .slice ao n' cap := by
    rcases hown'.2 with ⟨hv, _⟩ | ⟨g, cap, cur, hv, _⟩
    · exact ⟨_, _, _, hv⟩
    · exact ⟨_, _, _, hv⟩
  go_wp2
  go_ret2
  refine ⟨rfl, .inr ?_, ?_, ((hk1.grown hgrow (ownsRow_kind6 hown))).setCell ⟨b, 1, none⟩ rfl _⟩
  · exact Lib.BuilderAt.put (T := 90) (e := 5) hB hb2 (bs' := bs ++ Lib.strCells s) (by simpa [Lib.strCells_length] using hown') (by decide)
  · exact (hb1.grown hgrow (by have := hb1.size; omega) (fun k hk => (hown.lt k hk).1)).setCell (p := ⟨b, 1, none⟩) hB _

/-- A builder stays one while whatever is no cells turns. -/
theorem builder_own {β : Type} (T e : TypeId) (B b : Nat) (bs : β → List Value) : Own (fun s W => Lib.IsBuilder T e B b (bs s) W) := by
  have one : ∀ (p : Value) (s : β) (X Y : World) (row : Option Nat), Lib.BuilderAt T e B b p (bs s) X → X.grownBy Y row → (∀ r, row = some r → ∃ o : Obj, X.heap[r]? = some o ∧ o.isCells = false) → Lib.BuilderAt T e B b p (bs s) Y := by
    rintro p s X Y row ⟨hB, v, hb, hown, hne⟩ hg hr
    refine ⟨hB, v, (hg.block b (Array.getElem?_eq_some_iff.1 hb).1 (fun e' => ?_)).trans hb, hown.kept hg ?_, hne⟩
    · obtain ⟨o, ho, hc⟩ := hr b e'.symm
      rw [hb] at ho; cases ho; cases hc
    · rcases hown.2 with ⟨rfl, _⟩ | ⟨g, cap, cur, rfl, _, hgb, _⟩
      · exact .inl rfl
      · refine .inr fun e' => ?_
        obtain ⟨o, ho, hc⟩ := hr g (by simpa [Value.ownBlock] using e'.symm)
        rw [hgb] at ho; cases ho; cases hc
  intro s X Y row h hg hr
  exact h.elim (fun x => .inl (one _ s X Y row x hg hr)) (fun x => .inr (one _ s X Y row x hg hr))
theorem builder_below {T e : TypeId} {B b : Nat} {bs : List Value} {W W' : World} (h : Lib.IsBuilder T e B b bs W) (b2 : Below W.heap.size W W') : Lib.IsBuilder T e B b bs W' :=
  builder_own T e B b (fun (_ : Unit) => bs) () W W' none h ⟨b2.os, b2.tape, b2.output, b2.size, fun k hk _ => b2.block k hk⟩ (fun r e => by cases e)
theorem builder_set {T e : TypeId} {B b : Nat} {bs : List Value} {W : World} (h : Lib.IsBuilder T e B b bs W) {k : Nat} {t : TypeId} {u : Value} (hk : Boxed W k t u) (hkb : k ≠ b) (hte : t ≠ e) (u' : Value) : Lib.IsBuilder T e B b bs (W.setCell ⟨k, 0, none⟩ u') := by
  have one : ∀ p, Lib.BuilderAt T e B b p bs W → Lib.BuilderAt T e B b p bs (W.setCell ⟨k, 0, none⟩ u') := by
    rintro p ⟨hB, v, hb, hown, hne⟩
    exact ⟨hB, v, (Below.heap_setCell W _ _ b (fun e' => hkb e'.symm)).trans hb, hown.kept (grownBy_setCell' W k u') (.inr (hk.not_row hte hown).symm), hne⟩
  exact h.elim (fun x => .inl (one _ x)) (fun x => .inr (one _ x))
theorem builder_lt {T e : TypeId} {B b : Nat} {bs : List Value} {W : World} (h : Lib.IsBuilder T e B b bs W) : b < W.heap.size := h.elim (fun x => x.lt) (fun x => x.lt)
/-- What a write leaves. -/
theorem kept_boxed {W W' : World} {b k : Nat} {t e : TypeId} {u : Value} (h : Lib.OthersKept e (some b) W W') (hk : Boxed W k t u) (hkb : k ≠ b) (hte : t ≠ e) : Boxed W' k t u :=
  h k _ hk (by simpa using hkb) (fun c fz e' => by cases e'; exact hte rfl)
theorem kept_others {W W' : World} {b : Nat} {e : TypeId} {bs : List Value} {T : TypeId} {B : Nat} (h : Lib.OthersKept e (some b) W W') (hb : Lib.IsBuilder T e B b bs W) (hs : W.heap.size ≤ W'.heap.size) : KeepsOthers W W' :=
  ⟨hs, fun k o hk ho => h k o hk (fun e' => by
    obtain rfl : k = b := by simpa using e'
    rcases hb with ⟨_, v, hv, _⟩ | ⟨_, v, hv, _⟩ <;> (rw [hv] at hk; cases hk; cases ho)) (fun c fz e' => by subst e'; cases ho)⟩
theorem kept_place {W W' : World} {b : Nat} {bs : List Value} {B : Nat} (h : Lib.OthersKept 5 (some b) W W') (hb : Lib.IsBuilder 90 5 B b bs W) (hs : W.heap.size ≤ W'.heap.size) : KeepP W W' :=
  ⟨hs, fun k cs hk => h k _ hk (fun e' => by
    obtain rfl : k = b := by simpa using e'
    rcases hb with ⟨_, v, hv, _⟩ | ⟨_, v, hv, _⟩ <;> (rw [hv] at hk; cases hk)) (fun c fz e' => by cases e')⟩
end Go.Proofs.YtiehhlolhhjgpaaDoor.Pl

namespace Go.Proofs.YtiehhlolhhjgpaaDoor.Pl
open Go.RowKit

set_option maxHeartbeats 2000000 in
set_option maxRecDepth 100000 in
theorem writeByte7_any (B b : Nat) (l : List UInt8) (c : UInt8) (w : World) (h : Lib.IsBuilder 90 5 B b (Lib.byteCells l) w) (hlen : l.length + 1 ≤ 140737488355328) (hBw : B ≤ w.heap.size) :
    Calls Tryd.prog 65 #[.pointer (some ⟨b, 0, none⟩), .int .u8 (c.toNat : Int)] w fun e w' => e = .returned .nilIface ∧ (Lib.IsBuilder 90 5 B b (Lib.byteCells (l ++ [c])) w' ∧ Below B w w' ∧ Lib.OthersKept 5 (some b) w w') := by
  obtain ⟨bs, hbs⟩ : ∃ bs, bs = Lib.byteCells l := ⟨_, rfl⟩
  have hbl : bs.length = l.length := by rw [hbs, Lib.byteCells_length]
  have happ : Lib.byteCells (l ++ [c]) = bs ++ [.int .u8 (c.toNat : Int)] := by rw [Lib.byteCells_append, hbs]; rfl
  rw [happ]
  rw [← hbs] at h
  rw [← hbl] at hlen
  clear hbs hbl happ
  obtain ⟨i0, hi, hz0, hz1, hz2⟩ := info_parts infoByte6
  obtain ⟨x, hx⟩ : ∃ x : Int, x = (c.toNat : Int) := ⟨_, rfl⟩
  rw [← hx]
  clear hx
  go_enter Tryd.func65, Tryd.ntmps65
  go_wp2_with (go_at_call 77; refine (copyCheck6_any B b bs _ h).mono ?_)
  rintro e w1 ⟨rfl, h1, hb1, hk1⟩
  obtain ⟨hB, v, hbk, hown, hne⟩ := h1
  have c0 : w1.cell? ⟨b, 0, none⟩ = some (.pointer (some ⟨b, 0, none⟩)) := by rw [Lib.cell_of_heap hbk]; rfl
  have c1 : w1.cell? ⟨b, 1, none⟩ = some v := by rw [Lib.cell_of_heap hbk]; rfl
  go_wp2_with (at_builtin; refine wpList_append_own _ rfl _ _ 84 rfl B 5 i0 (.int .u8 0) 1 1 Tryd.underlying84 hi hz0 hz1 hz2 rfl (by decide) _ _ _ rfl (hown.alloc _) ⟨w1.heap.size, 0, none⟩ 1 1 [.int .u8 x] rfl rfl ?c1 ?c2 ?c3 ?c4 ?c5 ?_)
  case c1 =>
    intro j u hj
    match j, hj with
    | 0, hj => simp at hj; subst hj; simp [Addr.add]
  case c2 => intro u hu; simp at hu; subst hu; rfl
  case c3 => unfold maxLen; omega
  case c4 => omega
  case c5 => have := hb1.size; simp; omega
  intro v' w2 hown' hgrow _
  have hlt : b < w1.heap.size := by
    rcases Nat.lt_or_ge b w1.heap.size with h' | h'
    · exact h'
    · simp [Array.getElem?_eq_none h'] at hbk
  have hb2 : w2.heap[b]? = some (.cells #[.pointer (some ⟨b, 0, none⟩), v] 90 (0, 0)) := by
    rw [hgrow.block b (by simp; omega) (fun e => hne e.symm), Lib.alloc_old w1 _ b hlt]
    exact hbk
  have d0 : w2.cell? ⟨b, 0, none⟩ = some (.pointer (some ⟨b, 0, none⟩)) := by rw [Lib.cell_of_heap hb2]; rfl
  have d1 : w2.cell? ⟨b, 1, none⟩ = some v := by rw [Lib.cell_of_heap hb2]; rfl
  have f1 : w2.frozen? ⟨b, 1, none⟩ = false := Lib.frozen_of_heap hb2 1
  obtain ⟨g, cap, rfl⟩ : ∃ g cap, v' = .slice (some ⟨g, 0, none⟩) (bs.length + 1) cap := by
    rcases hown'.2 with ⟨_, h0⟩ | ⟨g, cap, cur, hv, _⟩
    · omega
    · exact ⟨g, cap, hv⟩
  go_wp2
  go_ret
  have hk2 : Lib.OthersKept 5 (some b) w (w1.alloc (.cells #[.int .u8 x] 5)) := fun k o hk hne2 hno => (Lib.alloc_old w1 _ k (Array.getElem?_eq_some_iff.1 (hk1 k o hk hne2 hno)).1).trans (hk1 k o hk hne2 hno)
  refine ⟨rfl, .inr ?_, ?_, (hk2.grown hgrow (ownsRow_kind6 (hown.alloc _))).setCell ⟨b, 1, none⟩ rfl _⟩
  · exact Lib.BuilderAt.put (T := 90) (e := 5) hB hb2 (bs' := bs ++ [.int .u8 x]) (by simpa using hown') (by decide)
  · exact ((hb1.alloc (by have := hb1.size; omega) _).grown hgrow (by have := hb1.size; simp; omega) (fun k hk => (hown.lt k hk).1)).setCell (p := ⟨b, 1, none⟩) hB _
end Go.Proofs.YtiehhlolhhjgpaaDoor.Pl

namespace Go.Proofs.YtiehhlolhhjgpaaDoor.Pl
open Go.RowKit

theorem unhex_snoc : ∀ (k : Nat) (s : List UInt8), 2 * k + 1 < s.length → unhex (s.take (2 * (k + 1))) = unhex (s.take (2 * k)) ++ [(hexV (s.getD (2 * k) 0) * 16 + hexV (s.getD (2 * k + 1) 0)).toUInt8]
  | 0, [], h => by simp at h
  | 0, [a], h => by simp at h
  | 0, a :: b :: r, _ => by simp [unhex]
  | k + 1, [], h => by simp at h
  | k + 1, [a], h => by simp at h
  | k + 1, a :: b :: r, h => by
    have ih := unhex_snoc k r (by simp at h; omega)
    rw [show 2 * (k + 1 + 1) = 2 * (k + 1) + 1 + 1 by omega, List.take_succ_cons, List.take_succ_cons, unhex, ih]
    rw [show 2 * (k + 1) = 2 * k + 1 + 1 by omega, List.take_succ_cons, List.take_succ_cons, unhex]
    rfl
theorem all_snoc (p : UInt8 → Bool) : ∀ (k : Nat) (s : List UInt8), 2 * k + 1 < s.length → (s.take (2 * (k + 1))).all p = ((s.take (2 * k)).all p && (p (s.getD (2 * k) 0) && p (s.getD (2 * k + 1) 0)))
  | 0, [], h => by simp at h
  | 0, [a], h => by simp at h
  | 0, a :: b :: r, _ => by simp
  | k + 1, [], h => by simp at h
  | k + 1, [a], h => by simp at h
  | k + 1, a :: b :: r, h => by
    have ih := all_snoc p k r (by simp at h; omega)
    rw [show 2 * (k + 1 + 1) = 2 * (k + 1) + 1 + 1 by omega, List.take_succ_cons, List.take_succ_cons, List.all_cons, List.all_cons, ih]
    rw [show 2 * (k + 1) = 2 * k + 1 + 1 by omega, List.take_succ_cons, List.take_succ_cons, List.all_cons, List.all_cons]
    simp only [List.getD_cons_succ, Bool.and_assoc]
theorem or_hex : ∀ x : Nat, x < 16 → ∀ y : Nat, y < 16 → bits .or .u8 ((x : Int) * 16) (y : Int) = ((x * 16 + y : Nat) : Int) := by decide +kernel
theorem shl_hex (x : Nat) (h : x < 16) : IntKind.u8.wrap ((x : Int) * 16) = (x : Int) * 16 := by
  unfold IntKind.wrap
  simp [IntKind.bits, IntKind.signed]
  omega
theorem take_all_no {p : UInt8 → Bool} {s : List UInt8} (k : Nat) (h : (s.take k).all p = false) : s.all p = false := by
  cases e : s.all p with
  | false => rfl
  | true =>
    rw [List.all_eq_true] at e
    have : (s.take k).all p = true := List.all_eq_true.2 fun x hx => e x (List.mem_of_mem_take hx)
    rw [h] at this; cases this
/-- What bytesOf answers or throws. -/
def HexPost (s : List UInt8) (w : World) (e : Ending) (w' : World) : Prop := (if s.length % 2 = 0 ∧ s.all hexB = true then e = .returned (.string ⟨(unhex s).toArray⟩) else e = boom7) ∧ Below w.heap.size w w'
theorem HexPost.yes {s : List UInt8} {w w' : World} (h1 : s.length % 2 = 0) (h2 : s.all hexB = true) (h : Below w.heap.size w w') : HexPost s w (.returned (.string ⟨(unhex s).toArray⟩)) w' := ⟨by rw [if_pos ⟨h1, h2⟩], h⟩
theorem HexPost.no {s : List UInt8} {w w' : World} (h1 : ¬ (s.length % 2 = 0 ∧ s.all hexB = true)) (h : Below w.heap.size w w') : HexPost s w boom7 w' := ⟨by rw [if_neg h1], h⟩
set_option maxHeartbeats 2000000 in
set_option maxRecDepth 100000 in
theorem bytesof7_any (s : List UInt8) (hs : s.length ≤ 1000000000) (w : World) :
    Calls Tryd.prog 61 #[.string ⟨s.toArray⟩] w (HexPost s w) := by
  have hsz : (⟨s.toArray⟩ : ByteArray).size = s.length := size_lit s
  by_cases hev : s.length % 2 = 0
  · have hm : (s.length : Int) % 2 = 0 := by omega
    have HS := Lib.hid hs
    have HEV := Lib.hid hev
    clear hs
    go_enter Tryd.func61, Tryd.ntmps61
    go_wp2_with (go_at_call 25; refine (need7_ok _).mono ?_; rintro e w1 ⟨rfl, rfl⟩)
    clear hm hev
    have IW := Lib.hid (Lib.fresh_isBuilder 90 5 w1)
    have BW : Hid (Below w1.heap.size w1 (w1.alloc (.cells #[.pointer none, .slice none 0 0] 90))) := Lib.hid ((Below.refl _ w1).alloc (Nat.le_refl _) _)
    generalize w1.alloc (.cells #[.pointer none, .slice none 0 0] 90) = W0 at *
    go_loopw [4] (fun iv wr => ∃ k : Nat, iv = .int .i64 ((2 * k : Nat) : Int) ∧ 2 * k ≤ s.length ∧ Hid ((s.take (2 * k)).all hexB = true) ∧ Hid (Lib.IsBuilder 90 5 w1.heap.size w1.heap.size (Lib.byteCells (unhex (s.take (2 * k)))) wr) ∧ Hid (Below w1.heap.size w1 wr)) (fun iv _ => s.length - (intOf iv).toNat)
    case atStart => exact ⟨0, rfl, Nat.zero_le _, Lib.hid rfl, IW, BW⟩
    case round =>
      obtain ⟨k, rfl, hkn, hal, hI, hb⟩ := hrel
      by_cases hk : 2 * k < s.length
      · have hk' : ((2 * k : Nat) : Int) < (s.length : Int) := by omega
        have hk1 : 2 * k + 1 < s.length := by have := HEV.out; omega
        obtain ⟨a, ea⟩ : ∃ a : UInt8, a = s.getD (2 * k) 0 := ⟨_, rfl⟩
        obtain ⟨c, ec⟩ : ∃ c : UInt8, c = s.getD (2 * k + 1) 0 := ⟨_, rfl⟩
        have HUN := Lib.hid (unhex_snoc k s hk1)
        have HAS := Lib.hid (all_snoc hexB k s hk1)
        rw [← ea, ← ec] at HUN HAS
        have hix : ∀ V : World, (Instr.index 9 (.string ⟨s.toArray⟩) (.int .i64 ((2 * k : Nat) : Int))).run Tryd.prog V = .ok (.int .u8 (a.toNat : Int)) V := tstr_index ⟨s.toArray⟩ (2 * k) a (by rw [hsz]; exact hk) ea
        have hjx : ∀ V : World, (Instr.index 9 (.string ⟨s.toArray⟩) (.int .i64 (((2 * k : Nat) : Int) + 1))).run Tryd.prog V = .ok (.int .u8 (c.toNat : Int)) V := tstr_index ⟨s.toArray⟩ (2 * k + 1) c (by rw [hsz]; exact hk1) ec
        generalize hK2 : ((2 * k : Nat) : Int) = K2 at *
        have hadd : IntKind.i64.wrap (K2 + 1) = K2 + 1 := wrap_small _ (by omega) (by have := HS.out; omega)
        have DRW : Hid (Below w1.heap.size w1 wr.drew) := Lib.hid hb.out.drew
        have IDW : Hid (Lib.IsBuilder 90 5 w1.heap.size w1.heap.size (Lib.byteCells (unhex (s.take (2 * k)))) wr.drew) := Lib.hid (builder_below hI.out (Below.refl _ wr).drew)
        have HUL : Hid ((unhex (s.take (2 * k))).length + 1 ≤ 140737488355328) := Lib.hid (by
          have := unhex_len (s.take (2 * k)) (by rw [List.length_take]; omega)
          rw [List.length_take] at this
          have := HS.out
          omega)
        have HREL : Hid (∀ V, hexB a = true → hexB c = true → Lib.IsBuilder 90 5 w1.heap.size w1.heap.size (Lib.byteCells (unhex (s.take (2 * k)) ++ [(hexV a * 16 + hexV c).toUInt8])) V → Below w1.heap.size w1 V →
            ∃ j : Nat, Value.int .i64 (K2 + 2) = .int .i64 ((2 * j : Nat) : Int) ∧ 2 * j ≤ s.length ∧ Hid ((s.take (2 * j)).all hexB = true) ∧ Hid (Lib.IsBuilder 90 5 w1.heap.size w1.heap.size (Lib.byteCells (unhex (s.take (2 * j)))) V) ∧ Hid (Below w1.heap.size w1 V)) := Lib.hid (fun V ha hc hV hbV =>
          ⟨k + 1, by rw [← hK2]; congr 1, by omega, Lib.hid (by rw [HAS.out, hal.out, ha, hc]; rfl), Lib.hid (by rw [HUN.out]; exact hV), Lib.hid hbV⟩)
        have HNO : Hid ((hexB a && hexB c) = false → ∀ V, Below w1.heap.size w1 V → HexPost s w1 boom7 V) := Lib.hid (fun h1 V hbV => HexPost.no (fun h2 => by
          have h3 := HAS.out
          rw [h1, Bool.and_false] at h3
          have h4 := take_all_no _ h3
          rw [h2.2] at h4; cases h4) hbV)
        have HM : Hid (0 ≤ K2 ∧ K2 + 1 < s.length) := Lib.hid ⟨by omega, by omega⟩
        clear hI hb ea ec HUN HAS hkn hk hk1 hK2
        generalize unhex (s.take (2 * k)) = U at *
        obtain ⟨V0, hV0⟩ : ∃ U, U = World.drew wr := ⟨_, rfl⟩
        rw [← hV0] at DRW IDW
        have HV0 := Lib.hid hV0
        clear hV0
        go_wp2_with fail
        refine wp_region_any (by kernel_rfl) ?_
        change wpAny _ _ _ _ _ _ _ (World.drew wr)
        rw [← HV0.out]
        clear HV0
        refine wpAny_take (i := 0) (oi := { dst := some 16, op := Op.move (Operand.tmp 0), type := 9, pos := "show.go:264", after := #[], guard := none }) (v := .string ⟨s.toArray⟩) rfl (by kernel_rfl) (by kernel_rfl) (by kernel_rfl) (fun _ _ _ h => h) (Or.inl ⟨by rfl, fun w => by go_simp⟩) ?_
        (try simp only [Act.put, List.setIfInBounds_toArray, List.set_cons_zero, List.set_cons_succ])
        refine wpAny_take (i := 1) (oi := { dst := some 17, op := Op.move (Operand.tmp 4), type := 3, pos := "show.go:264", after := #[], guard := none }) (v := .int .i64 K2) rfl (by kernel_rfl) (by kernel_rfl) (by kernel_rfl) (fun _ _ _ h => h) (Or.inl ⟨by rfl, fun w => by go_simp⟩) ?_
        (try simp only [Act.put, List.setIfInBounds_toArray, List.set_cons_zero, List.set_cons_succ])
        refine wpAny_take (i := 2) (oi := { dst := some 18, op := Op.index 9 (Operand.tmp 16) (Operand.tmp 17), type := 5, pos := "show.go:264", after := #[{ on := 0, ground := Ground.data }, { on := 1, ground := Ground.data }], guard := none }) (v := .int .u8 (a.toNat : Int)) rfl (by kernel_rfl) (by kernel_rfl) (by kernel_rfl) (fun _ _ _ h => h) (Or.inl ⟨by rfl, fun w => by go_simp⟩) ?_
        (try simp only [Act.put, List.setIfInBounds_toArray, List.set_cons_zero, List.set_cons_succ])
        refine wpAny_take (i := 5) (oi := { dst := some 21, op := Op.move (Operand.tmp 0), type := 9, pos := "show.go:264", after := #[], guard := none }) (v := .string ⟨s.toArray⟩) rfl (by kernel_rfl) (by kernel_rfl) (by kernel_rfl) (fun _ _ _ h => h) (Or.inl ⟨by rfl, fun w => by go_simp⟩) ?_
        (try simp only [Act.put, List.setIfInBounds_toArray, List.set_cons_zero, List.set_cons_succ])
        refine wpAny_take (i := 6) (oi := { dst := some 22, op := Op.move (Operand.tmp 4), type := 3, pos := "show.go:264", after := #[], guard := none }) (v := .int .i64 K2) rfl (by kernel_rfl) (by kernel_rfl) (by kernel_rfl) (fun _ _ _ h => h) (Or.inl ⟨by rfl, fun w => by go_simp⟩) ?_
        (try simp only [Act.put, List.setIfInBounds_toArray, List.set_cons_zero, List.set_cons_succ])
        refine wpAny_take (i := 7) (oi := { dst := some 23, op := Op.binOp BinOp.add 3 (Operand.tmp 22) (Operand.const (Value.int IntKind.i64 1)) 3, type := 3, pos := "show.go:264", after := #[{ on := 6, ground := Ground.data }], guard := none }) (v := .int .i64 (K2 + 1)) rfl (by kernel_rfl) (by kernel_rfl) (by kernel_rfl) (fun _ _ _ h => h) (Or.inl ⟨by rfl, fun w => by go_simp⟩) ?_
        (try simp only [Act.put, List.setIfInBounds_toArray, List.set_cons_zero, List.set_cons_succ])
        refine wpAny_take (i := 8) (oi := { dst := some 24, op := Op.index 9 (Operand.tmp 21) (Operand.tmp 23), type := 5, pos := "show.go:264", after := #[{ on := 5, ground := Ground.data }, { on := 7, ground := Ground.data }], guard := none }) (v := .int .u8 (c.toNat : Int)) rfl (by kernel_rfl) (by kernel_rfl) (by kernel_rfl) (fun _ _ _ h => h) (Or.inl ⟨by rfl, fun w => by go_simp⟩) ?_
        (try simp only [Act.put, List.setIfInBounds_toArray, List.set_cons_zero, List.set_cons_succ])
        cases hha : hexB a with
        | false =>
          refine wpAny_ready (rs := [3]) (by kernel_rfl) (by simp) ?_
          refine AllReady.cons (o := { dst := some 19, op := Op.call { callee := Callee.value (Operand.func 76), args := #[Operand.tmp 18], argTypes := #[5] }, type := 5, pos := "show.go:264", after := #[{ on := 2, ground := Ground.data }], guard := none }) rfl (fun K hK => ?_) AllReady.nil
          rw [if_pos (by rfl)]
          go_simp
          refine (digit7_bad a hha V0).mono ?_
          rintro e w2 ⟨rfl, rfl⟩
          exact ⟨rfl, HNO.out (by rw [hha]; rfl) _ DRW.out⟩
        | true =>
          have hva := hexV_lt hha
          have hsh := shl_hex (hexV a) hva
          refine wpAny_ready (rs := [3]) (by kernel_rfl) (by simp) ?_
          refine AllReady.cons (o := { dst := some 19, op := Op.call { callee := Callee.value (Operand.func 76), args := #[Operand.tmp 18], argTypes := #[5] }, type := 5, pos := "show.go:264", after := #[{ on := 2, ground := Ground.data }], guard := none }) rfl (fun K hK => ?_) AllReady.nil
          rw [if_pos (by rfl)]
          go_simp
          refine (digit7_ok a hha V0).mono ?_
          rintro e w2 ⟨rfl, rfl⟩
          refine hK _ _ ?_
          clear hK K
          (try simp only [Act.put, List.setIfInBounds_toArray, List.set_cons_zero, List.set_cons_succ])
          refine wpAny_take (i := 4) (oi := { dst := some 20, op := Op.binOp BinOp.shl 5 (Operand.tmp 19) (Operand.const (Value.int IntKind.u64 4)) 85, type := 5, pos := "show.go:264", after := #[{ on := 3, ground := Ground.data }], guard := none }) (v := .int .u8 ((hexV a : Int) * 16)) rfl (by kernel_rfl) (by kernel_rfl) (by kernel_rfl) (fun _ _ _ h => h) (Or.inl ⟨by rfl, fun w => by go_simp⟩) ?_
          (try simp only [Act.put, List.setIfInBounds_toArray, List.set_cons_zero, List.set_cons_succ])
          cases hhc : hexB c with
          | false =>
            refine wpAny_ready (rs := [9]) (by kernel_rfl) (by simp) ?_
            refine AllReady.cons (o := { dst := some 25, op := Op.call { callee := Callee.value (Operand.func 76), args := #[Operand.tmp 24], argTypes := #[5] }, type := 5, pos := "show.go:264", after := #[{ on := 8, ground := Ground.data }, { on := 3, ground := Ground.chain }], guard := none }) rfl (fun K hK => ?_) AllReady.nil
            rw [if_pos (by rfl)]
            go_simp
            refine (digit7_bad c hhc _).mono ?_
            rintro e w3 ⟨rfl, rfl⟩
            exact ⟨rfl, HNO.out (by rw [hha, hhc]; rfl) _ DRW.out⟩
          | true =>
            have hvc := hexV_lt hhc
            have hor := or_hex (hexV a) hva (hexV c) hvc
            refine wpAny_ready (rs := [9]) (by kernel_rfl) (by simp) ?_
            refine AllReady.cons (o := { dst := some 25, op := Op.call { callee := Callee.value (Operand.func 76), args := #[Operand.tmp 24], argTypes := #[5] }, type := 5, pos := "show.go:264", after := #[{ on := 8, ground := Ground.data }, { on := 3, ground := Ground.chain }], guard := none }) rfl (fun K hK => ?_) AllReady.nil
            rw [if_pos (by rfl)]
            go_simp
            refine (digit7_ok c hhc _).mono ?_
            rintro e w3 ⟨rfl, rfl⟩
            refine hK _ _ ?_
            clear hK K
            (try simp only [Act.put, List.setIfInBounds_toArray, List.set_cons_zero, List.set_cons_succ])
            refine wpAny_take (i := 10) (oi := { dst := some 26, op := Op.binOp BinOp.or 5 (Operand.tmp 20) (Operand.tmp 25) 5, type := 5, pos := "show.go:264", after := #[{ on := 4, ground := Ground.data }, { on := 9, ground := Ground.data }], guard := none }) (v := .int .u8 ((hexV a * 16 + hexV c : Nat) : Int)) rfl (by kernel_rfl) (by kernel_rfl) (by kernel_rfl) (fun _ _ _ h => h) (Or.inl ⟨by rfl, fun w => by go_simp⟩) ?_
            (try simp only [Act.put, List.setIfInBounds_toArray, List.set_cons_zero, List.set_cons_succ])
            have hx8 : (((hexV a * 16 + hexV c).toUInt8.toNat : Nat) : Int) = ((hexV a * 16 + hexV c : Nat) : Int) := by rw [nat_u8 (by omega)]
            have WB := writeByte7_any w1.heap.size w1.heap.size U (hexV a * 16 + hexV c).toUInt8 _ IDW.out HUL.out DRW.out.size
            rw [hx8] at WB
            refine wpAny_ready (rs := [11]) (by kernel_rfl) (by simp) ?_
            refine AllReady.cons (o := { dst := some 27, op := Op.call { callee := Callee.value (Operand.func 65), args := #[Operand.tmp 3, Operand.tmp 26], argTypes := #[90, 5] }, type := 92, pos := "show.go:264", after := #[{ on := 10, ground := Ground.data }, { on := 9, ground := Ground.chain }], guard := none }) rfl (fun K hK => ?_) AllReady.nil
            rw [if_pos (by rfl)]
            go_simp
            refine WB.mono ?_
            rintro e w4 ⟨rfl, i4, b4, _⟩
            refine hK _ _ ?_
            clear hK K
            (try simp only [Act.put, List.setIfInBounds_toArray, List.set_cons_zero, List.set_cons_succ])
            refine wpAny_done (by kernel_rfl) ?_ _
            have I4 := Lib.hid i4
            have B4 := Lib.hid (DRW.out.trans b4)
            clear i4 b4 WB
            have k0 := HM.out.1
            have k1 : K2 ≤ 1000000000 := by have := HM.out.2; have := HS.out; omega
            go_wp2_with fail
            go_roundw
            case rel => exact HREL.out _ hha hhc I4.out B4.out
            case measure => simp [intOf]; have := HM.out; omega
      · have hk' : ¬ ((2 * k : Nat) : Int) < (s.length : Int) := by omega
        have hk2 : 2 * k = s.length := by omega
        have HX : Hid (s.take (2 * k) = s) := Lib.hid (List.take_of_length_le (by omega))
        rw [HX.out] at hal hI
        generalize hK2 : ((2 * k : Nat) : Int) = K2 at *
        clear HX hk hk2 hkn hK2
        have HGO : Hid (∀ V, Below w1.heap.size w1 V → HexPost s w1 (.returned (.string ⟨(unhex s).toArray⟩)) V) := Lib.hid (fun V h => HexPost.yes HEV.out hal.out h)
        generalize unhex s = U at *
        go_wp2_with fail
        refine (Tryd.Builder_String_any_k w1.heap.size w1.heap.size U wr (Lib.IsBuilderF.of hI.out) hb.out.size).mono ?_
        rintro e w3 ⟨rfl, _, b3, _⟩
        have B3 := Lib.hid (hb.out.trans b3)
        clear b3
        go_wp2_with fail
        go_ret
        exact HGO.out _ B3.out
  · have hm : (s.length : Int) % 2 = 1 := by omega
    have HZ := Lib.hid hev
    clear hs hev
    go_enter Tryd.func61, Tryd.ntmps61
    go_wp2_with fail
    refine (need7_bad _).mono ?_
    rintro e w1 ⟨rfl, rfl⟩
    exact ⟨rfl, HexPost.no (fun h => HZ.out h.1) (Below.refl _ _)⟩
end Go.Proofs.YtiehhlolhhjgpaaDoor.Pl

namespace Go.Proofs.YtiehhlolhhjgpaaDoor.Pl
open Go.RowKit

theorem any_take (p : UInt8 → Bool) (l : List UInt8) (k : Nat) (h : k < l.length) : (l.take (k + 1)).any p = ((l.take k).any p || p (l.getD k 0)) := by
  rw [List.take_succ_eq_append_getElem h, List.any_append, List.getD_eq_getElem?_getD, List.getElem?_eq_getElem h]
  simp
theorem ret6_u8 {a b : Int} (h : a = b) : Ending.returned (.int .u8 a) = .returned (.int .u8 b) := by rw [h]
end Go.Proofs.YtiehhlolhhjgpaaDoor.Pl
