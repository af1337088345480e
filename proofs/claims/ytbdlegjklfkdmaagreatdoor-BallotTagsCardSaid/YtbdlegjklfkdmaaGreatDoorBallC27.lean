/- What term.Read answers: it goes over the places, and catches what is thrown. What the document's suites make of texts: keys, hashes, tags, seals. -/
import Derived.Test.YtbdlegjklfkdmaaGreatDoorBallC24
import Derived.DefersIn
import Derived.RecoverIn
import Derived.Recover
import Derived.Test.YtbdlegjklfkdmaaGreatDoorBallC25
import Derived.Test.YtbdlegjklfkdmaaGreatDoorBallC15
import Derived.Test.YtbdlegjklfkdmaaGreatDoorBallC11
import Derived.Test.YtbdlegjklfkdmaaGreatDoorBallC14
import Derived.Lib.Strings
namespace Go.Proofs.YtbdlegjklfkdmaaGreatDoor.Pl
open Go.RowKit Go.Shelf
attribute [local go_sem] Oper.semAt_some

theorem assert_none (w : World) : (Instr.typeAssert .nilIface 20 29 true).run Tryz.prog w = .ok (.tuple #[.int .i64 0, .bool false]) w := by kernel_rfl
theorem assert_errno (w : World) (f : Nat) : (Instr.typeAssert (.iface 29 (.int .i64 f)) 20 29 true).run Tryz.prog w = .ok (.tuple #[.int .i64 f, .bool true]) w := by kernel_rfl

theorem catch_idle (b c n : Nat) (w : World) :
    CallsDIn Fence.wide n Tryz.prog 137 #[.pointer (some ⟨b, 0, none⟩), .pointer (some ⟨c, 0, none⟩)] .returning w fun e u' w' => e = .returned (.tuple #[]) ∧ u' = .returning ∧ w' = w := by
  refine callsDIn_of_wpSIn Tryz.func137 rfl trivial fun c₀ cs hu => ?_
  apply wpSIn_seq
  apply wpSIn_region
  simp [wpOpsSIn, go_sem, recoverD, hu, Tryz.ntmps137, Exit.thenS, assert_none]
  apply wpSIn_seq
  apply wpSIn_region
  simp [wpOpsSIn, go_sem, Exit.thenS]
  refine wpSIn_cond (t := false) (by simp [Act.eval, Array.replicate]) ?_
  simp only [Bool.false_eq_true, if_false]
  refine wpSIn_of_wpIn rfl (wpIn_skip ?_)
  cases c₀
  simp_all [bodyPostS, results, Tryz.results137]
theorem catch_thrown (b c n f : Nat) (w : World) (u v : Value) (hbc : c ≠ b) (hb : Boxed w b 3 u) (hc : Boxed w c 29 v) :
    CallsDIn Fence.wide n Tryz.prog 137 #[.pointer (some ⟨b, 0, none⟩), .pointer (some ⟨c, 0, none⟩)] (.panicking [{ v := .iface 29 (.int .i64 f), recovered := false }]) w fun e u' w' =>
      e = .returned (.tuple #[]) ∧ u' = .panicking [{ v := .iface 29 (.int .i64 f), recovered := true }] ∧ w' = (w.setCell ⟨b, 0, none⟩ (.int .i64 0)).setCell ⟨c, 0, none⟩ (.int .i64 f) := by
  have hb1 := hb.cell
  have hb2 := hb.frozen
  have hc0 := hc.other (B' := b) hbc (.int .i64 0)
  have hc1 := hc0.cell
  have hc2 := hc0.frozen
  refine callsDIn_of_wpSIn Tryz.func137 rfl trivial fun c₀ cs hu => ?_
  apply wpSIn_seq
  apply wpSIn_region
  simp [wpOpsSIn, go_sem, recoverD, hu, Tryz.ntmps137, Exit.thenS, assert_errno]
  apply wpSIn_seq
  apply wpSIn_region
  simp [wpOpsSIn, go_sem, Exit.thenS]
  refine wpSIn_cond (t := true) (by simp [Act.eval, Array.replicate]) ?_
  simp only [if_true]
  apply wpSIn_region
  simp [wpOpsSIn, go_sem, hb1, hb2, hc1, hc2, bodyPostS, results, Tryz.results137, Array.replicate]

/-- The last place's end. -/
def lastH (l : List Pl6) : Nat := (l.getLast?.map (·.head)).getD 0
theorem lastH_snoc (l : List Pl6) (p : Pl6) : lastH (l ++ [p]) = p.head := by simp [lastH]
theorem vis_front (s : ByteArray) : frontP (bl s) = if (vis s).2.2 = 0 then (if 16384 < lastH (vis s).1 then (0, 5) else (lastH (vis s).1, 0)) else (0, (vis s).2.2) := by
  have h := vis_read (bl s) 16 0
  rw [List.drop_zero] at h
  have hl := vis_last (bl s) 16 0
  unfold vis frontP
  by_cases h0 : (readP 16 (bl s)).2 = 0
  · rw [if_pos h0] at h
    have h2 : (visP (bl s) 16 0).2.2 = 0 := by rw [h]
    obtain ⟨q, p, e1, e2⟩ := hl h2
    rw [if_pos h0, if_pos h2, e1, lastH_snoc, e2, h, Nat.zero_add]
    split
    · rfl
    · exact Prod.ext rfl h0
  · rw [if_neg h0] at h
    have h2 : (visP (bl s) 16 0).2.2 = (readP 16 (bl s)).2 := by rw [h]
    rw [if_neg h0, if_neg (by rw [h2]; exact h0), h2]
theorem lastH_le (s : ByteArray) (q : List Pl6) (h : q <+: (vis s).1) : lastH q ≤ s.size := by
  have hk := (vis_ok (bl s) 16 0 (Nat.le_refl _) (Nat.zero_le _)).1
  rcases List.eq_nil_or_concat q with rfl | ⟨r, p, rfl⟩
  · simp [lastH]
  · rw [List.concat_eq_append, lastH_snoc]
    have := (hk p (h.subset (by simp))).2.1
    rwa [bl_length] at this
theorem vis_any (s : ByteArray) (p : Pl6) (q : List Pl6) (h : q ++ [p] <+: (vis s).1) : okPl (bl s) p :=
  (vis_ok (bl s) 16 0 (Nat.le_refl _) (Nat.zero_le _)).1 p (h.subset (by simp))

/-- What Read's results hold while it goes over the places. -/
def ReadI (w : World) (pre : List Pl6) (W : World) : Prop := (Boxed W w.heap.size 3 (.int .i64 (lastH pre)) ∧ Boxed W (w.heap.size + 1) 29 (.int .i64 0)) ∧ Below w.heap.size w W
theorem readI_own (w : World) (B : Nat) (h : w.heap.size ≤ B) : OwnFrom B (ReadI w) :=
  OwnFrom.and (OwnFrom.and (Own.from (boxed_own _ _ _) _) (Own.from (boxed_own _ _ _) _)) (ownFrom_below (Nat.le_refl _) h)

/-- A round's variable: a place in a block of its own. -/
def PlAx (B : Nat) (mk : Nat → Pl6 → Act) (x : Pl6) (a' : Act) (W : World) : Prop := ∃ b, B ≤ b ∧ W.heap[b]? = some (Obj.cells (cellsPl x) 102 (0, 0)) ∧ a' = mk b x
theorem plAx_own (B : Nat) (mk : Nat → Pl6 → Act) (C : Nat) (x : Pl6) (a' : Act) : OwnFrom C (fun (_ : Unit) W => PlAx B mk x a' W) := by
  intro s' X Y row hs' hg hr
  obtain ⟨b, h1, h2, h3⟩ := hs'
  refine ⟨b, h1, ?_, h3⟩
  refine (hg.block b (Array.getElem?_eq_some_iff.1 h2).1 (fun e => ?_)).trans h2
  obtain ⟨o, ho, hcl⟩ := (hr b e.symm).2
  rw [h2] at ho; cases ho; cases hcl
theorem KeepP.setBox {W : World} {B : Nat} {t : TypeId} {u : Value} (h : Boxed W B t u) (ht : t ≠ 102) (v : Value) : KeepP W (W.setCell ⟨B, 0, none⟩ v) :=
  ⟨(KeepsOthers.setCell W ⟨B, 0, none⟩ v).size, fun b cs hb => (Below.heap_setCell W ⟨B, 0, none⟩ v b (fun e => by
    have e' : b = B := e
    subst e'
    rw [show W.heap[b]? = _ from h] at hb
    cases hb
    exact ht rfl)).trans hb⟩
theorem place_cells {W : World} {b : Nat} {x : Pl6} (h : W.heap[b]? = some (Obj.cells (cellsPl x) 102 (0, 0))) :
    W.cell? ⟨b, 0, none⟩ = some (.int .i64 x.at_) ∧ W.cell? ⟨b, 1, none⟩ = some (.int .i64 x.dep) ∧ W.cell? ⟨b, 2, none⟩ = some (.int .i64 x.head) ∧ W.cell? ⟨b, 3, none⟩ = some (.int .i64 x.parts) := by
  refine ⟨?_, ?_, ?_, ?_⟩ <;> simp [World.cell?, h, cellsPl]

/-- The deferred call of Read. -/
abbrev readDef (B : Nat) : Deferred := { target := .fn (.func 137) #[.pointer (some ⟨B, 0, none⟩), .pointer (some ⟨B + 1, 0, none⟩)], args := #[] }
def ReadPost (w : World) (n e : Nat) (x : Ending) (w' : World) : Prop := x = .returned (.tuple #[.int .i64 n, .int .i64 e]) ∧ Below w.heap.size w w'
theorem read_results (w V : World) (n e : Nat) (tmps : Array Value) (h2 : tmps.getD 2 undef = .pointer (some ⟨w.heap.size, 0, none⟩)) (h3 : tmps.getD 3 undef = .pointer (some ⟨w.heap.size + 1, 0, none⟩))
    (bN : Boxed V w.heap.size 3 (.int .i64 n)) (bE : Boxed V (w.heap.size + 1) 29 (.int .i64 e)) :
    (results Tryz.f106 tmps).run Tryz.prog V = .ok (.tuple #[.int .i64 n, .int .i64 e]) V := by
  have c1 := bN.cell
  have c2 := bE.cell
  have h2' : tmps[2]?.getD undef = .pointer (some ⟨w.heap.size, 0, none⟩) := by simpa using h2
  have h3' : tmps[3]?.getD undef = .pointer (some ⟨w.heap.size + 1, 0, none⟩) := by simpa using h3
  simp [results, Tryz.results106, go_sem, h2', h3', c1, c2, asAddr]
theorem read_leave (w V : World) (n e D : Nat) (hDD : w.heap.size + 2 ≤ D) (hD : V.heap[D]? = some (.deferred (some []))) (tmps : Array Value) (h2 : tmps.getD 2 undef = .pointer (some ⟨w.heap.size, 0, none⟩)) (h3 : tmps.getD 3 undef = .pointer (some ⟨w.heap.size + 1, 0, none⟩))
    (bN : Boxed V w.heap.size 3 (.int .i64 n)) (bE : Boxed V (w.heap.size + 1) 29 (.int .i64 e)) (hb : Below w.heap.size w V) :
    LeavesInM Fence.wide 5 Tryz.prog Tryz.f106 tmps (ReadPost w n e) [markOf D, readDef w.heap.size] .returning V := by
  refine ⟨by simp, .inl ⟨D, _, rfl, run_takeDeferred hD, ?_⟩⟩
  have bN' : Boxed (V.putObj D (.deferred none)) w.heap.size 3 (.int .i64 n) := (World.putObj_heap_other (by omega)).trans bN
  have bE' : Boxed (V.putObj D (.deferred none)) (w.heap.size + 1) 29 (.int .i64 e) := (World.putObj_heap_other (by omega)).trans bE
  have hb' : Below w.heap.size w (V.putObj D (.deferred none)) := hb.grown (grownBy_putObj' V D _) hb.size (fun k e => by cases e; omega)
  refine ⟨by simp, .inr ⟨hdd _, _, _, 137, #[.pointer (some ⟨w.heap.size, 0, none⟩), .pointer (some ⟨w.heap.size + 1, 0, none⟩)], rfl, by simp [invoke, go_sem], fun g _ => trivial, ?_⟩⟩
  refine (catch_idle _ _ _ _).mono ?_
  rintro x u' w' ⟨rfl, rfl, rfl⟩
  exact ⟨_, read_results w _ n e tmps h2 h3 bN' bE', rfl, hb'⟩
theorem read_thrown (w V : World) (n e f D : Nat) (hDD : w.heap.size + 2 ≤ D) (hD : V.heap[D]? = some (.deferred (some []))) (tmps : Array Value) (h2 : tmps.getD 2 undef = .pointer (some ⟨w.heap.size, 0, none⟩)) (h3 : tmps.getD 3 undef = .pointer (some ⟨w.heap.size + 1, 0, none⟩))
    (bN : Boxed V w.heap.size 3 (.int .i64 n)) (bE : Boxed V (w.heap.size + 1) 29 (.int .i64 e)) (hb : Below w.heap.size w V) :
    LeavesInM Fence.wide 5 Tryz.prog Tryz.f106 tmps (ReadPost w 0 f) [markOf D, readDef w.heap.size] (.panicking [{ v := .iface 29 (.int .i64 f), recovered := false }]) V := by
  refine ⟨by simp, .inl ⟨D, _, rfl, run_takeDeferred hD, ?_⟩⟩
  have bN' : Boxed (V.putObj D (.deferred none)) w.heap.size 3 (.int .i64 n) := (World.putObj_heap_other (by omega)).trans bN
  have bE' : Boxed (V.putObj D (.deferred none)) (w.heap.size + 1) 29 (.int .i64 e) := (World.putObj_heap_other (by omega)).trans bE
  have hb' : Below w.heap.size w (V.putObj D (.deferred none)) := hb.grown (grownBy_putObj' V D _) hb.size (fun k e => by cases e; omega)
  refine ⟨by simp, .inr ⟨hdd _, _, _, 137, #[.pointer (some ⟨w.heap.size, 0, none⟩), .pointer (some ⟨w.heap.size + 1, 0, none⟩)], rfl, by simp [invoke, go_sem], fun g _ => trivial, ?_⟩⟩
  refine (catch_thrown _ _ _ f _ _ _ (by omega) bN' bE').mono ?_
  rintro x u' w' ⟨rfl, rfl, rfl⟩
  have bN2 := (bN'.set (.int .i64 0)).other (B' := w.heap.size + 1) (by omega) (.int .i64 f)
  have bE2 := (bE'.other (B' := w.heap.size) (by omega) (.int .i64 0)).set (.int .i64 f)
  refine ⟨_, read_results w _ 0 f tmps h2 h3 bN2 bE2, rfl, ?_⟩
  exact (hb'.setCell (p := ⟨w.heap.size, 0, none⟩) (Nat.le_refl _) _).setCell (p := ⟨w.heap.size + 1, 0, none⟩) (Nat.le_succ _) _

abbrev readAct (s : ByteArray) (B b : Nat) (x : Pl6) : Act :=
  { tmps := #[.string s, undef, .pointer (some ⟨B, 0, none⟩), .pointer (some ⟨B + 1, 0, none⟩), .pointer (some ⟨b, 0, none⟩), .func (.func 137) #[] #[.pointer (some ⟨B, 0, none⟩), .pointer (some ⟨B + 1, 0, none⟩)], .string s, .func (.func 104) #[] #[.pointer (some ⟨B + 1 + 1, 0, none⟩)], encPl x, undef, undef, undef, undef, undef], defers := [] }

set_option maxRecDepth 100000 in
set_option maxHeartbeats 4000000 in
theorem read6_any (s : ByteArray) (hs : s.size ≤ 281474976710656) (w : World) :
    Calls Tryz.prog 106 #[.string s] w fun e w' => e = .returned (.tuple #[.int .i64 (frontP (bl s)).1, .int .i64 (frontP (bl s)).2]) ∧ Below w.heap.size w w' := by
  have hmf : ∀ (fn : Fn) (first cap : Array Value) (w : World), (Instr.makeFunc fn first cap).run Tryz.prog w = .ok (.func fn first cap) w := fun _ _ _ _ => rfl
  refine (callsIn_wide (n := 5)).1 ?_
  refine callsIn_of_wp_marks Tryz.func106 rfl trivial ?_ rfl
  simp only [Tryz.ntmps106, List.size_toArray, List.length_cons, List.length_nil, Nat.reduceAdd, Nat.reduceSub, Array.replicate_succ, Array.replicate_zero, List.push_toArray, List.append_toArray, List.nil_append, List.cons_append]
  gi_wp2_with (refine ⟨trivial, ?_⟩; gi_at_call 64; refine (callsIn_wide.2 (places_in s _)).mono ?_; rintro e w1 ⟨rfl, rfl⟩)
  obtain ⟨W0, hW0⟩ : ∃ W0, ((w.alloc (.cells #[.int .i64 0] 3)).alloc (.cells #[.int .i64 0] 29)).alloc (.cells #[.string s] 9) = W0 := ⟨_, rfl⟩
  have bN : Boxed W0 w.heap.size 3 (.int .i64 0) := by rw [← hW0]; exact ((Boxed.new w _ _).alloc _).alloc _
  have bE : Boxed W0 (w.heap.size + 1) 29 (.int .i64 0) := by rw [← hW0]; have h := (Boxed.new (w.alloc (.cells #[.int .i64 0] 3)) 29 (.int .i64 0)).alloc (.cells #[.string s] 9); simpa using h
  have bS : Boxed W0 (w.heap.size + 2) 9 (.string s) := by rw [← hW0]; have h := Boxed.new ((w.alloc (.cells #[.int .i64 0] 3)).alloc (.cells #[.int .i64 0] 29)) 9 (.string s); simpa using h
  have hB0 : Below w.heap.size w W0 := by rw [← hW0]; exact (((Below.refl _ w).alloc (Nat.le_refl _) _).alloc (by simp) _).alloc (by simp; omega) _
  have hsz : W0.heap.size = w.heap.size + 3 := by rw [← hW0]; simp
  rw [hW0]
  clear hW0
  refine wpIn_places s hs (w.heap.size + 2) bS rfl (ReadI w) (fun _ _ _ => False) (readI_own w _ (by omega)) (fun c => fun _ _ _ _ h _ _ => h) ⟨⟨bN, bE⟩, hB0⟩
    (PlAx (w.heap.size + 2) (readAct s w.heap.size)) (plAx_own _ _ _) ?assign ?body ?done ?stop ?throw
  case assign =>
    intro m l pre x W K hi hK
    have hzr := Lib.hid hK
    clear hK
    unfold encPl cellsPl
    gi_wp2
    have hlt := hi.1.2.lt
    exact hzr.out _ _ ((KeepsOthers.alloc _ _).from _) (KeepP.alloc _ _) ((readI_own w W0.heap.size (by omega)).alloc _ hi) ⟨W.heap.size, by omega, World.alloc_heap_new _ _, rfl⟩
  case body =>
    rintro m l pre x a' W hl hi ⟨b, hb, hbx, rfl⟩ hpre
    have hx2 := (place_cells hbx).2.2.1
    have hc := hi.1.1.cell
    have hf := hi.1.1.frozen
    have HI := Lib.hid hi
    have HX := Lib.hid hbx
    clear hi hbx hpre bN bE bS
    unfold readAct
    gi_wp2
    obtain ⟨⟨b1, b2⟩, b3⟩ := HI.out
    refine ⟨(KeepsOthers.setCell _ _ _).from _, KeepP.setBox b1 (by decide) _, ⟨?_, b2.other (by omega) _⟩, b3.setCell (p := ⟨w.heap.size, 0, none⟩) (Nat.le_refl _) _⟩
    rw [lastH_snoc]
    exact b1.set _
  case done =>
    rintro D W hD hz ⟨⟨b1, b2⟩, b3⟩ hK
    have hfr := vis_front s
    rw [if_pos hz] at hfr
    have hle := lastH_le s _ (List.prefix_refl _)
    have hDD : w.heap.size + 2 ≤ D := by omega
    have hc := b1.cell
    have hf := b1.frozen
    have hce := b2.cell
    have hfe := b2.frozen
    have HL := Lib.hid hle
    generalize lastH (vis s).1 = n at *
    clear bN bE bS hz hle hB0 hD hsz
    by_cases hn : 16384 < n
    · rw [if_pos hn] at hfr
      have hn' : (16384 : Int) < (n : Int) := by omega
      have B1 := Lib.hid b1
      have B2 := Lib.hid b2
      have B3 := Lib.hid b3
      have HK := Lib.hid hK
      have c2 := (b2.other (B' := w.heap.size) (by omega) (.int .i64 0)).cell
      have f2 := (b2.other (B' := w.heap.size) (by omega) (.int .i64 0)).frozen
      clear hn b1 b2 b3 hK
      gi_wp2
      try rw [hfr]
      refine read_leave w _ 0 5 D hDD ?_ _ rfl rfl ((B1.out.set _).other (by omega) _) ((B2.out.other (by omega) _).set _) ((B3.out.setCell (p := ⟨w.heap.size, 0, none⟩) (Nat.le_refl _) _).setCell (p := ⟨w.heap.size + 1, 0, none⟩) (Nat.le_succ _) _)
      exact ((KeepsOthers.setCell _ _ _).same _ _ ((KeepsOthers.setCell _ _ _).same _ _ HK.out rfl) rfl)
    · rw [if_neg hn] at hfr
      have hn' : ¬ (16384 : Int) < (n : Int) := by omega
      have B1 := Lib.hid b1
      have B2 := Lib.hid b2
      have B3 := Lib.hid b3
      have HK := Lib.hid hK
      have c2 := (b2.other (B' := w.heap.size) (by omega) (.int .i64 n)).cell
      have f2 := (b2.other (B' := w.heap.size) (by omega) (.int .i64 n)).frozen
      clear hn b1 b2 b3 hK
      gi_wp2
      try rw [hfr]
      refine read_leave w _ n 0 D hDD ?_ _ rfl rfl ((B1.out.set _).other (by omega) _) ((B2.out.other (by omega) _).set _) ((B3.out.setCell (p := ⟨w.heap.size, 0, none⟩) (Nat.le_refl _) _).setCell (p := ⟨w.heap.size + 1, 0, none⟩) (Nat.le_succ _) _)
      exact ((KeepsOthers.setCell _ _ _).same _ _ ((KeepsOthers.setCell _ _ _).same _ _ HK.out rfl) rfl)
  case stop =>
    rintro D c pre W hD hq h hK
    exact h.elim
  case throw =>
    rintro D W hD hz ⟨⟨b1, b2⟩, b3⟩ hK
    have hfr := vis_front s
    rw [if_neg hz] at hfr
    gi_wp2
    try rw [hfr]
    exact read_thrown w W _ _ _ D (by omega) hK _ rfl rfl b1 b2 b3
end Go.Proofs.YtbdlegjklfkdmaaGreatDoor.Pl

namespace Go.Proofs.YtbdlegjklfkdmaaGreatDoor.Pl
open Go.RowKit

theorem str_back {x y : ByteArray} (h : bl x = bl y) : Ending.returned (.string x) = .returned (.string ⟨(bl y).toArray⟩) := by rw [← h, ← bl_eq]
theorem cat_size (n : ByteArray) : (⟨#[107, 101, 121, 32]⟩ ++ n : ByteArray).size = 4 + n.size := by rw [ByteArray.size_append]; rfl
set_option maxRecDepth 100000 in
theorem rkey8_any (k : Nat) (m name : ByteArray) (hm : m.size ≤ 1000) (hn : name.size ≤ 20000) (w : World) :
    Calls Tryz.prog 101 #[suiteV k m, .string name] w fun e w' => e = .returned (st2 (keyP cryP (k == 1) (bl m) (bl name))) ∧ Below w.heap.size w w' := by
  obtain ⟨K, hK⟩ : ∃ K : ByteArray, K = ⟨#[107, 101, 121, 32]⟩ ++ name := ⟨_, rfl⟩
  have hs : K.size ≤ 800000 := by rw [hK, cat_size]; omega
  have hb : ([107, 101, 121, 32] ++ bl name : List UInt8) = bl K := by rw [hK, bl_cat]; rfl
  have H := rkey8_by cryP k m name hn
  rw [← hK, hb, cry_mac, ← bl_eq] at H
  exact H (fun V => reftag_any m K (by omega) hs V) w
theorem keyB_size (y : ByteArray) : (keyB y).size ≤ y.size := by
  rw [← bl_length, bl_keyB]
  unfold textP
  split
  · have := rdt_out ((bl y).drop 1) 1024
    rw [List.length_drop, bl_length] at this
    dsimp only
    omega
  · exact Nat.zero_le _
theorem rmac8_any (k : Nat) (h12 : k = 1 ∨ k = 2) (m y t : ByteArray) (hy : y.size ≤ 20000) (ht : t.size ≤ 20000) (w : World) :
    Calls Tryz.prog 60 #[suiteV k m, .string y, .string t] w fun e w' => e = .returned (st2 (mac8P cryP (k == 1) (bl y) (bl t))) ∧ Below w.heap.size w w' := by
  refine rmac8_by cryP k h12 m y t hy ht (fun V => ?_) w
  refine (reftag_any (keyB y) t (by have := keyB_size y; omega) (by omega) V).mono ?_
  rintro e w' ⟨rfl, h⟩
  refine ⟨?_, h⟩
  rw [cry_mac]
  exact str_back rfl
end Go.Proofs.YtbdlegjklfkdmaaGreatDoor.Pl
