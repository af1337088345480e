/- A loop over term.places: what the caller owes, whatever the text; the loop may end, be left, or be thrown out of. What term.Read answers: it goes over the places, and catches what is thrown. What term's Check, are, valid, kind, Kind and Text answer. What term's Data, Atom, Num, ReadNum, termAt, join, Row, Hash, Mac and Seal answer. What term's join, Row, Hash, Mac and Seal answer. What term's Size and Depth answer. What term's stands and Has answer. What term's Parts answers. What the program's own can answers, over a map of what is listed. The text of a datum. -/
import Derived.Test.YtpajcalfjfkogaaForgeF9
import Derived.RangeFuncIn
import Derived.RangeFuncRecord
import Derived.DefersIn
import Derived.RecoverIn
import Derived.Recover
import Derived.Test.YtpajcalfjfkogaaForgeF3
import Derived.Test.YtpajcalfjfkogaaShelf
import Derived.Lib.Join
import Derived.Test.YtpajcalfjfkogaaForgeF2
import Derived.Test.YtpajcalfjfkogaaForgeF4
namespace Go.Proofs.Ytpajcalfjfkogaa.Pl
open Go.RowKit Go.Shelf
attribute [local go_sem] Oper.semAt_some

theorem KeepP.putObj {W : World} {l : Nat} {o : Obj} (h : W.heap[l]? = some o) (ho : o.isCells = false) (o' : Obj) : KeepP W (W.putObj l o') :=
  ⟨by simp, fun b cs hb => (World.putObj_heap_other (fun e => by subst e; rw [h] at hb; cases hb; cases ho)).trans hb⟩
theorem KeepP.alloc (W : World) (o : Obj) : KeepP W (W.alloc o) := KeepP.of_below ((Below.refl _ W).alloc (Nat.le_refl _) _)

/-- The places of a whole text. -/
def vis (s : ByteArray) : List Pl6 × Nat × Nat := visP (bl s) 16 0

/-- How going over the places ends. -/
def WalkPost (s : ByteArray) (J Jx : List Pl6 → World → Prop) (e : Ending) (W' : World) : Prop :=
  ((vis s).2.2 = 0 ∧ (∃ v, e = .returned v) ∧ J (vis s).1 W') ∨ (∃ q, (∃ v, e = .returned v) ∧ q <+: (vis s).1 ∧ Jx q W') ∨ ((vis s).2.2 ≠ 0 ∧ e = boom (vis s).2.2 ∧ J (vis s).1 W')

set_option maxRecDepth 100000 in
set_option maxHeartbeats 1000000 in
theorem places1_in (s : ByteArray) (hs : s.size ≤ 281474976710656) (l B n : Nat) (J Jx : List Pl6 → World → Prop)
    (hA : ∀ pre W W', J pre W → Below W.heap.size W W' → J pre W')
    (hY : ∀ m pre p W, J pre W → (pre ++ [p]) <+: (vis s).1 → YieldAt Fence.wide m Try.prog l #[encPl p] W (YP J Jx pre p W))
    (W : World) (hB : W.cell? ⟨B, 0, none⟩ = some (.string s)) (h0 : J [] W) :
    CallsIn Fence.wide n Try.prog 101 #[.func (.yield l) #[] #[], .pointer (some ⟨B, 0, none⟩)] W (WalkPost s J Jx) := by
  have HV := Lib.hid (fun m => visit_in s hs l (vis s).1 J Jx hA hY 16 1 0 [] m W rfl (Nat.le_refl _) (Nat.zero_le _) (List.prefix_refl _) h0)
  clear hA hY h0
  refine callsIn_of_wp Try.func101 rfl trivial ?_ rfl
  simp only [Try.ntmps101, List.size_toArray, List.length_cons, List.length_nil, Nat.reduceAdd, Nat.reduceSub, Array.replicate_succ, Array.replicate_zero, List.push_toArray, List.append_toArray, List.nil_append, List.cons_append]
  gi_wp2_with (refine ⟨trivial, hdd _, ?_⟩; gi_at_call 102; refine (HV.out _).mono ?_; rintro e W3 (⟨hz, rfl, hj3, hk3⟩ | ⟨z, q, rfl, hq3, hx3, hk3⟩ | ⟨hz, rfl, hj3⟩))
  · go_end0
    exact .inl ⟨hz, ⟨_, rfl⟩, hj3⟩
  · go_end0
    exact .inr (.inl ⟨q, ⟨_, rfl⟩, hq3, hx3⟩)
  · exact ⟨rfl, .inr (.inr ⟨hz, rfl, hj3⟩)⟩

theorem places_in (s : ByteArray) (w : World) :
    Calls Try.prog 83 #[.string s] w fun e w' => e = .returned (.func (.func 101) #[] #[.pointer (some ⟨w.heap.size, 0, none⟩)]) ∧
      w.alloc (.cells #[.string s] 9) = w' := by
  go_enter Try.func83, Try.ntmps83
  go_wp2
  go_ret
  exact ⟨rfl, rfl⟩

/-- How the body of a round may be left. -/
def PlPost (B : Nat) (I : List Pl6 → World → Prop) (Ix : Code → List Pl6 → World → Prop) (xs : List Pl6) (W : World) : Exit → Act → World → Prop
  | .normal, _, W' => KeepsFrom B W W' ∧ KeepP W W' ∧ I xs W'
  | .ret, _, W' => KeepsFrom B W W' ∧ KeepP W W' ∧ Ix .ret xs W'
  | .exit id, _, W' => KeepsFrom B W W' ∧ KeepP W W' ∧ Ix (.exit id) xs W'
  | .goto t, _, W' => KeepsFrom B W W' ∧ KeepP W W' ∧ Ix (.goto t) xs W'
  | .panic _, _, _ => False
  | .outgrown, _, _ => False

/-- The mark that a loop leaves among the deferred calls. -/
abbrev markOf (D : Nat) : Deferred := { target := .collected D, args := #[] }

theorem wpIn_places {g : Operand} {p : Tmp} {assign body : Code} {Q : Exit → Act → World → Prop} {a : Act} {w : World} {n : Nat}
    (s : ByteArray) (hs : s.size ≤ 281474976710656) (B : Nat) (hB : Boxed w B 9 (.string s)) (hg : a.eval g = .func (.func 101) #[] #[.pointer (some ⟨B, 0, none⟩)])
    (I : List Pl6 → World → Prop) (Ix : Code → List Pl6 → World → Prop) (hI : OwnFrom w.heap.size I) (hIx : ∀ c, OwnFrom w.heap.size (Ix c)) (h0 : I [] w)
    (Ax : Pl6 → Act → World → Prop) (hAx : ∀ x a', OwnFrom w.heap.size (fun (_ : Unit) W => Ax x a' W))
    (hassign : ∀ (m l : Nat) (pre : List Pl6) (x : Pl6) (W : World) (K : Act → World → Prop), I pre W → (∀ a' W', KeepsFrom w.heap.size W W' → KeepP W W' → I pre W' → Ax x a' W' → K a' W') →
      assign.wpIn (Fence.wide.inRound l) m Try.prog (Exit.then K (fun _ _ _ => False)) { tmps := a.tmps.setIfInBounds p (encPl x), defers := [] } W)
    (hbody : ∀ (m l : Nat) (pre : List Pl6) (x : Pl6) (a' : Act) (W : World), w.heap.size ≤ l → I pre W → Ax x a' W → pre ++ [x] <+: (vis s).1 →
      body.wpIn (Fence.wide.inRound l) m Try.prog (PlPost w.heap.size I Ix (pre ++ [x]) W) a' W)
    (hdone : ∀ (D : Nat) (W : World), w.heap.size ≤ D → (vis s).2.2 = 0 → I (vis s).1 W → W.heap[D]? = some (.deferred (some [])) → Q .normal { a with defers := markOf D :: a.defers } W)
    (hstop : ∀ (D : Nat) (c : Code) (pre : List Pl6) (W : World), w.heap.size ≤ D → pre <+: (vis s).1 → Ix c pre W → W.heap[D]? = some (.deferred (some [])) → c.wpIn Fence.wide n Try.prog Q { a with defers := markOf D :: a.defers } W)
    (hthrow : ∀ (D : Nat) (W : World), w.heap.size ≤ D → (vis s).2.2 ≠ 0 → I (vis s).1 W → W.heap[D]? = some (.deferred (some [])) →
      Q (.panic [{ v := .iface 27 (.int .i64 (vis s).2.2), recovered := false }]) { a with defers := markOf D :: a.defers } W) :
    (Code.rangeFunc g #[p] assign body).wpIn Fence.wide n Try.prog Q a w := by
  refine wpIn_rangeFunc fun fn hfn => ?_
  obtain ⟨B0, hB0⟩ : ∃ B0, B0 = w.heap.size := ⟨_, rfl⟩
  obtain ⟨rec, hrec⟩ : ∃ rec : LoopState → Option Code → Loop, rec = fun st pe => { state := st, pending := pe, fn := fn, tmps := a.tmps, params := #[p], assign := assign, body := body, defers := w.heap.size } := ⟨_, rfl⟩
  obtain ⟨V, hV⟩ : ∃ V, V = (w.alloc (.deferred (some []))).alloc (.loop (rec .ready none)) := ⟨_, rfl⟩
  have vB : Below w.heap.size w V := by rw [hV]; exact ((Below.refl _ w).alloc (Nat.le_refl _) _).alloc (by simp) _
  have vL : V.heap[w.heap.size + 1]? = some (.loop (rec .ready none)) := by
    have h := World.alloc_heap_new (w.alloc (.deferred (some []))) (.loop (rec .ready none))
    rw [World.size_alloc] at h
    rw [hV]; exact h
  have vD : V.heap[w.heap.size]? = some (.deferred (some [])) := by
    rw [hV]; exact (Below.heap_alloc _ _ _ (by simp)).trans (World.alloc_heap_new w _)
  have vI : I [] V := by rw [hV]; exact hI.alloc _ (hI.alloc _ h0)
  have vC : V.cell? ⟨B, 0, none⟩ = some (.string s) := (vB.cell (p := ⟨B, 0, none⟩) hB.lt).trans hB.cell
  -- the two blocks of the loop, behind whatever a round has done
  obtain ⟨Bk, hBk⟩ : ∃ Bk : Loop → World → Prop, Bk = fun r W => W.heap[w.heap.size + 1]? = some (.loop r) ∧ W.heap[w.heap.size]? = some (.deferred (some [])) := ⟨_, rfl⟩
  have bkV : Bk (rec .ready none) V := by rw [hBk]; exact ⟨vL, vD⟩
  have bkBelow : ∀ r W W', Bk r W → Below W.heap.size W W' → Bk r W' := fun r W W' h b => by
    rw [hBk] at h ⊢; exact ⟨heap_below b h.1, heap_below b h.2⟩
  have bkKeep : ∀ r W W', Bk r W → KeepsFrom w.heap.size W W' → Bk r W' := fun r W W' h k => by
    rw [hBk] at h ⊢; exact ⟨k.same _ _ (Nat.le_succ _) h.1 rfl, k.same _ _ (Nat.le_refl _) h.2 rfl⟩
  have bkPut : ∀ r r' W, Bk r W → Bk r' (W.putObj (w.heap.size + 1) (.loop r')) := fun r r' W h => by
    rw [hBk] at h ⊢; exact ⟨World.putObj_heap_same (Array.getElem?_eq_some_iff.1 h.1).1, (World.putObj_heap_other (by omega)).trans h.2⟩
  have bkL : ∀ r W, Bk r W → W.heap[w.heap.size + 1]? = some (.loop r) := fun r W h => by rw [hBk] at h; exact h.1
  have bkD : ∀ r W, Bk r W → W.heap[w.heap.size]? = some (.deferred (some [])) := fun r W h => by rw [hBk] at h; exact h.2
  clear hBk vL vD
  have grow : ∀ {W W' : World}, Below W.heap.size W W' → W.grownBy W' none := fun b => ⟨b.os, b.tape, b.output, b.size, fun k hk _ => b.block k hk⟩
  refine ⟨w.heap.size + 1, [markOf w.heap.size], V, { target := .fn (.func 101) #[.pointer (some ⟨B, 0, none⟩)], args := #[.func (.yield (w.heap.size + 1)) #[] #[]] }, V, 101,
    #[.func (.yield (w.heap.size + 1)) #[] #[]] ++ #[.pointer (some ⟨B, 0, none⟩)], V, ?_, ?_, ?_, ?_, hdd _, ?_⟩
  · rw [hV, hrec]; exact run_enterLoop_outer _ _ _ _ _
  · simp only [resolve, hg]; simp [go_sem]
  · intro f' _; exact trivial
  · simp [invoke, go_sem]
  · refine CallsIn.mono (places1_in s hs (w.heap.size + 1) B (n - 1) (fun pre W => I pre W ∧ Bk (rec .ready none) W) (fun pre W => ∃ c, Ix c pre W ∧ Bk (rec .done (some c)) W) ?_ ?_ V vC ⟨vI, bkV⟩) ?_
    · exact fun pre W W' h b => ⟨hI pre W W' none h.1 (grow b) (fun r e => by cases e), bkBelow _ _ _ h.2 b⟩
    · rintro m pre x W ⟨hi, hbk⟩ hpre
      have hy := run_yield (P := Try.prog) (args := #[encPl x]) (bkL _ _ hbk) (by rw [hrec]; rfl)
      have hy2 : (Instr.yield (w.heap.size + 1) #[encPl x]).run Try.prog W = .ok (.round (w.heap.size + 1) fn (a.tmps.setIfInBounds p (encPl x)) assign body) W := by rw [hy, hrec]; simp
      refine ⟨fn, _, assign, body, hy2, roundIn_of_wpIn trivial ?_⟩
      clear hy hy2
      refine hassign m _ pre x W _ hi fun a' Wa k1 k2 hia hax => ?_
      have bka := bkKeep _ _ _ hbk k1
      have hla := bkL _ _ bka
      refine ⟨_, run_beginRound hla (by rw [hrec]), ?_⟩
      obtain ⟨Wb, hWb⟩ : ∃ Wb, Wb = Wa.putObj (w.heap.size + 1) (.loop { rec .ready none with state := .busy }) := ⟨_, rfl⟩
      have bkb : Bk { rec .ready none with state := .busy } Wb := by rw [hWb]; exact bkPut _ _ _ bka
      have k3 : KeepP Wa Wb := by rw [hWb]; exact KeepP.putObj hla rfl _
      have hib : I pre Wb := by rw [hWb]; exact hI.putObj _ hia (by omega) hla rfl
      have haxb : Ax x a' Wb := by rw [hWb]; exact (hAx x a').putObj (s := ()) _ hax (by omega) hla rfl
      rw [← hWb]
      refine wpIn_mono (hbody m (w.heap.size + 1) pre x a' Wb (by omega) hib haxb hpre) ?_
      have fin : ∀ (jump : Option Code) (Wc : World), KeepsFrom w.heap.size Wb Wc → KeepP Wb Wc →
          ∃ Wd, (Instr.endRound (w.heap.size + 1) jump).run Try.prog Wc = .ok (.bool jump.isNone) Wd ∧ Bk (rec (if jump.isNone then .ready else .done) jump) Wd ∧ KeepP W Wd ∧
            Wd = Wc.putObj (w.heap.size + 1) (.loop (rec (if jump.isNone then .ready else .done) jump)) ∧ Wc.heap[w.heap.size + 1]? = some (.loop { rec .ready none with state := .busy }) := fun jump Wc k4 k5 => by
        have bkc := bkKeep _ _ _ bkb k4
        have hlc := bkL _ _ bkc
        have hr := run_endRound (P := Try.prog) jump hlc
        refine ⟨_, ?_, bkPut _ _ _ bkc, ((k2.trans k3).trans k5).trans (KeepP.putObj hlc rfl _), rfl, hlc⟩
        rw [hr, hrec]
      rintro e a3 Wc hp
      cases e with
      | normal =>
        obtain ⟨k4, k5, hic⟩ := hp
        obtain ⟨Wd, hr, bkd, kd, hWd, hlc⟩ := fin none Wc k4 k5
        exact ⟨_, _, hr, .inl ⟨rfl, ⟨by rw [hWd]; exact hI.putObj _ hic (by omega) hlc rfl, bkd⟩, kd⟩⟩
      | ret =>
        obtain ⟨k4, k5, hic⟩ := hp
        obtain ⟨Wd, hr, bkd, kd, hWd, hlc⟩ := fin (some .ret) Wc k4 k5
        exact ⟨_, _, hr, .inr ⟨rfl, ⟨.ret, by rw [hWd]; exact (hIx _).putObj _ hic (by omega) hlc rfl, bkd⟩, kd⟩⟩
      | exit id =>
        obtain ⟨k4, k5, hic⟩ := hp
        obtain ⟨Wd, hr, bkd, kd, hWd, hlc⟩ := fin (some (.exit id)) Wc k4 k5
        exact ⟨_, _, hr, .inr ⟨rfl, ⟨.exit id, by rw [hWd]; exact (hIx _).putObj _ hic (by omega) hlc rfl, bkd⟩, kd⟩⟩
      | goto t =>
        obtain ⟨k4, k5, hic⟩ := hp
        obtain ⟨Wd, hr, bkd, kd, hWd, hlc⟩ := fin (some (.goto t)) Wc k4 k5
        exact ⟨_, _, hr, .inr ⟨rfl, ⟨.goto t, by rw [hWd]; exact (hIx _).putObj _ hic (by omega) hlc rfl, bkd⟩, kd⟩⟩
      | panic ch => exact hp.elim
      | outgrown => exact hp.elim
    · rintro e W2 (⟨hz, ⟨v, rfl⟩, hi, hbk⟩ | ⟨q, ⟨v, rfl⟩, hq, c, hi, hbk⟩ | ⟨hz, rfl, hi, hbk⟩)
      · have hl := bkL _ _ hbk
        have he := run_endLoop (P := Try.prog) hl (by rw [hrec]; simp)
        refine ⟨none, _, he.trans (by rw [hrec]), ?_⟩
        exact hdone _ _ (Nat.le_refl _) hz (hI.putObj _ hi (by omega) hl rfl) ((World.putObj_heap_other (by omega)).trans (bkD _ _ hbk))
      · have hl := bkL _ _ hbk
        have he := run_endLoop (P := Try.prog) hl (by rw [hrec]; simp)
        refine ⟨some c, _, he.trans (by rw [hrec]), ?_⟩
        exact hstop _ c q _ (Nat.le_refl _) hq ((hIx c).putObj _ hi (by omega) hl rfl) ((World.putObj_heap_other (by omega)).trans (bkD _ _ hbk))
      · exact hthrow _ W2 (Nat.le_refl _) hz hi (bkD _ _ hbk)
end Go.Proofs.Ytpajcalfjfkogaa.Pl

namespace Go.Proofs.Ytpajcalfjfkogaa.Pl
open Go.RowKit Go.Shelf
attribute [local go_sem] Oper.semAt_some

theorem assert_none (w : World) : (Instr.typeAssert .nilIface 20 27 true).run Try.prog w = .ok (.tuple #[.int .i64 0, .bool false]) w := by kernel_rfl
theorem assert_errno (w : World) (f : Nat) : (Instr.typeAssert (.iface 27 (.int .i64 f)) 20 27 true).run Try.prog w = .ok (.tuple #[.int .i64 f, .bool true]) w := by kernel_rfl

theorem catch_idle (b c n : Nat) (w : World) :
    CallsDIn Fence.wide n Try.prog 82 #[.pointer (some ⟨b, 0, none⟩), .pointer (some ⟨c, 0, none⟩)] .returning w fun e u' w' => e = .returned (.tuple #[]) ∧ u' = .returning ∧ w' = w := by
  refine callsDIn_of_wpSIn Try.func82 rfl trivial fun c₀ cs hu => ?_
  apply wpSIn_seq
  apply wpSIn_region
  simp [wpOpsSIn, go_sem, recoverD, hu, Try.ntmps82, Exit.thenS, assert_none]
  apply wpSIn_seq
  apply wpSIn_region
  simp [wpOpsSIn, go_sem, Exit.thenS]
  refine wpSIn_cond (t := false) (by simp [Act.eval, Array.replicate]) ?_
  simp only [Bool.false_eq_true, if_false]
  refine wpSIn_of_wpIn rfl (wpIn_skip ?_)
  cases c₀
  simp_all [bodyPostS, results, Try.results82]
theorem catch_thrown (b c n f : Nat) (w : World) (u v : Value) (hbc : c ≠ b) (hb : Boxed w b 3 u) (hc : Boxed w c 27 v) :
    CallsDIn Fence.wide n Try.prog 82 #[.pointer (some ⟨b, 0, none⟩), .pointer (some ⟨c, 0, none⟩)] (.panicking [{ v := .iface 27 (.int .i64 f), recovered := false }]) w fun e u' w' =>
      e = .returned (.tuple #[]) ∧ u' = .panicking [{ v := .iface 27 (.int .i64 f), recovered := true }] ∧ w' = (w.setCell ⟨b, 0, none⟩ (.int .i64 0)).setCell ⟨c, 0, none⟩ (.int .i64 f) := by
  have hb1 := hb.cell
  have hb2 := hb.frozen
  have hc0 := hc.other (B' := b) hbc (.int .i64 0)
  have hc1 := hc0.cell
  have hc2 := hc0.frozen
  refine callsDIn_of_wpSIn Try.func82 rfl trivial fun c₀ cs hu => ?_
  apply wpSIn_seq
  apply wpSIn_region
  simp [wpOpsSIn, go_sem, recoverD, hu, Try.ntmps82, Exit.thenS, assert_errno]
  apply wpSIn_seq
  apply wpSIn_region
  simp [wpOpsSIn, go_sem, Exit.thenS]
  refine wpSIn_cond (t := true) (by simp [Act.eval, Array.replicate]) ?_
  simp only [if_true]
  apply wpSIn_region
  simp [wpOpsSIn, go_sem, hb1, hb2, hc1, hc2, bodyPostS, results, Try.results82, Array.replicate]

/-- The last place's end. -/
def lastH (l : List Pl6) : Nat := (l.getLast?.map (·.head)).getD 0
theorem lastH_snoc (l : List Pl6) (p : Pl6) : lastH (l ++ [p]) = p.head := by simp [lastH]
theorem vis_front (s : ByteArray) : frontP (bl s) = if (vis s).2.2 = 0 then (if 16384 < lastH (vis s).1 then (0, 5) else (lastH (vis s).1, 0)) else (0, (vis s).2.2) := by
  have h := vis_read (bl s) 16 0
  rw [List.drop_zero] at h
  have hl := vis_last (bl s) 16 0
  unfold vis frontP
  by_cases h0 : (readP 16 (bl s)).2 = 0
  · rw [if_pos h0] at h
    have h2 : (visP (bl s) 16 0).2.2 = 0 := by rw [h]
    obtain ⟨q, p, e1, e2⟩ := hl h2
    rw [if_pos h0, if_pos h2, e1, lastH_snoc, e2, h, Nat.zero_add]
    split
    · rfl
    · exact Prod.ext rfl h0
  · rw [if_neg h0] at h
    have h2 : (visP (bl s) 16 0).2.2 = (readP 16 (bl s)).2 := by rw [h]
    rw [if_neg h0, if_neg (by rw [h2]; exact h0), h2]
theorem lastH_le (s : ByteArray) (q : List Pl6) (h : q <+: (vis s).1) : lastH q ≤ s.size := by
  have hk := (vis_ok (bl s) 16 0 (Nat.le_refl _) (Nat.zero_le _)).1
  rcases List.eq_nil_or_concat q with rfl | ⟨r, p, rfl⟩
  · simp [lastH]
  · rw [List.concat_eq_append, lastH_snoc]
    have := (hk p (h.subset (by simp))).2.1
    rwa [bl_length] at this
theorem vis_any (s : ByteArray) (p : Pl6) (q : List Pl6) (h : q ++ [p] <+: (vis s).1) : okPl (bl s) p :=
  (vis_ok (bl s) 16 0 (Nat.le_refl _) (Nat.zero_le _)).1 p (h.subset (by simp))

/-- What Read's results hold while it goes over the places. -/
def ReadI (w : World) (pre : List Pl6) (W : World) : Prop := (Boxed W w.heap.size 3 (.int .i64 (lastH pre)) ∧ Boxed W (w.heap.size + 1) 27 (.int .i64 0)) ∧ Below w.heap.size w W
theorem readI_own (w : World) (B : Nat) (h : w.heap.size ≤ B) : OwnFrom B (ReadI w) :=
  OwnFrom.and (OwnFrom.and (Own.from (boxed_own _ _ _) _) (Own.from (boxed_own _ _ _) _)) (ownFrom_below (Nat.le_refl _) h)

/-- A round's variable: a place in a block of its own. -/
def PlAx (B : Nat) (mk : Nat → Pl6 → Act) (x : Pl6) (a' : Act) (W : World) : Prop := ∃ b, B ≤ b ∧ W.heap[b]? = some (Obj.cells (cellsPl x) 121 (0, 0)) ∧ a' = mk b x
theorem plAx_own (B : Nat) (mk : Nat → Pl6 → Act) (C : Nat) (x : Pl6) (a' : Act) : OwnFrom C (fun (_ : Unit) W => PlAx B mk x a' W) := by
  intro s' X Y row hs' hg hr
  obtain ⟨b, h1, h2, h3⟩ := hs'
  refine ⟨b, h1, ?_, h3⟩
  refine (hg.block b (Array.getElem?_eq_some_iff.1 h2).1 (fun e => ?_)).trans h2
  obtain ⟨o, ho, hcl⟩ := (hr b e.symm).2
  rw [h2] at ho; cases ho; cases hcl
theorem KeepP.setBox {W : World} {B : Nat} {t : TypeId} {u : Value} (h : Boxed W B t u) (ht : t ≠ 121) (v : Value) : KeepP W (W.setCell ⟨B, 0, none⟩ v) :=
  ⟨(KeepsOthers.setCell W ⟨B, 0, none⟩ v).size, fun b cs hb => (Below.heap_setCell W ⟨B, 0, none⟩ v b (fun e => by
    have e' : b = B := e
    subst e'
    rw [show W.heap[b]? = _ from h] at hb
    cases hb
    exact ht rfl)).trans hb⟩
theorem place_cells {W : World} {b : Nat} {x : Pl6} (h : W.heap[b]? = some (Obj.cells (cellsPl x) 121 (0, 0))) :
    W.cell? ⟨b, 0, none⟩ = some (.int .i64 x.at_) ∧ W.cell? ⟨b, 1, none⟩ = some (.int .i64 x.dep) ∧ W.cell? ⟨b, 2, none⟩ = some (.int .i64 x.head) ∧ W.cell? ⟨b, 3, none⟩ = some (.int .i64 x.parts) := by
  refine ⟨?_, ?_, ?_, ?_⟩ <;> simp [World.cell?, h, cellsPl]

/-- The deferred call of Read. -/
abbrev readDef (B : Nat) : Deferred := { target := .fn (.func 82) #[.pointer (some ⟨B, 0, none⟩), .pointer (some ⟨B + 1, 0, none⟩)], args := #[] }
def ReadPost (w : World) (n e : Nat) (x : Ending) (w' : World) : Prop := x = .returned (.tuple #[.int .i64 n, .int .i64 e]) ∧ Below w.heap.size w w'
theorem read_results (w V : World) (n e : Nat) (tmps : Array Value) (h2 : tmps.getD 2 undef = .pointer (some ⟨w.heap.size, 0, none⟩)) (h3 : tmps.getD 3 undef = .pointer (some ⟨w.heap.size + 1, 0, none⟩))
    (bN : Boxed V w.heap.size 3 (.int .i64 n)) (bE : Boxed V (w.heap.size + 1) 27 (.int .i64 e)) :
    (results Try.f54 tmps).run Try.prog V = .ok (.tuple #[.int .i64 n, .int .i64 e]) V := by
  have c1 := bN.cell
  have c2 := bE.cell
  have h2' : tmps[2]?.getD undef = .pointer (some ⟨w.heap.size, 0, none⟩) := by simpa using h2
  have h3' : tmps[3]?.getD undef = .pointer (some ⟨w.heap.size + 1, 0, none⟩) := by simpa using h3
  simp [results, Try.results54, go_sem, h2', h3', c1, c2, asAddr]
theorem read_leave (w V : World) (n e D : Nat) (hDD : w.heap.size + 2 ≤ D) (hD : V.heap[D]? = some (.deferred (some []))) (tmps : Array Value) (h2 : tmps.getD 2 undef = .pointer (some ⟨w.heap.size, 0, none⟩)) (h3 : tmps.getD 3 undef = .pointer (some ⟨w.heap.size + 1, 0, none⟩))
    (bN : Boxed V w.heap.size 3 (.int .i64 n)) (bE : Boxed V (w.heap.size + 1) 27 (.int .i64 e)) (hb : Below w.heap.size w V) :
    LeavesInM Fence.wide 5 Try.prog Try.f54 tmps (ReadPost w n e) [markOf D, readDef w.heap.size] .returning V := by
  refine ⟨by simp, .inl ⟨D, _, rfl, run_takeDeferred hD, ?_⟩⟩
  have bN' : Boxed (V.putObj D (.deferred none)) w.heap.size 3 (.int .i64 n) := (World.putObj_heap_other (by omega)).trans bN
  have bE' : Boxed (V.putObj D (.deferred none)) (w.heap.size + 1) 27 (.int .i64 e) := (World.putObj_heap_other (by omega)).trans bE
  have hb' : Below w.heap.size w (V.putObj D (.deferred none)) := hb.grown (grownBy_putObj' V D _) hb.size (fun k e => by cases e; omega)
  refine ⟨by simp, .inr ⟨hdd _, _, _, 82, #[.pointer (some ⟨w.heap.size, 0, none⟩), .pointer (some ⟨w.heap.size + 1, 0, none⟩)], rfl, by simp [invoke, go_sem], fun g _ => trivial, ?_⟩⟩
  refine (catch_idle _ _ _ _).mono ?_
  rintro x u' w' ⟨rfl, rfl, rfl⟩
  exact ⟨_, read_results w _ n e tmps h2 h3 bN' bE', rfl, hb'⟩
theorem read_thrown (w V : World) (n e f D : Nat) (hDD : w.heap.size + 2 ≤ D) (hD : V.heap[D]? = some (.deferred (some []))) (tmps : Array Value) (h2 : tmps.getD 2 undef = .pointer (some ⟨w.heap.size, 0, none⟩)) (h3 : tmps.getD 3 undef = .pointer (some ⟨w.heap.size + 1, 0, none⟩))
    (bN : Boxed V w.heap.size 3 (.int .i64 n)) (bE : Boxed V (w.heap.size + 1) 27 (.int .i64 e)) (hb : Below w.heap.size w V) :
    LeavesInM Fence.wide 5 Try.prog Try.f54 tmps (ReadPost w 0 f) [markOf D, readDef w.heap.size] (.panicking [{ v := .iface 27 (.int .i64 f), recovered := false }]) V := by
  refine ⟨by simp, .inl ⟨D, _, rfl, run_takeDeferred hD, ?_⟩⟩
  have bN' : Boxed (V.putObj D (.deferred none)) w.heap.size 3 (.int .i64 n) := (World.putObj_heap_other (by omega)).trans bN
  have bE' : Boxed (V.putObj D (.deferred none)) (w.heap.size + 1) 27 (.int .i64 e) := (World.putObj_heap_other (by omega)).trans bE
  have hb' : Below w.heap.size w (V.putObj D (.deferred none)) := hb.grown (grownBy_putObj' V D _) hb.size (fun k e => by cases e; omega)
  refine ⟨by simp, .inr ⟨hdd _, _, _, 82, #[.pointer (some ⟨w.heap.size, 0, none⟩), .pointer (some ⟨w.heap.size + 1, 0, none⟩)], rfl, by simp [invoke, go_sem], fun g _ => trivial, ?_⟩⟩
  refine (catch_thrown _ _ _ f _ _ _ (by omega) bN' bE').mono ?_
  rintro x u' w' ⟨rfl, rfl, rfl⟩
  have bN2 := (bN'.set (.int .i64 0)).other (B' := w.heap.size + 1) (by omega) (.int .i64 f)
  have bE2 := (bE'.other (B' := w.heap.size) (by omega) (.int .i64 0)).set (.int .i64 f)
  refine ⟨_, read_results w _ 0 f tmps h2 h3 bN2 bE2, rfl, ?_⟩
  exact (hb'.setCell (p := ⟨w.heap.size, 0, none⟩) (Nat.le_refl _) _).setCell (p := ⟨w.heap.size + 1, 0, none⟩) (Nat.le_succ _) _

abbrev readAct (s : ByteArray) (B b : Nat) (x : Pl6) : Act :=
  { tmps := #[.string s, undef, .pointer (some ⟨B, 0, none⟩), .pointer (some ⟨B + 1, 0, none⟩), .pointer (some ⟨b, 0, none⟩), .func (.func 82) #[] #[.pointer (some ⟨B, 0, none⟩), .pointer (some ⟨B + 1, 0, none⟩)], .string s, .func (.func 101) #[] #[.pointer (some ⟨B + 1 + 1, 0, none⟩)], encPl x, undef, undef, undef, undef, undef], defers := [] }

set_option maxRecDepth 100000 in
set_option maxHeartbeats 4000000 in
theorem read6_any (s : ByteArray) (hs : s.size ≤ 281474976710656) (w : World) :
    Calls Try.prog 54 #[.string s] w fun e w' => e = .returned (.tuple #[.int .i64 (frontP (bl s)).1, .int .i64 (frontP (bl s)).2]) ∧ Below w.heap.size w w' := by
  have hmf : ∀ (fn : Fn) (first cap : Array Value) (w : World), (Instr.makeFunc fn first cap).run Try.prog w = .ok (.func fn first cap) w := fun _ _ _ _ => rfl
  refine (callsIn_wide (n := 5)).1 ?_
  refine callsIn_of_wp_marks Try.func54 rfl trivial ?_ rfl
  simp only [Try.ntmps54, List.size_toArray, List.length_cons, List.length_nil, Nat.reduceAdd, Nat.reduceSub, Array.replicate_succ, Array.replicate_zero, List.push_toArray, List.append_toArray, List.nil_append, List.cons_append]
  gi_wp2_with (refine ⟨trivial, ?_⟩; gi_at_call 83; refine (callsIn_wide.2 (places_in s _)).mono ?_; rintro e w1 ⟨rfl, rfl⟩)
  obtain ⟨W0, hW0⟩ : ∃ W0, ((w.alloc (.cells #[.int .i64 0] 3)).alloc (.cells #[.int .i64 0] 27)).alloc (.cells #[.string s] 9) = W0 := ⟨_, rfl⟩
  have bN : Boxed W0 w.heap.size 3 (.int .i64 0) := by rw [← hW0]; exact ((Boxed.new w _ _).alloc _).alloc _
  have bE : Boxed W0 (w.heap.size + 1) 27 (.int .i64 0) := by rw [← hW0]; have h := (Boxed.new (w.alloc (.cells #[.int .i64 0] 3)) 27 (.int .i64 0)).alloc (.cells #[.string s] 9); simpa using h
  have bS : Boxed W0 (w.heap.size + 2) 9 (.string s) := by rw [← hW0]; have h := Boxed.new ((w.alloc (.cells #[.int .i64 0] 3)).alloc (.cells #[.int .i64 0] 27)) 9 (.string s); simpa using h
  have hB0 : Below w.heap.size w W0 := by rw [← hW0]; exact (((Below.refl _ w).alloc (Nat.le_refl _) _).alloc (by simp) _).alloc (by simp; omega) _
  have hsz : W0.heap.size = w.heap.size + 3 := by rw [← hW0]; simp
  rw [hW0]
  clear hW0
  refine wpIn_places s hs (w.heap.size + 2) bS rfl (ReadI w) (fun _ _ _ => False) (readI_own w _ (by omega)) (fun c => fun _ _ _ _ h _ _ => h) ⟨⟨bN, bE⟩, hB0⟩
    (PlAx (w.heap.size + 2) (readAct s w.heap.size)) (plAx_own _ _ _) ?assign ?body ?done ?stop ?throw
  case assign =>
    intro m l pre x W K hi hK
    have hzr := Lib.hid hK
    clear hK
    unfold encPl cellsPl
    gi_wp2
    have hlt := hi.1.2.lt
    exact hzr.out _ _ ((KeepsOthers.alloc _ _).from _) (KeepP.alloc _ _) ((readI_own w W0.heap.size (by omega)).alloc _ hi) ⟨W.heap.size, by omega, World.alloc_heap_new _ _, rfl⟩
  case body =>
    rintro m l pre x a' W hl hi ⟨b, hb, hbx, rfl⟩ hpre
    have hx2 := (place_cells hbx).2.2.1
    have hc := hi.1.1.cell
    have hf := hi.1.1.frozen
    have HI := Lib.hid hi
    have HX := Lib.hid hbx
    clear hi hbx hpre bN bE bS
    unfold readAct
    gi_wp2
    obtain ⟨⟨b1, b2⟩, b3⟩ := HI.out
    refine ⟨(KeepsOthers.setCell _ _ _).from _, KeepP.setBox b1 (by decide) _, ⟨?_, b2.other (by omega) _⟩, b3.setCell (p := ⟨w.heap.size, 0, none⟩) (Nat.le_refl _) _⟩
    rw [lastH_snoc]
    exact b1.set _
  case done =>
    rintro D W hD hz ⟨⟨b1, b2⟩, b3⟩ hK
    have hfr := vis_front s
    rw [if_pos hz] at hfr
    have hle := lastH_le s _ (List.prefix_refl _)
    have hDD : w.heap.size + 2 ≤ D := by omega
    have hc := b1.cell
    have hf := b1.frozen
    have hce := b2.cell
    have hfe := b2.frozen
    have HL := Lib.hid hle
    generalize lastH (vis s).1 = n at *
    clear bN bE bS hz hle hB0 hD hsz
    by_cases hn : 16384 < n
    · rw [if_pos hn] at hfr
      have hn' : (16384 : Int) < (n : Int) := by omega
      have B1 := Lib.hid b1
      have B2 := Lib.hid b2
      have B3 := Lib.hid b3
      have HK := Lib.hid hK
      have c2 := (b2.other (B' := w.heap.size) (by omega) (.int .i64 0)).cell
      have f2 := (b2.other (B' := w.heap.size) (by omega) (.int .i64 0)).frozen
      clear hn b1 b2 b3 hK
      gi_wp2
      try rw [hfr]
      refine read_leave w _ 0 5 D hDD ?_ _ rfl rfl ((B1.out.set _).other (by omega) _) ((B2.out.other (by omega) _).set _) ((B3.out.setCell (p := ⟨w.heap.size, 0, none⟩) (Nat.le_refl _) _).setCell (p := ⟨w.heap.size + 1, 0, none⟩) (Nat.le_succ _) _)
      exact ((KeepsOthers.setCell _ _ _).same _ _ ((KeepsOthers.setCell _ _ _).same _ _ HK.out rfl) rfl)
    · rw [if_neg hn] at hfr
      have hn' : ¬ (16384 : Int) < (n : Int) := by omega
      have B1 := Lib.hid b1
      have B2 := Lib.hid b2
      have B3 := Lib.hid b3
      have HK := Lib.hid hK
      have c2 := (b2.other (B' := w.heap.size) (by omega) (.int .i64 n)).cell
      have f2 := (b2.other (B' := w.heap.size) (by omega) (.int .i64 n)).frozen
      clear hn b1 b2 b3 hK
      gi_wp2
      try rw [hfr]
      refine read_leave w _ n 0 D hDD ?_ _ rfl rfl ((B1.out.set _).other (by omega) _) ((B2.out.other (by omega) _).set _) ((B3.out.setCell (p := ⟨w.heap.size, 0, none⟩) (Nat.le_refl _) _).setCell (p := ⟨w.heap.size + 1, 0, none⟩) (Nat.le_succ _) _)
      exact ((KeepsOthers.setCell _ _ _).same _ _ ((KeepsOthers.setCell _ _ _).same _ _ HK.out rfl) rfl)
  case stop =>
    rintro D c pre W hD hq h hK
    exact h.elim
  case throw =>
    rintro D W hD hz ⟨⟨b1, b2⟩, b3⟩ hK
    have hfr := vis_front s
    rw [if_neg hz] at hfr
    gi_wp2
    try rw [hfr]
    exact read_thrown w W _ _ _ D (by omega) hK _ rfl rfl b1 b2 b3
end Go.Proofs.Ytpajcalfjfkogaa.Pl

namespace Go.Proofs.Ytpajcalfjfkogaa.Pl
open Go.RowKit

theorem front_len (s : ByteArray) (h0 : (frontP (bl s)).2 = 0) : (frontP (bl s)).1 ≤ s.size := by
  obtain ⟨t, _, h1, h2⟩ := front_sound (s := bl s) (n := (frontP (bl s)).1) (by rw [← h0])
  have h3 := congrArg List.length h2
  rw [List.length_append, bl_length] at h3
  omega
set_option maxRecDepth 100000 in
theorem check_any (s : ByteArray) (hs : s.size ≤ 281474976710656) (w : World) :
    Calls Try.prog 27 #[.string s] w fun e w' => e = .returned (.int .i64 (checkP (bl s))) ∧ Below w.heap.size w w' := by
  have HC := Lib.hid (fun V => read6_any s hs V)
  obtain ⟨z, hz⟩ : ∃ z, z = checkP (bl s) := ⟨_, rfl⟩
  have hle : (frontP (bl s)).2 = 0 → (frontP (bl s)).1 ≤ s.size := fun h0 => by
    exact front_len s h0
  rw [← hz]
  unfold checkP at hz
  rw [bl_length] at hz
  generalize frontP (bl s) = r at *
  obtain ⟨m, f⟩ := r
  simp only at hz hle
  by_cases hf : f = 0
  · subst hf
    rw [if_pos rfl] at hz
    have hle := hle rfl
    by_cases hm : m = s.size
    · have HZ := Lib.hid (hz.trans (if_pos hm))
      have q : ¬ (m : Int) < (s.size : Int) := by omega
      clear hz hm hs hle
      go_enter Try.func27, Try.ntmps27
      go_wp2_with (go_at_call 54; refine (HC.out _).mono ?_; rintro e w1 ⟨rfl, b1⟩)
      go_ret
      exact ⟨by rw [HZ.out]; rfl, b1⟩
    · have HZ := Lib.hid (hz.trans (if_neg hm))
      have q : (m : Int) < (s.size : Int) := by omega
      clear hz hm hs hle
      go_enter Try.func27, Try.ntmps27
      go_wp2_with (go_at_call 54; refine (HC.out _).mono ?_; rintro e w1 ⟨rfl, b1⟩)
      go_ret
      exact ⟨by rw [HZ.out]; rfl, b1⟩
  · have HZ := Lib.hid (hz.trans (if_neg hf))
    have qf : ((f : Int) == 0) = false := by rw [beq_eq_false_iff_ne]; omega
    clear hz hf hs hle
    go_enter Try.func27, Try.ntmps27
    go_wp2_with (go_at_call 54; refine (HC.out _).mono ?_; rintro e w1 ⟨rfl, b1⟩)
    go_ret
    exact ⟨by rw [HZ.out]; rfl, b1⟩

set_option maxHeartbeats 1000000 in
set_option maxRecDepth 100000 in
theorem are_any (l : List ByteArray) (ao : Option Addr) (cap : Nat) (hl : l.length ≤ 281474976710656) (hx : ∀ x ∈ l, x.size ≤ 281474976710656) (w : World) (hrow : TxtRow w ao l) (r : Bool) (hr : r = true ↔ ∀ x ∈ l, checkP (bl x) = 0) :
    Calls Try.prog 60 #[.slice ao l.length cap] w fun e w' => e = .returned (.bool r) ∧ Below w.heap.size w w' := by
  have HROW := Lib.hid hrow
  have HNO : Hid (∀ k, k < l.length → checkP (bl (l.getD k ByteArray.empty)) ≠ 0 → r = false) := Lib.hid (fun k hk e => by
    cases er : r with
    | false => rfl
    | true => exact absurd (hr.1 er _ (getD_mem6 l k hk)) e)
  have HIN : Hid ((∀ k, k < l.length → checkP (bl (l.getD k ByteArray.empty)) = 0) → r = true) := Lib.hid (fun h => hr.2 (fun x hx => by
    obtain ⟨k, hk, rfl⟩ := mem_getD6 hx
    exact h k hk))
  have HX : Hid (∀ k, k < l.length → (l.getD k ByteArray.empty).size ≤ 281474976710656) := Lib.hid (fun k hk => hx _ (getD_mem6 l k hk))
  obtain ⟨n, hn⟩ : ∃ n, n = l.length := ⟨_, rfl⟩
  have HN := Lib.hid hn
  rw [← hn] at hl ⊢
  clear hrow hr hn hx
  go_enter Try.func60, Try.ntmps60
  go_wp2_with fail
  go_loopw [7] (fun iv wr => ∃ k : Nat, iv = .int .i64 k ∧ k ≤ n ∧ Hid (∀ j, j < k → checkP (bl (l.getD j ByteArray.empty)) = 0) ∧ Hid (Below w.heap.size w wr)) (fun iv _ => n - (intOf iv).toNat)
  case atStart => exact ⟨0, rfl, Nat.zero_le _, Lib.hid (fun j hj => absurd hj (Nat.not_lt_zero j)), Lib.hid (Below.refl _ _)⟩
  case round =>
    obtain ⟨k, rfl, hkn, hch, hb⟩ := hrel
    by_cases hk : k < n
    · have hk' : (k : Int) < (n : Int) := by omega
      rcases HROW.out.below hb.out with e | ⟨b, off, rfl, hlt, hc⟩
      · exfalso; have := HN.out; rw [e] at this; simp at this; omega
      have ck := hc k (by have := HN.out; omega)
      have HK := Lib.hid (HNO.out k (by have := HN.out; omega))
      have HC := Lib.hid (fun V => check_any (l.getD k ByteArray.empty) (HX.out k (by have := HN.out; omega)) V)
      have HY : Hid (checkP (bl (l.getD k ByteArray.empty)) = 0 → ∀ j, j < k + 1 → checkP (bl (l.getD j ByteArray.empty)) = 0) := Lib.hid (fun h j hj => by
        by_cases e : j = k
        · rw [e]; exact h
        · exact hch.out j (by omega))
      generalize l.getD k ByteArray.empty = y at *
      generalize checkP (bl y) = c at *
      clear hc hlt
      by_cases e : c = 0
      · subst e
        have HQ := Lib.hid (HY.out rfl)
        go_wp2_with (go_at_call 27; refine (HC.out _).mono ?_; rintro e w1 ⟨rfl, b1⟩)
        go_roundw
        case rel => exact ⟨k + 1, by go_num, by omega, HQ, Lib.hid (below_step hb.out b1)⟩
        case measure => simp [intOf]; omega
      · have q : ((c : Int) != 0) = true := by rw [bne_iff_ne]; omega
        have HQ := Lib.hid (HK.out e)
        clear e
        go_wp2_with (go_at_call 27; refine (HC.out _).mono ?_; rintro e w1 ⟨rfl, b1⟩)
        go_ret
        exact ⟨ret6_bool HQ.out.symm, below_step hb.out b1⟩
    · obtain rfl : k = n := by omega
      have HQ := Lib.hid (HIN.out (fun j hj => hch.out j (by have := HN.out; omega)))
      clear hk hkn
      go_wp2_with fail
      go_ret
      exact ⟨ret6_bool HQ.out.symm, hb.out⟩

theorem valid6_any (s : ByteArray) (hs : s.size ≤ 281474976710656) (w : World) :
    Calls Try.prog 61 #[.string s] w fun e w' => e = .returned (st2 (if checkP (bl s) = 0 then (bl s, 0) else ([], 5))) ∧ Below w.heap.size w w' := by
  have HC := Lib.hid (fun V => check_any s hs V)
  generalize checkP (bl s) = c at *
  by_cases h : c = 0
  · subst h
    rw [if_pos rfl]
    go_enter Try.func61, Try.ntmps61
    go_wp2_with (go_at_call 27; refine (HC.out _).mono ?_; rintro e w1 ⟨rfl, b1⟩)
    go_ret2
    exact ⟨rfl, b1⟩
  · have q : ((c : Int) != 0) = true := by rw [bne_iff_ne]; omega
    rw [if_neg h]
    clear h
    go_enter Try.func61, Try.ntmps61
    go_wp2_with (go_at_call 27; refine (HC.out _).mono ?_; rintro e w1 ⟨rfl, b1⟩)
    go_ret2
    exact ⟨rfl, b1⟩

/-- The letters. -/
def letterK (b : UInt8) : Nat := if b = 100 then 1 else if b = 97 then 2 else if b = 114 then 3 else if b = 104 then 4 else if b = 109 then 5 else if b = 115 then 6 else 0
set_option maxHeartbeats 1000000 in
set_option maxRecDepth 100000 in
theorem kind6_any (b : UInt8) (w : World) :
    Calls Try.prog 84 #[.string ⟨#[b]⟩] w fun e w' => e = .returned (.int .u8 (letterK b)) ∧ w' = w := by
  by_cases e100 : b = 100
  · subst e100
    go_enter Try.func84, Try.ntmps84
    go_wp2_with fail
    go_ret
    exact ⟨rfl, rfl⟩
  by_cases e97 : b = 97
  · subst e97
    go_enter Try.func84, Try.ntmps84
    go_wp2_with fail
    go_ret
    exact ⟨rfl, rfl⟩
  by_cases e114 : b = 114
  · subst e114
    go_enter Try.func84, Try.ntmps84
    go_wp2_with fail
    go_ret
    exact ⟨rfl, rfl⟩
  by_cases e104 : b = 104
  · subst e104
    go_enter Try.func84, Try.ntmps84
    go_wp2_with fail
    go_ret
    exact ⟨rfl, rfl⟩
  by_cases e109 : b = 109
  · subst e109
    go_enter Try.func84, Try.ntmps84
    go_wp2_with fail
    go_ret
    exact ⟨rfl, rfl⟩
  by_cases e115 : b = 115
  · subst e115
    go_enter Try.func84, Try.ntmps84
    go_wp2_with fail
    go_ret
    exact ⟨rfl, rfl⟩
  have HZ : Hid (letterK b = 0) := Lib.hid (by unfold letterK; simp [e100, e97, e114, e104, e109, e115])
  have lit : ∀ c : UInt8, (⟨#[c]⟩ : ByteArray).toList = [c] := fun c => by rw [Lib.toList_data]
  obtain ⟨n100, m100⟩ := str6_ne (a := ⟨#[b]⟩) (b := ⟨#[100]⟩) (fun h => e100 (by injection h with h; simpa using h))
  rw [lit 100] at n100 m100
  obtain ⟨n97, m97⟩ := str6_ne (a := ⟨#[b]⟩) (b := ⟨#[97]⟩) (fun h => e97 (by injection h with h; simpa using h))
  rw [lit 97] at n97 m97
  obtain ⟨n114, m114⟩ := str6_ne (a := ⟨#[b]⟩) (b := ⟨#[114]⟩) (fun h => e114 (by injection h with h; simpa using h))
  rw [lit 114] at n114 m114
  obtain ⟨n104, m104⟩ := str6_ne (a := ⟨#[b]⟩) (b := ⟨#[104]⟩) (fun h => e104 (by injection h with h; simpa using h))
  rw [lit 104] at n104 m104
  obtain ⟨n109, m109⟩ := str6_ne (a := ⟨#[b]⟩) (b := ⟨#[109]⟩) (fun h => e109 (by injection h with h; simpa using h))
  rw [lit 109] at n109 m109
  obtain ⟨n115, m115⟩ := str6_ne (a := ⟨#[b]⟩) (b := ⟨#[115]⟩) (fun h => e115 (by injection h with h; simpa using h))
  rw [lit 115] at n115 m115
  generalize (⟨#[b]⟩ : ByteArray) = sb at *
  rw [HZ.out]
  go_enter Try.func84, Try.ntmps84
  go_wp2_with fail
  go_ret
  exact ⟨rfl, rfl⟩

theorem kind_of {s : List UInt8} (h : checkP s = 0) : ∃ b r, s = b :: r ∧ kindP s = letterK b ∧ (letterK b = 1 ∨ letterK b = 2 → (rdt r 1024).2.2 = 0 ∧ textP s = ((rdt r 1024).1, true)) ∧
    (letterK b ≠ 1 → letterK b ≠ 2 → textP s = ([], false)) := by
  obtain ⟨t, ht, te⟩ := check_iff.1 h
  obtain ⟨hd, l⟩ := t
  have hg := ht.1
  simp only [Tm.good] at hg
  rw [Tm.enc_node] at te
  obtain ⟨c, hk⟩ := head_kind hg.1
  cases hk with
  | data t e1 e2 e3 =>
    refine ⟨100, txt t ++ encs l, by rw [← te, e1]; rfl, ?_, fun _ => ?_, fun h => absurd rfl h⟩
    · unfold kindP; rw [if_pos h, ← te, e1]; rfl
    · have hr := rdt_txt (t := t) (by rw [two64]; omega) (encs l) 1024 (by omega)
      refine ⟨by rw [hr], ?_⟩
      unfold textP
      rw [if_pos ⟨h, .inl (by rw [← te, e1]; rfl)⟩, ← te, e1]
      rfl
  | atom t e1 e2 e4 e3 =>
    refine ⟨97, txt t ++ encs l, by rw [← te, e1]; rfl, ?_, fun _ => ?_, fun _ h => absurd rfl h⟩
    · unfold kindP; rw [if_pos h, ← te, e1]; rfl
    · have hr := rdt_txt (t := t) (by rw [two64]; omega) (encs l) 1024 (by omega)
      refine ⟨by rw [hr], ?_⟩
      unfold textP
      rw [if_pos ⟨h, .inr (by rw [← te, e1]; rfl)⟩, ← te, e1]
      rfl
  | row v e1 e2 e3 =>
    refine ⟨114, enc v ++ encs l, by rw [← te, e1]; rfl, ?_, fun h => absurd h (by decide), fun _ _ => ?_⟩
    · unfold kindP; rw [if_pos h, ← te, e1]; rfl
    · unfold textP; rw [if_neg (by rintro ⟨_, h | h⟩ <;> (rw [← te, e1] at h; exact absurd h (by simp)))]
  | hash e1 e3 =>
    refine ⟨104, encs l, by rw [← te, e1]; rfl, ?_, fun h => absurd h (by decide), fun _ _ => ?_⟩
    · unfold kindP; rw [if_pos h, ← te, e1]; rfl
    · unfold textP; rw [if_neg (by rintro ⟨_, h | h⟩ <;> (rw [← te, e1] at h; exact absurd h (by simp)))]
  | mac e1 e3 =>
    refine ⟨109, encs l, by rw [← te, e1]; rfl, ?_, fun h => absurd h (by decide), fun _ _ => ?_⟩
    · unfold kindP; rw [if_pos h, ← te, e1]; rfl
    · unfold textP; rw [if_neg (by rintro ⟨_, h | h⟩ <;> (rw [← te, e1] at h; exact absurd h (by simp)))]
  | seal_ e1 e3 =>
    refine ⟨115, encs l, by rw [← te, e1]; rfl, ?_, fun h => absurd h (by decide), fun _ _ => ?_⟩
    · unfold kindP; rw [if_pos h, ← te, e1]; rfl
    · unfold textP; rw [if_neg (by rintro ⟨_, h | h⟩ <;> (rw [← te, e1] at h; exact absurd h (by simp)))]
theorem kind_no {s : List UInt8} (h : checkP s ≠ 0) : kindP s = 0 ∧ textP s = ([], false) := by
  unfold kindP textP
  exact ⟨if_neg h, if_neg (fun e => h e.1)⟩

/-- One text in a row of its own. -/
theorem are1_any (s : ByteArray) (hs : s.size ≤ 281474976710656) (w : World) :
    Calls Try.prog 60 #[.slice (some ⟨w.heap.size, 0, none⟩) 1 1] (w.alloc (.cells #[.string s] 9)) fun e w' => e = .returned (.bool (checkP (bl s) == 0)) ∧ Below w.heap.size w w' :=
  (are_any [s] (some ⟨w.heap.size, 0, none⟩) 1 (by simp) (fun x hx => by simp at hx; rw [hx]; exact hs) _ (row1 w s) (checkP (bl s) == 0) (by simp)).mono (fun e w' h => ⟨h.1, below_step ((Below.refl _ _).alloc (Nat.le_refl _) _) h.2⟩)
theorem tslice_to (x : ByteArray) (b : Nat) (h2 : b ≤ x.size) (V : World) : (Instr.sliceAt 9 (.string x) none (some (.int .i64 (b : Int))) none).run Try.prog V = .ok (.string (x.extract 0 b)) V := by
  have h1 : (0 : Int) ≤ (b : Int) := by omega
  have h3 : (b : Int) ≤ (x.size : Int) := by omega
  go_simp

set_option maxHeartbeats 1000000 in
set_option maxRecDepth 100000 in
theorem tkind_any (s : ByteArray) (hs : s.size ≤ 281474976710656) (w : World) :
    Calls Try.prog 55 #[.string s] w fun e w' => e = .returned (.int .u8 (kindP (bl s))) ∧ Below w.heap.size w w' := by
  have HA := Lib.hid (are1_any s hs w)
  by_cases hc : checkP (bl s) = 0
  · rw [may_yes hc] at HA
    obtain ⟨b, r, e1, e2, _⟩ := kind_of hc
    have hpos : 0 < s.size := by rw [size_bl, e1]; simp
    have h1 : s.extract 0 1 = ⟨#[b]⟩ := bl_inj (by rw [bl_extract, e1]; rfl)
    have sl : ∀ V : World, (Instr.sliceAt 9 (.string s) none (some (.int .i64 1)) none).run Try.prog V = .ok (.string ⟨#[b]⟩) V := fun V => by
      rw [← h1]; exact tslice_to s 1 hpos V
    have HK := Lib.hid (fun V => kind6_any b V)
    rw [e2]
    generalize letterK b = k at *
    generalize (⟨#[b]⟩ : ByteArray) = sb at *
    clear hc e1 e2 hpos h1 hs
    go_enter Try.func55, Try.ntmps55
    go_wp2_with (first | (go_at_call 60; refine HA.out.mono ?_; rintro e w1 ⟨rfl, b1⟩) | (go_at_call 84; refine (HK.out _).mono ?_; rintro e w2 ⟨rfl, rfl⟩))
    go_ret
    exact ⟨rfl, b1⟩
  · rw [may_no hc] at HA
    rw [(kind_no hc).1]
    clear hc
    go_enter Try.func55, Try.ntmps55
    go_wp2_with (first | (go_at_call 60; refine HA.out.mono ?_; rintro e w1 ⟨rfl, b1⟩))
    go_ret
    exact ⟨rfl, b1⟩

end Go.Proofs.Ytpajcalfjfkogaa.Pl

namespace Go.Proofs.Ytpajcalfjfkogaa.Pl
open Go.RowKit

set_option maxRecDepth 100000 in
theorem data6_any (s : ByteArray) (hs : s.size ≤ 281474976710656) (w : World) :
    Calls Try.prog 19 #[.string s] w fun e w' => e = .returned (st2 (dataP (bl s))) ∧ Below w.heap.size w w' := by
  by_cases h : 1024 < s.size
  · have HZ : Hid (dataP (bl s) = ([], 5)) := Lib.hid (by unfold dataP; rw [bl_length]; exact if_pos h)
    have h' : (1024 : Int) < (s.size : Int) := by omega
    clear h
    go_enter Try.func19, Try.ntmps19
    go_wp2_with fail
    go_ret2
    exact ⟨by rw [HZ.out]; rfl, Below.refl _ _⟩
  · have HZ : Hid (dataP (bl s) = (100 :: txt (bl s), 0)) := Lib.hid (by unfold dataP; rw [bl_length]; exact if_neg h)
    have h' : ¬ (1024 : Int) < (s.size : Int) := by omega
    have HT := Lib.hid (fun V => text_any s V hs)
    rw [text_list] at HT
    have hcat : (⟨#[100]⟩ : ByteArray).size + (⟨(txt s.data.toList).toArray⟩ : ByteArray).size ≤ 9223372036854775807 := by
      have h4 : (⟨(txt s.data.toList).toArray⟩ : ByteArray).size = (txt s.data.toList).length := size_lit _
      have := txt_le s.data.toList
      have h2 : s.data.toList.length = s.size := bl_length s
      have h3 : (⟨#[100]⟩ : ByteArray).size = 1 := rfl
      omega
    have HC : Hid ((⟨#[100]⟩ ++ ⟨(txt s.data.toList).toArray⟩ : ByteArray) = ⟨(100 :: txt (bl s)).toArray⟩) := Lib.hid (cat_front _ _)
    generalize (⟨(txt s.data.toList).toArray⟩ : ByteArray) = t at *
    clear h hs
    go_enter Try.func19, Try.ntmps19
    go_wp2_with (go_at_call 35; refine (HT.out _).mono ?_; rintro e w1 ⟨rfl, b1⟩)
    go_ret2
    exact ⟨by rw [HZ.out, st2, ← HC.out]; rfl, b1⟩

set_option maxRecDepth 100000 in
theorem atom6_any (s : ByteArray) (hs : s.size ≤ 281474976710656) (w : World) :
    Calls Try.prog 18 #[.string s] w fun e w' => e = .returned (st2 (atomP (bl s))) ∧ Below w.heap.size w w' := by
  have HN := Lib.hid (fun V => isname_any s hs V)
  by_cases h : 32 < s.size
  · have HZ : Hid (atomP (bl s) = ([], 5)) := Lib.hid (by unfold atomP; rw [bl_length]; exact if_pos h)
    have h' : (32 : Int) < (s.size : Int) := by omega
    clear h
    go_enter Try.func18, Try.ntmps18
    go_wp2_with fail
    go_ret2
    exact ⟨by rw [HZ.out]; rfl, Below.refl _ _⟩
  · have h' : ¬ (32 : Int) < (s.size : Int) := by omega
    cases hno : nameOK (bl s) with
    | false =>
      have HZ : Hid (atomP (bl s) = ([], 7)) := Lib.hid (by unfold atomP; rw [bl_length, if_neg h, if_pos hno])
      rw [hno] at HN
      clear h hs hno
      go_enter Try.func18, Try.ntmps18
      go_wp2_with (go_at_call 34; refine (HN.out _).mono ?_; rintro e w1 ⟨rfl, b1⟩)
      go_ret2
      exact ⟨by rw [HZ.out]; rfl, b1⟩
    | true =>
      have HZ : Hid (atomP (bl s) = (97 :: txt (bl s), 0)) := Lib.hid (by unfold atomP; rw [bl_length, if_neg h, if_neg (by rw [hno]; decide)])
      rw [hno] at HN
      have HT := Lib.hid (fun V => text_any s V hs)
      rw [text_list] at HT
      have hcat : (⟨#[97]⟩ : ByteArray).size + (⟨(txt s.data.toList).toArray⟩ : ByteArray).size ≤ 9223372036854775807 := by
        have h4 : (⟨(txt s.data.toList).toArray⟩ : ByteArray).size = (txt s.data.toList).length := size_lit _
        have := txt_le s.data.toList
        have h2 : s.data.toList.length = s.size := bl_length s
        have h3 : (⟨#[97]⟩ : ByteArray).size = 1 := rfl
        omega
      have HC : Hid ((⟨#[97]⟩ ++ ⟨(txt s.data.toList).toArray⟩ : ByteArray) = ⟨(97 :: txt (bl s)).toArray⟩) := Lib.hid (cat_front _ _)
      generalize (⟨(txt s.data.toList).toArray⟩ : ByteArray) = t at *
      clear h hs hno
      go_enter Try.func18, Try.ntmps18
      go_wp2_with (first | (go_at_call 34; refine (HN.out _).mono ?_; rintro e w1 ⟨rfl, b1⟩) | (go_at_call 35; refine (HT.out _).mono ?_; rintro e w2 ⟨rfl, b2⟩))
      go_ret2
      exact ⟨by rw [HZ.out, st2, ← HC.out]; rfl, below_step b1 b2⟩

set_option maxHeartbeats 1000000 in
set_option maxRecDepth 100000 in
theorem termat_any (s : ByteArray) (p : Nat) (hp : p ≤ s.size) (hs : s.size ≤ 281474976710656) (w : World) :
    Calls Try.prog 85 #[.string s, .int .i64 p] w fun e w' => e = .returned (.string (s.extract p (p + (frontP ((bl s).drop p)).1))) ∧ Below w.heap.size w w' := by
  have sl : ∀ V : World, (Instr.sliceAt 9 (.string s) (some (.int .i64 (p : Int))) none none).run Try.prog V = .ok (.string (s.extract p s.size)) V := tslice_from s p hp
  have hx : bl (s.extract p s.size) = (bl s).drop p := bl_from s p
  have hxl : (s.extract p s.size).size + p = s.size := by rw [size_bl, hx, List.length_drop, bl_length]; omega
  rw [← hx]
  generalize s.extract p s.size = x at *
  have hle : (frontP (bl x)).1 ≤ x.size := by
    by_cases h0 : (frontP (bl x)).2 = 0
    · exact front_len x h0
    · have : (frontP (bl x)).1 = 0 := by
        unfold frontP at h0 ⊢
        split
        · split
          · rfl
          · rename_i h1 h2; rw [if_pos h1, if_neg h2] at h0; exact absurd h1 h0
        · rfl
      omega
  have HR := Lib.hid (fun V => read6_any x (by omega) V)
  generalize frontP (bl x) = fr at *
  obtain ⟨n, f⟩ := fr
  simp only at hle ⊢
  have sl2 : ∀ V : World, (Instr.sliceAt 9 (.string s) (some (.int .i64 (p : Int))) (some (.int .i64 ((p : Int) + (n : Int)))) none).run Try.prog V = .ok (.string (s.extract p (p + n))) V := fun V => tslice_mid s p (p + n) (by omega) (by omega) V
  have HC := Lib.hid (fun V => clone_any (s.extract p (p + n)) V (by rw [size_bl, bl_extract, List.length_drop, List.length_take, bl_length]; omega))
  generalize s.extract p (p + n) = y at *
  clear hx
  go_enter Try.func85, Try.ntmps85
  go_wp2_with (first | (go_at_call 54; refine (HR.out _).mono ?_; rintro e w1 ⟨rfl, b1⟩) | (go_at_call 53; refine (HC.out _).mono ?_; rintro e w2 ⟨rfl, b2⟩))
  go_ret
  exact ⟨rfl, below_step b1 b2⟩

end Go.Proofs.Ytpajcalfjfkogaa.Pl

namespace Go.Proofs.Ytpajcalfjfkogaa.Pl
open Go.RowKit

theorem join_flat : ∀ l : List (List UInt8), Lib.join l [] = l.flatten := by
  intro l
  cases l with
  | nil => rfl
  | cons x r =>
    rw [Lib.join_cons]
    have : Lib.joinTail [] r = r.flatten := by
      unfold Lib.joinTail
      congr 1
      induction r with
      | nil => rfl
      | cons y r ih => simp
    rw [this]; rfl

theorem joined6_any (l : List ByteArray) (ao : Option Addr) (cap : Nat) (hcap : l.length ≤ cap) (hl : l.length ≤ 1000) (hx : ((l.map bl).flatten).length ≤ 100000) (w : World) (hrow : TxtRow w ao l) :
    Calls Try.prog 62 #[.slice ao l.length cap, .string ⟨#[]⟩] w fun e w' => e = .returned (.string ⟨((l.map bl).flatten).toArray⟩) ∧ Below w.heap.size w w' := by
  rcases hrow with rfl | ⟨b, off, rfl, hlt, hc⟩
  · exact (Try.strings_Join_none ao cap ⟨#[]⟩ w).mono (fun e w' h => ⟨h.1, by rw [h.2]; exact Below.refl _ _⟩)
  · have hj : Lib.join (l.map (·.data.toList)) (⟨#[]⟩ : ByteArray).data.toList = (l.map bl).flatten := join_flat _
    have h := Try.strings_Join b off cap l ⟨#[]⟩ w (fun j x hj => by
        have hlt : j < l.length := (List.getElem?_eq_some_iff.1 hj).1
        rw [hc j hlt, List.getD_eq_getElem?_getD, hj]; rfl) hlt (by omega) hcap (by rw [hj]; omega)
    rwa [hj] at h

set_option maxHeartbeats 2000000 in
set_option maxRecDepth 100000 in
theorem join6_any (front : ByteArray) (l : List ByteArray) (ao : Option Addr) (cap : Nat) (hcap : l.length ≤ cap) (hf : front.size ≤ 100) (hl : l.length ≤ 1000) (hx : ∀ x ∈ l, x.size ≤ 100000) (w : World) (hrow : TxtRow w ao l) :
    Calls Try.prog 36 #[.string front, .slice ao l.length cap] w fun e w' => e = .returned (st2 (madeP (bl front) (l.map bl))) ∧ Below w.heap.size w w' := by
  have HROW := Lib.hid hrow
  obtain ⟨z, hz⟩ : ∃ z, z = madeP (bl front) (l.map bl) := ⟨_, rfl⟩
  rw [← hz]
  unfold madeP at hz
  by_cases hall : ∀ x ∈ l, checkP (bl x) = 0
  · rw [if_pos (by intro x hx'; obtain ⟨y, hy, rfl⟩ := List.mem_map.1 hx'; exact hall y hy)] at hz
    have HA := Lib.hid (fun V hV => are_any l ao cap (by omega) (fun x h => Nat.le_trans (hx x h) (by decide)) V hV true (by simpa using hall))
    have HX : Hid (∀ k, k < l.length → (l.getD k ByteArray.empty).size ≤ 16384) := Lib.hid (fun k hk => by rw [size_bl]; exact check_len (hall _ (getD_mem6 l k hk)))
    have HCL : Hid (∀ k, (catL l k).length ≤ ((l.map bl).flatten).length) := Lib.hid (fun k => catL_le l k)
    have hbig : ∀ m : List ByteArray, (∀ x ∈ m, checkP (bl x) = 0) → ((m.map bl).flatten).length ≤ m.length * 16384 := by
      intro m
      induction m with
      | nil => intro _; simp
      | cons x m ih =>
        intro h
        have h1 := ih (fun y hy => h y (List.mem_cons_of_mem _ hy))
        have h2 := check_len (h x (List.mem_cons_self ..))
        rw [List.map_cons, List.flatten_cons, List.length_append, List.length_cons, Nat.succ_mul]
        omega
    have hbg := hbig l hall
    have hbg2 : ((l.map bl).flatten).length ≤ 16384000 := by omega
    have HALL : Hid (catL l l.length = (l.map bl).flatten) := Lib.hid (catL_all l _ (Nat.le_refl _))
    have HS : Hid (∀ k, k < l.length → catL l (k + 1) = catL l k ++ bl (l.getD k ByteArray.empty)) := Lib.hid (fun k hk => catL_succ l k hk)
    have HJ := Lib.hid (fun (h : ((l.map bl).flatten).length ≤ 100000) V hV => joined6_any l ao cap hcap hl h V hV)
    have hfl : (bl front ++ (l.map bl).flatten).length = front.size + ((l.map bl).flatten).length := by rw [List.length_append, bl_length]
    generalize (l.map bl).flatten = F at *
    obtain ⟨n, hn⟩ : ∃ n, n = l.length := ⟨_, rfl⟩
    have HN := Lib.hid hn
    rw [← hn] at HA HJ hl ⊢
    have HFL := Lib.hid hfl
    have HZ := Lib.hid hz
    have HBG := Lib.hid hbg2
    have HF := Lib.hid hf
    clear hall hx hrow hbig hbg hbg2 hn hfl hz hcap hf
    go_enter Try.func36, Try.ntmps36
    go_wp2_with (go_at_call 60; refine (HA.out _ HROW.out).mono ?_; rintro e w1 ⟨rfl, b1⟩)
    go_loopw [6, 16] (fun sv iv wr => ∃ k : Nat, sv = .int .i64 ((front.size + (catL l k).length : Nat) : Int) ∧ iv = .int .i64 k ∧ k ≤ n ∧ Hid (Below w.heap.size w wr)) (fun _ iv _ => n - (intOf iv).toNat)
    case atStart => exact ⟨0, by simp [catL_zero], rfl, Nat.zero_le _, Lib.hid b1⟩
    case round =>
      obtain ⟨k, rfl, rfl, hkn, hb⟩ := hrel
      have hsz : front.size + (catL l k).length ≤ 20000000 := by have := HCL.out k; have := HBG.out; have := HF.out; omega
      by_cases hk : k < n
      · have hk' : (k : Int) < (n : Int) := by omega
        rcases HROW.out.below hb.out with e | ⟨b, off, rfl, hlt, hc⟩
        · exfalso; have := HN.out; rw [e] at this; simp at this; omega
        have ck := hc k (by have := HN.out; omega)
        have hy := HX.out k (by have := HN.out; omega)
        have HST : Hid (front.size + (catL l (k + 1)).length = front.size + (catL l k).length + (l.getD k ByteArray.empty).size) := Lib.hid (by rw [HS.out k (by have := HN.out; omega), List.length_append, bl_length, Nat.add_assoc])
        generalize l.getD k ByteArray.empty = y at *
        generalize front.size + (catL l k).length = q at *
        clear hc hlt
        go_wp2_with fail
        go_roundw
        case rel => exact ⟨k + 1, by rw [HST.out]; go_num, by go_num, by omega, hb⟩
        case measure => simp [intOf]; omega
      · obtain rfl : k = n := by omega
        have HT : Hid (front.size + (catL l k).length = (bl front ++ F).length) := Lib.hid (by rw [HFL.out]; have := HALL.out; rw [← HN.out] at this; rw [this])
        rw [HT.out] at hsz ⊢
        by_cases hT : 16384 < (bl front ++ F).length
        · have h' : (16384 : Int) < (((bl front ++ F).length : Nat) : Int) := by omega
          have HZ2 : Hid (z = ([], 5)) := Lib.hid (by rw [HZ.out, if_neg (fun h => by have := check_len h; omega)])
          clear hT hk hkn hsz
          generalize (bl front ++ F).length = q at *
          go_wp2_with fail
          go_ret2
          exact ⟨by rw [HZ2.out]; rfl, hb.out⟩
        · have h' : ¬ (16384 : Int) < (((bl front ++ F).length : Nat) : Int) := by omega
          have hFl : F.length ≤ 100000 := by have := HFL.out; omega
          have HJ2 := Lib.hid (HJ.out hFl)
          have hcat : front.size + (⟨F.toArray⟩ : ByteArray).size ≤ 9223372036854775807 := by rw [size_lit F]; have := HF.out; omega
          have HV := Lib.hid (fun V => valid6_any (front ++ ⟨F.toArray⟩) (by rw [ByteArray.size_append, size_lit F]; have := HF.out; omega) V)
          have HB : Hid (bl (front ++ ⟨F.toArray⟩) = bl front ++ F) := Lib.hid (cat_bytes _ _)
          have hV2 := HV.out
          rw [HB.out, ← HZ.out] at hV2
          unfold st2 at hV2
          have HV3 := Lib.hid hV2
          clear hT hk hkn hsz hFl HV hV2
          generalize (bl front ++ F).length = q at *
          generalize (⟨F.toArray⟩ : ByteArray) = ft at *
          go_wp2_with (first | (go_at_call 62; refine (HJ2.out _ (HROW.out.below hb.out)).mono ?_; rintro e w2 ⟨rfl, b2⟩) | (go_at_call 61; refine (HV3.out _).mono ?_; rintro e w3 ⟨rfl, b3⟩))
          go_ret2
          exact ⟨rfl, below_step (below_step hb.out b2) b3⟩
  · have HZ : Hid (z = ([], 2)) := Lib.hid (by
      rw [hz, if_neg]
      intro h
      exact hall (fun x hx' => h _ (List.mem_map.2 ⟨x, hx', rfl⟩)))
    have HA := Lib.hid (fun V hV => are_any l ao cap (by omega) (fun x h => Nat.le_trans (hx x h) (by decide)) V hV false (by simpa using hall))
    clear hall hx hz hrow
    generalize l.length = n at *
    go_enter Try.func36, Try.ntmps36
    go_wp2_with (go_at_call 60; refine (HA.out _ HROW.out).mono ?_; rintro e w1 ⟨rfl, b1⟩)
    go_ret2
    exact ⟨by rw [HZ.out]; rfl, b1⟩

set_option maxRecDepth 100000 in
theorem hash6_any (a : ByteArray) (ha : a.size ≤ 100000) (w : World) :
    Calls Try.prog 92 #[.string a] w fun e w' => e = .returned (st2 (madeP [104] [bl a])) ∧ Below w.heap.size w w' := by
  have HM := Lib.hid (join6_any ⟨#[104]⟩ [a] (some ⟨w.heap.size, 0, none⟩) 1 (by simp) (by decide) (by simp) (fun x hx => by simp at hx; rw [hx]; exact ha) _ (row1 w a))
  have B0 := Lib.hid ((Below.refl w.heap.size w).alloc (Nat.le_refl _) (.cells #[.string a] 9))
  unfold st2 at HM
  clear ha
  go_enter Try.func92, Try.ntmps92
  go_wp2_with (go_at_call 36; refine HM.out.mono ?_; rintro e w1 ⟨rfl, b1⟩)
  go_ret2
  exact ⟨rfl, below_step B0.out b1⟩
set_option maxRecDepth 100000 in
theorem mac6_any (a b : ByteArray) (ha : a.size ≤ 100000) (hb : b.size ≤ 100000) (w : World) :
    Calls Try.prog 93 #[.string a, .string b] w fun e w' => e = .returned (st2 (madeP [109] [bl a, bl b])) ∧ Below w.heap.size w w' := by
  have HM := Lib.hid (join6_any ⟨#[109]⟩ [a, b] (some ⟨w.heap.size, 0, none⟩) 2 (by simp) (by decide) (by simp) (fun x hx => by simp at hx; rcases hx with rfl | rfl <;> assumption) _ (row2 w a b))
  have B0 := Lib.hid ((Below.refl w.heap.size w).alloc (Nat.le_refl _) (.cells #[.string a, .string b] 9))
  unfold st2 at HM
  clear ha hb
  go_enter Try.func93, Try.ntmps93
  go_wp2_with (go_at_call 36; refine HM.out.mono ?_; rintro e w1 ⟨rfl, b1⟩)
  go_ret2
  exact ⟨rfl, below_step B0.out b1⟩
set_option maxRecDepth 100000 in
theorem seal6_any (a b c : ByteArray) (ha : a.size ≤ 100000) (hb : b.size ≤ 100000) (hc : c.size ≤ 100000) (w : World) :
    Calls Try.prog 20 #[.string a, .string b, .string c] w fun e w' => e = .returned (st2 (madeP [115] [bl a, bl b, bl c])) ∧ Below w.heap.size w w' := by
  have HM := Lib.hid (join6_any ⟨#[115]⟩ [a, b, c] (some ⟨w.heap.size, 0, none⟩) 3 (by simp) (by decide) (by simp) (fun x hx => by simp at hx; rcases hx with rfl | rfl | rfl <;> assumption) _ (row3 w a b c))
  have B0 := Lib.hid ((Below.refl w.heap.size w).alloc (Nat.le_refl _) (.cells #[.string a, .string b, .string c] 9))
  unfold st2 at HM
  clear ha hb hc
  go_enter Try.func20, Try.ntmps20
  go_wp2_with (go_at_call 36; refine HM.out.mono ?_; rintro e w1 ⟨rfl, b1⟩)
  go_ret2
  exact ⟨rfl, below_step B0.out b1⟩

set_option maxRecDepth 100000 in
theorem row6_any (l : List ByteArray) (ao : Option Addr) (cap : Nat) (hcap : l.length ≤ cap) (hl : l.length ≤ 1000) (hx : ∀ x ∈ l, x.size ≤ 100000) (w : World) (hrow : TxtRow w ao l) :
    Calls Try.prog 21 #[.slice ao l.length cap] w fun e w' => e = .returned (st2 (rowP (l.map bl))) ∧ Below w.heap.size w w' := by
  have HN := Lib.hid (fun V => num_any l.length (by rw [two64]; omega) V)
  have hs : (⟨(enc l.length).toArray⟩ : ByteArray).size ≤ 9 := by rw [size_lit]; exact (enc_len _).2
  have hcat : (⟨#[114]⟩ : ByteArray).size + (⟨(enc l.length).toArray⟩ : ByteArray).size ≤ 9223372036854775807 := by
    have h3 : (⟨#[114]⟩ : ByteArray).size = 1 := rfl
    omega
  have hf : (⟨#[114]⟩ ++ ⟨(enc l.length).toArray⟩ : ByteArray).size ≤ 100 := by
    rw [ByteArray.size_append]
    have h3 : (⟨#[114]⟩ : ByteArray).size = 1 := rfl
    omega
  have HE : Hid (bl (⟨#[114]⟩ ++ ⟨(enc l.length).toArray⟩ : ByteArray) = 114 :: enc (l.map bl).length) := Lib.hid (by rw [cat_front, bl_mk, List.length_map])
  have hM := fun V hV => join6_any (⟨#[114]⟩ ++ ⟨(enc l.length).toArray⟩) l ao cap hcap hf hl hx V hV
  rw [HE.out, show madeP (114 :: enc (l.map bl).length) (l.map bl) = rowP (l.map bl) from rfl] at hM
  unfold st2 at hM
  have HM := Lib.hid hM
  have HROW := Lib.hid hrow
  have hcv : ∀ V : World, (convert 3 66 (.int .i64 ((l.length : Nat) : Int))).run Try.prog V = .ok (.int .u64 ((l.length : Nat) : Int)) V := fun V => by
    have hw : IntKind.u64.wrap ((l.length : Nat) : Int) = ((l.length : Nat) : Int) := IntWalk.u64_in _ (by omega)
    go_simp
  generalize (⟨(enc l.length).toArray⟩ : ByteArray) = t at *
  generalize rowP (l.map bl) = rp at *
  obtain ⟨n, hn⟩ : ∃ n, n = l.length := ⟨_, rfl⟩
  rw [← hn] at HN hcv HM ⊢
  clear hs hf hx hrow hn hl hM hcap
  go_enter Try.func21, Try.ntmps21
  go_wp2_with (first | (go_at_call 37; refine (HN.out _).mono ?_; rintro e w1 ⟨rfl, b1⟩) | (go_at_call 36; refine (HM.out _ (HROW.out.below b1)).mono ?_; rintro e w2 ⟨rfl, b2⟩))
  go_ret2
  exact ⟨rfl, below_step b1 b2⟩
end Go.Proofs.Ytpajcalfjfkogaa.Pl

namespace Go.Proofs.Ytpajcalfjfkogaa.Pl
open Go.RowKit Go.Shelf
attribute [local go_sem] Oper.semAt_some

/-- The places of a term. -/
theorem vis_term {s : ByteArray} (h : checkP (bl s) = 0) : ∃ T : Tm, T.valid ∧ bl s = T.enc ∧ treeOf (bl s) = some T ∧ vis s = ((offT 0 1 T).map Prod.fst, T.enc.length, 0) := by
  obtain ⟨T, tv, te, tr⟩ := tree_of h
  refine ⟨T, tv, te, tr, ?_⟩
  have h1 := vis_tree (bl s) T tv.1 16 tv.2.1 (Nat.le_refl _) 0 [] (by rw [List.drop_zero, te, List.append_nil])
  rw [Nat.zero_add] at h1
  exact h1
theorem below_mark {B : Nat} {w V : World} {D : Nat} {o : Obj} (h : Below B w V) (hB : B ≤ D) (hD : V.heap[D]? = some o) (o' : Obj) : Below B w (V.putObj D o') :=
  h.grown (grownBy_putObj' V D o') (by have := (Array.getElem?_eq_some_iff.1 hD).1; omega) (fun k e => by cases e; exact hB)
theorem leave_mark {n : Nat} {fn : Func} {tmps : Array Value} {R : Ending → World → Prop} {D : Nat} {V : World} {v : Value} (hm : V.heap[D]? = some (.deferred (some [])))
    (h : (results fn tmps).run Try.prog (V.putObj D (.deferred none)) = .ok v (V.putObj D (.deferred none))) (hR : R (.returned v) (V.putObj D (.deferred none))) :
    LeavesInM Fence.wide n Try.prog fn tmps R [markOf D] .returning V :=
  ⟨by simp, .inl ⟨D, _, rfl, run_takeDeferred hm, v, h, hR⟩⟩
theorem vis_count {s : ByteArray} (h : checkP (bl s) = 0) (q : List Pl6) (hq : q <+: (vis s).1) : q.length ≤ 16384 := by
  obtain ⟨T, tv, te, tr, hv⟩ := vis_term h
  have h1 := hq.length_le
  rw [hv, List.length_map] at h1
  have h2 : (offT 0 1 T).length = T.places.length := by rw [← offs_snd T 0 1, List.length_map]
  have h3 := places_count T tv.1
  have h4 := tv.2.2
  omega

end Go.Proofs.Ytpajcalfjfkogaa.Pl

namespace Go.Proofs.Ytpajcalfjfkogaa.Pl
open Go.RowKit Go.Shelf
attribute [local go_sem] Oper.semAt_some

theorem offs_place {T : Tm} {y : Pl6 × Tm} (hy : y ∈ offT 0 1 T) : y.2 ∈ T.places := by
  rw [← offs_snd T 0 1]
  exact List.mem_map_of_mem hy
theorem keepsOthers_below {W W' : World} (h : Below W.heap.size W W') : KeepsOthers W W' :=
  KeepsOthers.of_grownBy (row := none) ⟨h.os, h.tape, h.output, h.size, fun k hk _ => h.block k hk⟩ (fun _ _ e => by cases e)
end Go.Proofs.Ytpajcalfjfkogaa.Pl

namespace Go.Proofs.Ytpajcalfjfkogaa.Pl
open Go.RowKit Go.Shelf
attribute [local go_sem] Oper.semAt_some

/-- The term at a place. -/
def ptT (s : ByteArray) (x : Pl6) : ByteArray := s.extract x.at_ (x.at_ + (frontP ((bl s).drop x.at_)).1)
theorem pt_at {s : ByteArray} {T : Tm} (hT : T.valid) (eT : bl s = T.enc) {y : Pl6 × Tm} (hy : y ∈ offT 0 1 T) : ptT s y.1 = tx y.2 := by
  obtain ⟨r, hr⟩ := offs_at (bl s) T 0 1 [] (by rw [List.drop_zero, eT, List.append_nil]) y hy
  have hv := places_valid hT (offs_place hy)
  refine bl_inj ?_
  unfold ptT
  rw [bl_extract, bl_tx, hr, front_enc hv, List.drop_take, hr, Nat.add_sub_cancel_left, List.take_left]
/-- The parts: what stands one deeper. -/
def pieceL (s : ByteArray) (l : List Pl6) : List ByteArray := (l.filter fun x => x.dep == 2).map (ptT s)
theorem pieceL_yes (s : ByteArray) (l : List Pl6) (x : Pl6) (h : x.dep = 2) : pieceL s (l ++ [x]) = pieceL s l ++ [ptT s x] := by simp [pieceL, h]
theorem pieceL_no (s : ByteArray) (l : List Pl6) (x : Pl6) (h : x.dep ≠ 2) : pieceL s (l ++ [x]) = pieceL s l := by simp [pieceL, h]
theorem pieceL_len (s : ByteArray) (l : List Pl6) : (pieceL s l).length ≤ l.length := by
  rw [pieceL, List.length_map]; exact List.length_filter_le _ _
theorem part_vis {s : ByteArray} (h : checkP (bl s) = 0) : partsP (bl s) = ((pieceL s (vis s).1).map bl, true) := by
  obtain ⟨T, tv, te, tr, hv⟩ := vis_term h
  obtain ⟨hd, l⟩ := T
  have h1 : pieceL s (vis s).1 = l.map tx := by
    have h2 := offs_parts hd l 0 1
    rw [hv, pieceL, List.filter_map, List.map_map]
    conv => rhs; rw [← h2, List.map_map]
    refine List.map_congr_left fun y hy => ?_
    exact pt_at tv te (List.mem_filter.1 hy).1
  unfold partsP
  rw [tr, h1, List.map_map]
  rfl

/-- A row of texts in a box, and the text that is gone over in another. -/
def LstI (w : World) (t : ByteArray) (BL : Nat) (f : List Pl6 → List ByteArray) (pre : List Pl6) (W : World) : Prop :=
  (∃ v, Boxed W BL 22 v ∧ W.ownsRow (w.heap.size + 1) 9 1 v (f pre).length (txts (f pre)) ∧ True) ∧ Boxed W w.heap.size 9 (.string t) ∧ Below w.heap.size w W
theorem lstI_own (w : World) (t : ByteArray) (BL : Nat) (f : List Pl6 → List ByteArray) (B : Nat) (h : w.heap.size ≤ B) : OwnFrom B (LstI w t BL f) :=
  OwnFrom.and (Own.from (holdsRow_own (w.heap.size + 1) BL 22 9 1 (fun pre => (f pre).length) (fun pre => txts (f pre)) (fun _ _ => True)) _)
    (OwnFrom.and (Own.from (boxed_own _ _ _) _) (ownFrom_below (Nat.le_refl _) h))

theorem boxed_below {W W' : World} {B : Nat} {t : TypeId} {v : Value} (h : Boxed W B t v) (b : Below W.heap.size W W') : Boxed W' B t v := (b.block _ h.lt).trans h
theorem infoStr6 : (Try.prog.info? 9).map (fun i => (i.zero, i.size, i.bytes)) = some (some (.string ⟨#[]⟩), 1, 16) := by kernel_rfl

/-- One text more, appended: the run. -/
theorem append_run {W1 : World} {n₀ : Nat} {v : Value} {l : List ByteArray} (y : ByteArray) (hrow : OwnT W1 n₀ v l) (hn : n₀ ≤ W1.heap.size) (hl : l.length ≤ 100000) :
    ∃ v' w', (Builtin.append_ #[22, 22] 22 #[v, .slice (some ⟨W1.heap.size, 0, none⟩) 1 1]).run Try.prog (W1.alloc (.cells #[.string y] 9)) = .ok v' w' ∧ OwnT w' n₀ v' (l ++ [y]) ∧ (W1.alloc (.cells #[.string y] 9)).grownBy w' v.ownBlock := by
  obtain ⟨i0, hi, hz0, hz1, hz2⟩ := info_parts infoStr6
  obtain ⟨v', w', hrun, hown', hgrow, _⟩ := run_append_own (P := Try.prog) (W1.alloc (.cells #[.string y] 9)) n₀ 22 22 9 i0 (.string ⟨#[]⟩) 1 16 Try.underlying22 hi hz0 hz1 hz2 rfl (by decide) v l.length (txts l) (World.ownsRow.alloc hrow _) ⟨W1.heap.size, 0, none⟩ 1 1 [.string y] rfl
    (by
      intro j u hu
      cases j with
      | zero =>
        have hu' : Value.string y = u := by simpa using hu
        subst hu'
        exact (Boxed.new W1 9 (.string y)).cell
      | succ j => simp at hu)
    (by intro u hu; have : u = Value.string y := by simpa using hu
        rw [this]; rfl)
    (by unfold maxLen; omega) (by omega) (by simp; omega)
  refine ⟨v', w', hrun, ?_, hgrow⟩
  unfold OwnT
  rw [List.length_append, List.length_singleton, show txts (l ++ [y]) = txts l ++ [.string y] by simp [txts]]
  exact hown'

/-- What storing it leaves. -/
theorem append_stored {W1 w' : World} {n₀ BL : Nat} {v v' : Value} {l l' : List ByteArray} {y : ByteArray} (hv : Boxed W1 BL 22 v) (hrow : OwnT W1 n₀ v l) (hn : n₀ ≤ W1.heap.size) (hB : n₀ ≤ BL)
    (hown' : OwnT w' n₀ v' l') (hgrow : (W1.alloc (.cells #[.string y] 9)).grownBy w' v.ownBlock) :
    Boxed w' BL 22 v ∧ Boxed (w'.setCell ⟨BL, 0, none⟩ v') BL 22 v' ∧ OwnT (w'.setCell ⟨BL, 0, none⟩ v') n₀ v' l' ∧ KeepsOthers W1 (w'.setCell ⟨BL, 0, none⟩ v') ∧ Below n₀ W1 (w'.setCell ⟨BL, 0, none⟩ v') ∧ KeepP W1 (w'.setCell ⟨BL, 0, none⟩ v') := by
  obtain ⟨a1, a2, a3, a4, a5⟩ := Boxed.appended (tmp := .cells #[.string y] 9) hv (by decide) hrow hn hB hown' hgrow
  refine ⟨a1, a2, a3, a4, a5, a4.1, fun b cs hb => ?_⟩
  have hlt := (Array.getElem?_eq_some_iff.1 hb).1
  have h1 := (Below.heap_alloc W1 (.cells #[.string y] 9) b hlt).trans hb
  have h2 := (hgrow.block b (by simp; omega) (fun e => by
    rcases hrow.2 with ⟨rfl, _⟩ | ⟨g, cap, cur, rfl, _, hgb, _⟩
    · simp [Value.ownBlock] at e
    · obtain rfl : b = g := by simpa [Value.ownBlock] using e
      rw [hb] at hgb; cases hgb)).trans h1
  exact (Below.heap_setCell w' ⟨BL, 0, none⟩ v' b (fun e => by
    have e' : b = BL := e
    subst e'
    rw [show W1.heap[b]? = _ from hv] at hb; cases hb)).trans h2

theorem ownT_low {W : World} {B B' : Nat} {v : Value} {l : List ByteArray} (h : OwnT W B v l) (hB : B' ≤ B) : OwnT W B' v l := by
  refine ⟨h.1, ?_⟩
  rcases h.2 with hn | ⟨g, cap, cur, hv, hbg, rest⟩
  · exact .inl hn
  · exact .inr ⟨g, cap, cur, hv, Nat.le_trans hB hbg, rest⟩
theorem grown_drew6 (W : World) : W.grownBy W.drew none := ⟨rfl, rfl, rfl, Nat.le_refl _, fun _ _ _ => rfl⟩
/-- How far the world has come: a call, a new row, an append, a store, one behind the other. -/
def PW (U0 : World) (y : ByteArray) (App : World → World → Value → Prop) (Fin : World → Prop) : Bool → Bool → Bool → Bool → Value → Value → World → Prop
  | false, false, false, false, _, _, w' => w' = U0
  | true, false, false, false, _, _, w' => Below U0.heap.size U0 w'
  | true, true, false, false, x21, _, w' => ∃ W1, Below U0.heap.size U0 W1 ∧ w' = W1.alloc (.cells #[.string y] 9) ∧ x21 = .slice (some ⟨W1.heap.size, 0, none⟩) 1 1
  | true, true, true, false, _, x22, w' => ∃ W1, Below U0.heap.size U0 W1 ∧ App W1 w' x22
  | true, true, true, true, _, _, w' => Fin w'
  | _, _, _, _, _, _, _ => False
section
variable {U0 : World} {y : ByteArray} {App : World → World → Value → Prop} {Fin : World → Prop} {q4 q5 q6 q7 : Bool} {x21 x22 : Value} {w' w2 : World}
theorem pw_below (h : PW U0 y App Fin q4 q5 false q7 x21 x22 w') : Below U0.heap.size U0 w' := by
  cases q4 <;> cases q5 <;> cases q7 <;> simp only [PW] at h
  · subst h; exact Below.refl _ _
  · exact h
  · obtain ⟨W1, h1, rfl, _⟩ := h; exact h1.alloc h1.size _
theorem pw_u0 (h : PW U0 y App Fin false q5 q6 q7 x21 x22 w') : w' = U0 := by
  cases q5 <;> cases q6 <;> cases q7 <;> simp only [PW] at h
  exact h
theorem pw_four (h : PW U0 y App Fin false q5 q6 q7 x21 x22 U0) (b : Below U0.heap.size U0 w2) : PW U0 y App Fin true q5 q6 q7 x21 x22 w2 := by
  cases q5 <;> cases q6 <;> cases q7 <;> simp only [PW] at h ⊢
  exact b
theorem pw_five (h : PW U0 y App Fin true false q6 q7 x21 x22 w') : PW U0 y App Fin true true q6 q7 (.slice (some ⟨w'.heap.size, 0, none⟩) 1 1) x22 (w'.alloc (.cells #[.string y] 9)) := by
  cases q6 <;> cases q7 <;> simp only [PW] at h ⊢
  exact ⟨w', h, rfl, rfl⟩
theorem pw_six (h : PW U0 y App Fin q4 true false q7 x21 x22 w') : q4 = true ∧ ∃ W1, Below U0.heap.size U0 W1 ∧ w' = W1.alloc (.cells #[.string y] 9) ∧ x21 = .slice (some ⟨W1.heap.size, 0, none⟩) 1 1 := by
  cases q4 <;> cases q7 <;> simp only [PW] at h
  exact ⟨rfl, h⟩
theorem pw_sixed (h : PW U0 y App Fin true true false q7 x21 x22 w') {v : Value} (k : ∃ W1, Below U0.heap.size U0 W1 ∧ App W1 w2 v) : PW U0 y App Fin true true true q7 x21 v w2 := by
  cases q7 <;> simp only [PW] at h ⊢
  exact k
theorem pw_seven (h : PW U0 y App Fin q4 q5 true false x21 x22 w') : q4 = true ∧ q5 = true ∧ ∃ W1, Below U0.heap.size U0 W1 ∧ App W1 w' x22 := by
  cases q4 <;> cases q5 <;> simp only [PW] at h
  exact ⟨rfl, rfl, h⟩
end

set_option maxRecDepth 100000 in
set_option maxHeartbeats 4000000 in
theorem parts6_any (t : ByteArray) (ht : t.size ≤ 281474976710656) (w : World) :
    Calls Try.prog 56 #[.string t] w fun e w' => ∃ (v : Value) (L : List ByteArray), e = .returned (.tuple #[v, .bool (partsP (bl t)).2]) ∧ OwnT w' w.heap.size v L ∧ L.map bl = (partsP (bl t)).1 ∧ Below w.heap.size w w' := by
  have HA := are1_any t ht (w.alloc (.cells #[.string t] 9))
  rw [World.size_alloc] at HA
  have HA := Lib.hid HA
  refine (callsIn_wide (n := 5)).1 ?_
  by_cases hc : checkP (bl t) = 0
  · rw [may_yes hc] at HA
    have hv := part_vis hc
    have hz0 : (vis t).2.2 = 0 := by obtain ⟨T, _, _, _, h⟩ := vis_term hc; rw [h]
    have hcnt := vis_count hc
    have HV := Lib.hid hv
    have HZ := Lib.hid hz0
    clear hv hc hz0
    refine callsIn_of_wp_marks Try.func56 rfl trivial ?_ rfl
    simp only [Try.ntmps56, List.size_toArray, List.length_cons, List.length_nil, Nat.reduceAdd, Nat.reduceSub, Array.replicate_succ, Array.replicate_zero, List.push_toArray, List.append_toArray, List.nil_append, List.cons_append]
    gi_wp2_with (first | (refine ⟨trivial, ?_⟩; gi_at_call 60; refine (callsIn_wide.2 HA.out).mono ?_; rintro e w1 ⟨rfl, b1⟩; have bT1 : Boxed w1 w.heap.size 9 (.string t) := (b1.block _ (Nat.lt_succ_self _)).trans (Boxed.new w 9 (.string t)); have cT1 := (bT1.alloc (.cells #[.slice none 0 0] 22)).cell) | (refine ⟨trivial, ?_⟩; gi_at_call 83; refine (callsIn_wide.2 (places_in t _)).mono ?_; rintro e w2 ⟨rfl, rfl⟩))
    obtain ⟨W0, hW0⟩ : ∃ W0, (w1.alloc (.cells #[.slice none 0 0] 22)).alloc (.cells #[.string t] 9) = W0 := ⟨_, rfl⟩
    have hb1 := b1.size
    rw [World.size_alloc] at hb1
    have bL : Boxed W0 w1.heap.size 22 (.slice none 0 0) := by rw [← hW0]; exact (Boxed.new w1 _ _).alloc _
    have bP : Boxed W0 (w1.heap.size + 1) 9 (.string t) := by rw [← hW0]; have h := Boxed.new (w1.alloc (.cells #[.slice none 0 0] 22)) 9 (.string t); simpa using h
    have hs1 : w1.heap.size + 1 < W0.heap.size := bP.lt
    have hI : LstI w t w1.heap.size (pieceL t) [] W0 := by
      refine ⟨⟨_, bL, World.ownsRow_nil _ _ _ _, trivial⟩, ?_, ?_⟩
      · rw [← hW0]; exact (bT1.alloc _).alloc _
      · rw [← hW0]
        exact ((((Below.refl _ w).alloc (Nat.le_refl _) _).trans (b1.mono (Nat.le_succ _))).alloc (by omega) _).alloc (by simp; omega) _
    rw [hW0]
    have hw0 : w.heap.size ≤ W0.heap.size := by omega
    have hBL : w.heap.size + 1 ≤ w1.heap.size := hb1
    have hBL2 : w1.heap.size < W0.heap.size := by omega
    clear hW0 b1 bT1 cT1 hs1 hb1 bL
    generalize w1.heap.size = BL at *
    refine wpIn_places t ht (BL + 1) bP rfl (LstI w t BL (pieceL t)) (fun _ _ _ => False) (lstI_own w t BL _ _ hw0) (fun c => fun _ _ _ _ h _ _ => h) hI
      (PlAx w.heap.size (fun b x => { tmps := #[.string t, .pointer (some ⟨w.heap.size, 0, none⟩), .slice none 0 0, .bool false, .pointer (some ⟨BL, 0, none⟩), .pointer (some ⟨b, 0, none⟩), .string t, .slice (some ⟨w.heap.size + 1, 0, none⟩) 1 1, .bool true, .bool false, .string t, .func (.func 101) #[] #[.pointer (some ⟨BL + 1, 0, none⟩)], encPl x, undef, undef, undef, undef, undef, undef, undef, undef, undef, undef, undef], defers := [] }))
      (plAx_own _ _ _) ?assign ?body ?done ?stop ?throw
    case assign =>
      intro m l pre x W K hi hK
      have hzr := Lib.hid hK
      clear hK
      unfold encPl cellsPl
      gi_wp2
      exact hzr.out _ _ ((KeepsOthers.alloc _ _).from _) (KeepP.alloc _ _) ((lstI_own w t BL (pieceL t) W0.heap.size hw0).alloc _ hi) ⟨W.heap.size, hi.2.2.size, World.alloc_heap_new _ _, rfl⟩
    case body =>
      rintro m l pre x a' W hl hi ⟨b, hb, hbx, rfl⟩ hpre
      have hx1 := (place_cells hbx).2.1
      have hok := (vis_any t x pre hpre).1
      rw [bl_length] at hok
      have hle := hcnt _ hpre
      rw [List.length_append, List.length_singleton] at hle
      have hlp := pieceL_len t pre
      have HC := Lib.hid (fun V => termat_any t x.at_ hok ht V)
      rw [show t.extract x.at_ (x.at_ + (frontP ((bl t).drop x.at_)).1) = ptT t x from rfl] at HC
      have HI := Lib.hid hi
      have HX := Lib.hid hbx
      clear hi hbx hpre
      by_cases hd : x.dep = 2
      · have hq : ((x.dep : Int) == 2) = true := by rw [hd]; rfl
        have HD := Lib.hid hd
        have mixed : Try.prog.follows .mixedOrders = true := by kernel_rfl
        clear hd
        gi_wp2
        refine wpIn_region_any mixed ?_
        obtain ⟨U0, hU0⟩ : ∃ U0, ({ W with drawn := W.drawn + 1 } : World) = U0 := ⟨_, rfl⟩
        rw [hU0]
        have hKW : KeepsOthers W U0 := by rw [← hU0]; exact KeepsOthers.drew W
        have hPW : KeepP W U0 := by rw [← hU0]; exact KeepP.of_below (Below.refl _ W).drew
        have hI0 : LstI w t BL (pieceL t) pre U0 := by
          rw [← hU0]
          exact lstI_own w t BL (pieceL t) W0.heap.size hw0 pre W W.drew none HI.out (grown_drew6 W) (fun r e => by cases e)
        have bX : U0.heap[b]? = some (.cells (cellsPl x) 121 (0, 0)) := by rw [← hU0]; exact HX.out
        obtain ⟨⟨v, bV, hrow, _⟩, bT, hB⟩ := hI0
        obtain ⟨y, hy⟩ : ∃ y, y = ptT t x := ⟨_, rfl⟩
        rw [← hy] at HC
        have hy2 : pieceL t (pre ++ [x]) = pieceL t pre ++ [y] := by rw [pieceL_yes t pre x HD.out, hy]
        obtain ⟨App, hApp⟩ : ∃ App : World → World → Value → Prop, App = fun W1 w' x22 => OwnT w' (w.heap.size + 1) x22 (pieceL t pre ++ [y]) ∧ (W1.alloc (.cells #[.string y] 9)).grownBy w' v.ownBlock := ⟨_, rfl⟩
        obtain ⟨Fin, hFin⟩ : ∃ Fin : World → Prop, Fin = fun w' => KeepsFrom W0.heap.size W w' ∧ KeepP W w' ∧ LstI w t BL (pieceL t) (pre ++ [x]) w' := ⟨_, rfl⟩
        have hUs := hB.size
        have hbL := bV.lt
        have HAPP : Hid (∀ W1, Below U0.heap.size U0 W1 → ∃ v' w2, (Builtin.append_ #[22, 22] 22 #[v, .slice (some ⟨W1.heap.size, 0, none⟩) 1 1]).run Try.prog (W1.alloc (.cells #[.string y] 9)) = .ok v' w2 ∧ App W1 w2 v') := Lib.hid (fun W1 hW1 => by
          rw [hApp]
          exact append_run y (ownT_below hrow hW1) (by have := hW1.size; omega) (by omega))
        have HFIN : Hid (∀ W1 w' x22, Below U0.heap.size U0 W1 → App W1 w' x22 → ∃ ao cap, x22 = .slice ao ((pieceL t pre).length + 1) cap ∧ w'.cell? ⟨BL, 0, none⟩ = some v ∧ w'.frozen? ⟨BL, 0, none⟩ = false ∧ Fin (w'.setCell ⟨BL, 0, none⟩ x22)) := Lib.hid (fun W1 w' x22 hW1 ha => by
          rw [hApp] at ha
          obtain ⟨hown', hgrow⟩ := ha
          obtain ⟨a1, a2, a3, a4, a5, a6⟩ := append_stored (boxed_below bV hW1) (ownT_below hrow hW1) (by have := hW1.size; omega) hBL hown' hgrow
          obtain ⟨ao, cap, he, _⟩ := ownT_row hown'
          refine ⟨ao, cap, by rw [he]; simp, a1.cell, a1.frozen, ?_⟩
          rw [hFin]
          refine ⟨((hKW.trans (keepsOthers_below hW1)).trans a4).from _, (hPW.trans (KeepP.of_below hW1)).trans a6, ⟨x22, a2, by rw [hy2]; exact a3, trivial⟩, ?_, ?_⟩
          · exact (a5.block _ (Nat.lt_succ_self _)).trans (boxed_below bT hW1)
          · exact (below_step hB hW1).trans (a5.mono (Nat.le_succ _)))
        have HFW : Hid (∀ w', Fin w' → KeepsFrom W0.heap.size W w' ∧ KeepP W w' ∧ LstI w t BL (pieceL t) (pre ++ [x]) w') := Lib.hid (fun w' h => by rw [hFin] at h; exact h)
        clear hApp hFin hy hy2 hU0 hKW hPW hrow hB HI HX
        refine wpAnyIn_inv (fun listed a' w' => ∃ q0 q1 q2 q3 q4 q5 q6 q7 : Bool, ∃ x16 x17 x18 x19 x20 x21 x22 : Value, listed = #[q0, q1, q2, q3, q4, q5, q6, q7] ∧ a' = { tmps := #[.string t, .pointer (some ⟨w.heap.size, 0, none⟩), .slice none 0 0, .bool false, .pointer (some ⟨BL, 0, none⟩), .pointer (some ⟨b, 0, none⟩), .string t, .slice (some ⟨w.heap.size + 1, 0, none⟩) 1 1, .bool true, .bool false, .string t, .func (.func 101) #[] #[.pointer (some ⟨BL + 1, 0, none⟩)], encPl x, .pointer (some ⟨b, 1, none⟩), .int .i64 x.dep, .bool true, x16, x17, x18, x19, x20, x21, x22, undef], defers := [] } ∧ ((q0 = true → x16 = v) ∧ (q1 = true → x17 = .string t) ∧ (q2 = true → x18 = .pointer (some ⟨b, 0, none⟩)) ∧ (q3 = true → x19 = .int .i64 x.at_) ∧ (q4 = true → x20 = .string y)) ∧ PW U0 y App Fin q4 q5 q6 q7 x21 x22 w' ∧ (q4 = true → q1 = true ∧ q3 = true) ∧ (q6 = true → q0 = true)) ?_ ?_ _ _ _ _ (by decide) ?_
        · intro listed a' w' i hI hi
          obtain ⟨q0, q1, q2, q3, q4, q5, q6, q7, x16, x17, x18, x19, x20, x21, x22, rfl, rfl, ⟨h0, h1, h2, h3, h4⟩, hw, c1, c2⟩ := hI
          have hun := (mem_ready.1 hi).1
          rcases i with _ | _ | _ | _ | _ | _ | _ | _ | i
          · have e0 : q0 = false := hun
            have f6 : q6 = false := by cases q6 with | false => rfl | true => exact absurd (c2 rfl) (by simp [e0])
            subst f6
            have hbx2 := boxed_below bV (pw_below hw)
            have hc := hbx2.cell
            refine wpOpIn_want rfl rfl (fun K hK => ?_)
            have H := Lib.hid (And.intro h0 (And.intro h1 (And.intro h2 (And.intro h3 (And.intro h4 (And.intro hw (And.intro c1 c2)))))))
            clear h0 h1 h2 h3 h4 hw c1 c2
            clear hbx2
            go_simp
            obtain ⟨h0, h1, h2, h3, h4, hw, c1, c2⟩ := H.out
            exact hK _ _ ⟨true, q1, q2, q3, q4, q5, false, q7, v, x17, x18, x19, x20, x21, x22, rfl, rfl, ⟨fun _ => rfl, h1, h2, h3, h4⟩, hw, c1, fun _ => rfl⟩
          · have e1 : q1 = false := hun
            have f4 : q4 = false := by cases q4 with | false => rfl | true => exact absurd (c1 rfl).1 (by simp [e1])
            subst f4
            obtain rfl := (pw_u0 hw).symm
            have hc := bT.cell
            refine wpOpIn_want rfl rfl (fun K hK => ?_)
            have H := Lib.hid (And.intro h0 (And.intro h1 (And.intro h2 (And.intro h3 (And.intro h4 (And.intro hw (And.intro c1 c2)))))))
            clear h0 h1 h2 h3 h4 hw c1 c2
            go_simp
            obtain ⟨h0, h1, h2, h3, h4, hw, c1, c2⟩ := H.out
            exact hK _ _ ⟨q0, true, q2, q3, false, q5, q6, q7, x16, .string t, x18, x19, x20, x21, x22, rfl, rfl, ⟨h0, fun _ => rfl, h2, h3, h4⟩, hw, fun h => (by cases h), c2⟩
          · have e2 : q2 = false := hun
            refine wpOpIn_want rfl rfl (fun K hK => ?_)
            have H := Lib.hid (And.intro h0 (And.intro h1 (And.intro h2 (And.intro h3 (And.intro h4 (And.intro hw (And.intro c1 c2)))))))
            clear h0 h1 h2 h3 h4 hw c1 c2
            go_simp
            obtain ⟨h0, h1, h2, h3, h4, hw, c1, c2⟩ := H.out
            exact hK _ _ ⟨q0, q1, true, q3, q4, q5, q6, q7, x16, x17, .pointer (some ⟨b, 0, none⟩), x19, x20, x21, x22, rfl, rfl, ⟨h0, h1, fun _ => rfl, h3, h4⟩, hw, c1, c2⟩
          · have e3 : q3 = false := hun
            have d2 : q2 = true := dep hi rfl ⟨2, .data⟩ (by simp) rfl
            obtain rfl := (h2 d2).symm
            have f4 : q4 = false := by cases q4 with | false => rfl | true => exact absurd (c1 rfl).2 (by simp [e3])
            subst f4
            obtain rfl := (pw_u0 hw).symm
            have hc := (place_cells bX).1
            refine wpOpIn_want rfl rfl (fun K hK => ?_)
            have H := Lib.hid (And.intro h0 (And.intro h1 (And.intro h2 (And.intro h3 (And.intro h4 (And.intro hw (And.intro c1 c2)))))))
            clear h0 h1 h2 h3 h4 hw c1 c2
            go_simp
            obtain ⟨h0, h1, h2, h3, h4, hw, c1, c2⟩ := H.out
            exact hK _ _ ⟨q0, q1, q2, true, false, q5, q6, q7, x16, x17, .pointer (some ⟨b, 0, none⟩), .int .i64 x.at_, x20, x21, x22, rfl, rfl, ⟨h0, h1, h2, fun _ => rfl, h4⟩, hw, fun h => (by cases h), c2⟩
          · have e4 : q4 = false := hun
            have d1 : q1 = true := dep hi rfl ⟨1, .data⟩ (by simp) rfl
            have d3 : q3 = true := dep hi rfl ⟨3, .data⟩ (by simp) rfl
            obtain rfl := (h1 d1).symm
            obtain rfl := (h3 d3).symm
            subst e4
            obtain rfl := (pw_u0 hw).symm
            refine wpOpIn_want rfl rfl (fun K hK => ?_)
            have H := Lib.hid (And.intro h0 (And.intro h1 (And.intro h2 (And.intro h3 (And.intro h4 (And.intro hw (And.intro c1 c2)))))))
            clear h0 h1 h2 h3 h4 hw c1 c2
            go_simp
            refine ⟨trivial, hdd _, ?_⟩
            refine (callsIn_wide.2 (HC.out _)).mono ?_
            rintro e w2 ⟨rfl, b2⟩
            obtain ⟨h0, h1, h2, h3, h4, hw, c1, c2⟩ := H.out
            exact hK _ _ ⟨q0, q1, q2, q3, true, q5, q6, q7, x16, .string t, x18, .int .i64 x.at_, .string y, x21, x22, rfl, rfl, ⟨h0, h1, h2, h3, fun _ => rfl⟩, pw_four hw b2, fun _ => ⟨d1, d3⟩, c2⟩
          · have e5 : q5 = false := hun
            have d4 : q4 = true := dep hi rfl ⟨4, .data⟩ (by simp) rfl
            obtain rfl := (h4 d4).symm
            subst d4
            subst e5
            refine wpOpIn_want rfl rfl (fun K hK => ?_)
            have H := Lib.hid (And.intro h0 (And.intro h1 (And.intro h2 (And.intro h3 (And.intro h4 (And.intro hw (And.intro c1 c2)))))))
            clear h0 h1 h2 h3 h4 hw c1 c2
            go_simp
            obtain ⟨h0, h1, h2, h3, h4, hw, c1, c2⟩ := H.out
            exact hK _ _ ⟨q0, q1, q2, q3, true, true, q6, q7, x16, x17, x18, x19, .string y, .slice (some ⟨w'.heap.size, 0, none⟩) 1 1, x22, rfl, rfl, ⟨h0, h1, h2, h3, h4⟩, pw_five hw, c1, c2⟩
          · have e6 : q6 = false := hun
            have d0 : q0 = true := dep hi rfl ⟨0, .data⟩ (by simp) rfl
            have d5 : q5 = true := dep hi rfl ⟨5, .data⟩ (by simp) rfl
            obtain rfl := (h0 d0).symm
            subst d5
            subst e6
            obtain ⟨rfl, W1, hW1, rfl, rfl⟩ := pw_six hw
            obtain ⟨v', w2, hrun, happ⟩ := HAPP.out W1 hW1
            exact wpOpIn_append rfl rfl (.tmp 16) (.tmp 21) 22 rfl rfl rfl hrun ⟨q0, q1, q2, q3, true, true, true, q7, v, x17, x18, x19, x20, _, v', rfl, rfl, ⟨fun _ => rfl, h1, h2, h3, h4⟩, pw_sixed hw ⟨W1, hW1, happ⟩, c1, fun _ => d0⟩
          · have e7 : q7 = false := hun
            have d6 : q6 = true := dep hi rfl ⟨6, .data⟩ (by simp) rfl
            subst d6
            subst e7
            obtain ⟨rfl, rfl, W1, hW1, happ⟩ := pw_seven hw
            obtain ⟨ao, cap, rfl, hcb, hfb, hfin⟩ := HFIN.out W1 w' x22 hW1 happ
            refine wpOpIn_want rfl rfl (fun K hK => ?_)
            have H := Lib.hid (And.intro h0 (And.intro h1 (And.intro h2 (And.intro h3 (And.intro h4 (And.intro hw (And.intro c1 c2)))))))
            clear h0 h1 h2 h3 h4 hw c1 c2
            go_simp
            obtain ⟨h0, h1, h2, h3, h4, hw, c1, c2⟩ := H.out
            exact hK _ _ ⟨q0, q1, q2, q3, true, true, true, true, x16, x17, x18, x19, x20, x21, _, rfl, rfl, ⟨h0, h1, h2, h3, h4⟩, hfin, c1, c2⟩
          · exact absurd (mem_ready.1 hi).2 (by rintro ⟨o, ho, _⟩; simp at ho)
        · rintro listed a' w' ⟨q0, q1, q2, q3, q4, q5, q6, q7, x16, x17, x18, x19, x20, x21, x22, rfl, rfl, _, hw, _, _⟩ hr
          have hall := fun i (hi : i < 8) => all_listed (by kernel_rfl) rfl hr 8 i hi hi
          obtain rfl : q4 = true := hall 4 (by decide)
          obtain rfl : q5 = true := hall 5 (by decide)
          obtain rfl : q6 = true := hall 6 (by decide)
          obtain rfl : q7 = true := hall 7 (by decide)
          exact HFW.out _ hw
        · exact ⟨false, false, false, false, false, false, false, false, undef, undef, undef, undef, undef, undef, undef, rfl, rfl, by simp, rfl, by simp, by simp⟩
      · have hq : ((x.dep : Int) == 2) = false := by rw [beq_eq_false_iff_ne]; omega
        have HD := Lib.hid hd
        clear hd
        gi_wp2
        obtain ⟨h1, h2, h3⟩ := HI.out
        refine ⟨KeepsFrom.refl _ _, KeepP.refl _, ?_, h2, h3⟩
        rw [pieceL_no t pre x HD.out]
        exact h1
    case done =>
      rintro D W hD _ ⟨⟨v, hb, hrow, _⟩, hbt, hbw⟩ hK
      have hc := hb.cell
      obtain ⟨ao, cap, rfl, _⟩ := ownT_row (show OwnT W (w.heap.size + 1) v (pieceL t (vis t).1) from hrow)
      have HR := Lib.hid hrow
      clear hb hbt hrow
      gi_wp2
      exact leave_mark hK (results_tmp2 rfl _ _ _) ⟨_, _, by rw [HV.out]; rfl, ownT_low (ownsRow_putObj HR.out _ hK rfl) (Nat.le_succ _), by rw [HV.out], below_mark hbw (by omega) hK _⟩
    case stop =>
      rintro D c pre W hD hq h hK
      exact h.elim
    case throw =>
      rintro D W hD hz hi hK
      exact absurd HZ.out hz
  · rw [may_no hc] at HA
    have H1 : Hid (partsP (bl t) = ([], false)) := Lib.hid (by unfold partsP; rw [treeOf_none hc])
    rw [H1.out]
    clear hc
    refine callsIn_of_wp_marks Try.func56 rfl trivial ?_ rfl
    simp only [Try.ntmps56, List.size_toArray, List.length_cons, List.length_nil, Nat.reduceAdd, Nat.reduceSub, Array.replicate_succ, Array.replicate_zero, List.push_toArray, List.append_toArray, List.nil_append, List.cons_append]
    gi_wp2_with (refine ⟨trivial, ?_⟩; gi_at_call 60; refine (callsIn_wide.2 HA.out).mono ?_; rintro e w1 ⟨rfl, b1⟩)
    exact ⟨_, results_tmp2 rfl _ _ _, _, [], rfl, ownT_nil _ _, rfl, ((Below.refl _ w).alloc (Nat.le_refl _) _).trans (b1.mono (Nat.le_succ _))⟩
end Go.Proofs.Ytpajcalfjfkogaa.Pl

namespace Go.Proofs.Ytpajcalfjfkogaa.Pl
open Go.RowKit

/-- Block p is somebody, whose map, block m, holds just these. -/
def KP (w : World) (p m : Nat) (X : List (List UInt8)) : Prop := w.heap[p]? = some (.cells #[.map (some m)] 88 (0, 0)) ∧ MapK w m X
theorem KP.below {w w' : World} {p m : Nat} {X : List (List UInt8)} (h : KP w p m X) (hb : Below w.heap.size w w') : KP w' p m X := ⟨(hb.block p (Array.getElem?_eq_some_iff.1 h.1).1).trans h.1, h.2.below hb⟩
theorem KP.cell {w : World} {p m : Nat} {X : List (List UInt8)} (h : KP w p m X) : w.cell? ⟨p, 0, none⟩ = some (.map (some m)) := cell_of_row _ _ _ _ _ _ h.1
open Classical in
/-- Whether a tree can be made of them. -/
noncomputable def canX (X : List (List UInt8)) (T : Tm) : Bool := decide (can (LB X) T)
open Classical in
theorem canX_iff {X : List (List UInt8)} {T : Tm} : canX X T = true ↔ can (LB X) T := by unfold canX; exact decide_eq_true_iff
theorem canX_in {X : List (List UInt8)} {h : List UInt8} {l : List Tm} (hv : (Tm.node h l).valid) (k : (Tm.node h l).enc ∈ X) : canX X (.node h l) = true := canX_iff.2 (by rw [can]; exact .inr (.inl ⟨hv, k⟩))
theorem canX_atom {X : List (List UInt8)} {h : List UInt8} {l : List Tm} (k : (Tm.node h l).enc ∉ X) (h2 : h.head? = some 97) : canX X (.node h l) = false := by
  rw [← Bool.not_eq_true, canX_iff, can]
  rintro (e | e | ⟨e, _⟩)
  · rw [h2] at e; cases e
  · exact k e.2
  · exact e h2
theorem canX_else {X : List (List UInt8)} {h : List UInt8} {l : List Tm} (hv : (Tm.node h l).valid) (k : (Tm.node h l).enc ∉ X) (h2 : h.head? ≠ some 97) : (canX X (.node h l) = true ↔ ∀ t ∈ l, canX X t = true) := by
  rw [canX_iff, can]
  constructor
  · rintro (e | e | ⟨_, e⟩)
    · have hg := hv.1
      simp only [Tm.good] at hg
      obtain ⟨c, hk⟩ := head_kind hg.1
      have : l = [] := by
        rcases hk with ⟨t, rfl, _, h0⟩ | ⟨t, rfl, _, _, h0⟩ | ⟨v, rfl, _, _⟩ | ⟨rfl, _⟩ | ⟨rfl, _⟩ | ⟨rfl, _⟩
        · exact List.length_eq_zero_iff.1 h0
        · exact List.length_eq_zero_iff.1 h0
        · simp at e
        · simp at e
        · simp at e
        · simp at e
      rw [this]
      intro t ht
      cases ht
    · exact absurd e.2 k
    · exact fun t ht => canX_iff.2 (cans_all.1 e t ht)
  · exact fun e => .inr (.inr ⟨h2, cans_all.2 fun t ht => canX_iff.1 (e t ht)⟩)

set_option maxHeartbeats 4000000 in
set_option maxRecDepth 100000 in
theorem can10_at : ∀ (d : Nat) (T : Tm), T.valid → T.deep ≤ d → ∀ (s : ByteArray), bl s = T.enc → ∀ (p m : Nat) (X : List (List UInt8)) (w : World), KP w p m X →
    Calls Try.prog 28 #[.pointer (some ⟨p, 0, none⟩), .string s] w fun e w' => e = .returned (.bool (canX X T)) ∧ Below w.heap.size w w' := by
  intro d
  induction d with
  | zero =>
    rintro ⟨h, l⟩ _ hd
    simp [Tm.deep] at hd
  | succ d ih =>
    rintro ⟨h, l⟩ hv hd s hs p m X w hq
    have hdp : ∀ t ∈ l, t.deep ≤ d := fun t ht => by
      have := deeps_mem ht
      simp only [Tm.deep] at hd
      omega
    obtain ⟨c, hk, hkd⟩ := kd_node10 hv
    obtain ⟨f1, f2, f3, f4⟩ := kd_first10 hk
    have hsz := valid_size hv hs
    have HZ : Hid (s.size ≤ 281474976710656) := Lib.hid (by omega)
    have HQ := Lib.hid hq
    have cp := hq.cell
    by_cases hin : (Tm.node h l).enc ∈ X
    · rw [canX_in hv hin]
      have HI : Hid (decide (bl s ∈ X) = true) := Lib.hid (by rw [hs]; exact decide_eq_true hin)
      clear ih hv hd hs hq hdp hk hkd f1 f2 f3 f4 hsz hin
      go_enter Try.func28, Try.ntmps28
      go_wp2_with (first | (at_lookup; refine wpList_look10 rfl _ _ rfl m X s true rfl rfl HQ.out.2 HZ.out HI.out ?_; intro k y) | fail)
      go_ret
      exact ⟨rfl, (Below.refl _ _).alloc (Nat.le_refl _) _⟩
    · have HI : Hid (decide (bl s ∈ X) = false) := Lib.hid (by rw [hs]; exact decide_eq_false hin)
      have HK := Lib.hid (fun V => tkind_any s (by omega) V)
      rw [hs, hkd] at HK
      by_cases c2 : c = 2
      · subst c2
        rw [canX_atom hin (f2.1 rfl)]
        clear ih hv hd hs hq hdp hk hkd f1 f2 f3 f4 hsz hin
        go_enter Try.func28, Try.ntmps28
        go_wp2_with (first | (at_lookup; refine wpList_look10 rfl _ _ rfl m X s false rfl rfl HQ.out.2 HZ.out HI.out ?_; intro k y) | fail)
        have B1 := Lib.hid ((Below.refl w.heap.size w).alloc (Nat.le_refl _) (.cells #[.string k, .string y] 93))
        refine (HK.out _).mono ?_; rintro e w1 ⟨rfl, b1⟩
        have B2 := Lib.hid (below_step B1.out b1)
        clear b1
        go_wp2_with fail
        go_ret
        exact ⟨rfl, B2.out⟩
      · have q2 : ((c : Int) == 2) = false := by rw [beq_eq_false_iff_ne]; omega
        have HE := Lib.hid (canX_else hv hin (fun e => c2 (f2.2 e)))
        have HP := Lib.hid (fun V => parts6_any s (by omega) V)
        rw [hs, parts_node10 hv] at HP
        have HC : Hid (∀ k, (hk : k < l.length) → ∀ V : World, KP V p m X → Calls Try.prog 28 #[.pointer (some ⟨p, 0, none⟩), .string (tx l[k])] V fun e w' => e = .returned (.bool (canX X l[k])) ∧ Below V.heap.size V w') :=
          Lib.hid (fun k hk V hV => ih l[k] (node_valid_parts hv _ (List.getElem_mem hk)) (hdp _ (List.getElem_mem hk)) (tx l[k]) rfl p m X V hV)
        obtain ⟨n, hn⟩ : ∃ n, n = l.length := ⟨_, rfl⟩
        have HN := Lib.hid hn
        have HNS : Hid (n ≤ 100) := Lib.hid (by have := (kd_le10 hk).1; omega)
        generalize hZ : canX X (.node h l) = Z at *
        clear ih hv hd hs hq hdp hk hkd f1 f2 f3 f4 hsz c2 hin hn hZ
        go_enter Try.func28, Try.ntmps28
        go_wp2_with (first | (at_lookup; refine wpList_look10 rfl _ _ rfl m X s false rfl rfl HQ.out.2 HZ.out HI.out ?_; intro k y) | fail)
        have B1 := Lib.hid ((Below.refl w.heap.size w).alloc (Nat.le_refl _) (.cells #[.string k, .string y] 93))
        refine (HK.out _).mono ?_; rintro e w1 ⟨rfl, b1⟩
        have B2 := Lib.hid (below_step B1.out b1)
        clear b1
        go_wp2_with fail
        refine (HP.out _).mono ?_; rintro e w3 ⟨v, P, rfl, ho, hP, b3⟩
        have B3 := Lib.hid (below_step B2.out b3)
        obtain ⟨po, pcap, rfl, hrow⟩ := ownT_row ho
        have R3 := Lib.hid hrow
        obtain rfl : P = l.map tx := (List.map_inj_right (fun _ _ e => bl_inj e)).1 (by rw [hP, List.map_map]; rfl)
        have hPl : (l.map tx).length = n := by rw [List.length_map]; exact HN.out.symm
        rw [hPl]
        clear b3 ho hP hrow
        go_wp2_with fail
        go_loopw [31] (fun iv wr => ∃ k : Nat, iv = .int .i64 k ∧ k ≤ n ∧ Hid (∀ j, (hj : j < l.length) → j < k → canX X l[j] = true) ∧ Hid (Below w3.heap.size w3 wr)) (fun iv _ => n - (intOf iv).toNat)
        case atStart => exact ⟨0, rfl, Nat.zero_le _, Lib.hid (fun j _ hj => absurd hj (Nat.not_lt_zero j)), Lib.hid (Below.refl _ _)⟩
        case round =>
          obtain ⟨k, rfl, hkn, hall, hb⟩ := hrel
          have BW := Lib.hid (below_step B3.out hb.out)
          have hn100 := HNS.out
          by_cases hk : k < n
          · have hk' : (k : Int) < (n : Int) := by omega
            have hkl : k < l.length := by rw [← HN.out]; exact hk
            have HCK := Lib.hid (HC.out k hkl wr (HQ.out.below BW.out))
            rcases R3.out.below hb.out with e | ⟨g, off, rfl, hlt, hc⟩
            · exfalso
              rw [e] at hPl
              simp at hPl
              omega
            have ck := hc k (by rw [hPl]; exact hk)
            have eg : (l.map tx).getD k ByteArray.empty = tx l[k] := by simp [List.getD_eq_getElem?_getD, hkl]
            rw [eg] at ck
            have HNO : Hid (canX X l[k] = false → Z = false) := Lib.hid (fun e => by
              rw [← Bool.not_eq_true]
              intro hz
              rw [HE.out.1 hz _ (List.getElem_mem hkl)] at e
              cases e)
            have HGO : Hid (canX X l[k] = true → ∀ j, (hj : j < l.length) → j < k + 1 → canX X l[j] = true) := Lib.hid (fun e j hj hjk => by
              by_cases h : j < k
              · exact hall.out j hj h
              · obtain rfl : j = k := by omega
                exact e)
            generalize canX X l[k] = y at *
            generalize tx l[k] = t at *
            clear hc hlt eg
            cases y with
            | true =>
              have HG := Lib.hid (HGO.out rfl)
              go_wp2_with fail
              refine HCK.out.mono ?_; rintro e w4 ⟨rfl, b4⟩
              have B4 := Lib.hid (below_step hb.out b4)
              clear b4
              go_wp2_with fail
              go_roundw
              case rel => exact ⟨k + 1, by go_num, by omega, HG, B4⟩
              case measure => simp [intOf]; omega
            | false =>
              obtain rfl := HNO.out rfl
              go_wp2_with fail
              refine HCK.out.mono ?_; rintro e w4 ⟨rfl, b4⟩
              have B4 := Lib.hid (below_step BW.out b4)
              clear b4
              go_wp2_with fail
              go_ret
              exact ⟨rfl, B4.out⟩
          · obtain rfl : k = n := by omega
            obtain rfl : Z = true := HE.out.2 (fun t ht => by
              obtain ⟨j, hj, rfl⟩ := List.getElem_of_mem ht
              exact hall.out j hj (by rw [HN.out]; exact hj))
            clear hk hkn
            go_wp2_with fail
            go_ret
            exact ⟨rfl, BW.out⟩
end Go.Proofs.Ytpajcalfjfkogaa.Pl

namespace Go.Proofs.Ytpajcalfjfkogaa.Pl
open Go.RowKit
set_option maxHeartbeats 1000000 in
set_option maxRecDepth 100000 in
theorem text11_any (s : ByteArray) (hs : s.size ≤ 281474976710656) (w : World) :
    Calls Try.prog 58 #[.string s] w fun e w' => e = .returned (.tuple #[.string ⟨(textP (bl s)).1.toArray⟩, .bool (textP (bl s)).2]) ∧ Below w.heap.size w w' := by
  have HA := Lib.hid (tkind_any s hs w)
  by_cases hc : checkP (bl s) = 0
  · obtain ⟨b, r, e1, e2, e3, e4⟩ := kind_of hc
    have hpos : 1 ≤ s.size := by rw [size_bl, e1]; simp
    have hx : bl (s.extract 1 s.size) = r := by rw [bl_from, e1]; rfl
    have sl : ∀ V : World, (Instr.sliceAt 9 (.string s) (some (.int .i64 1)) none none).run Try.prog V = .ok (.string (s.extract 1 s.size)) V := tslice_from s 1 hpos
    have hxs : (s.extract 1 s.size).size ≤ 281474976710656 := by rw [size_bl, bl_from, List.length_drop, bl_length]; omega
    rw [e2] at HA
    generalize letterK b = k at *
    generalize s.extract 1 s.size = x at *
    have HT := Lib.hid (fun V => readtext_any x 1024 V hxs (by decide) (by decide))
    rw [show x.data.toList = bl x from rfl, hx] at HT
    by_cases hk1 : k = 1
    · subst hk1
      obtain ⟨f1, f2⟩ := e3 (.inl rfl)
      rw [f2]
      obtain ⟨z, hz⟩ : ∃ z, z = rdt r 1024 := ⟨_, rfl⟩
      rw [← hz] at HT f1 ⊢
      obtain ⟨t, n, f⟩ := z
      simp only at f1
      subst f1
      clear e1 e2 e3 e4 hx hxs hz hc hs f2
      go_enter Try.func58, Try.ntmps58
      go_wp2_with (first | (go_at_call 55; refine HA.out.mono ?_; rintro e w1 ⟨rfl, b1⟩) | (go_at_call 86; refine (HT.out _).mono ?_; rintro e w2 ⟨rfl, b2⟩))
      go_ret2
      exact ⟨rfl, below_step b1 b2⟩
    · have q1 : ((k : Int) == 1) = false := by rw [beq_eq_false_iff_ne]; omega
      by_cases hk2 : k = 2
      · subst hk2
        obtain ⟨f1, f2⟩ := e3 (.inr rfl)
        rw [f2]
        obtain ⟨z, hz⟩ : ∃ z, z = rdt r 1024 := ⟨_, rfl⟩
        rw [← hz] at HT f1 ⊢
        obtain ⟨t, n, f⟩ := z
        simp only at f1
        subst f1
        clear e1 e2 e3 e4 hx hxs hz hc hs f2
        go_enter Try.func58, Try.ntmps58
        go_wp2_with (first | (go_at_call 55; refine HA.out.mono ?_; rintro e w1 ⟨rfl, b1⟩) | (go_at_call 86; refine (HT.out _).mono ?_; rintro e w2 ⟨rfl, b2⟩))
        go_ret2
        exact ⟨rfl, below_step b1 b2⟩
      · have q2 : ((k : Int) == 2) = false := by rw [beq_eq_false_iff_ne]; omega
        rw [e4 hk1 hk2]
        clear e1 e2 e3 e4 hx hxs hc hs hk1 hk2
        go_enter Try.func58, Try.ntmps58
        go_wp2_with (first | (go_at_call 55; refine HA.out.mono ?_; rintro e w1 ⟨rfl, b1⟩))
        go_ret2
        exact ⟨rfl, b1⟩
  · rw [(kind_no hc).1] at HA
    rw [(kind_no hc).2]
    clear hc
    go_enter Try.func58, Try.ntmps58
    go_wp2_with (first | (go_at_call 55; refine HA.out.mono ?_; rintro e w1 ⟨rfl, b1⟩))
    go_ret2
    exact ⟨rfl, b1⟩
end Go.Proofs.Ytpajcalfjfkogaa.Pl
