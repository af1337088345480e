/- A loop over term.places: what the caller owes, whatever the text; the loop may end, be left, or be thrown out of. -/
import Derived.Test.YtbdlegjklfkdmaaGreatDoorBallC21
import Derived.RangeFuncIn
import Derived.RangeFuncRecord
namespace Go.Proofs.YtbdlegjklfkdmaaGreatDoor.Pl
open Go.RowKit Go.Shelf
attribute [local go_sem] Oper.semAt_some

theorem KeepP.putObj {W : World} {l : Nat} {o : Obj} (h : W.heap[l]? = some o) (ho : o.isCells = false) (o' : Obj) : KeepP W (W.putObj l o') :=
  ⟨by simp, fun b cs hb => (World.putObj_heap_other (fun e => by subst e; rw [h] at hb; cases hb; cases ho)).trans hb⟩
theorem KeepP.alloc (W : World) (o : Obj) : KeepP W (W.alloc o) := KeepP.of_below ((Below.refl _ W).alloc (Nat.le_refl _) _)

/-- The places of a whole text. -/
def vis (s : ByteArray) : List Pl6 × Nat × Nat := visP (bl s) 16 0

/-- How going over the places ends. -/
def WalkPost (s : ByteArray) (J Jx : List Pl6 → World → Prop) (e : Ending) (W' : World) : Prop :=
  ((vis s).2.2 = 0 ∧ (∃ v, e = .returned v) ∧ J (vis s).1 W') ∨ (∃ q, (∃ v, e = .returned v) ∧ q <+: (vis s).1 ∧ Jx q W') ∨ ((vis s).2.2 ≠ 0 ∧ e = boom (vis s).2.2 ∧ J (vis s).1 W')

set_option maxRecDepth 100000 in
set_option maxHeartbeats 1000000 in
theorem places1_in (s : ByteArray) (hs : s.size ≤ 281474976710656) (l B n : Nat) (J Jx : List Pl6 → World → Prop)
    (hA : ∀ pre W W', J pre W → Below W.heap.size W W' → J pre W')
    (hY : ∀ m pre p W, J pre W → (pre ++ [p]) <+: (vis s).1 → YieldAt Fence.wide m Tryz.prog l #[encPl p] W (YP J Jx pre p W))
    (W : World) (hB : W.cell? ⟨B, 0, none⟩ = some (.string s)) (h0 : J [] W) :
    CallsIn Fence.wide n Tryz.prog 104 #[.func (.yield l) #[] #[], .pointer (some ⟨B, 0, none⟩)] W (WalkPost s J Jx) := by
  have HV := Lib.hid (fun m => visit_in s hs l (vis s).1 J Jx hA hY 16 1 0 [] m W rfl (Nat.le_refl _) (Nat.zero_le _) (List.prefix_refl _) h0)
  clear hA hY h0
  refine callsIn_of_wp Tryz.func104 rfl trivial ?_ rfl
  simp only [Tryz.ntmps104, List.size_toArray, List.length_cons, List.length_nil, Nat.reduceAdd, Nat.reduceSub, Array.replicate_succ, Array.replicate_zero, List.push_toArray, List.append_toArray, List.nil_append, List.cons_append]
  gi_wp2_with (refine ⟨trivial, hdd _, ?_⟩; gi_at_call 105; refine (HV.out _).mono ?_; rintro e W3 (⟨hz, rfl, hj3, hk3⟩ | ⟨z, q, rfl, hq3, hx3, hk3⟩ | ⟨hz, rfl, hj3⟩))
  · go_end0
    exact .inl ⟨hz, ⟨_, rfl⟩, hj3⟩
  · go_end0
    exact .inr (.inl ⟨q, ⟨_, rfl⟩, hq3, hx3⟩)
  · exact ⟨rfl, .inr (.inr ⟨hz, rfl, hj3⟩)⟩

theorem places_in (s : ByteArray) (w : World) :
    Calls Tryz.prog 64 #[.string s] w fun e w' => e = .returned (.func (.func 104) #[] #[.pointer (some ⟨w.heap.size, 0, none⟩)]) ∧
      w.alloc (.cells #[.string s] 9) = w' := by
  go_enter Tryz.func64, Tryz.ntmps64
  go_wp2
  go_ret
  exact ⟨rfl, rfl⟩

/-- How the body of a round may be left. -/
def PlPost (B : Nat) (I : List Pl6 → World → Prop) (Ix : Code → List Pl6 → World → Prop) (xs : List Pl6) (W : World) : Exit → Act → World → Prop
  | .normal, _, W' => KeepsFrom B W W' ∧ KeepP W W' ∧ I xs W'
  | .ret, _, W' => KeepsFrom B W W' ∧ KeepP W W' ∧ Ix .ret xs W'
  | .exit id, _, W' => KeepsFrom B W W' ∧ KeepP W W' ∧ Ix (.exit id) xs W'
  | .goto t, _, W' => KeepsFrom B W W' ∧ KeepP W W' ∧ Ix (.goto t) xs W'
  | .panic _, _, _ => False
  | .outgrown, _, _ => False

/-- The mark that a loop leaves among the deferred calls. -/
abbrev markOf (D : Nat) : Deferred := { target := .collected D, args := #[] }

theorem wpIn_places {g : Operand} {p : Tmp} {assign body : Code} {Q : Exit → Act → World → Prop} {a : Act} {w : World} {n : Nat}
    (s : ByteArray) (hs : s.size ≤ 281474976710656) (B : Nat) (hB : Boxed w B 9 (.string s)) (hg : a.eval g = .func (.func 104) #[] #[.pointer (some ⟨B, 0, none⟩)])
    (I : List Pl6 → World → Prop) (Ix : Code → List Pl6 → World → Prop) (hI : OwnFrom w.heap.size I) (hIx : ∀ c, OwnFrom w.heap.size (Ix c)) (h0 : I [] w)
    (Ax : Pl6 → Act → World → Prop) (hAx : ∀ x a', OwnFrom w.heap.size (fun (_ : Unit) W => Ax x a' W))
    (hassign : ∀ (m l : Nat) (pre : List Pl6) (x : Pl6) (W : World) (K : Act → World → Prop), I pre W → (∀ a' W', KeepsFrom w.heap.size W W' → KeepP W W' → I pre W' → Ax x a' W' → K a' W') →
      assign.wpIn (Fence.wide.inRound l) m Tryz.prog (Exit.then K (fun _ _ _ => False)) { tmps := a.tmps.setIfInBounds p (encPl x), defers := [] } W)
    (hbody : ∀ (m l : Nat) (pre : List Pl6) (x : Pl6) (a' : Act) (W : World), w.heap.size ≤ l → I pre W → Ax x a' W → pre ++ [x] <+: (vis s).1 →
      body.wpIn (Fence.wide.inRound l) m Tryz.prog (PlPost w.heap.size I Ix (pre ++ [x]) W) a' W)
    (hdone : ∀ (D : Nat) (W : World), w.heap.size ≤ D → (vis s).2.2 = 0 → I (vis s).1 W → W.heap[D]? = some (.deferred (some [])) → Q .normal { a with defers := markOf D :: a.defers } W)
    (hstop : ∀ (D : Nat) (c : Code) (pre : List Pl6) (W : World), w.heap.size ≤ D → pre <+: (vis s).1 → Ix c pre W → W.heap[D]? = some (.deferred (some [])) → c.wpIn Fence.wide n Tryz.prog Q { a with defers := markOf D :: a.defers } W)
    (hthrow : ∀ (D : Nat) (W : World), w.heap.size ≤ D → (vis s).2.2 ≠ 0 → I (vis s).1 W → W.heap[D]? = some (.deferred (some [])) →
      Q (.panic [{ v := .iface 29 (.int .i64 (vis s).2.2), recovered := false }]) { a with defers := markOf D :: a.defers } W) :
    (Code.rangeFunc g #[p] assign body).wpIn Fence.wide n Tryz.prog Q a w := by
  refine wpIn_rangeFunc fun fn hfn => ?_
  obtain ⟨B0, hB0⟩ : ∃ B0, B0 = w.heap.size := ⟨_, rfl⟩
  obtain ⟨rec, hrec⟩ : ∃ rec : LoopState → Option Code → Loop, rec = fun st pe => { state := st, pending := pe, fn := fn, tmps := a.tmps, params := #[p], assign := assign, body := body, defers := w.heap.size } := ⟨_, rfl⟩
  obtain ⟨V, hV⟩ : ∃ V, V = (w.alloc (.deferred (some []))).alloc (.loop (rec .ready none)) := ⟨_, rfl⟩
  have vB : Below w.heap.size w V := by rw [hV]; exact ((Below.refl _ w).alloc (Nat.le_refl _) _).alloc (by simp) _
  have vL : V.heap[w.heap.size + 1]? = some (.loop (rec .ready none)) := by
    have h := World.alloc_heap_new (w.alloc (.deferred (some []))) (.loop (rec .ready none))
    rw [World.size_alloc] at h
    rw [hV]; exact h
  have vD : V.heap[w.heap.size]? = some (.deferred (some [])) := by
    rw [hV]; exact (Below.heap_alloc _ _ _ (by simp)).trans (World.alloc_heap_new w _)
  have vI : I [] V := by rw [hV]; exact hI.alloc _ (hI.alloc _ h0)
  have vC : V.cell? ⟨B, 0, none⟩ = some (.string s) := (vB.cell (p := ⟨B, 0, none⟩) hB.lt).trans hB.cell
  -- the two blocks of the loop, behind whatever a round has done
  obtain ⟨Bk, hBk⟩ : ∃ Bk : Loop → World → Prop, Bk = fun r W => W.heap[w.heap.size + 1]? = some (.loop r) ∧ W.heap[w.heap.size]? = some (.deferred (some [])) := ⟨_, rfl⟩
  have bkV : Bk (rec .ready none) V := by rw [hBk]; exact ⟨vL, vD⟩
  have bkBelow : ∀ r W W', Bk r W → Below W.heap.size W W' → Bk r W' := fun r W W' h b => by
    rw [hBk] at h ⊢; exact ⟨heap_below b h.1, heap_below b h.2⟩
  have bkKeep : ∀ r W W', Bk r W → KeepsFrom w.heap.size W W' → Bk r W' := fun r W W' h k => by
    rw [hBk] at h ⊢; exact ⟨k.same _ _ (Nat.le_succ _) h.1 rfl, k.same _ _ (Nat.le_refl _) h.2 rfl⟩
  have bkPut : ∀ r r' W, Bk r W → Bk r' (W.putObj (w.heap.size + 1) (.loop r')) := fun r r' W h => by
    rw [hBk] at h ⊢; exact ⟨World.putObj_heap_same (Array.getElem?_eq_some_iff.1 h.1).1, (World.putObj_heap_other (by omega)).trans h.2⟩
  have bkL : ∀ r W, Bk r W → W.heap[w.heap.size + 1]? = some (.loop r) := fun r W h => by rw [hBk] at h; exact h.1
  have bkD : ∀ r W, Bk r W → W.heap[w.heap.size]? = some (.deferred (some [])) := fun r W h => by rw [hBk] at h; exact h.2
  clear hBk vL vD
  have grow : ∀ {W W' : World}, Below W.heap.size W W' → W.grownBy W' none := fun b => ⟨b.os, b.tape, b.output, b.size, fun k hk _ => b.block k hk⟩
  refine ⟨w.heap.size + 1, [markOf w.heap.size], V, { target := .fn (.func 104) #[.pointer (some ⟨B, 0, none⟩)], args := #[.func (.yield (w.heap.size + 1)) #[] #[]] }, V, 104,
    #[.func (.yield (w.heap.size + 1)) #[] #[]] ++ #[.pointer (some ⟨B, 0, none⟩)], V, ?_, ?_, ?_, ?_, hdd _, ?_⟩
  · rw [hV, hrec]; exact run_enterLoop_outer _ _ _ _ _
  · simp only [resolve, hg]; simp [go_sem]
  · intro f' _; exact trivial
  · simp [invoke, go_sem]
  · refine CallsIn.mono (places1_in s hs (w.heap.size + 1) B (n - 1) (fun pre W => I pre W ∧ Bk (rec .ready none) W) (fun pre W => ∃ c, Ix c pre W ∧ Bk (rec .done (some c)) W) ?_ ?_ V vC ⟨vI, bkV⟩) ?_
    · exact fun pre W W' h b => ⟨hI pre W W' none h.1 (grow b) (fun r e => by cases e), bkBelow _ _ _ h.2 b⟩
    · rintro m pre x W ⟨hi, hbk⟩ hpre
      have hy := run_yield (P := Tryz.prog) (args := #[encPl x]) (bkL _ _ hbk) (by rw [hrec]; rfl)
      have hy2 : (Instr.yield (w.heap.size + 1) #[encPl x]).run Tryz.prog W = .ok (.round (w.heap.size + 1) fn (a.tmps.setIfInBounds p (encPl x)) assign body) W := by rw [hy, hrec]; simp
      refine ⟨fn, _, assign, body, hy2, roundIn_of_wpIn trivial ?_⟩
      clear hy hy2
      refine hassign m _ pre x W _ hi fun a' Wa k1 k2 hia hax => ?_
      have bka := bkKeep _ _ _ hbk k1
      have hla := bkL _ _ bka
      refine ⟨_, run_beginRound hla (by rw [hrec]), ?_⟩
      obtain ⟨Wb, hWb⟩ : ∃ Wb, Wb = Wa.putObj (w.heap.size + 1) (.loop { rec .ready none with state := .busy }) := ⟨_, rfl⟩
      have bkb : Bk { rec .ready none with state := .busy } Wb := by rw [hWb]; exact bkPut _ _ _ bka
      have k3 : KeepP Wa Wb := by rw [hWb]; exact KeepP.putObj hla rfl _
      have hib : I pre Wb := by rw [hWb]; exact hI.putObj _ hia (by omega) hla rfl
      have haxb : Ax x a' Wb := by rw [hWb]; exact (hAx x a').putObj (s := ()) _ hax (by omega) hla rfl
      rw [← hWb]
      refine wpIn_mono (hbody m (w.heap.size + 1) pre x a' Wb (by omega) hib haxb hpre) ?_
      have fin : ∀ (jump : Option Code) (Wc : World), KeepsFrom w.heap.size Wb Wc → KeepP Wb Wc →
          ∃ Wd, (Instr.endRound (w.heap.size + 1) jump).run Tryz.prog Wc = .ok (.bool jump.isNone) Wd ∧ Bk (rec (if jump.isNone then .ready else .done) jump) Wd ∧ KeepP W Wd ∧
            Wd = Wc.putObj (w.heap.size + 1) (.loop (rec (if jump.isNone then .ready else .done) jump)) ∧ Wc.heap[w.heap.size + 1]? = some (.loop { rec .ready none with state := .busy }) := fun jump Wc k4 k5 => by
        have bkc := bkKeep _ _ _ bkb k4
        have hlc := bkL _ _ bkc
        have hr := run_endRound (P := Tryz.prog) jump hlc
        refine ⟨_, ?_, bkPut _ _ _ bkc, ((k2.trans k3).trans k5).trans (KeepP.putObj hlc rfl _), rfl, hlc⟩
        rw [hr, hrec]
      rintro e a3 Wc hp
      cases e with
      | normal =>
        obtain ⟨k4, k5, hic⟩ := hp
        obtain ⟨Wd, hr, bkd, kd, hWd, hlc⟩ := fin none Wc k4 k5
        exact ⟨_, _, hr, .inl ⟨rfl, ⟨by rw [hWd]; exact hI.putObj _ hic (by omega) hlc rfl, bkd⟩, kd⟩⟩
      | ret =>
        obtain ⟨k4, k5, hic⟩ := hp
        obtain ⟨Wd, hr, bkd, kd, hWd, hlc⟩ := fin (some .ret) Wc k4 k5
        exact ⟨_, _, hr, .inr ⟨rfl, ⟨.ret, by rw [hWd]; exact (hIx _).putObj _ hic (by omega) hlc rfl, bkd⟩, kd⟩⟩
      | exit id =>
        obtain ⟨k4, k5, hic⟩ := hp
        obtain ⟨Wd, hr, bkd, kd, hWd, hlc⟩ := fin (some (.exit id)) Wc k4 k5
        exact ⟨_, _, hr, .inr ⟨rfl, ⟨.exit id, by rw [hWd]; exact (hIx _).putObj _ hic (by omega) hlc rfl, bkd⟩, kd⟩⟩
      | goto t =>
        obtain ⟨k4, k5, hic⟩ := hp
        obtain ⟨Wd, hr, bkd, kd, hWd, hlc⟩ := fin (some (.goto t)) Wc k4 k5
        exact ⟨_, _, hr, .inr ⟨rfl, ⟨.goto t, by rw [hWd]; exact (hIx _).putObj _ hic (by omega) hlc rfl, bkd⟩, kd⟩⟩
      | panic ch => exact hp.elim
      | outgrown => exact hp.elim
    · rintro e W2 (⟨hz, ⟨v, rfl⟩, hi, hbk⟩ | ⟨q, ⟨v, rfl⟩, hq, c, hi, hbk⟩ | ⟨hz, rfl, hi, hbk⟩)
      · have hl := bkL _ _ hbk
        have he := run_endLoop (P := Tryz.prog) hl (by rw [hrec]; simp)
        refine ⟨none, _, he.trans (by rw [hrec]), ?_⟩
        exact hdone _ _ (Nat.le_refl _) hz (hI.putObj _ hi (by omega) hl rfl) ((World.putObj_heap_other (by omega)).trans (bkD _ _ hbk))
      · have hl := bkL _ _ hbk
        have he := run_endLoop (P := Tryz.prog) hl (by rw [hrec]; simp)
        refine ⟨some c, _, he.trans (by rw [hrec]), ?_⟩
        exact hstop _ c q _ (Nat.le_refl _) hq ((hIx c).putObj _ hi (by omega) hl rfl) ((World.putObj_heap_other (by omega)).trans (bkD _ _ hbk))
      · exact hthrow _ W2 (Nat.le_refl _) hz hi (bkD _ _ hbk)
end Go.Proofs.YtbdlegjklfkdmaaGreatDoor.Pl
