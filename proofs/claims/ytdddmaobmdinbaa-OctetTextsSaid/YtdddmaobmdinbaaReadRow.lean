/- What octet.ReadRow answers. -/
import Derived.Test.YtdddmaobmdinbaaPieces
import Derived.Test.YtdddmaobmdinbaaSrc
import Derived.Deep.RegionHeld3
import Derived.Test.YtdddmaobmdinbaaAnyIn
import Derived.BigRegionIn
import Derived.Shelf.RegionOpen
namespace Go.Proofs.Ytdddmaobmdinbaa.Pl
open Go.RowKit Go.Shelf
attribute [local go_sem] Oper.semAt_some

theorem stepR_scope {P : Program} {b : Frame} {a : Act} {k : List Item} {cs : List Frame} {w : World} {c : Code} : step P (lone (b.atR a (.code (.scope c) :: k)) cs w) = .next (lone (b.atR a (.code c :: .inScope c :: k)) cs w) :=
  step_lone_go (by simp [stepG, stepG.exec, Frame.atR])
theorem stepR_inScope {P : Program} {b : Frame} {a : Act} {k : List Item} {cs : List Frame} {w : World} {c : Code} : step P (lone (b.atR a (.inScope c :: k)) cs w) = .next (lone (b.atR a k) cs w) :=
  step_lone_go (by simp [stepG, stepG.exec, Frame.atR])

/-- A scope through which the run goes without a goto, inside a fence. -/
theorem wpIn_scope_straight {F : Fence} {n : Nat} {P : Program} {Q : Exit → Act → World → Prop} {a : Act} {w : World} {c : Code} (h : c.wpIn F n P (Exit.noGoto Q) a w) : (Code.scope c).wpIn F n P Q a w := by
  intro b k cs hro hb hr
  have h0 : (lone (b.atR a (.code (.scope c) :: k)) cs w).fenced P F := fenced_calm hb hr rfl
  obtain ⟨e, a₁, w₁, hq, harr⟩ := h b (.inScope c :: k) cs hro hb hr
  cases e with
  | normal => exact ⟨.normal, a₁, w₁, hq, .head h0 stepR_scope (StepsIn.trans harr (.one (fenced_calm hb hr rfl) stepR_inScope))⟩
  | exit id => exact ⟨.exit id, a₁, w₁, hq, .of_steps (.one h0 stepR_scope) ⟨fun k' hk => harr.1 k' (by simp [exitTo, hk]), fun hr' hk => harr.2 hr' (by simp [exitTo, hk])⟩⟩
  | goto l => exact hq.elim
  | ret => exact ⟨_, a₁, w₁, hq, .of_steps (.one h0 stepR_scope) harr⟩
  | panic ch => exact ⟨_, a₁, w₁, hq, .of_steps (.one h0 stepR_scope) harr⟩
  | outgrown => exact ⟨_, a₁, w₁, hq, .of_steps (.one h0 stepR_scope) harr⟩

def RowPost (r : List (List UInt8) × Nat × Nat) (w : World) (e : Ending) (w' : World) : Prop :=
  ∃ p cap, e = .returned (.tuple #[.slice p r.1.length cap, .int .i64 r.2.1, .int .i64 r.2.2]) ∧ Src w' p r.1.length (r.1.map fun t => (⟨t.toArray⟩ : ByteArray)) ∧ Below w.heap.size w w'

set_option maxRecDepth 100000 in
set_option maxHeartbeats 1000000 in
theorem readrow_none (s : ByteArray) (c m : Int) (hc : c ≤ 0) (w : World) :
    Calls Try.prog 20 #[.string s, .int .i64 c, .int .i64 m] w (RowPost ([], 0, 0) w) := by
  go_enter Try.func20, Try.ntmps20
  go_wp2
  refine wp_scope_straight ?_
  go_wp2
  rw [Exit.noGoto_ret]
  refine bodyPost_ret (v := .tuple #[.slice none 0 0, .int .i64 0, .int .i64 0]) (by simp [results, Try.results20, go_sem]) rfl ?_
  exact ⟨none, 0, rfl, ⟨rfl, .inl rfl⟩, ((((Below.refl _ _).alloc (Nat.le_refl _) _).alloc (by simp) _).alloc (by simp; omega) _).alloc (by simp; omega) _⟩

def okP (pre : List Piece) : Prop := ∀ x ∈ pre, x.2.2 = 0
def sumP (pre : List Piece) : Nat := (pre.map fun x => x.2.1.1).sum
def textV (x : Piece) : Value := .string ⟨x.1.toArray⟩
theorem sumP_snoc (pre : List Piece) (x : Piece) : sumP (pre ++ [x]) = sumP pre + x.2.1.1 := by simp [sumP]
theorem sumP_le : ∀ pre : List Piece, sumP pre ≤ pre.length * 281474976710656
  | [] => by simp [sumP]
  | x :: r => by
    have h := sumP_le r
    have e : sumP (x :: r) = x.2.1.1 + sumP r := by simp [sumP]
    have hx := x.2.1.2
    rw [e, List.length_cons]
    omega

/-- What the caller's own variables hold when pre has come. -/
def RowJ (S : Nat → Prop) (w : World) (c : Nat) (m : Int) (pre : List Piece) (W : World) : Prop :=
  (∃ v, Boxed W (w.heap.size + 1) 29 v ∧ W.ownsRow w.heap.size 9 1 v pre.length (pre.map textV) ∧ (okP pre ∧ S pre.length)) ∧
  (Boxed W (w.heap.size + 1 + 1) 3 (.int .i64 (sumP pre)) ∧ Boxed W (w.heap.size + 1 + 1 + 1) 24 (.int .i64 0) ∧ Boxed W w.heap.size 3 (.int .i64 c) ∧ Boxed W (w.heap.size + 1 + 1 + 1 + 1 + 1) 3 (.int .i64 m)) ∧
  Below w.heap.size w W
theorem rowJ_own (S : Nat → Prop) (w : World) (c : Nat) (m : Int) (B : Nat) (hB : w.heap.size ≤ B) : OwnFrom B (RowJ S w c m) :=
  OwnFrom.and (Own.from (holdsRow_own w.heap.size (w.heap.size + 1) 29 9 1 (fun pre => pre.length) (fun pre => pre.map textV) (fun pre _ => okP pre ∧ S pre.length)) _)
    (OwnFrom.and (OwnFrom.and (Own.from (boxed_own _ _ _) _) (OwnFrom.and (Own.from (boxed_own _ _ _) _) (OwnFrom.and (Own.from (boxed_own _ _ _) _) (Own.from (boxed_own _ _ _) _)))) (ownFrom_below (Nat.le_refl _) hB))
/-- There is still one wanted. -/
abbrev RowI (w : World) (c : Nat) (m : Int) : List Piece → World → Prop := RowJ (fun k => k < c) w c m
/-- What they hold when the loop has been left by a return: nothing, and why. -/
def RowR (w : World) (c : Nat) (pre : List Piece) (W : World) : Prop :=
  ∃ z : Nat, (∃ q x, pre = q ++ [x] ∧ okP q ∧ q.length < c ∧ x.2.2 = z ∧ z ≠ 0) ∧ Boxed W (w.heap.size + 1) 29 (.slice none 0 0) ∧ Boxed W (w.heap.size + 1 + 1) 3 (.int .i64 0) ∧ Boxed W (w.heap.size + 1 + 1 + 1) 24 (.int .i64 z) ∧ Below w.heap.size w W
theorem rowR_own (w : World) (c : Nat) (B : Nat) (hB : w.heap.size ≤ B) : OwnFrom B (RowR w c) := by
  intro pre X Y row hs hg hr
  obtain ⟨z, hq, h1, h2, h3, h4⟩ := hs
  have hr' : ∀ r, row = some r → ∃ o : Obj, X.heap[r]? = some o ∧ o.isCells = false := fun r e => (hr r e).2
  exact ⟨z, hq, boxed_own _ _ (fun (_ : Unit) => _) () X Y row h1 hg hr', boxed_own _ _ (fun (_ : Unit) => _) () X Y row h2 hg hr', boxed_own _ _ (fun (_ : Unit) => _) () X Y row h3 hg hr',
    ownFrom_below (β := Unit) (Nat.le_refl _) hB () X Y row h4 hg hr⟩
/-- How the loop may be left. -/
def RowX (w : World) (c : Nat) (m : Int) : Code → List Piece → World → Prop
  | .ret => RowR w c
  | .exit id => fun pre W => id = 0 ∧ RowJ (fun k => k = c) w c m pre W
  | _ => fun _ _ => False
theorem rowX_own (w : World) (c : Nat) (m : Int) (B : Nat) (hB : w.heap.size ≤ B) : ∀ k, OwnFrom B (RowX w c m k) := by
  intro k
  cases k with
  | ret => exact rowR_own w c B hB
  | exit id => exact fun pre X Y row hs hg hr => ⟨hs.1, rowJ_own _ w c m B hB pre X Y row hs.2 hg hr⟩
  | _ => exact fun _ _ _ _ hs _ _ => hs.elim

theorem cell_far {W : World} {a b : Addr} {u v : Value} (h : W.cell? b = some u) (hab : a.block ≠ b.block) : (W.setCell a v).cell? b = some u := (World.cell?_setCell_far W a b v hab).trans h
theorem cell_of3 {W : World} {B : Nat} {cs : Array Value} {t : TypeId} {e : Nat × Nat} (h : W.heap[B]? = some (.cells cs t e)) (i : Nat) (u : Value) (hu : cs[i]? = some u) : W.cell? ⟨B, i, none⟩ = some u := by simp [World.cell?, h, hu]
theorem grown_drew (W : World) : W.grownBy W.drew none := ⟨rfl, rfl, rfl, Nat.le_refl _, fun _ _ _ => rfl⟩
theorem RowJ.stored {S : Nat → Prop} {w : World} {c : Nat} {m : Int} {pre : List Piece} {W : World} {v : Value} (h : RowJ S w c m pre W) (hv : W.cell? ⟨w.heap.size + 1, 0, none⟩ = some v) :
    RowJ S w c m pre (((W.setCell ⟨w.heap.size + 1, 0, none⟩ v).setCell ⟨w.heap.size + 1 + 1, 0, none⟩ (.int .i64 (sumP pre))).setCell ⟨w.heap.size + 1 + 1 + 1, 0, none⟩ (.int .i64 0)) := by
  obtain ⟨⟨v', bv, hrow, hok, hlen⟩, ⟨b7, b8, bC, bM⟩, hB⟩ := h
  obtain rfl : v' = v := Option.some.inj (bv.cell.symm.trans hv)
  have bv1 := bv.set v'
  have b71 := b7.other (B' := w.heap.size + 1) (by omega) v'
  have b81 := b8.other (B' := w.heap.size + 1) (by omega) v'
  have bC1 := bC.other (B' := w.heap.size + 1) (by omega) v'
  have bM1 := bM.other (B' := w.heap.size + 1) (by omega) v'
  have r1 := hrow.kept (grownBy_setCell' W (w.heap.size + 1) v') (.inr (bv.not_row (by decide) hrow).symm)
  have r2 := r1.kept (grownBy_setCell' _ (w.heap.size + 1 + 1) (.int .i64 (sumP pre))) (.inr (b71.not_row (by decide) r1).symm)
  have b82 := b81.other (B' := w.heap.size + 1 + 1) (by omega) (.int .i64 (sumP pre))
  have r3 := r2.kept (grownBy_setCell' _ (w.heap.size + 1 + 1 + 1) (.int .i64 0)) (.inr (b82.not_row (by decide) r2).symm)
  exact ⟨⟨v', (bv1.other (by omega) _).other (by omega) _, r3, hok, hlen⟩, ⟨(b71.set _).other (by omega) _, b82.set _, (bC1.other (by omega) _).other (by omega) _, (bM1.other (by omega) _).other (by omega) _⟩,
    ((hB.setCell (by simp) _).setCell (by simp; omega) _).setCell (by simp; omega) _⟩
theorem RowJ.shut {S : Nat → Prop} {w : World} {c : Nat} {m : Int} {pre : List Piece} {W : World} {D : Nat} (h : RowJ S w c m pre W) (hD : w.heap.size ≤ D) (hdef : W.heap[D]? = some (.deferred (some []))) :
    RowJ S w c m pre (W.putObj D (.deferred none)) := (rowJ_own S w c m w.heap.size (Nat.le_refl _)).putObj _ h hD hdef rfl
theorem seqP_le (m : Int) : ∀ (f : Nat) (l : List UInt8), ∀ y ∈ seqP m f l, y.2.1 ≤ l.length
  | 0, _, _, h => by simp [seqP] at h
  | f + 1, l, y, h => by
    rw [seqP, List.mem_cons] at h
    rcases h with rfl | h
    · exact rdt_size l m
    · split at h
      · have := seqP_le m f _ y h
        simp at this; omega
      · cases h
theorem sumP_pc : ∀ ys : List (List UInt8 × Nat × Nat), (∀ y ∈ ys, y.2.1 ≤ 281474976710656) → sumP (ys.map pc) = sumN ys
  | [], _ => rfl
  | y :: r, h => by
    have ih := sumP_pc r (fun z hz => h z (by simp [hz]))
    have hy := pc_val (h y (by simp))
    simp only [sumP, sumN, List.map_cons, List.sum_cons] at ih ⊢
    rw [ih, hy]

theorem pre_map {pre : List Piece} {L : List (List UInt8 × Nat × Nat)} (h : pre <+: L.map pc) : ∃ ys, pre = ys.map pc ∧ ys <+: L := by
  obtain ⟨t, ht⟩ := h
  obtain ⟨a, b, hab, ha, hb⟩ := List.map_eq_append_iff.1 ht.symm
  exact ⟨a, ha.symm, ⟨b, hab.symm⟩⟩

/-- The frame of a round: where the piece lies, and what it is. -/
def rowAct (s : ByteArray) (c : Nat) (m : Int) (w : World) (Bx : Nat) (x : Piece) : Act :=
  { tmps := #[.string s, .int .i64 c, .int .i64 m, undef, .pointer (some ⟨w.heap.size, 0, none⟩), undef, .pointer (some ⟨w.heap.size + 1, 0, none⟩), .pointer (some ⟨w.heap.size + 1 + 1, 0, none⟩), .pointer (some ⟨w.heap.size + 1 + 1 + 1, 0, none⟩), .pointer (some ⟨Bx, 0, none⟩), .int .i64 c, .bool false, .string s, .int .i64 m,
      .func (.func 31) #[] #[.pointer (some ⟨w.heap.size + 1 + 1 + 1 + 1, 0, none⟩), .pointer (some ⟨w.heap.size + 1 + 1 + 1 + 1 + 1, 0, none⟩)], .agg #[.string ⟨x.1.toArray⟩, .int .i64 x.2.1.1, .int .i64 x.2.2], undef, undef, undef, undef, undef, undef, undef, undef, undef, undef, undef, undef, undef, undef, undef, undef, undef, undef, undef, undef, undef], defers := [] }

set_option maxRecDepth 100000 in
set_option maxHeartbeats 2000000 in
theorem readrow_some (s : ByteArray) (c : Nat) (m : Int) (hc : 1 ≤ c) (hc2 : c ≤ 10000) (w : World) (hs : s.size ≤ 281474976710656) (m1 : -9223372036854775808 ≤ m) (m2 : m ≤ 9223372036854775807) :
    Calls Try.prog 20 #[.string s, .int .i64 c, .int .i64 m] w (RowPost (rdrow m c s.data.toList [] 0) w) := by
  have hcc : ¬ (c : Int) ≤ 0 := by omega
  refine (callsIn_wide (n := 5)).1 ?_
  refine callsIn_of_wp_marks Try.func20 rfl trivial ?_ rfl
  simp only [Try.ntmps20, List.size_toArray, List.length_cons, List.length_nil, Nat.reduceAdd, Nat.reduceSub, Array.replicate_succ, Array.replicate_zero, List.push_toArray, List.append_toArray, List.nil_append, List.cons_append]
  gi_wp2
  refine wpIn_scope_straight ?_
  gi_wp2
  apply wpIn_label
  gi_wp2_with (refine ⟨trivial, ?_⟩; gi_at_call 28; refine (callsIn_wide.2 (pieces_in s m _)).mono ?_; rintro e w1 ⟨rfl, rfl⟩)
  obtain ⟨W0, hW0⟩ : ∃ W0, ((((((w.alloc (.cells #[.int .i64 c] 3)).alloc (.cells #[.slice none 0 0] 29)).alloc (.cells #[.int .i64 0] 3)).alloc (.cells #[.int .i64 0] 24)).alloc (.cells #[.string s] 9)).alloc (.cells #[.int .i64 m] 3)) = W0 := ⟨_, rfl⟩
  have bC : Boxed W0 w.heap.size 3 (.int .i64 c) := by rw [← hW0]; exact (((((Boxed.new w _ _).alloc _).alloc _).alloc _).alloc _).alloc _
  have b6 : Boxed W0 (w.heap.size + 1) 29 (.slice none 0 0) := by rw [← hW0]; have h := ((((Boxed.new (w.alloc (.cells #[.int .i64 c] 3)) 29 (.slice none 0 0)).alloc (.cells #[.int .i64 0] 3)).alloc (.cells #[.int .i64 0] 24)).alloc (.cells #[.string s] 9)).alloc (.cells #[.int .i64 m] 3); simpa using h
  have b7 : Boxed W0 (w.heap.size + 1 + 1) 3 (.int .i64 0) := by rw [← hW0]; have h := (((Boxed.new ((w.alloc (.cells #[.int .i64 c] 3)).alloc (.cells #[.slice none 0 0] 29)) 3 (.int .i64 0)).alloc (.cells #[.int .i64 0] 24)).alloc (.cells #[.string s] 9)).alloc (.cells #[.int .i64 m] 3); simpa using h
  have b8 : Boxed W0 (w.heap.size + 1 + 1 + 1) 24 (.int .i64 0) := by rw [← hW0]; have h := ((Boxed.new (((w.alloc (.cells #[.int .i64 c] 3)).alloc (.cells #[.slice none 0 0] 29)).alloc (.cells #[.int .i64 0] 3)) 24 (.int .i64 0)).alloc (.cells #[.string s] 9)).alloc (.cells #[.int .i64 m] 3); simpa using h
  have bS : Boxed W0 (w.heap.size + 1 + 1 + 1 + 1) 9 (.string s) := by rw [← hW0]; have h := (Boxed.new ((((w.alloc (.cells #[.int .i64 c] 3)).alloc (.cells #[.slice none 0 0] 29)).alloc (.cells #[.int .i64 0] 3)).alloc (.cells #[.int .i64 0] 24)) 9 (.string s)).alloc (.cells #[.int .i64 m] 3); simpa using h
  have bM : Boxed W0 (w.heap.size + 1 + 1 + 1 + 1 + 1) 3 (.int .i64 m) := by rw [← hW0]; have h := Boxed.new (((((w.alloc (.cells #[.int .i64 c] 3)).alloc (.cells #[.slice none 0 0] 29)).alloc (.cells #[.int .i64 0] 3)).alloc (.cells #[.int .i64 0] 24)).alloc (.cells #[.string s] 9)) 3 (.int .i64 m); simpa using h
  have hsz : W0.heap.size = w.heap.size + 6 := by rw [← hW0]; simp
  have hB0 : Below w.heap.size w W0 := by rw [← hW0]; exact ((((((Below.refl _ w).alloc (Nat.le_refl _) _).alloc (by simp) _).alloc (by simp; omega) _).alloc (by simp; omega) _).alloc (by simp; omega) _).alloc (by simp; omega) _
  rw [hW0]
  clear hW0
  refine wpIn_rangeFunc_ownH (F := Fence.wide) rfl (by decide) (gf := 31) (lb := #[.pointer (some ⟨w.heap.size + 1 + 1 + 1 + 1, 0, none⟩), .pointer (some ⟨w.heap.size + 1 + 1 + 1 + 1 + 1, 0, none⟩)]) rfl trivial (enters_of Try.func31 (by kernel_rfl) rfl)
    (pieces_stops 4 (by decide) (w.heap.size + 1 + 1 + 1 + 1) (w.heap.size + 1 + 1 + 1 + 1 + 1) s m hs m1 m2 W0 (by omega) (by omega) bS.cell bM.cell) (fun h k => KeepB.trans h k)
    (fun W l o o' hl h _ _ => ⟨World.putObj_heap_other (by omega), by simp⟩) (Below.refl _ _) (fun _ => rfl)
    (RowI w c m) (RowX w c m) (rowJ_own _ w c m _ (by omega)) (rowX_own w c m _ (by omega))
    ⟨⟨_, b6, World.ownsRow_nil _ _ _ _, (fun x hx => by cases hx), by show 0 < c; omega⟩, ⟨b7, b8, bC, bM⟩, hB0⟩
    (fun x a' W => ∃ Bx, w.heap.size + 5 < Bx ∧ W.heap[Bx]? = some (.cells #[.string ⟨x.1.toArray⟩, .int .i64 x.2.1.1, .int .i64 x.2.2] 59 (0, 0)) ∧ a' = rowAct s c m w Bx x)
    (fun x a' _ X Y row hs hg hr => by
      obtain ⟨Bx, h1, h2, h3⟩ := hs
      refine ⟨Bx, h1, ?_, h3⟩
      refine (hg.block Bx (Array.getElem?_eq_some_iff.1 h2).1 (fun e => ?_)).trans h2
      obtain ⟨o, ho, hcl⟩ := (hr Bx e.symm).2
      rw [h2] at ho; cases ho; cases hcl)
    ?assign ?body ?done ?stop
  case assign =>
    rintro l pre x W K hi hK
    unfold encP
    gi_wp2
    have hsW := hi.2.2.size
    have hbm := hi.2.1.2.2.2.lt
    refine hK _ _ ((KeepsOthers.alloc _ _).from _) ⟨Below.heap_alloc _ _ _ (by omega), by simp⟩ ?_ ⟨W.heap.size, by omega, World.alloc_heap_new _ _, rfl⟩
    exact (rowJ_own _ w c m w.heap.size (Nat.le_refl _)).alloc _ hi
  case body =>
    rintro l pre x a' W hl ⟨r, hr⟩ hI ⟨Bx, hBx, bX, rfl⟩ hlt
    obtain ⟨⟨v, bv, hrow, hok, hlen⟩, ⟨b7, b8, bC, bM⟩, hB⟩ := hI
    have x0 : W.cell? ⟨Bx, 0, none⟩ = some (.string ⟨x.1.toArray⟩) := by simp [World.cell?, bX]
    have x1 : W.cell? ⟨Bx, 1, none⟩ = some (.int .i64 x.2.1.1) := by simp [World.cell?, bX]
    have x2 : W.cell? ⟨Bx, 2, none⟩ = some (.int .i64 x.2.2) := by simp [World.cell?, bX]
    have cv := bv.cell
    have c7 := b7.cell
    have c8 := b8.cell
    have cC := bC.cell
    have f6 := bv.frozen
    have f7 := b7.frozen
    have f8 := b8.frozen
    by_cases hz : x.2.2 = 0
    · have hz' : ((x.2.2 : Int) == 0) = true := by rw [hz]; rfl
      have HZ := Lib.hid hz
      have mixed : Try.prog.follows .mixedOrders = true := by kernel_rfl
      clear hz
      unfold rowAct
      gi_wp2
      refine wpIn_region_any mixed ?_
      generalize hU0 : ({ W with drawn := W.drawn + 1 } : World) = U0
      have hI0 : RowI w c m pre U0 := by
        rw [← hU0]
        exact rowJ_own _ w c m w.heap.size (Nat.le_refl _) pre W W.drew none ⟨⟨v, bv, hrow, hok, hlen⟩, ⟨b7, b8, bC, bM⟩, hB⟩ (grown_drew W) (fun r e => by cases e)
      have bX : U0.heap[Bx]? = some (.cells #[.string ⟨x.1.toArray⟩, .int .i64 x.2.1.1, .int .i64 x.2.2] 59 (0, 0)) := by rw [← hU0]; exact bX
      have bMW := bM
      have hKW : KeepsOthers W U0 := by rw [← hU0]; exact KeepsOthers.drew W
      clear hrow bv b7 b8 bC bM hB cv c7 c8 cC f6 f7 f8 x0 x1 x2 hU0
      obtain ⟨⟨v, bv, hrow, hok, hlen⟩, ⟨b7, b8, bC, bM⟩, hB⟩ := hI0
      obtain ⟨i0, hi, hz0, hz1, hz2⟩ := info_parts infoString
      have hUs := hB.size
      obtain ⟨v', w1, hrun, hown', hgrow, _⟩ := run_append_own (P := Try.prog) (U0.alloc (.cells #[.string ⟨x.1.toArray⟩] 9)) w.heap.size 29 29 9 i0 (.string ⟨#[]⟩) 1 16 Try.underlying29 hi hz0 hz1 hz2 rfl (by decide) v pre.length (pre.map textV) (hrow.alloc _) ⟨U0.heap.size, 0, none⟩ 1 1 [.string ⟨x.1.toArray⟩] rfl
        (by
          intro j u hu
          cases j with
          | zero =>
            have hu' : Value.string ⟨x.1.toArray⟩ = u := by simpa using hu
            subst hu'
            exact (Boxed.new U0 9 (.string ⟨x.1.toArray⟩)).cell
          | succ j => simp at hu)
        (by intro u hu; have : u = Value.string ⟨x.1.toArray⟩ := by simpa using hu
            rw [this]; rfl)
        (by unfold maxLen; omega) (by omega) (by simp; omega)
      have hmapx : List.map textV pre ++ [Value.string ⟨x.1.toArray⟩] = ((pre ++ [x]).map fun y => (⟨y.1.toArray⟩ : ByteArray)).map Value.string := by simp [textV]
      rw [hmapx] at hown'
      obtain ⟨qx, cx, rfl, _⟩ := src_own hown'
      rw [← hmapx] at hown'
      clear hmapx
      obtain ⟨bv1, bv3, hrow3, hK3, hB3⟩ := Boxed.appended (tmp := .cells #[.string ⟨x.1.toArray⟩] 9) bv (by decide) hrow hB.size (by simp) hown' hgrow
      have b71 := (b7.alloc (.cells #[.string ⟨x.1.toArray⟩] 9)).kept hgrow (b7.not_row (by decide) hrow)
      have b73 := b71.other (B' := w.heap.size + 1) (by omega) (.slice qx (pre.length + 1) cx)
      have hXne : some Bx ≠ v.ownBlock := by
        rcases hrow.2 with ⟨rfl, _⟩ | ⟨g, cap, cur, rfl, _, hgb, _⟩
        · simp [Value.ownBlock]
        · intro e'
          obtain rfl : Bx = g := by simpa [Value.ownBlock] using e'
          have := bX.symm.trans hgb
          simp at this
      have hXlt : Bx < U0.heap.size := (Array.getElem?_eq_some_iff.1 bX).1
      have bX1 := (Below.heap_alloc U0 (.cells #[.string ⟨x.1.toArray⟩] 9) Bx hXlt).trans bX
      have bX2 := (hgrow.block Bx (by simp; omega) hXne).trans bX1
      have bX3 := (Below.heap_setCell w1 ⟨w.heap.size + 1, 0, none⟩ (.slice qx (pre.length + 1) cx) Bx (by simp; omega)).trans bX2
      have hwrap : IntKind.i64.wrap ((sumP pre : Int) + (x.2.1.1 : Int)) = (sumP pre : Int) + (x.2.1.1 : Int) := by
        have h1 := sumP_le pre
        have h2 := x.2.1.2
        have h3 : pre.length * 281474976710656 ≤ 10000 * 281474976710656 := Nat.mul_le_mul_right _ (by omega)
        exact wrap_small _ (by omega) (by omega)
      refine wpAnyIn_inv (fun listed a w' => ∃ q0 q1 q2 q3 q4 q5 q6 q7 q8 q9 q10 : Bool, ∃ x22 x23 x24 x25 x26 x27 x28 x29 x30 : Value, listed = #[q0, q1, q2, q3, q4, q5, q6, q7, q8, q9, q10] ∧ a = { tmps := #[.string s, .int .i64 c, .int .i64 m, undef, .pointer (some ⟨w.heap.size, 0, none⟩), undef, .pointer (some ⟨w.heap.size + 1, 0, none⟩), .pointer (some ⟨w.heap.size + 1 + 1, 0, none⟩), .pointer (some ⟨w.heap.size + 1 + 1 + 1, 0, none⟩), .pointer (some ⟨Bx, 0, none⟩), .int .i64 c, .bool false, .string s, .int .i64 m, .func (.func 31) #[] #[.pointer (some ⟨w.heap.size + 1 + 1 + 1 + 1, 0, none⟩), .pointer (some ⟨w.heap.size + 1 + 1 + 1 + 1 + 1, 0, none⟩)], .agg #[.string ⟨x.1.toArray⟩, .int .i64 x.2.1.1, .int .i64 x.2.2], .pointer (some ⟨Bx, 2, none⟩), .int .i64 x.2.2, undef, undef, .bool true, .bool true, x22, x23, x24, x25, x26, x27, x28, x29, x30, undef, undef, undef, undef, undef, undef], defers := [] } ∧ w' = stW U0 (U0.alloc (.cells #[.string ⟨x.1.toArray⟩] 9)) w1 (w1.setCell ⟨w.heap.size + 1, 0, none⟩ (.slice qx (pre.length + 1) cx)) ((w1.setCell ⟨w.heap.size + 1, 0, none⟩ (.slice qx (pre.length + 1) cx)).setCell ⟨w.heap.size + 1 + 1, 0, none⟩ (.int .i64 (sumP pre + x.2.1.1))) q3 q4 q9 q10 ∧ ((q0 = true → x22 = v) ∧ (q1 = true → x23 = .pointer (some ⟨Bx, 0, none⟩)) ∧ (q2 = true → x24 = .string ⟨x.1.toArray⟩) ∧ (q3 = true → x25 = .slice (some ⟨U0.heap.size, 0, none⟩) 1 1) ∧ (q4 = true → x26 = (.slice qx (pre.length + 1) cx)) ∧ (q5 = true → x27 = .int .i64 (sumP pre)) ∧ (q6 = true → x28 = .pointer (some ⟨Bx, 1, none⟩)) ∧ (q7 = true → x29 = .int .i64 x.2.1.1) ∧ (q8 = true → x30 = .int .i64 (sumP pre + x.2.1.1))) ∧ (q4 = true → q0 = true ∧ q3 = true) ∧ (q9 = true → q4 = true) ∧ (q10 = true → q5 = true ∧ q7 = true ∧ q9 = true) ∧ (q3 = true → q2 = true)) ?_ ?_ _ _ _ _ (by decide) ?_
      · intro listed a w' i hI hi
        obtain ⟨q0, q1, q2, q3, q4, q5, q6, q7, q8, q9, q10, x22, x23, x24, x25, x26, x27, x28, x29, x30, rfl, rfl, hw, ⟨h0, h1, h2, h3, h4, h5, h6, h7, h8⟩, c1, c2, c3, c4⟩ := hI
        have hun := (mem_ready.1 hi).1
        rcases i with _ | _ | _ | _ | _ | _ | _ | _ | _ | _ | _ | i
        · have e0 : q0 = false := hun
          have f4 : q4 = false := by cases q4 with | false => rfl | true => exact absurd (c1 rfl).1 (by simp [e0])
          have f9 : q9 = false := by cases q9 with | false => rfl | true => exact absurd (c2 rfl) (by simp [f4])
          have f10 : q10 = false := by cases q10 with | false => rfl | true => exact absurd (c3 rfl).2.2 (by simp [f9])
          have hc : w'.cell? ⟨w.heap.size + 1, 0, none⟩ = some v := by
            rw [hw, f4, f9, f10]; cases q3
            · exact bv.cell
            · exact (bv.alloc _).cell
          have HW := Lib.hid hw
          refine wpOpIn_want rfl rfl (fun K hK => ?_)
          clear hw
          have H := Lib.hid (And.intro h0 (And.intro h1 (And.intro h2 (And.intro h3 (And.intro h4 (And.intro h5 (And.intro h6 (And.intro h7 h8))))))))
          have C := Lib.hid (And.intro c1 (And.intro c2 (And.intro c3 c4)))
          clear h0 h1 h2 h3 h4 h5 h6 h7 h8 c1 c2 c3 c4
          go_simp
          obtain ⟨h0, h1, h2, h3, h4, h5, h6, h7, h8⟩ := H.out
          obtain ⟨c1, c2, c3, c4⟩ := C.out
          exact hK _ _ ⟨true, q1, q2, q3, q4, q5, q6, q7, q8, q9, q10, v, x23, x24, x25, x26, x27, x28, x29, x30, rfl, rfl, HW.out, ⟨fun _ => rfl, h1, h2, h3, h4, h5, h6, h7, h8⟩, fun h => ⟨rfl, (c1 h).2⟩, c2, c3, c4⟩
        · have e1 : q1 = false := hun
          have HW := Lib.hid hw
          refine wpOpIn_want rfl rfl (fun K hK => ?_)
          clear hw
          have H := Lib.hid (And.intro h0 (And.intro h1 (And.intro h2 (And.intro h3 (And.intro h4 (And.intro h5 (And.intro h6 (And.intro h7 h8))))))))
          have C := Lib.hid (And.intro c1 (And.intro c2 (And.intro c3 c4)))
          clear h0 h1 h2 h3 h4 h5 h6 h7 h8 c1 c2 c3 c4
          go_simp
          obtain ⟨h0, h1, h2, h3, h4, h5, h6, h7, h8⟩ := H.out
          obtain ⟨c1, c2, c3, c4⟩ := C.out
          exact hK _ _ ⟨q0, true, q2, q3, q4, q5, q6, q7, q8, q9, q10, x22, .pointer (some ⟨Bx, 0, none⟩), x24, x25, x26, x27, x28, x29, x30, rfl, rfl, HW.out, ⟨h0, fun _ => rfl, h2, h3, h4, h5, h6, h7, h8⟩, c1, c2, c3, c4⟩
        · have e2 : q2 = false := hun
          have d1 : q1 = true := dep hi rfl ⟨1, .data⟩ (by simp) rfl
          have f3 : q3 = false := by cases q3 with | false => rfl | true => exact absurd (c4 rfl) (by simp [e2])
          have f4 : q4 = false := by cases q4 with | false => rfl | true => exact absurd (c1 rfl).2 (by simp [f3])
          have f9 : q9 = false := by cases q9 with | false => rfl | true => exact absurd (c2 rfl) (by simp [f4])
          have f10 : q10 = false := by cases q10 with | false => rfl | true => exact absurd (c3 rfl).2.2 (by simp [f9])
          obtain rfl := (h1 d1).symm
          have hc : w'.cell? ⟨Bx, 0, none⟩ = some (.string ⟨x.1.toArray⟩) := by rw [hw, f3, f4, f9, f10]; exact cell_of3 bX 0 _ rfl
          have HW := Lib.hid hw
          refine wpOpIn_want rfl rfl (fun K hK => ?_)
          clear hw
          have H := Lib.hid (And.intro h0 (And.intro h1 (And.intro h2 (And.intro h3 (And.intro h4 (And.intro h5 (And.intro h6 (And.intro h7 h8))))))))
          have C := Lib.hid (And.intro c1 (And.intro c2 (And.intro c3 c4)))
          clear h0 h1 h2 h3 h4 h5 h6 h7 h8 c1 c2 c3 c4
          go_simp
          obtain ⟨h0, h1, h2, h3, h4, h5, h6, h7, h8⟩ := H.out
          obtain ⟨c1, c2, c3, c4⟩ := C.out
          exact hK _ _ ⟨q0, q1, true, q3, q4, q5, q6, q7, q8, q9, q10, x22, .pointer (some ⟨Bx, 0, none⟩), .string ⟨x.1.toArray⟩, x25, x26, x27, x28, x29, x30, rfl, rfl, HW.out, ⟨h0, h1, fun _ => rfl, h3, h4, h5, h6, h7, h8⟩, c1, c2, c3, fun _ => rfl⟩
        · have e3 : q3 = false := hun
          have d2 : q2 = true := dep hi rfl ⟨2, .data⟩ (by simp) rfl
          have f4 : q4 = false := by cases q4 with | false => rfl | true => exact absurd (c1 rfl).2 (by simp [e3])
          have f9 : q9 = false := by cases q9 with | false => rfl | true => exact absurd (c2 rfl) (by simp [f4])
          have f10 : q10 = false := by cases q10 with | false => rfl | true => exact absurd (c3 rfl).2.2 (by simp [f9])
          obtain rfl := (h2 d2).symm
          obtain rfl : U0 = w' := by rw [hw, e3, f4, f9, f10]; rfl
          refine wpOpIn_want rfl rfl (fun K hK => ?_)
          clear hw
          have H := Lib.hid (And.intro h0 (And.intro h1 (And.intro h2 (And.intro h3 (And.intro h4 (And.intro h5 (And.intro h6 (And.intro h7 h8))))))))
          have C := Lib.hid (And.intro c1 (And.intro c2 (And.intro c3 c4)))
          clear h0 h1 h2 h3 h4 h5 h6 h7 h8 c1 c2 c3 c4
          go_simp
          obtain ⟨h0, h1, h2, h3, h4, h5, h6, h7, h8⟩ := H.out
          obtain ⟨c1, c2, c3, c4⟩ := C.out
          exact hK _ _ ⟨q0, q1, q2, true, q4, q5, q6, q7, q8, q9, q10, x22, x23, .string ⟨x.1.toArray⟩, .slice (some ⟨U0.heap.size, 0, none⟩) 1 1, x26, x27, x28, x29, x30, rfl, rfl, by rw [f4, f9, f10]; rfl, ⟨h0, h1, h2, fun _ => rfl, h4, h5, h6, h7, h8⟩, fun h => ⟨(c1 h).1, rfl⟩, c2, c3, fun _ => d2⟩
        · have e4 : q4 = false := hun
          have d0 : q0 = true := dep hi rfl ⟨0, .data⟩ (by simp) rfl
          have d3 : q3 = true := dep hi rfl ⟨3, .data⟩ (by simp) rfl
          have f9 : q9 = false := by cases q9 with | false => rfl | true => exact absurd (c2 rfl) (by simp [e4])
          have f10 : q10 = false := by cases q10 with | false => rfl | true => exact absurd (c3 rfl).2.2 (by simp [f9])
          obtain rfl := (h0 d0).symm
          obtain rfl := (h3 d3).symm
          obtain rfl : U0.alloc (.cells #[.string ⟨x.1.toArray⟩] 9) = w' := by rw [hw, d3, e4, f9, f10]; rfl
          exact wpOpIn_append rfl rfl (.tmp 22) (.tmp 25) 29 rfl rfl rfl hrun ⟨q0, q1, q2, q3, true, q5, q6, q7, q8, q9, q10, v, x23, x24, .slice (some ⟨U0.heap.size, 0, none⟩) 1 1, (.slice qx (pre.length + 1) cx), x27, x28, x29, x30, rfl, rfl, by rw [f9, f10]; rfl, ⟨h0, h1, h2, h3, fun _ => rfl, h5, h6, h7, h8⟩, fun _ => ⟨d0, d3⟩, fun _ => rfl, c3, c4⟩
        · have e5 : q5 = false := hun
          have f10 : q10 = false := by cases q10 with | false => rfl | true => exact absurd (c3 rfl).1 (by simp [e5])
          have hc : w'.cell? ⟨w.heap.size + 1 + 1, 0, none⟩ = some (.int .i64 (sumP pre)) := by
            rw [hw, f10]; cases q9
            · cases q4
              · cases q3
                · exact b7.cell
                · exact (b7.alloc _).cell
              · exact b71.cell
            · exact b73.cell
          have HW := Lib.hid hw
          refine wpOpIn_want rfl rfl (fun K hK => ?_)
          clear hw
          have H := Lib.hid (And.intro h0 (And.intro h1 (And.intro h2 (And.intro h3 (And.intro h4 (And.intro h5 (And.intro h6 (And.intro h7 h8))))))))
          have C := Lib.hid (And.intro c1 (And.intro c2 (And.intro c3 c4)))
          clear h0 h1 h2 h3 h4 h5 h6 h7 h8 c1 c2 c3 c4
          go_simp
          obtain ⟨h0, h1, h2, h3, h4, h5, h6, h7, h8⟩ := H.out
          obtain ⟨c1, c2, c3, c4⟩ := C.out
          exact hK _ _ ⟨q0, q1, q2, q3, q4, true, q6, q7, q8, q9, q10, x22, x23, x24, x25, x26, .int .i64 (sumP pre), x28, x29, x30, rfl, rfl, HW.out, ⟨h0, h1, h2, h3, h4, fun _ => rfl, h6, h7, h8⟩, c1, c2, fun h => ⟨rfl, (c3 h).2⟩, c4⟩
        · have e6 : q6 = false := hun
          have HW := Lib.hid hw
          refine wpOpIn_want rfl rfl (fun K hK => ?_)
          clear hw
          have H := Lib.hid (And.intro h0 (And.intro h1 (And.intro h2 (And.intro h3 (And.intro h4 (And.intro h5 (And.intro h6 (And.intro h7 h8))))))))
          have C := Lib.hid (And.intro c1 (And.intro c2 (And.intro c3 c4)))
          clear h0 h1 h2 h3 h4 h5 h6 h7 h8 c1 c2 c3 c4
          go_simp
          obtain ⟨h0, h1, h2, h3, h4, h5, h6, h7, h8⟩ := H.out
          obtain ⟨c1, c2, c3, c4⟩ := C.out
          exact hK _ _ ⟨q0, q1, q2, q3, q4, q5, true, q7, q8, q9, q10, x22, x23, x24, x25, x26, x27, .pointer (some ⟨Bx, 1, none⟩), x29, x30, rfl, rfl, HW.out, ⟨h0, h1, h2, h3, h4, h5, fun _ => rfl, h7, h8⟩, c1, c2, c3, c4⟩
        · have e7 : q7 = false := hun
          have d6 : q6 = true := dep hi rfl ⟨6, .data⟩ (by simp) rfl
          have f10 : q10 = false := by cases q10 with | false => rfl | true => exact absurd (c3 rfl).2.1 (by simp [e7])
          obtain rfl := (h6 d6).symm
          have hc : w'.cell? ⟨Bx, 1, none⟩ = some (.int .i64 x.2.1.1) := by
            rw [hw, f10]; cases q9
            · cases q4
              · cases q3
                · exact cell_of3 bX 1 _ rfl
                · exact cell_of3 bX1 1 _ rfl
              · exact cell_of3 bX2 1 _ rfl
            · exact cell_of3 bX3 1 _ rfl
          have HW := Lib.hid hw
          refine wpOpIn_want rfl rfl (fun K hK => ?_)
          clear hw
          have H := Lib.hid (And.intro h0 (And.intro h1 (And.intro h2 (And.intro h3 (And.intro h4 (And.intro h5 (And.intro h6 (And.intro h7 h8))))))))
          have C := Lib.hid (And.intro c1 (And.intro c2 (And.intro c3 c4)))
          clear h0 h1 h2 h3 h4 h5 h6 h7 h8 c1 c2 c3 c4
          go_simp
          obtain ⟨h0, h1, h2, h3, h4, h5, h6, h7, h8⟩ := H.out
          obtain ⟨c1, c2, c3, c4⟩ := C.out
          exact hK _ _ ⟨q0, q1, q2, q3, q4, q5, q6, true, q8, q9, q10, x22, x23, x24, x25, x26, x27, .pointer (some ⟨Bx, 1, none⟩), .int .i64 x.2.1.1, x30, rfl, rfl, HW.out, ⟨h0, h1, h2, h3, h4, h5, h6, fun _ => rfl, h8⟩, c1, c2, fun h => ⟨(c3 h).1, rfl, (c3 h).2.2⟩, c4⟩
        · have e8 : q8 = false := hun
          have d5 : q5 = true := dep hi rfl ⟨5, .data⟩ (by simp) rfl
          have d7 : q7 = true := dep hi rfl ⟨7, .data⟩ (by simp) rfl
          obtain rfl := (h5 d5).symm
          obtain rfl := (h7 d7).symm
          have HW := Lib.hid hw
          refine wpOpIn_want rfl rfl (fun K hK => ?_)
          clear hw
          have H := Lib.hid (And.intro h0 (And.intro h1 (And.intro h2 (And.intro h3 (And.intro h4 (And.intro h5 (And.intro h6 (And.intro h7 h8))))))))
          have C := Lib.hid (And.intro c1 (And.intro c2 (And.intro c3 c4)))
          clear h0 h1 h2 h3 h4 h5 h6 h7 h8 c1 c2 c3 c4
          go_simp
          obtain ⟨h0, h1, h2, h3, h4, h5, h6, h7, h8⟩ := H.out
          obtain ⟨c1, c2, c3, c4⟩ := C.out
          exact hK _ _ ⟨q0, q1, q2, q3, q4, q5, q6, q7, true, q9, q10, x22, x23, x24, x25, x26, .int .i64 (sumP pre), x28, .int .i64 x.2.1.1, .int .i64 (sumP pre + x.2.1.1), rfl, rfl, HW.out, ⟨h0, h1, h2, h3, h4, h5, h6, h7, fun _ => rfl⟩, c1, c2, c3, c4⟩
        · have e9 : q9 = false := hun
          have d4 : q4 = true := dep hi rfl ⟨4, .data⟩ (by simp) rfl
          have d0 : q0 = true := dep hi rfl ⟨0, .phase⟩ (by simp) rfl
          have d1 : q1 = true := dep hi rfl ⟨1, .phase⟩ (by simp) rfl
          have d2 : q2 = true := dep hi rfl ⟨2, .phase⟩ (by simp) rfl
          have d3 : q3 = true := dep hi rfl ⟨3, .phase⟩ (by simp) rfl
          have f10 : q10 = false := by cases q10 with | false => rfl | true => exact absurd (c3 rfl).2.2 (by simp [e9])
          obtain rfl := (h4 d4).symm
          obtain rfl : w1 = w' := by rw [hw, d4, e9, f10]; rfl
          have hc := bv1.cell
          have hf := bv1.frozen
          refine wpOpIn_want rfl rfl (fun K hK => ?_)
          clear hw
          have H := Lib.hid (And.intro h0 (And.intro h1 (And.intro h2 (And.intro h3 (And.intro h4 (And.intro h5 (And.intro h6 (And.intro h7 h8))))))))
          have C := Lib.hid (And.intro c1 (And.intro c2 (And.intro c3 c4)))
          clear h0 h1 h2 h3 h4 h5 h6 h7 h8 c1 c2 c3 c4
          go_simp
          obtain ⟨h0, h1, h2, h3, h4, h5, h6, h7, h8⟩ := H.out
          obtain ⟨c1, c2, c3, c4⟩ := C.out
          exact hK _ _ ⟨q0, q1, q2, q3, q4, q5, q6, q7, q8, true, q10, x22, x23, x24, x25, (.slice qx (pre.length + 1) cx), x27, x28, x29, x30, rfl, rfl, by rw [f10]; rfl, ⟨h0, h1, h2, h3, h4, h5, h6, h7, h8⟩, c1, fun _ => d4, fun h => ⟨(c3 h).1, (c3 h).2.1, rfl⟩, c4⟩
        · have e10 : q10 = false := hun
          have d8 : q8 = true := dep hi rfl ⟨8, .data⟩ (by simp) rfl
          have d9 : q9 = true := dep hi rfl ⟨9, .chain⟩ (by simp) rfl
          have d0 : q0 = true := dep hi rfl ⟨0, .phase⟩ (by simp) rfl
          have d1 : q1 = true := dep hi rfl ⟨1, .phase⟩ (by simp) rfl
          have d2 : q2 = true := dep hi rfl ⟨2, .phase⟩ (by simp) rfl
          have d3 : q3 = true := dep hi rfl ⟨3, .phase⟩ (by simp) rfl
          have d4 : q4 = true := dep hi rfl ⟨4, .phase⟩ (by simp) rfl
          have d5 : q5 = true := dep hi rfl ⟨5, .phase⟩ (by simp) rfl
          have d6 : q6 = true := dep hi rfl ⟨6, .phase⟩ (by simp) rfl
          have d7 : q7 = true := dep hi rfl ⟨7, .phase⟩ (by simp) rfl
          obtain rfl := (h8 d8).symm
          obtain rfl : w1.setCell ⟨w.heap.size + 1, 0, none⟩ (.slice qx (pre.length + 1) cx) = w' := by rw [hw, d9, e10]; rfl
          have hc := b73.cell
          have hf := b73.frozen
          refine wpOpIn_want rfl rfl (fun K hK => ?_)
          clear hw
          have H := Lib.hid (And.intro h0 (And.intro h1 (And.intro h2 (And.intro h3 (And.intro h4 (And.intro h5 (And.intro h6 (And.intro h7 h8))))))))
          have C := Lib.hid (And.intro c1 (And.intro c2 (And.intro c3 c4)))
          clear h0 h1 h2 h3 h4 h5 h6 h7 h8 c1 c2 c3 c4
          go_simp
          obtain ⟨h0, h1, h2, h3, h4, h5, h6, h7, h8⟩ := H.out
          obtain ⟨c1, c2, c3, c4⟩ := C.out
          exact hK _ _ ⟨q0, q1, q2, q3, q4, q5, q6, q7, q8, q9, true, x22, x23, x24, x25, x26, x27, x28, x29, .int .i64 (sumP pre + x.2.1.1), rfl, rfl, rfl, ⟨h0, h1, h2, h3, h4, h5, h6, h7, h8⟩, c1, c2, fun _ => ⟨d5, d7, d9⟩, c4⟩
        · exact absurd (mem_ready.1 hi).2 (by rintro ⟨o, ho, _⟩; simp at ho)
      · rintro listed a w' ⟨q0, q1, q2, q3, q4, q5, q6, q7, q8, q9, q10, x22, x23, x24, x25, x26, x27, x28, x29, x30, rfl, rfl, hw, ⟨h0, h1, h2, h3, h4, h5, h6, h7, h8⟩, _⟩ hr
        have hall := fun i (hi : i < 11) => all_listed (by kernel_rfl) rfl hr 11 i hi hi
        have e0 : q0 = true := hall 0 (by decide)
        have e1 : q1 = true := hall 1 (by decide)
        have e2 : q2 = true := hall 2 (by decide)
        have e3 : q3 = true := hall 3 (by decide)
        have e4 : q4 = true := hall 4 (by decide)
        have e5 : q5 = true := hall 5 (by decide)
        have e6 : q6 = true := hall 6 (by decide)
        have e7 : q7 = true := hall 7 (by decide)
        have e8 : q8 = true := hall 8 (by decide)
        have e9 : q9 = true := hall 9 (by decide)
        have e10 : q10 = true := hall 10 (by decide)
        obtain rfl := (h0 e0).symm
        obtain rfl := (h1 e1).symm
        obtain rfl := (h2 e2).symm
        obtain rfl := (h3 e3).symm
        obtain rfl := (h4 e4).symm
        obtain rfl := (h5 e5).symm
        obtain rfl := (h6 e6).symm
        obtain rfl := (h7 e7).symm
        obtain rfl := (h8 e8).symm
        rw [e10] at hw
        clear hall hr h0 h1 h2 h3 h4 h5 h6 h7 h8 e0 e1 e2 e3 e4 e5 e6 e7 e8 e9 e10
        obtain rfl : (w1.setCell ⟨w.heap.size + 1, 0, none⟩ (.slice qx (pre.length + 1) cx)).setCell ⟨w.heap.size + 1 + 1, 0, none⟩ (.int .i64 (sumP pre + x.2.1.1)) = w' := hw.symm
        clear hw
        dsimp only
        have bv4 := bv3.other (B' := w.heap.size + 1 + 1) (by omega) (.int .i64 (sumP pre + x.2.1.1))
        have hcv := bv4.cell
        have hcC := ((((bC.alloc (.cells #[.string ⟨x.1.toArray⟩] 9)).kept hgrow (bC.not_row (by decide) hrow)).other (B' := w.heap.size + 1) (by omega) (.slice qx (pre.length + 1) cx)).other (B' := w.heap.size + 1 + 1) (by omega) (.int .i64 (sumP pre + x.2.1.1))).cell
        have hrow4 := hrow3.kept (grownBy_setCell' _ (w.heap.size + 1 + 1) (.int .i64 (sumP pre + x.2.1.1))) (.inr (b73.not_row (by decide) hrow3).symm)
        have b74 := b73.set (.int .i64 (sumP pre + x.2.1.1))
        have b84 := (((b8.alloc (.cells #[.string ⟨x.1.toArray⟩] 9)).kept hgrow (b8.not_row (by decide) hrow)).other (B' := w.heap.size + 1) (by omega) (.slice qx (pre.length + 1) cx)).other (B' := w.heap.size + 1 + 1) (by omega) (.int .i64 (sumP pre + x.2.1.1))
        have bC4 := (((bC.alloc (.cells #[.string ⟨x.1.toArray⟩] 9)).kept hgrow (bC.not_row (by decide) hrow)).other (B' := w.heap.size + 1) (by omega) (.slice qx (pre.length + 1) cx)).other (B' := w.heap.size + 1 + 1) (by omega) (.int .i64 (sumP pre + x.2.1.1))
        have bM4 := (((bM.alloc (.cells #[.string ⟨x.1.toArray⟩] 9)).kept hgrow (bM.not_row (by decide) hrow)).other (B' := w.heap.size + 1) (by omega) (.slice qx (pre.length + 1) cx)).other (B' := w.heap.size + 1 + 1) (by omega) (.int .i64 (sumP pre + x.2.1.1))
        have hK4 := (hKW.trans hK3).trans (KeepsOthers.setCell _ ⟨w.heap.size + 1 + 1, 0, none⟩ (.int .i64 (sumP pre + x.2.1.1)))
        have hB4 := (hB.trans hB3).setCell (p := ⟨w.heap.size + 1 + 1, 0, none⟩) (by simp; omega) (.int .i64 (sumP pre + x.2.1.1))
        have FIN := fun (S : Nat → Prop) (hS : S (pre ++ [x]).length) => Lib.hid (show KeepsFrom W0.heap.size W _ ∧ KeepB (w.heap.size + 1 + 1 + 1 + 1 + 1) W _ ∧ RowJ S w c m (pre ++ [x]) _ from ⟨hK4.from _, ⟨bM4.trans bMW.symm, hK4.1⟩, ⟨_, bv4, by rw [List.length_append, List.map_append]; exact hrow4, fun y hy => by
          rcases List.mem_append.1 hy with h | h
          · exact hok y h
          · rw [List.mem_singleton.1 h]; exact HZ.out, hS⟩, ⟨by rw [sumP_snoc]; simpa using b74, b84, bC4, bM4⟩, hB4⟩)
        have FIN := Lib.hid FIN
        clear hrow4 b74 b84 bC4 bM4 hK4 hB4
        by_cases hcl : pre.length + 1 = c
        · have hq : (((pre.length : Int) + 1) == (c : Int)) = true := by rw [beq_iff_eq]; omega
          have HL := Lib.hid hcl
          clear hcl hrun hown' hgrow
          gi_wp2
          have h := (FIN.out (fun k => k = c) (by simp; exact HL.out)).out
          exact ⟨h.1, rfl, h.2.2⟩
        · have hq : (((pre.length : Int) + 1) == (c : Int)) = false := by rw [beq_eq_false_iff_ne]; omega
          have HL := Lib.hid hcl
          clear hcl hrun hown' hgrow
          gi_wp2
          have hlt' : (pre ++ [x]).length < c := by have := HL.out; simp; omega
          exact (FIN.out (fun k => k < c) hlt').out
      · exact ⟨false, false, false, false, false, false, false, false, false, false, false, undef, undef, undef, undef, undef, undef, undef, undef, undef, rfl, rfl, rfl, by simp, by simp, by simp, by simp, by simp⟩
    · have hz' : ((x.2.2 : Int) == 0) = false := by rw [beq_eq_false_iff_ne]; omega
      have mixed : Try.prog.follows .mixedOrders = true := by kernel_rfl
      have y2 : (W.setCell ⟨w.heap.size + 1, 0, none⟩ (.slice none 0 0)).cell? ⟨Bx, 2, none⟩ = some (.int .i64 x.2.2) := cell_far x2 (by simp; omega)
      have z2 : ((W.setCell ⟨w.heap.size + 1, 0, none⟩ (.slice none 0 0)).setCell ⟨w.heap.size + 1 + 1, 0, none⟩ (.int .i64 0)).cell? ⟨Bx, 2, none⟩ = some (.int .i64 x.2.2) := cell_far y2 (by simp; omega)
      have b71 := b7.other (B' := w.heap.size + 1) (by omega) (.slice none 0 0)
      have b81 := b8.other (B' := w.heap.size + 1) (by omega) (.slice none 0 0)
      have b82 := b81.other (B' := w.heap.size + 1 + 1) (by omega) (.int .i64 0)
      have e7 := b71.cell
      have g7 := b71.frozen
      have e8 := b82.cell
      have g8 := b82.frozen
      have HR : Hid (RowR w c (pre ++ [x]) (((W.setCell ⟨w.heap.size + 1, 0, none⟩ (.slice none 0 0)).setCell ⟨w.heap.size + 1 + 1, 0, none⟩ (.int .i64 0)).setCell ⟨w.heap.size + 1 + 1 + 1, 0, none⟩ (.int .i64 x.2.2))) :=
        ⟨x.2.2, ⟨pre, x, rfl, hok, hlen, rfl, hz⟩, ((bv.set _).other (by omega) _).other (by omega) _, (b71.set _).other (by omega) _, b82.set _, ((hB.setCell (by simp) _).setCell (by simp; omega) _).setCell (by simp; omega) _⟩
      unfold rowAct
      clear hrow bC bM cC hok hlen
      gi_wp2
      gi_region_with_o (fail)
      all_goals gi_wp2
      all_goals exact ⟨((((KeepsOthers.setCell W _ _).trans (KeepsOthers.setCell _ _ _)).trans (KeepsOthers.setCell _ _ _)).trans (KeepsOthers.drew _)).from _, rowR_own w c w.heap.size (Nat.le_refl _) (pre ++ [x]) _ _ none HR.out (grown_drew _) (fun r e => by cases e)⟩
  case done =>
    rintro D xs W hD rfl hI hdef
    obtain ⟨⟨v, bv, hrow, hok, hlen⟩, _, hB⟩ := hI
    exact absurd (fun x hx => hok (pc x) (List.mem_map_of_mem hx)) (seqP_ends m (s.size + 1) s.data.toList (by simp))
  case stop =>
    rintro D k pre W hD hpre hX hdef
    obtain ⟨ys, rfl, hys⟩ := pre_map hpre
    cases k with
    | ret =>
      obtain ⟨z, ⟨q, x, hq, hok, hql, hxz, hz⟩, b1, b2, b3, hB⟩ := hX
      have cv := b1.cell
      have c7 := b2.cell
      have c8 := b3.cell
      gi_wp2
      rw [Exit.noGoto_ret]
      refine ⟨by simp, .inl ⟨_, _, rfl, run_takeDeferred hdef, ?_⟩⟩
      have B1 := (b1.kept (grownBy_putObj' W D (.deferred none)) (fun e => by cases e; omega)).cell
      have B2 := (b2.kept (grownBy_putObj' W D (.deferred none)) (fun e => by cases e; omega)).cell
      have B3 := (b3.kept (grownBy_putObj' W D (.deferred none)) (fun e => by cases e; omega)).cell
      obtain ⟨ya, yb, rfl, hya, hyb⟩ := List.map_eq_append_iff.1 hq
      obtain ⟨y, yt, rfl, hy, hyt⟩ := List.map_eq_cons_iff.1 hyb
      obtain rfl : yt = [] := List.map_eq_nil_iff.1 hyt
      have hr := rdrow_ret m ya y (s.size + 1) s.data.toList [] 0 c hys (fun u hu => hok (pc u) (by rw [← hya]; exact List.mem_map_of_mem hu)) (by rw [← hy] at hxz; rw [show y.2.2 = z from hxz]; exact hz) (by rw [← hya] at hql; simpa using hql)
      rw [hr, show y.2.2 = z by rw [← hy] at hxz; exact hxz]
      refine ⟨.tuple #[.slice none 0 0, .int .i64 0, .int .i64 z], by simp [results, Try.results20, go_sem, B1, B2, B3], none, 0, rfl, ⟨rfl, .inl rfl⟩, ?_⟩
      exact ownFrom_below (β := Unit) (Nat.le_refl _) (Nat.le_refl _) () W _ (some D) hB (grownBy_putObj' W D _) (fun r e => by cases e; exact ⟨by omega, _, hdef, rfl⟩)
    | exit id =>
      obtain ⟨rfl, hJ⟩ := hX
      have hJ' := hJ
      obtain ⟨⟨v, bv, hrow, hok, hlen⟩, ⟨b7, b8, bC, bM⟩, hB⟩ := hJ'
      have hJ2 := Lib.hid (RowJ.stored hJ bv.cell)
      have hmap : List.map textV (List.map pc ys) = (ys.map fun r => (⟨r.1.toArray⟩ : ByteArray)).map Value.string := by simp [textV, pc]
      rw [hmap, hlen] at hrow
      obtain ⟨q, cap, rfl, hsrc⟩ := src_own hrow
      obtain ⟨N, hN⟩ : ∃ N, sumP (ys.map pc) = N := ⟨_, rfl⟩
      rw [hN] at b7 hJ2
      have cv := bv.cell
      have c7 := b7.cell
      have c8 := b8.cell
      have f6 := bv.frozen
      have f7 := b7.frozen
      have f8 := b8.frozen
      have u7 := (b7.other (B' := w.heap.size + 1) (by omega) (.slice q c cap)).cell
      have g7 := (b7.other (B' := w.heap.size + 1) (by omega) (.slice q c cap)).frozen
      have b8' := (b8.other (B' := w.heap.size + 1) (by omega) (.slice q c cap)).other (B' := w.heap.size + 1 + 1) (by omega) (.int .i64 N)
      have u8 := b8'.cell
      have g8 := b8'.frozen
      have hlen' : ys.length = c := by simpa using hlen
      have hr := rdrow_exit m ys (s.size + 1) s.data.toList [] 0 hys (fun u hu => hok (pc u) (List.mem_map_of_mem hu))
      have hsum := sumP_pc ys (fun y hy => by have := seqP_le m (s.size + 1) s.data.toList y (hys.subset hy); simp at this; omega)
      have HH := Lib.hid (And.intro hlen' (And.intro hsum (And.intro hr hmap)))
      have hN' := Lib.hid hN
      clear b6 hB0 hlen hlen' hsum hN hrow hr hJ hmap
      gi_wp2
      gi_region
      gi_wp2
      rw [Exit.noGoto_ret]
      obtain ⟨hlen', hsum, hr, hmap⟩ := HH.out
      have hJ2 := hJ2.out
      have hd2 := (KeepsOthers.setCell ((W.setCell ⟨w.heap.size + 1, 0, none⟩ (.slice q c cap)).setCell ⟨w.heap.size + 1 + 1, 0, none⟩ (.int .i64 N)) ⟨w.heap.size + 1 + 1 + 1, 0, none⟩ (.int .i64 0)).2 D _
        ((KeepsOthers.setCell (W.setCell ⟨w.heap.size + 1, 0, none⟩ (.slice q c cap)) ⟨w.heap.size + 1 + 1, 0, none⟩ (.int .i64 N)).2 D _ ((KeepsOthers.setCell W ⟨w.heap.size + 1, 0, none⟩ (.slice q c cap)).2 D _ hdef rfl) rfl) rfl
      revert hJ2 hd2
      generalize ((W.setCell ⟨w.heap.size + 1, 0, none⟩ (.slice q c cap)).setCell ⟨w.heap.size + 1 + 1, 0, none⟩ (.int .i64 N)).setCell ⟨w.heap.size + 1 + 1 + 1, 0, none⟩ (.int .i64 0) = X
      intro hJ2 hd2
      have hJ3 : RowJ (fun k => k = c) w c m (ys.map pc) X.drew := rowJ_own _ w c m w.heap.size (Nat.le_refl _) (ys.map pc) X X.drew none hJ2 ⟨rfl, rfl, rfl, Nat.le_refl _, fun _ _ _ => rfl⟩ (fun r e => by cases e)
      refine ⟨by simp, .inl ⟨_, _, rfl, run_takeDeferred (w := X.drew) hd2, ?_⟩⟩
      obtain ⟨⟨v, bv, hrow, hok, hlen⟩, ⟨b7, b8, bC, bM⟩, hB⟩ := hJ3.shut (by omega) hd2
      rw [hmap, hlen] at hrow
      obtain ⟨q', cap', rfl, hsrc'⟩ := src_own hrow
      have cv := bv.cell
      have c7 := b7.cell
      have c8 := b8.cell
      rw [hlen'] at hr
      rw [hr]
      rw [hsum] at c7
      refine ⟨.tuple #[.slice q' c cap', .int .i64 (sumN ys), .int .i64 0], by simp [results, Try.results20, go_sem, cv, c7, c8], q', cap', ?_, ?_, hB⟩
      · simp [hlen']
      · simpa [hlen', Function.comp_def] using hsrc'
    | _ => exact hX.elim

theorem readrow_any (s : ByteArray) (c m : Int) (hc : c ≤ 10000) (w : World) (hs : s.size ≤ 281474976710656) (m1 : -9223372036854775808 ≤ m) (m2 : m ≤ 9223372036854775807) :
    Calls Try.prog 20 #[.string s, .int .i64 c, .int .i64 m] w (RowPost (rdrow m c.toNat s.data.toList [] 0) w) := by
  by_cases h : c ≤ 0
  · have e : c.toNat = 0 := by omega
    rw [e]
    exact readrow_none s c m h w
  · obtain ⟨k, rfl⟩ : ∃ k : Nat, c = k := ⟨c.toNat, by omega⟩
    exact readrow_some s k m (by omega) (by omega) w hs m1 m2
end Go.Proofs.Ytdddmaobmdinbaa.Pl
