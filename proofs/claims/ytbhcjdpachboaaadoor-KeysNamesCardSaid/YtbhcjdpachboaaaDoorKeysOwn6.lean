/- What the program's own Known answers. -/
import Derived.Test.YtbhcjdpachboaaaDoorKeysOwn5
import Derived.Test.YtbhcjdpachboaaaDoorKeysOwn3
import Derived.Test.YtbhcjdpachboaaaDoorKeysBase1
import Derived.BigRegionIn
import Derived.Shelf.RegionOpen
namespace Go.Proofs.YtbhcjdpachboaaaDoor.Pl
open Go.RowKit Go.Shelf
attribute [local go_sem] Oper.semAt_some

/-- The keys of a pair of which one is in the set. -/
def cellT (s : Nat) (x : PairK) : List ByteArray := if setB s x.1.1 = true ∨ setB s x.1.2 = true then bothT x.1.1 x.1.2 else []
def cellsT (s : Nat) (l : List PairK) : List ByteArray := l.flatMap (cellT s)
theorem cellsT_snoc (s : Nat) (l : List PairK) (x : PairK) : cellsT s (l ++ [x]) = cellsT s l ++ cellT s x := by simp [cellsT]
theorem cellsT_len (s : Nat) (l : List PairK) : (cellsT s l).length ≤ 2 * l.length := by
  induction l with
  | nil => exact Nat.le_refl _
  | cons x l ih =>
    rw [show cellsT s (x :: l) = cellT s x ++ cellsT s l from List.flatMap_cons, List.length_append, List.length_cons]
    have h : (cellT s x).length ≤ 2 := by
      unfold cellT
      split
      · exact Nat.le_refl _
      · exact Nat.zero_le _
    omega
theorem col_cells (s a : Nat) (ha : a < 8) : ∀ j, j ≤ 8 → (cellsT s (colP a j)).map bl = (List.range j).flatMap (cellK s a)
  | 0, _ => rfl
  | j + 1, h => by
    have ih := col_cells s a ha j (by omega)
    rw [range_flat]
    by_cases haj : a ≤ j
    · rw [colP_succ haj, cellsT_snoc, List.map_append, ih]
      congr 1
      unfold cellT cellK
      rw [clamp_val haj (by omega)]
      dsimp only
      by_cases hc : setB s (a : Int) = true ∨ setB s (j : Int) = true
      · rw [if_pos hc, if_pos ⟨haj, hc⟩, bothT_bl]
      · rw [if_neg hc, if_neg (fun e => hc e.2)]
        rfl
    · rw [show cellK s a j = [] from if_neg (fun e => haj e.1), List.append_nil, ← ih, colP_low a (j + 1) (by omega), colP_low a j (by omega)]
theorem all_cells (s m : Nat) (hm : m ≤ 8) : ∀ k, k ≤ m → (cellsT s (allP m k)).map bl = (List.range k).flatMap (rowK s m)
  | 0, _ => rfl
  | k + 1, h => by
    have ih := all_cells s m hm k (by omega)
    rw [range_flat, allP_succ, show cellsT s (allP m k ++ colP k m) = cellsT s (allP m k) ++ cellsT s (colP k m) from List.flatMap_append, List.map_append, ih, col_cells s k (by omega) m hm]
    rfl
theorem known_cells (s : Nat) (n : Int) (m : Nat) (hn : amongK n = (m : Int)) (hm : m ≤ 8) : (cellsT s (allP m m)).map bl = knownK s n := by
  rw [all_cells s m hm m (Nat.le_refl _)]
  unfold amongK at hn
  unfold knownK
  by_cases h : 1 ≤ n ∧ n ≤ 8
  · rw [if_pos h] at hn ⊢
    rw [hn, Int.toNat_natCast]
  · rw [if_neg h] at hn ⊢
    have : m = 0 := by omega
    subst this
    rfl

/-- The row so far in its box, the set in its own. -/
def KnW (w : World) (s : Nat) (D : List ByteArray) (W : World) : Prop :=
  (∃ v, Boxed W (w.heap.size + 1) 30 v ∧ W.ownsRow (w.heap.size + 1) 9 1 v D.length (txts D) ∧ True) ∧ Boxed W w.heap.size 5 (.int .u8 (s : Int)) ∧ Below w.heap.size w W
theorem knW_own {β : Type} (w : World) (s : Nat) (f : β → List ByteArray) (B : Nat) (h : w.heap.size ≤ B) : OwnFrom B (fun pre => KnW w s (f pre)) :=
  OwnFrom.and (Own.from (holdsRow_own (w.heap.size + 1) (w.heap.size + 1) 30 9 1 (fun pre => (f pre).length) (fun pre => txts (f pre)) (fun _ _ => True)) _)
    (OwnFrom.and (Own.from (boxed_own _ _ _) _) (ownFrom_below (Nat.le_refl _) h))
/-- The frame of a round: where the pair lies. -/
def knAct (w : World) (s : Nat) (n : Int) (b : Nat) (x : PairK) : Act :=
  { tmps := #[.int .u8 (s : Int), .int .i64 n, .pointer (some ⟨w.heap.size, 0, none⟩), undef, .slice none 0 0, .pointer (some ⟨w.heap.size + 1, 0, none⟩), .pointer (some ⟨b, 0, none⟩), undef, undef, .int .i64 n, .func (.func 38) #[] #[.pointer (some ⟨w.heap.size + 1 + 1, 0, none⟩)], .agg #[.int .i64 (x.1.1 : Int), .int .i64 (x.1.2 : Int)],
      undef, undef, undef, undef, undef, undef, undef, undef, undef, undef, undef, undef, undef, undef, undef, undef, undef, undef, undef, undef, undef, undef], defers := [] }
theorem pair_cells {W : World} {b : Nat} {x y : Int} (h : W.heap[b]? = some (.cells #[.int .i64 x, .int .i64 y] 57 (0, 0))) : W.cell? ⟨b, 0, none⟩ = some (.int .i64 x) ∧ W.cell? ⟨b, 1, none⟩ = some (.int .i64 y) :=
  ⟨by simp [World.cell?, h], by simp [World.cell?, h]⟩

theorem kinds_at (k : Nat) (hk : k < 2) : ∃ (kd : Nat) (c : UInt8), IsKind kd c ∧ (∀ a b, (bothT a b).take (k + 1) = (bothT a b).take k ++ [nmT c a b]) ∧ ∀ V : World, (Instr.index 51 (.agg #[.int .u8 1, .int .u8 2]) (.int .i64 (k : Int))).run Tryd.prog V = .ok (.int .u8 (kd : Int)) V := by
  obtain rfl | rfl : k = 0 ∨ k = 1 := by omega
  · exact ⟨1, 107, .inl ⟨rfl, rfl⟩, fun _ _ => rfl, kinds_at0⟩
  · exact ⟨2, 115, .inr ⟨rfl, rfl⟩, fun _ _ => rfl, kinds_at1⟩
/-- What storing the longer row leaves. -/
theorem kn_stored {W1 w' : World} {n₀ BL b : Nat} {v v' : Value} {l l' : List ByteArray} {y : ByteArray} {cs : Array Value} (hv : Boxed W1 BL 30 v) (hrow : OwnT W1 n₀ v l) (hn : n₀ ≤ W1.heap.size) (hB : n₀ ≤ BL)
    (hown' : OwnT w' n₀ v' l') (hgrow : (W1.alloc (.cells #[.string y] 9)).grownBy w' v.ownBlock) (hX : W1.heap[b]? = some (.cells cs 57 (0, 0))) :
    Boxed w' BL 30 v ∧ Boxed (w'.setCell ⟨BL, 0, none⟩ v') BL 30 v' ∧ OwnT (w'.setCell ⟨BL, 0, none⟩ v') n₀ v' l' ∧ KeepsOthers W1 (w'.setCell ⟨BL, 0, none⟩ v') ∧ Below n₀ W1 (w'.setCell ⟨BL, 0, none⟩ v') ∧ (w'.setCell ⟨BL, 0, none⟩ v').heap[b]? = some (.cells cs 57 (0, 0)) := by
  obtain ⟨a1, a2, a3, a4, a5⟩ := Boxed.appended (tmp := .cells #[.string y] 9) hv (by decide) hrow hn hB hown' hgrow
  refine ⟨a1, a2, a3, a4, a5, ?_⟩
  have hlt := (Array.getElem?_eq_some_iff.1 hX).1
  have h1 := (Below.heap_alloc W1 (.cells #[.string y] 9) b hlt).trans hX
  have h2 := (hgrow.block b (by simp; omega) (fun e => by
    rcases hrow.2 with ⟨rfl, _⟩ | ⟨g, cap, cur, rfl, _, hgb, _⟩
    · simp [Value.ownBlock] at e
    · obtain rfl : b = g := by simpa [Value.ownBlock] using e
      rw [hX] at hgb; cases hgb)).trans h1
  exact (Below.heap_setCell w' ⟨BL, 0, none⟩ v' b (fun e => by
    have e' : b = BL := e
    subst e'
    rw [show W1.heap[b]? = _ from hv] at hX; cases hX)).trans h2
/-- How far the world has come: a call, a new row, an append, a store, one behind the other. -/
def PK (U0 : World) (y : ByteArray) (App : World → World → Value → Prop) (Fin : World → Prop) : Bool → Bool → Bool → Bool → Value → Value → World → Prop
  | false, false, false, false, _, _, w' => w' = U0
  | true, false, false, false, _, _, w' => Below U0.heap.size U0 w'
  | true, true, false, false, x21, _, w' => ∃ W1, Below U0.heap.size U0 W1 ∧ w' = W1.alloc (.cells #[.string y] 9) ∧ x21 = .slice (some ⟨W1.heap.size, 0, none⟩) 1 1
  | true, true, true, false, _, x22, w' => ∃ W1, Below U0.heap.size U0 W1 ∧ App W1 w' x22
  | true, true, true, true, _, _, w' => Fin w'
  | _, _, _, _, _, _, _ => False
section
variable {U0 : World} {y : ByteArray} {App : World → World → Value → Prop} {Fin : World → Prop} {q4 q5 q6 q7 : Bool} {x21 x22 : Value} {w' w2 : World}
theorem pk_below (h : PK U0 y App Fin q4 q5 false q7 x21 x22 w') : Below U0.heap.size U0 w' := by
  cases q4 <;> cases q5 <;> cases q7 <;> simp only [PK] at h
  · subst h; exact Below.refl _ _
  · exact h
  · obtain ⟨W1, h1, rfl, _⟩ := h; exact h1.alloc h1.size _
theorem pk_u0 (h : PK U0 y App Fin false q5 q6 q7 x21 x22 w') : w' = U0 := by
  cases q5 <;> cases q6 <;> cases q7 <;> simp only [PK] at h
  exact h
theorem pk_four (h : PK U0 y App Fin false q5 q6 q7 x21 x22 U0) (b : Below U0.heap.size U0 w2) : PK U0 y App Fin true q5 q6 q7 x21 x22 w2 := by
  cases q5 <;> cases q6 <;> cases q7 <;> simp only [PK] at h ⊢
  exact b
theorem pk_five (h : PK U0 y App Fin true false q6 q7 x21 x22 w') : PK U0 y App Fin true true q6 q7 (.slice (some ⟨w'.heap.size, 0, none⟩) 1 1) x22 (w'.alloc (.cells #[.string y] 9)) := by
  cases q6 <;> cases q7 <;> simp only [PK] at h ⊢
  exact ⟨w', h, rfl, rfl⟩
theorem pk_six (h : PK U0 y App Fin q4 true false q7 x21 x22 w') : q4 = true ∧ ∃ W1, Below U0.heap.size U0 W1 ∧ w' = W1.alloc (.cells #[.string y] 9) ∧ x21 = .slice (some ⟨W1.heap.size, 0, none⟩) 1 1 := by
  cases q4 <;> cases q7 <;> simp only [PK] at h
  exact ⟨rfl, h⟩
theorem pk_sixed (h : PK U0 y App Fin true true false q7 x21 x22 w') {v : Value} (k : ∃ W1, Below U0.heap.size U0 W1 ∧ App W1 w2 v) : PK U0 y App Fin true true true q7 x21 v w2 := by
  cases q7 <;> simp only [PK] at h ⊢
  exact k
theorem pk_seven (h : PK U0 y App Fin q4 q5 true false x21 x22 w') : q4 = true ∧ q5 = true ∧ ∃ W1, Below U0.heap.size U0 W1 ∧ App W1 w' x22 := by
  cases q4 <;> cases q5 <;> simp only [PK] at h
  exact ⟨rfl, rfl, h⟩
end

set_option maxRecDepth 100000 in
set_option maxHeartbeats 4000000 in
theorem kknown_any (s : Nat) (hs : s < 256) (n : Int) (w : World) (hT : KeyTab w) : Calls Tryd.prog 17 #[.int .u8 (s : Int), .int .i64 n] w fun e w' => GivesT w (knownK s n) e w' ∧ Below w.heap.size w w' := by
  obtain ⟨m, hm, hm8⟩ := among_nat n
  have HKN := Lib.hid (known_cells s n m hm hm8)
  have HIN := Lib.hid (fun k V => kin0_any s hs k V)
  have T0 := Lib.hid hT
  refine (callsIn_wide (n := 5)).1 ?_
  refine callsIn_of_wp_marks Tryd.func17 rfl trivial ?_ rfl
  simp only [Tryd.ntmps17, List.size_toArray, List.length_cons, List.length_nil, Nat.reduceAdd, Nat.reduceSub, Array.replicate_succ, Array.replicate_zero, List.push_toArray, List.append_toArray, List.nil_append, List.cons_append]
  gi_wp2_with (refine ⟨trivial, ?_⟩; gi_at_call 32; refine (callsIn_wide.2 (pairs_in n _)).mono ?_; rintro e w1 ⟨rfl, rfl⟩)
  obtain ⟨W0, hW0⟩ : ∃ W0, (((w.alloc (.cells #[.int .u8 (s : Int)] 5)).alloc (.cells #[.slice none 0 0] 30)).alloc (.cells #[.int .i64 n] 3)) = W0 := ⟨_, rfl⟩
  have bS : Boxed W0 w.heap.size 5 (.int .u8 (s : Int)) := by rw [← hW0]; exact ((Boxed.new w _ _).alloc _).alloc _
  have bL : Boxed W0 (w.heap.size + 1) 30 (.slice none 0 0) := by rw [← hW0]; have h := (Boxed.new (w.alloc (.cells #[.int .u8 (s : Int)] 5)) 30 (.slice none 0 0)).alloc (.cells #[.int .i64 n] 3); simpa using h
  have bN : Boxed W0 (w.heap.size + 1 + 1) 3 (.int .i64 n) := by rw [← hW0]; have h := Boxed.new ((w.alloc (.cells #[.int .u8 (s : Int)] 5)).alloc (.cells #[.slice none 0 0] 30)) 3 (.int .i64 n); simpa using h
  have hsz : W0.heap.size = w.heap.size + 3 := by rw [← hW0]; simp
  have hB0 : Below w.heap.size w W0 := by rw [← hW0]; exact (((Below.refl _ w).alloc (Nat.le_refl _) _).alloc (by simp) _).alloc (by simp; omega) _
  rw [hW0]
  clear hW0 hT
  refine wpIn_rangeFunc_ownH (F := Fence.wide) rfl (by decide) (gf := 38) (lb := #[.pointer (some ⟨w.heap.size + 1 + 1, 0, none⟩)]) rfl trivial (enters_of Tryd.func38 (by kernel_rfl) rfl)
    (pairs_stops 4 (by decide) (w.heap.size + 1 + 1) m hm8 n hm W0 (by omega) bN.cell) (fun _ _ => trivial)
    (fun _ _ _ _ _ _ _ _ => trivial) (Below.refl _ _) (fun _ => rfl)
    (fun pre => KnW w s (cellsT s pre)) (fun _ _ _ => False) (knW_own w s (cellsT s) _ (by omega)) (fun _ _ _ _ _ hs _ _ => hs)
    ⟨⟨_, bL, World.ownsRow_nil _ _ _ _, trivial⟩, bS, hB0⟩
    (fun x a' W => ∃ b, W.heap[b]? = some (.cells #[.int .i64 (x.1.1 : Int), .int .i64 (x.1.2 : Int)] 57 (0, 0)) ∧ a' = knAct w s n b x)
    (fun x a' _ X Y row hs hg hr => by
      obtain ⟨b, h2, h3⟩ := hs
      refine ⟨b, ?_, h3⟩
      refine (hg.block b (Array.getElem?_eq_some_iff.1 h2).1 (fun e => ?_)).trans h2
      obtain ⟨o, ho, hcl⟩ := (hr b e.symm).2
      rw [h2] at ho; cases ho; cases hcl)
    ?assign ?body ?done ?stop
  case assign =>
    rintro l pre x W K hi hK
    unfold encK
    gi_wp2
    refine hK _ _ ((KeepsOthers.alloc _ _).from _) trivial ?_ ⟨W.heap.size, World.alloc_heap_new _ _, rfl⟩
    exact (knW_own w s (cellsT s) w.heap.size (Nat.le_refl _)).alloc _ hi
  case body =>
    rintro l pre x a' W hl ⟨r, hr⟩ hI ⟨b, hbx, rfl⟩ hlt
    obtain ⟨⟨v, bV, hrow, _⟩, bS', hB⟩ := hI
    obtain ⟨x0, x1⟩ := pair_cells hbx
    have cS := bS'.cell
    have TW := T0.out.below hB
    have tk0 := TW.1.2.1
    have tk1 := TW.1.2.2
    have HI1 := Lib.hid (HIN.out (x.1.1 : Int))
    have HI2 := Lib.hid (HIN.out (x.1.2 : Int))
    have HTW := Lib.hid TW
    clear TW
    cases hs1 : setB s (x.1.1 : Int) with
    | true =>
      rw [hs1] at HI1
      unfold knAct
      gi_wp2_with (refine ⟨trivial, ?_⟩; gi_at_call 19; refine (CallsIn.inRound l (callsIn_wide.2 (HI1.out _))).mono ?_; rintro e w1 ⟨rfl, rfl⟩)
      have HKW : Hid (KnW w s (cellsT s pre) W) := Lib.hid ⟨⟨v, bV, hrow, trivial⟩, bS', hB⟩
      have HBX := Lib.hid hbx
      refine ⟨trivial, ?_⟩
      gi_wp2
      gi_loopw [23] (fun iv wr => ∃ k : Nat, iv = .int .i64 k ∧ k ≤ 2 ∧ KnW w s (cellsT s pre ++ (bothT x.1.1 x.1.2).take k) wr ∧ KeepsFrom W0.heap.size W wr ∧ wr.heap[b]? = some (.cells #[.int .i64 (x.1.1 : Int), .int .i64 (x.1.2 : Int)] 57 (0, 0))) (fun iv _ => 2 - (intOf iv).toNat)
      case atStart => exact ⟨0, rfl, Nat.zero_le _, by rw [List.take_zero, List.append_nil]; exact HKW.out, KeepsFrom.refl _ _, HBX.out⟩
      case round =>
        obtain ⟨k, rfl, hk2, hI2, hkf, hbx2⟩ := hrel
        by_cases hk : k < 2
        · have hk' : (k : Int) < 2 := by omega
          have hwk : wrap64 ((k : Int) + 1) = (k : Int) + 1 := by unfold wrap64; omega
          obtain ⟨kd, c, hkd, htk, hix⟩ := kinds_at k hk
          have htk2 := htk x.1.1 x.1.2
          have hixw := hix wr
          have mixed : Tryd.prog.follows .mixedOrders = true := by kernel_rfl
          obtain ⟨y, hy⟩ : ∃ y, y = nmT c x.1.1 x.1.2 := ⟨_, rfl⟩
          obtain ⟨D, hD⟩ : ∃ D, D = cellsT s pre ++ (bothT x.1.1 x.1.2).take k := ⟨_, rfl⟩
          have hD1 : cellsT s pre ++ (bothT x.1.1 x.1.2).take (k + 1) = D ++ [y] := by rw [htk2, hD, hy, List.append_assoc]
          have hDl : D.length ≤ 1000 := by
            have h1 := cellsT_len s pre
            have h2 : ((bothT x.1.1 x.1.2).take k).length ≤ 2 := by rw [List.length_take]; exact Nat.min_le_right _ _
            rw [hD, List.length_append]
            omega
          rw [← hD] at hI2
          have HD1 := Lib.hid hD1
          clear hix htk htk2 hD hD1 HKW HBX hbx x0 x1 tk0 tk1 cS bV hrow bS' hB
          gi_wp2
          clear hixw
          refine wpIn_region_any mixed ?_
          obtain ⟨U0, hU0⟩ : ∃ U0, ({ wr with drawn := wr.drawn + 1 } : World) = U0 := ⟨_, rfl⟩
          rw [hU0]
          have hKW : KeepsOthers wr U0 := by rw [← hU0]; exact KeepsOthers.drew wr
          have hI0 : KnW w s D U0 := by
            rw [← hU0]
            exact knW_own (β := Unit) w s (fun _ => D) w.heap.size (Nat.le_refl _) () wr wr.drew none hI2 (grown_drew6 wr) (fun r e => by cases e)
          have bX : U0.heap[b]? = some (.cells #[.int .i64 (x.1.1 : Int), .int .i64 (x.1.2 : Int)] 57 (0, 0)) := by rw [← hU0]; exact hbx2
          obtain ⟨⟨v, bV, hrow, _⟩, bT, hB⟩ := hI0
          have HC := Lib.hid (key_any kd c hkd x.1.1 x.1.2 (by have := x.2; omega) x.2.2 x.2.1 U0 (T0.out.below hB))
          rw [← hy] at HC
          obtain ⟨App, hApp⟩ : ∃ App : World → World → Value → Prop, App = fun W1 w' x31 => OwnT w' (w.heap.size + 1) x31 (D ++ [y]) ∧ (W1.alloc (.cells #[.string y] 9)).grownBy w' v.ownBlock := ⟨_, rfl⟩
          obtain ⟨Fin, hFin⟩ : ∃ Fin : World → Prop, Fin = fun w' => KnW w s (D ++ [y]) w' ∧ KeepsFrom W0.heap.size W w' ∧ w'.heap[b]? = some (.cells #[.int .i64 (x.1.1 : Int), .int .i64 (x.1.2 : Int)] 57 (0, 0)) := ⟨_, rfl⟩
          have hUs := hB.size
          have hbL := bV.lt
          have HAPP : Hid (∀ W1, Below U0.heap.size U0 W1 → ∃ v' w2, (Builtin.append_ #[30, 30] 30 #[v, .slice (some ⟨W1.heap.size, 0, none⟩) 1 1]).run Tryd.prog (W1.alloc (.cells #[.string y] 9)) = .ok v' w2 ∧ App W1 w2 v') := Lib.hid (fun W1 hW1 => by
            rw [hApp]
            exact append_run y (ownT_below hrow hW1) (by have := hW1.size; omega) (by omega))
          have HFIN : Hid (∀ W1 w' x31, Below U0.heap.size U0 W1 → App W1 w' x31 → ∃ ao cap, x31 = .slice ao (D.length + 1) cap ∧ w'.cell? ⟨w.heap.size + 1, 0, none⟩ = some v ∧ w'.frozen? ⟨w.heap.size + 1, 0, none⟩ = false ∧ Fin (w'.setCell ⟨w.heap.size + 1, 0, none⟩ x31)) := Lib.hid (fun W1 w' x31 hW1 ha => by
            rw [hApp] at ha
            obtain ⟨hown', hgrow⟩ := ha
            obtain ⟨a1, a2, a3, a4, a5, a6⟩ := kn_stored (boxed_below bV hW1) (ownT_below hrow hW1) (by have := hW1.size; omega) (Nat.le_refl _) hown' hgrow ((hW1.block b (Array.getElem?_eq_some_iff.1 bX).1).trans bX)
            obtain ⟨ao, cap, he, _⟩ := ownT_row hown'
            refine ⟨ao, cap, by rw [he]; simp, a1.cell, a1.frozen, ?_⟩
            rw [hFin]
            refine ⟨⟨⟨x31, a2, a3, trivial⟩, ?_, ?_⟩, (hkf.trans ((hKW.trans (keepsOthers_below hW1)).trans a4 |>.from _)), a6⟩
            · exact (a5.block _ (Nat.lt_succ_self _)).trans (boxed_below bT hW1)
            · exact (below_step hB hW1).trans (a5.mono (Nat.le_succ _)))
          have HFW : Hid (∀ w', Fin w' → KnW w s (cellsT s pre ++ (bothT x.1.1 x.1.2).take (k + 1)) w' ∧ KeepsFrom W0.heap.size W w' ∧ w'.heap[b]? = some (.cells #[.int .i64 (x.1.1 : Int), .int .i64 (x.1.2 : Int)] 57 (0, 0))) := Lib.hid (fun w' h => by rw [hFin] at h; rw [HD1.out]; exact h)
          clear hApp hFin hy hU0 hKW hrow hB hI2 hbx2 hkf HD1 hkd
          refine wpAnyIn_inv (fun listed a' w' => ∃ q0 q1 q2 q3 q4 q5 q6 : Bool, ∃ x26 x27 x28 x29 x30 x31 : Value, listed = #[q0, q1, q2, q3, q4, q5, q6] ∧ a' = { tmps := #[.int .u8 (s : Int), .int .i64 n, .pointer (some ⟨w.heap.size, 0, none⟩), undef, .slice none 0 0, .pointer (some ⟨w.heap.size + 1, 0, none⟩), .pointer (some ⟨b, 0, none⟩), undef, .int .u8 (kd : Int), .int .i64 n, .func (.func 38) #[] #[.pointer (some ⟨w.heap.size + 1 + 1, 0, none⟩)], .agg #[.int .i64 (x.1.1 : Int), .int .i64 (x.1.2 : Int)], .int .u8 (s : Int), .pointer (some ⟨b, 0, none⟩), .int .i64 (x.1.1 : Int), .bool true, .bool true, undef, undef, undef, undef, .bool true, .agg #[.int .u8 1, .int .u8 2], .int .i64 (k : Int), .bool true, .int .u8 (kd : Int), x26, x27, x28, x29, x30, x31, u32, undef], defers := [] } ∧ ((q0 = true → x26 = v) ∧ (q1 = true → x27 = .agg #[.int .i64 (x.1.1 : Int), .int .i64 (x.1.2 : Int)]) ∧ (q2 = true → x28 = .int .u8 (kd : Int)) ∧ (q3 = true → x29 = .string y)) ∧ PK U0 y App Fin q3 q4 q5 q6 x30 x31 w' ∧ (q3 = true → q1 = true ∧ q2 = true) ∧ (q5 = true → q0 = true)) ?_ ?_ _ _ _ _ (by decide) ?_
          · intro listed a' w' i hI hi
            obtain ⟨q0, q1, q2, q3, q4, q5, q6, x26, x27, x28, x29, x30, x31, rfl, rfl, ⟨h0, h1, h2, h3⟩, hw, c1, c2⟩ := hI
            have hun := (mem_ready.1 hi).1
            rcases i with _ | _ | _ | _ | _ | _ | _ | i
            · have e0 : q0 = false := hun
              have f5 : q5 = false := by cases q5 with | false => rfl | true => exact absurd (c2 rfl) (by simp [e0])
              subst f5
              have hbx3 := boxed_below bV (pk_below hw)
              have hc := hbx3.cell
              refine wpOpIn_want rfl rfl (fun K hK => ?_)
              have H := Lib.hid (And.intro h0 (And.intro h1 (And.intro h2 (And.intro h3 (And.intro hw (And.intro c1 c2))))))
              clear h0 h1 h2 h3 hw c1 c2
              clear hbx3
              go_simp
              obtain ⟨h0, h1, h2, h3, hw, c1, c2⟩ := H.out
              exact hK _ _ ⟨true, q1, q2, q3, q4, false, q6, v, x27, x28, x29, x30, x31, rfl, rfl, ⟨fun _ => rfl, h1, h2, h3⟩, hw, c1, fun _ => rfl⟩
            · have e1 : q1 = false := hun
              have f3 : q3 = false := by cases q3 with | false => rfl | true => exact absurd (c1 rfl).1 (by simp [e1])
              subst f3
              obtain rfl := (pk_u0 hw).symm
              obtain ⟨hc, hc'⟩ := pair_cells bX
              refine wpOpIn_want rfl rfl (fun K hK => ?_)
              have H := Lib.hid (And.intro h0 (And.intro h1 (And.intro h2 (And.intro h3 (And.intro hw (And.intro c1 c2))))))
              clear h0 h1 h2 h3 hw c1 c2
              go_simp
              obtain ⟨h0, h1, h2, h3, hw, c1, c2⟩ := H.out
              exact hK _ _ ⟨q0, true, q2, false, q4, q5, q6, x26, .agg #[.int .i64 (x.1.1 : Int), .int .i64 (x.1.2 : Int)], x28, x29, x30, x31, rfl, rfl, ⟨h0, fun _ => rfl, h2, h3⟩, hw, fun h => (by cases h), c2⟩
            · have e2 : q2 = false := hun
              have f3 : q3 = false := by cases q3 with | false => rfl | true => exact absurd (c1 rfl).2 (by simp [e2])
              subst f3
              refine wpOpIn_want rfl rfl (fun K hK => ?_)
              have H := Lib.hid (And.intro h0 (And.intro h1 (And.intro h2 (And.intro h3 (And.intro hw (And.intro c1 c2))))))
              clear h0 h1 h2 h3 hw c1 c2
              go_simp
              obtain ⟨h0, h1, h2, h3, hw, c1, c2⟩ := H.out
              exact hK _ _ ⟨q0, q1, true, false, q4, q5, q6, x26, x27, .int .u8 (kd : Int), x29, x30, x31, rfl, rfl, ⟨h0, h1, fun _ => rfl, h3⟩, hw, fun h => (by cases h), c2⟩
            · have e3 : q3 = false := hun
              have d1 : q1 = true := dep hi rfl ⟨1, .data⟩ (by simp) rfl
              have d2 : q2 = true := dep hi rfl ⟨2, .data⟩ (by simp) rfl
              obtain rfl := (h1 d1).symm
              obtain rfl := (h2 d2).symm
              subst e3
              obtain rfl := (pk_u0 hw).symm
              refine wpOpIn_want rfl rfl (fun K hK => ?_)
              have H := Lib.hid (And.intro h0 (And.intro h1 (And.intro h2 (And.intro h3 (And.intro hw (And.intro c1 c2))))))
              clear h0 h1 h2 h3 hw c1 c2
              go_simp
              refine ⟨trivial, ?_⟩
              refine (CallsIn.inRound l (callsIn_wide.2 HC.out)).mono ?_
              rintro e w2 ⟨rfl, b2⟩
              obtain ⟨h0, h1, h2, h3, hw, c1, c2⟩ := H.out
              exact hK _ _ ⟨q0, q1, q2, true, q4, q5, q6, x26, .agg #[.int .i64 (x.1.1 : Int), .int .i64 (x.1.2 : Int)], .int .u8 (kd : Int), .string y, x30, x31, rfl, rfl, ⟨h0, h1, h2, fun _ => rfl⟩, pk_four hw b2, fun _ => ⟨d1, d2⟩, c2⟩
            · have e4 : q4 = false := hun
              have d3 : q3 = true := dep hi rfl ⟨3, .data⟩ (by simp) rfl
              obtain rfl := (h3 d3).symm
              subst d3
              subst e4
              refine wpOpIn_want rfl rfl (fun K hK => ?_)
              have H := Lib.hid (And.intro h0 (And.intro h1 (And.intro h2 (And.intro h3 (And.intro hw (And.intro c1 c2))))))
              clear h0 h1 h2 h3 hw c1 c2
              go_simp
              obtain ⟨h0, h1, h2, h3, hw, c1, c2⟩ := H.out
              exact hK _ _ ⟨q0, q1, q2, true, true, q5, q6, x26, x27, x28, .string y, .slice (some ⟨w'.heap.size, 0, none⟩) 1 1, x31, rfl, rfl, ⟨h0, h1, h2, h3⟩, pk_five hw, c1, c2⟩
            · have e5 : q5 = false := hun
              have d0 : q0 = true := dep hi rfl ⟨0, .data⟩ (by simp) rfl
              have d4 : q4 = true := dep hi rfl ⟨4, .data⟩ (by simp) rfl
              obtain rfl := (h0 d0).symm
              subst d4
              subst e5
              obtain ⟨rfl, W1, hW1, rfl, rfl⟩ := pk_six hw
              obtain ⟨v', w2, hrun, happ⟩ := HAPP.out W1 hW1
              exact wpOpIn_append rfl rfl (.tmp 26) (.tmp 30) 30 rfl rfl rfl hrun ⟨q0, q1, q2, true, true, true, q6, v, x27, x28, x29, _, v', rfl, rfl, ⟨fun _ => rfl, h1, h2, h3⟩, pk_sixed hw ⟨W1, hW1, happ⟩, c1, fun _ => d0⟩
            · have e6 : q6 = false := hun
              have d5 : q5 = true := dep hi rfl ⟨5, .data⟩ (by simp) rfl
              subst d5
              subst e6
              obtain ⟨rfl, rfl, W1, hW1, happ⟩ := pk_seven hw
              obtain ⟨ao, cap, rfl, hcb, hfb, hfin⟩ := HFIN.out W1 w' x31 hW1 happ
              refine wpOpIn_want rfl rfl (fun K hK => ?_)
              have H := Lib.hid (And.intro h0 (And.intro h1 (And.intro h2 (And.intro h3 (And.intro hw (And.intro c1 c2))))))
              clear h0 h1 h2 h3 hw c1 c2
              go_simp
              obtain ⟨h0, h1, h2, h3, hw, c1, c2⟩ := H.out
              exact hK _ _ ⟨q0, q1, q2, true, true, true, true, x26, x27, x28, x29, x30, _, rfl, rfl, ⟨h0, h1, h2, h3⟩, hfin, c1, c2⟩
            · exact absurd (mem_ready.1 hi).2 (by rintro ⟨o, ho, _⟩; simp at ho)
          · rintro listed a' w' ⟨q0, q1, q2, q3, q4, q5, q6, x26, x27, x28, x29, x30, x31, rfl, rfl, g1, hw, g2, g3⟩ hrd
            have hall := fun i (hi : i < 7) => all_listed (by kernel_rfl) rfl hrd 7 i hi hi
            obtain rfl : q3 = true := hall 3 (by decide)
            obtain rfl : q4 = true := hall 4 (by decide)
            obtain rfl : q5 = true := hall 5 (by decide)
            obtain rfl : q6 = true := hall 6 (by decide)
            have HW := Lib.hid (HFW.out _ hw)
            have HWK := Lib.hid (And.intro hwk hk)
            clear hw hall hrd g1 g2 g3 HAPP HFIN HFW HC bX bV bT hwk hk' hk hk2 hs1 hr hlt hl HTW T0 HKN HIN hm hm8 hUs hbL hDl mixed hB0 bS bL bN HI1 HI2
            dsimp only
            gi_wp2
            go_roundw
            case rel => exact ⟨k + 1, by rw [HWK.out.1, Int.natCast_add, Int.natCast_one], HWK.out.2, HW.out.1, HW.out.2.1, HW.out.2.2⟩
            case measure =>
              rw [HWK.out.1]
              show 2 - ((k : Int) + 1).toNat < 2 - (k : Int).toNat
              have := HWK.out.2
              omega
          · exact ⟨false, false, false, false, false, false, false, u26, u27, u28, u29, u30, u31, rfl, rfl, by simp, rfl, by simp, by simp⟩
        · obtain rfl : k = 2 := by omega
          have HK := Lib.hid hI2
          have HF := Lib.hid hkf
          clear hk hk2 hI2 hkf hbx2 HKW HBX hbx x0 x1 tk0 tk1 cS bV hrow bS' hB
          gi_wp2
          refine ⟨HF.out, trivial, ?_⟩
          show KnW w s (cellsT s (pre ++ [x])) wr
          rw [cellsT_snoc, show cellT s x = bothT x.1.1 x.1.2 from if_pos (by first | exact .inl hs1 | exact .inr hs2)]
          exact HK.out
    | false =>
      rw [hs1] at HI1
      cases hs2 : setB s (x.1.2 : Int) with
      | true =>
        rw [hs2] at HI2
        unfold knAct
        gi_wp2_with (first | (refine ⟨trivial, ?_⟩; gi_at_call 19; refine (CallsIn.inRound l (callsIn_wide.2 (HI1.out _))).mono ?_; clear HI1; rintro e w1 ⟨rfl, rfl⟩) | (refine ⟨trivial, ?_⟩; gi_at_call 19; refine (CallsIn.inRound l (callsIn_wide.2 (HI2.out _))).mono ?_; clear HI2; rintro e w1 ⟨rfl, rfl⟩))
        have HKW : Hid (KnW w s (cellsT s pre) W) := Lib.hid ⟨⟨v, bV, hrow, trivial⟩, bS', hB⟩
        have HBX := Lib.hid hbx
        gi_loopw [23] (fun iv wr => ∃ k : Nat, iv = .int .i64 k ∧ k ≤ 2 ∧ KnW w s (cellsT s pre ++ (bothT x.1.1 x.1.2).take k) wr ∧ KeepsFrom W0.heap.size W wr ∧ wr.heap[b]? = some (.cells #[.int .i64 (x.1.1 : Int), .int .i64 (x.1.2 : Int)] 57 (0, 0))) (fun iv _ => 2 - (intOf iv).toNat)
        case atStart => exact ⟨0, rfl, Nat.zero_le _, by rw [List.take_zero, List.append_nil]; exact HKW.out, KeepsFrom.refl _ _, HBX.out⟩
        case round =>
          obtain ⟨k, rfl, hk2, hI2, hkf, hbx2⟩ := hrel
          by_cases hk : k < 2
          · have hk' : (k : Int) < 2 := by omega
            have hwk : wrap64 ((k : Int) + 1) = (k : Int) + 1 := by unfold wrap64; omega
            obtain ⟨kd, c, hkd, htk, hix⟩ := kinds_at k hk
            have htk2 := htk x.1.1 x.1.2
            have hixw := hix wr
            have mixed : Tryd.prog.follows .mixedOrders = true := by kernel_rfl
            obtain ⟨y, hy⟩ : ∃ y, y = nmT c x.1.1 x.1.2 := ⟨_, rfl⟩
            obtain ⟨D, hD⟩ : ∃ D, D = cellsT s pre ++ (bothT x.1.1 x.1.2).take k := ⟨_, rfl⟩
            have hD1 : cellsT s pre ++ (bothT x.1.1 x.1.2).take (k + 1) = D ++ [y] := by rw [htk2, hD, hy, List.append_assoc]
            have hDl : D.length ≤ 1000 := by
              have h1 := cellsT_len s pre
              have h2 : ((bothT x.1.1 x.1.2).take k).length ≤ 2 := by rw [List.length_take]; exact Nat.min_le_right _ _
              rw [hD, List.length_append]
              omega
            rw [← hD] at hI2
            have HD1 := Lib.hid hD1
            clear hix htk htk2 hD hD1 HKW HBX hbx x0 x1 tk0 tk1 cS bV hrow bS' hB
            gi_wp2
            clear hixw
            refine wpIn_region_any mixed ?_
            obtain ⟨U0, hU0⟩ : ∃ U0, ({ wr with drawn := wr.drawn + 1 } : World) = U0 := ⟨_, rfl⟩
            rw [hU0]
            have hKW : KeepsOthers wr U0 := by rw [← hU0]; exact KeepsOthers.drew wr
            have hI0 : KnW w s D U0 := by
              rw [← hU0]
              exact knW_own (β := Unit) w s (fun _ => D) w.heap.size (Nat.le_refl _) () wr wr.drew none hI2 (grown_drew6 wr) (fun r e => by cases e)
            have bX : U0.heap[b]? = some (.cells #[.int .i64 (x.1.1 : Int), .int .i64 (x.1.2 : Int)] 57 (0, 0)) := by rw [← hU0]; exact hbx2
            obtain ⟨⟨v, bV, hrow, _⟩, bT, hB⟩ := hI0
            have HC := Lib.hid (key_any kd c hkd x.1.1 x.1.2 (by have := x.2; omega) x.2.2 x.2.1 U0 (T0.out.below hB))
            rw [← hy] at HC
            obtain ⟨App, hApp⟩ : ∃ App : World → World → Value → Prop, App = fun W1 w' x31 => OwnT w' (w.heap.size + 1) x31 (D ++ [y]) ∧ (W1.alloc (.cells #[.string y] 9)).grownBy w' v.ownBlock := ⟨_, rfl⟩
            obtain ⟨Fin, hFin⟩ : ∃ Fin : World → Prop, Fin = fun w' => KnW w s (D ++ [y]) w' ∧ KeepsFrom W0.heap.size W w' ∧ w'.heap[b]? = some (.cells #[.int .i64 (x.1.1 : Int), .int .i64 (x.1.2 : Int)] 57 (0, 0)) := ⟨_, rfl⟩
            have hUs := hB.size
            have hbL := bV.lt
            have HAPP : Hid (∀ W1, Below U0.heap.size U0 W1 → ∃ v' w2, (Builtin.append_ #[30, 30] 30 #[v, .slice (some ⟨W1.heap.size, 0, none⟩) 1 1]).run Tryd.prog (W1.alloc (.cells #[.string y] 9)) = .ok v' w2 ∧ App W1 w2 v') := Lib.hid (fun W1 hW1 => by
              rw [hApp]
              exact append_run y (ownT_below hrow hW1) (by have := hW1.size; omega) (by omega))
            have HFIN : Hid (∀ W1 w' x31, Below U0.heap.size U0 W1 → App W1 w' x31 → ∃ ao cap, x31 = .slice ao (D.length + 1) cap ∧ w'.cell? ⟨w.heap.size + 1, 0, none⟩ = some v ∧ w'.frozen? ⟨w.heap.size + 1, 0, none⟩ = false ∧ Fin (w'.setCell ⟨w.heap.size + 1, 0, none⟩ x31)) := Lib.hid (fun W1 w' x31 hW1 ha => by
              rw [hApp] at ha
              obtain ⟨hown', hgrow⟩ := ha
              obtain ⟨a1, a2, a3, a4, a5, a6⟩ := kn_stored (boxed_below bV hW1) (ownT_below hrow hW1) (by have := hW1.size; omega) (Nat.le_refl _) hown' hgrow ((hW1.block b (Array.getElem?_eq_some_iff.1 bX).1).trans bX)
              obtain ⟨ao, cap, he, _⟩ := ownT_row hown'
              refine ⟨ao, cap, by rw [he]; simp, a1.cell, a1.frozen, ?_⟩
              rw [hFin]
              refine ⟨⟨⟨x31, a2, a3, trivial⟩, ?_, ?_⟩, (hkf.trans ((hKW.trans (keepsOthers_below hW1)).trans a4 |>.from _)), a6⟩
              · exact (a5.block _ (Nat.lt_succ_self _)).trans (boxed_below bT hW1)
              · exact (below_step hB hW1).trans (a5.mono (Nat.le_succ _)))
            have HFW : Hid (∀ w', Fin w' → KnW w s (cellsT s pre ++ (bothT x.1.1 x.1.2).take (k + 1)) w' ∧ KeepsFrom W0.heap.size W w' ∧ w'.heap[b]? = some (.cells #[.int .i64 (x.1.1 : Int), .int .i64 (x.1.2 : Int)] 57 (0, 0))) := Lib.hid (fun w' h => by rw [hFin] at h; rw [HD1.out]; exact h)
            clear hApp hFin hy hU0 hKW hrow hB hI2 hbx2 hkf HD1 hkd
            refine wpAnyIn_inv (fun listed a' w' => ∃ q0 q1 q2 q3 q4 q5 q6 : Bool, ∃ x26 x27 x28 x29 x30 x31 : Value, listed = #[q0, q1, q2, q3, q4, q5, q6] ∧ a' = { tmps := #[.int .u8 (s : Int), .int .i64 n, .pointer (some ⟨w.heap.size, 0, none⟩), undef, .slice none 0 0, .pointer (some ⟨w.heap.size + 1, 0, none⟩), .pointer (some ⟨b, 0, none⟩), undef, .int .u8 (kd : Int), .int .i64 n, .func (.func 38) #[] #[.pointer (some ⟨w.heap.size + 1 + 1, 0, none⟩)], .agg #[.int .i64 (x.1.1 : Int), .int .i64 (x.1.2 : Int)], .int .u8 (s : Int), .pointer (some ⟨b, 0, none⟩), .int .i64 (x.1.1 : Int), .bool false, .bool false, .int .u8 (s : Int), .pointer (some ⟨b, 1, none⟩), .int .i64 (x.1.2 : Int), .bool true, .bool true, .agg #[.int .u8 1, .int .u8 2], .int .i64 (k : Int), .bool true, .int .u8 (kd : Int), x26, x27, x28, x29, x30, x31, u32, undef], defers := [] } ∧ ((q0 = true → x26 = v) ∧ (q1 = true → x27 = .agg #[.int .i64 (x.1.1 : Int), .int .i64 (x.1.2 : Int)]) ∧ (q2 = true → x28 = .int .u8 (kd : Int)) ∧ (q3 = true → x29 = .string y)) ∧ PK U0 y App Fin q3 q4 q5 q6 x30 x31 w' ∧ (q3 = true → q1 = true ∧ q2 = true) ∧ (q5 = true → q0 = true)) ?_ ?_ _ _ _ _ (by decide) ?_
            · intro listed a' w' i hI hi
              obtain ⟨q0, q1, q2, q3, q4, q5, q6, x26, x27, x28, x29, x30, x31, rfl, rfl, ⟨h0, h1, h2, h3⟩, hw, c1, c2⟩ := hI
              have hun := (mem_ready.1 hi).1
              rcases i with _ | _ | _ | _ | _ | _ | _ | i
              · have e0 : q0 = false := hun
                have f5 : q5 = false := by cases q5 with | false => rfl | true => exact absurd (c2 rfl) (by simp [e0])
                subst f5
                have hbx3 := boxed_below bV (pk_below hw)
                have hc := hbx3.cell
                refine wpOpIn_want rfl rfl (fun K hK => ?_)
                have H := Lib.hid (And.intro h0 (And.intro h1 (And.intro h2 (And.intro h3 (And.intro hw (And.intro c1 c2))))))
                clear h0 h1 h2 h3 hw c1 c2
                clear hbx3
                go_simp
                obtain ⟨h0, h1, h2, h3, hw, c1, c2⟩ := H.out
                exact hK _ _ ⟨true, q1, q2, q3, q4, false, q6, v, x27, x28, x29, x30, x31, rfl, rfl, ⟨fun _ => rfl, h1, h2, h3⟩, hw, c1, fun _ => rfl⟩
              · have e1 : q1 = false := hun
                have f3 : q3 = false := by cases q3 with | false => rfl | true => exact absurd (c1 rfl).1 (by simp [e1])
                subst f3
                obtain rfl := (pk_u0 hw).symm
                obtain ⟨hc, hc'⟩ := pair_cells bX
                refine wpOpIn_want rfl rfl (fun K hK => ?_)
                have H := Lib.hid (And.intro h0 (And.intro h1 (And.intro h2 (And.intro h3 (And.intro hw (And.intro c1 c2))))))
                clear h0 h1 h2 h3 hw c1 c2
                go_simp
                obtain ⟨h0, h1, h2, h3, hw, c1, c2⟩ := H.out
                exact hK _ _ ⟨q0, true, q2, false, q4, q5, q6, x26, .agg #[.int .i64 (x.1.1 : Int), .int .i64 (x.1.2 : Int)], x28, x29, x30, x31, rfl, rfl, ⟨h0, fun _ => rfl, h2, h3⟩, hw, fun h => (by cases h), c2⟩
              · have e2 : q2 = false := hun
                have f3 : q3 = false := by cases q3 with | false => rfl | true => exact absurd (c1 rfl).2 (by simp [e2])
                subst f3
                refine wpOpIn_want rfl rfl (fun K hK => ?_)
                have H := Lib.hid (And.intro h0 (And.intro h1 (And.intro h2 (And.intro h3 (And.intro hw (And.intro c1 c2))))))
                clear h0 h1 h2 h3 hw c1 c2
                go_simp
                obtain ⟨h0, h1, h2, h3, hw, c1, c2⟩ := H.out
                exact hK _ _ ⟨q0, q1, true, false, q4, q5, q6, x26, x27, .int .u8 (kd : Int), x29, x30, x31, rfl, rfl, ⟨h0, h1, fun _ => rfl, h3⟩, hw, fun h => (by cases h), c2⟩
              · have e3 : q3 = false := hun
                have d1 : q1 = true := dep hi rfl ⟨1, .data⟩ (by simp) rfl
                have d2 : q2 = true := dep hi rfl ⟨2, .data⟩ (by simp) rfl
                obtain rfl := (h1 d1).symm
                obtain rfl := (h2 d2).symm
                subst e3
                obtain rfl := (pk_u0 hw).symm
                refine wpOpIn_want rfl rfl (fun K hK => ?_)
                have H := Lib.hid (And.intro h0 (And.intro h1 (And.intro h2 (And.intro h3 (And.intro hw (And.intro c1 c2))))))
                clear h0 h1 h2 h3 hw c1 c2
                go_simp
                refine ⟨trivial, ?_⟩
                refine (CallsIn.inRound l (callsIn_wide.2 HC.out)).mono ?_
                rintro e w2 ⟨rfl, b2⟩
                obtain ⟨h0, h1, h2, h3, hw, c1, c2⟩ := H.out
                exact hK _ _ ⟨q0, q1, q2, true, q4, q5, q6, x26, .agg #[.int .i64 (x.1.1 : Int), .int .i64 (x.1.2 : Int)], .int .u8 (kd : Int), .string y, x30, x31, rfl, rfl, ⟨h0, h1, h2, fun _ => rfl⟩, pk_four hw b2, fun _ => ⟨d1, d2⟩, c2⟩
              · have e4 : q4 = false := hun
                have d3 : q3 = true := dep hi rfl ⟨3, .data⟩ (by simp) rfl
                obtain rfl := (h3 d3).symm
                subst d3
                subst e4
                refine wpOpIn_want rfl rfl (fun K hK => ?_)
                have H := Lib.hid (And.intro h0 (And.intro h1 (And.intro h2 (And.intro h3 (And.intro hw (And.intro c1 c2))))))
                clear h0 h1 h2 h3 hw c1 c2
                go_simp
                obtain ⟨h0, h1, h2, h3, hw, c1, c2⟩ := H.out
                exact hK _ _ ⟨q0, q1, q2, true, true, q5, q6, x26, x27, x28, .string y, .slice (some ⟨w'.heap.size, 0, none⟩) 1 1, x31, rfl, rfl, ⟨h0, h1, h2, h3⟩, pk_five hw, c1, c2⟩
              · have e5 : q5 = false := hun
                have d0 : q0 = true := dep hi rfl ⟨0, .data⟩ (by simp) rfl
                have d4 : q4 = true := dep hi rfl ⟨4, .data⟩ (by simp) rfl
                obtain rfl := (h0 d0).symm
                subst d4
                subst e5
                obtain ⟨rfl, W1, hW1, rfl, rfl⟩ := pk_six hw
                obtain ⟨v', w2, hrun, happ⟩ := HAPP.out W1 hW1
                exact wpOpIn_append rfl rfl (.tmp 26) (.tmp 30) 30 rfl rfl rfl hrun ⟨q0, q1, q2, true, true, true, q6, v, x27, x28, x29, _, v', rfl, rfl, ⟨fun _ => rfl, h1, h2, h3⟩, pk_sixed hw ⟨W1, hW1, happ⟩, c1, fun _ => d0⟩
              · have e6 : q6 = false := hun
                have d5 : q5 = true := dep hi rfl ⟨5, .data⟩ (by simp) rfl
                subst d5
                subst e6
                obtain ⟨rfl, rfl, W1, hW1, happ⟩ := pk_seven hw
                obtain ⟨ao, cap, rfl, hcb, hfb, hfin⟩ := HFIN.out W1 w' x31 hW1 happ
                refine wpOpIn_want rfl rfl (fun K hK => ?_)
                have H := Lib.hid (And.intro h0 (And.intro h1 (And.intro h2 (And.intro h3 (And.intro hw (And.intro c1 c2))))))
                clear h0 h1 h2 h3 hw c1 c2
                go_simp
                obtain ⟨h0, h1, h2, h3, hw, c1, c2⟩ := H.out
                exact hK _ _ ⟨q0, q1, q2, true, true, true, true, x26, x27, x28, x29, x30, _, rfl, rfl, ⟨h0, h1, h2, h3⟩, hfin, c1, c2⟩
              · exact absurd (mem_ready.1 hi).2 (by rintro ⟨o, ho, _⟩; simp at ho)
            · rintro listed a' w' ⟨q0, q1, q2, q3, q4, q5, q6, x26, x27, x28, x29, x30, x31, rfl, rfl, g1, hw, g2, g3⟩ hrd
              have hall := fun i (hi : i < 7) => all_listed (by kernel_rfl) rfl hrd 7 i hi hi
              obtain rfl : q3 = true := hall 3 (by decide)
              obtain rfl : q4 = true := hall 4 (by decide)
              obtain rfl : q5 = true := hall 5 (by decide)
              obtain rfl : q6 = true := hall 6 (by decide)
              have HW := Lib.hid (HFW.out _ hw)
              have HWK := Lib.hid (And.intro hwk hk)
              clear hw hall hrd g1 g2 g3 HAPP HFIN HFW HC bX bV bT hwk hk' hk hk2 hs1 hr hlt hl HTW T0 HKN HIN hm hm8 hUs hbL hDl mixed hB0 bS bL bN hs2
              dsimp only
              gi_wp2
              go_roundw
              case rel => exact ⟨k + 1, by rw [HWK.out.1, Int.natCast_add, Int.natCast_one], HWK.out.2, HW.out.1, HW.out.2.1, HW.out.2.2⟩
              case measure =>
                rw [HWK.out.1]
                show 2 - ((k : Int) + 1).toNat < 2 - (k : Int).toNat
                have := HWK.out.2
                omega
            · exact ⟨false, false, false, false, false, false, false, u26, u27, u28, u29, u30, u31, rfl, rfl, by simp, rfl, by simp, by simp⟩
          · obtain rfl : k = 2 := by omega
            have HK := Lib.hid hI2
            have HF := Lib.hid hkf
            clear hk hk2 hI2 hkf hbx2 HKW HBX hbx x0 x1 tk0 tk1 cS bV hrow bS' hB
            gi_wp2
            refine ⟨HF.out, trivial, ?_⟩
            show KnW w s (cellsT s (pre ++ [x])) wr
            rw [cellsT_snoc, show cellT s x = bothT x.1.1 x.1.2 from if_pos (by first | exact .inl hs1 | exact .inr hs2)]
            exact HK.out
      | false =>
        rw [hs2] at HI2
        unfold knAct
        gi_wp2_with (first | (refine ⟨trivial, ?_⟩; gi_at_call 19; refine (CallsIn.inRound l (callsIn_wide.2 (HI1.out _))).mono ?_; clear HI1; rintro e w1 ⟨rfl, rfl⟩) | (refine ⟨trivial, ?_⟩; gi_at_call 19; refine (CallsIn.inRound l (callsIn_wide.2 (HI2.out _))).mono ?_; clear HI2; rintro e w1 ⟨rfl, rfl⟩))
        refine ⟨KeepsFrom.refl _ _, trivial, ?_⟩
        show KnW w s (cellsT s (pre ++ [x])) W
        rw [cellsT_snoc, show cellT s x = [] from if_neg (by simp [hs1, hs2]), List.append_nil]
        exact ⟨⟨v, bV, hrow, trivial⟩, bS', hB⟩
  case done =>
    rintro D ys W hD rfl ⟨⟨v, bV, hrow, _⟩, bS', hB⟩ hK
    have hc := bV.cell
    obtain ⟨ao, cap, rfl, _⟩ := ownT_row (show OwnT W (w.heap.size + 1) v (cellsT s (allP m m)) from hrow)
    have HR := Lib.hid hrow
    clear bV hrow bS'
    gi_wp2
    refine leave_mark hK (results_tmp rfl _ _ _) ?_
    exact ⟨⟨.slice ao (cellsT s (allP m m)).length cap, cellsT s (allP m m), rfl, ownT_low (ownsRow_putObj HR.out _ hK rfl) (Nat.le_succ _), HKN.out⟩, below_mark hB (by omega) hK _⟩
  case stop =>
    rintro D c pre W hD _ h hK
    exact h.elim
end Go.Proofs.YtbhcjdpachboaaaDoor.Pl
