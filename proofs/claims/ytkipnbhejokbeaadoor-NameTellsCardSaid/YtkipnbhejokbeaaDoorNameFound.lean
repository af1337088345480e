/- What add notes of a character, and what found finds of a text. -/
import Derived.Test.YtkipnbhejokbeaaDoorNameSpec
import Derived.Test.YtkipnbhejokbeaaDoorCommon
import Derived.Test.YtkipnbhejokbeaaDoorProg
import Derived.Lib.Hide
import Derived.Lib.OthersKept
import Derived.Laws.Rows
import Derived.WalkMore
import Derived.LoopTactic
import Derived.Handy
import Derived.Outline
import Derived.Laws.Tables
namespace Go.Proofs.YtkipnbhejokbeaaDoor.Pl
open Go.RowKit

/-- A struct of traits, in cells. -/
def trC (n : Int) (t : Tr) : Array Value := #[.int .i64 n, .int .u8 t.sc, .bool t.mi, .bool t.ot]
/-- Nothing but block b's cells has turned. -/
def Turned (b : Nat) (w w' : World) : Prop := w.grownBy w' (some b) ∧ w'.heap.size = w.heap.size
def addT (t : Tr) (x : Int) : Tr := if x = 0 then t else if t.sc = 0 then { t with sc := x } else if t.sc = x then t else { t with mi := true }
theorem step_add (t : Tr) (r : Int) (h : chrZ r = true) : t.step r = addT t (scrZ r) := by rw [Tr.step, if_pos h]; rfl

theorem Turned.refl (b : Nat) (w : World) : Turned b w w := ⟨⟨rfl, rfl, rfl, Nat.le_refl _, fun _ _ _ => rfl⟩, rfl⟩
theorem Turned.setCell (w : World) (b i : Nat) (v : Value) : Turned b w (w.setCell ⟨b, i, none⟩ v) :=
  ⟨⟨rfl, rfl, rfl, by simp [World.setCell], fun k _ hk => Below.heap_setCell _ _ _ _ (fun e => hk (by simp [e]))⟩, by simp [World.setCell]⟩
theorem heap_set {w : World} {b i : Nat} {cs : Array Value} {T : TypeId} (hb : w.heap[b]? = some (.cells cs T (0, 0))) (v : Value) : (w.setCell ⟨b, i, none⟩ v).heap[b]? = some (.cells (cs.setIfInBounds i v) T (0, 0)) := by
  simp [World.setCell, Array.getElem?_modify, hb]

set_option maxHeartbeats 1000000 in
set_option maxRecDepth 100000 in
theorem add_any (b : Nat) (n : Int) (t : Tr) (x : Int) (w : World) (hb : w.heap[b]? = some (.cells (trC n t) 51 (0, 0))) :
    Calls Tryd.prog 36 #[.pointer (some ⟨b, 0, none⟩), .int .u8 x] w fun e w' => e = .returned (.tuple #[]) ∧ w'.heap[b]? = some (.cells (trC n (addT t x)) 51 (0, 0)) ∧ Turned b w w' := by
  obtain ⟨sc, mi, ot⟩ := t
  have c0 : w.cell? ⟨b, 1, none⟩ = some (.int .u8 sc) := by rw [Lib.cell_of_heap hb]; rfl
  have f1 : w.frozen? ⟨b, 1, none⟩ = false := Lib.frozen_of_heap hb 1
  have f2 : w.frozen? ⟨b, 2, none⟩ = false := Lib.frozen_of_heap hb 2
  have c2 : w.cell? ⟨b, 2, none⟩ = some (.bool mi) := by rw [Lib.cell_of_heap hb]; rfl
  have HB := Lib.hid hb
  by_cases h0 : x = 0
  · have q0 : (x == 0) = true := by rw [beq_iff_eq]; exact h0
    have H : Hid (addT ⟨sc, mi, ot⟩ x = ⟨sc, mi, ot⟩) := Lib.hid (by simp [addT, h0])
    clear hb h0
    go_enter Tryd.func36, Tryd.ntmps36
    go_wp2_with fail
    go_end0
    exact ⟨rfl, by rw [H.out]; exact HB.out, Turned.refl _ _⟩
  · have q0 : (x == 0) = false := by rw [beq_eq_false_iff_ne]; exact h0
    by_cases h1 : sc = 0
    · have q1 : (sc == 0) = true := by rw [beq_iff_eq]; exact h1
      have H : Hid (addT ⟨sc, mi, ot⟩ x = ⟨x, mi, ot⟩) := Lib.hid (by simp [addT, h0, h1])
      clear hb h0 h1
      go_enter Tryd.func36, Tryd.ntmps36
      go_wp2_with fail
      go_end0
      exact ⟨rfl, by rw [H.out]; exact heap_set HB.out _, Turned.setCell _ _ _ _⟩
    · have q1 : (sc == 0) = false := by rw [beq_eq_false_iff_ne]; exact h1
      by_cases h2 : sc = x
      · have q2 : (sc != x) = false := by rw [h2]; simp
        have H : Hid (addT ⟨sc, mi, ot⟩ x = ⟨sc, mi, ot⟩) := Lib.hid (by unfold addT; rw [if_neg h0, if_neg h1, if_pos h2])
        clear hb h0 h1 h2
        go_enter Tryd.func36, Tryd.ntmps36
        go_wp2_with fail
        go_end0
        exact ⟨rfl, by rw [H.out]; exact HB.out, Turned.refl _ _⟩
      · have q2 : (sc != x) = true := by rw [bne_iff_ne]; exact h2
        have H : Hid (addT ⟨sc, mi, ot⟩ x = ⟨sc, true, ot⟩) := Lib.hid (by unfold addT; rw [if_neg h0, if_neg h1, if_neg h2])
        clear hb h0 h1 h2
        go_enter Tryd.func36, Tryd.ntmps36
        go_wp2_with fail
        go_end0
        exact ⟨rfl, by rw [H.out]; exact heap_set HB.out _, Turned.setCell _ _ _ _⟩

def charC : Array Value := #[.int .i32 97, .int .i32 122, .int .u8 1, .int .i32 945, .int .i32 969, .int .u8 2, .int .i32 1072, .int .i32 1103, .int .u8 3, .int .i32 48, .int .i32 57, .int .u8 0, .int .i32 45, .int .i32 45, .int .u8 0]
/-- The program's table of characters is laid. -/
def Chars (w : World) : Prop := 0 < w.heap.size ∧ ∀ j, j < 15 → w.cell? ⟨0, j, none⟩ = charC[j]?
theorem Chars.below {w w' : World} (h : Chars w) (hb : Below w.heap.size w w') : Chars w' :=
  ⟨Nat.lt_of_lt_of_le h.1 hb.size, fun j hj => (hb.cell (p := ⟨0, j, none⟩) h.1).trans (h.2 j hj)⟩
theorem Chars.kept {w w' : World} {B : Nat} (h : Chars w) (hB : 0 < B) (hb : Below B w w') : Chars w' :=
  ⟨Nat.lt_of_lt_of_le h.1 hb.size, fun j hj => (hb.cell (p := ⟨0, j, none⟩) hB).trans (h.2 j hj)⟩

def foundN (l : List Int) : Int := if 24 < l.length then 25 else l.length
def foundT (l : List Int) : Tr := trL (l.take 24)
def FoundPost (s : ByteArray) (w : World) (e : Ending) (w' : World) : Prop := e = .returned (.agg (trC (foundN (runes s)) (foundT (runes s)))) ∧ Below w.heap.size w w'
theorem zero_info : (Tryd.prog.info? 51).map (·.size) = some (#[Value.int .i64 0, .int .u8 0, .bool false, .bool false].size) := by kernel_rfl
theorem zero_one : (#[Value.int .i64 0, .int .u8 0, .bool false, .bool false]).all (·.oneCell') = true := by
  rw [Array.all_eq_true_iff_forall_mem]
  intro v hv
  simp only [List.mem_toArray, List.mem_cons, List.not_mem_nil, or_false] at hv
  rcases hv with rfl | rfl | rfl | rfl <;> rfl
theorem tr_info (a b : Int) (c d : Bool) : (Tryd.prog.info? 51).map (·.size) = some (#[Value.int .i64 a, .int .u8 b, .bool c, .bool d].size) := zero_info
theorem tr_one (a b : Int) (c d : Bool) : (#[Value.int .i64 a, .int .u8 b, .bool c, .bool d]).all (·.oneCell') = true := by
  rw [Array.all_eq_true_iff_forall_mem]
  intro v hv
  simp only [List.mem_toArray, List.mem_cons, List.not_mem_nil, or_false] at hv
  rcases hv with rfl | rfl | rfl | rfl <;> rfl
theorem below_set2 {w W : World} (h : Below w.heap.size w W) (v : Value) (cs : Array Value) : Below w.heap.size w ((W.setCell ⟨w.heap.size + 1, 0, none⟩ v).setRow w.heap.size cs) := by
  refine h.trans ⟨rfl, rfl, rfl, by simp [World.setCell, World.setRow], fun k hk => ?_⟩
  rw [setRow_other _ _ _ _ (by omega)]
  exact Below.heap_setCell _ _ _ _ (by simp; omega)
theorem scr_of1 {r : Int} (h : 97 ≤ r ∧ r ≤ 122) : chrZ r = true ∧ scrZ r = 1 := by
  have e : scrZ r = 1 := by unfold scrZ; rw [if_pos h]
  exact ⟨scr_chr (by rw [e]; decide), e⟩
theorem scr_of2 {r : Int} (h : 945 ≤ r ∧ r ≤ 969) : chrZ r = true ∧ scrZ r = 2 := by
  have e : scrZ r = 2 := by unfold scrZ; rw [if_neg (by omega), if_pos h]
  exact ⟨scr_chr (by rw [e]; decide), e⟩
theorem scr_of3 {r : Int} (h : 1072 ≤ r ∧ r ≤ 1103) : chrZ r = true ∧ scrZ r = 3 := by
  have e : scrZ r = 3 := by unfold scrZ; rw [if_neg (by omega), if_neg (by omega), if_pos h]
  exact ⟨scr_chr (by rw [e]; decide), e⟩
theorem scr_of0 {r : Int} (h : (48 ≤ r ∧ r ≤ 57) ∨ r = 45) : chrZ r = true ∧ scrZ r = 0 := by
  have e : scrZ r = 0 := by unfold scrZ; rw [if_neg (by omega), if_neg (by omega), if_neg (by omega)]
  refine ⟨?_, e⟩
  unfold chrZ sgnZ
  rw [Bool.or_eq_true, decide_eq_true_eq, decide_eq_true_eq]
  exact .inr h
theorem scr_no {r : Int} (h1 : ¬ (97 ≤ r ∧ r ≤ 122)) (h2 : ¬ (945 ≤ r ∧ r ≤ 969)) (h3 : ¬ (1072 ≤ r ∧ r ≤ 1103)) (h4 : ¬ ((48 ≤ r ∧ r ≤ 57) ∨ r = 45)) : chrZ r = false := by
  have e : scrZ r = 0 := by unfold scrZ; rw [if_neg h1, if_neg h2, if_neg h3]
  unfold chrZ sgnZ
  rw [e, decide_eq_false h4]; rfl
theorem turned_iter {W W' : World} {b k : Nat} {o : Obj} (h : W.heap[k]? = some o) (ht : Turned b W W') (hk : k ≠ b) : W'.heap[k]? = some o :=
  (ht.1.block k (Array.getElem?_eq_some_iff.1 h).1 (fun e => hk (Option.some.inj e))).trans h
theorem turned_below {B b : Nat} {w W W' : World} (h : Below B w W) (ht : Turned b W W') (hb : B ≤ b) (hB : B ≤ W.heap.size) : Below B w W' :=
  h.grown ht.1 hB (fun k hk => by cases hk; exact hb)
theorem iter_old (W : World) (s : ByteArray) (p k : Nat) (hk : k < W.heap.size) : (W.iter s p).heap[k]? = W.heap[k]? := Lib.alloc_old W _ k hk
def zeroC : Array Value := #[.int .i64 0, .int .u8 0, .bool false, .bool false]

set_option maxHeartbeats 4000000 in
set_option maxRecDepth 100000 in
theorem found_any (s : ByteArray) (w : World) (hT : Chars w) :
    Calls Tryd.prog 26 #[.string s] w (FoundPost s w) := by
  have HT := Lib.hid hT
  clear hT
  have N0 := Lib.hid (Go.heap_alloc_new (w.alloc (.cells zeroC 51)) (.cells zeroC 51))
  have B0 : Hid (Below w.heap.size w ((w.alloc (.cells zeroC 51)).alloc (.cells zeroC 51))) := Lib.hid (((Below.refl _ _).alloc (Nat.le_refl _) _).alloc (by simp) _)
  go_enter Tryd.func26, Tryd.ntmps26
  go_wp2_with fail
  refine wp_scope_straight ?_
  go_wp2_with (refine wpList_store_row rfl 51 _ _ rfl (w.heap.size + 1) zeroC rfl rfl 51 zeroC (by have := N0.out; simp at this; exact this) zero_info rfl zero_one ?_)
  apply wp_label
  go_wp2_with fail
  generalize hW : (w.alloc (.cells #[.int .i64 0, .int .u8 0, .bool false, .bool false] 51)).alloc (.cells #[.int .i64 0, .int .u8 0, .bool false, .bool false] 51) = W0
  have S0 : Hid (W0.heap.size = w.heap.size + 2) := Lib.hid (by rw [← hW]; simp)
  have R0 := Lib.hid (show W0.heap[w.heap.size]? = some (.cells zeroC 51 (0, 0)) by rw [← hW]; exact (Lib.alloc_old _ _ _ (by simp)).trans (Go.heap_alloc_new _ _))
  have T0 := Lib.hid (show W0.heap[w.heap.size + 1]? = some (.cells (trC 0 (trL [])) 51 (0, 0)) by rw [← hW]; have h := N0.out; rw [show (w.alloc (.cells zeroC 51)).heap.size = w.heap.size + 1 by simp] at h; exact h)
  have B1 := Lib.hid (show Below w.heap.size w W0 by rw [← hW]; exact B0.out)
  clear N0 B0 hW
  have HF : Hid (∀ l : List Int, l.length ≤ 24 → foundN l = l.length ∧ foundT l = trL l) := Lib.hid (fun l h => ⟨by unfold foundN; rw [if_neg (by omega)], by unfold foundT; rw [List.take_of_length_le h]⟩)
  go_loopw [] (fun wr => ∃ (pos fuel : Nat) (acc : List Int), Hid (wr.heap[w.heap.size + 1 + 1]? = some (.stringIter s pos)) ∧ Hid (wr.heap[w.heap.size + 1]? = some (.cells (trC acc.length (trL acc)) 51 (0, 0))) ∧ Hid (wr.heap[w.heap.size]? = some (.cells zeroC 51 (0, 0))) ∧ Hid (Below w.heap.size w wr) ∧ Hid (acc ++ runesF s fuel pos = runes s) ∧ Hid (s.size ≤ pos + fuel) ∧ Hid (acc.length ≤ 24)) (fun wr => s.size - wr.iterPos (w.heap.size + 1 + 1))
  case atStart =>
    refine ⟨0, s.size, [], Lib.hid ?_, Lib.hid ?_, Lib.hid ?_, Lib.hid ?_, Lib.hid rfl, Lib.hid (by omega), Lib.hid (by simp)⟩
    · have h := World.iter_heap W0 s 0
      rw [S0.out] at h; exact h
    · exact (iter_old W0 s 0 _ (by rw [S0.out]; omega)).trans T0.out
    · exact (iter_old W0 s 0 _ (by rw [S0.out]; omega)).trans R0.out
    · exact B1.out.alloc B1.out.size _
  case round =>
    obtain ⟨pos, fuel, acc, hit, ht, hr, hb, hacc, hfu, hal⟩ := hrel
    have hsc := trL_sc acc
    obtain ⟨sc, hsc'⟩ : ∃ x, x = (trL acc).sc := ⟨_, rfl⟩
    obtain ⟨mi, hmi'⟩ : ∃ x, x = (trL acc).mi := ⟨_, rfl⟩
    obtain ⟨ot, hot'⟩ : ∃ x, x = (trL acc).ot := ⟨_, rfl⟩
    obtain ⟨n, hn⟩ : ∃ x : Int, x = acc.length := ⟨_, rfl⟩
    have HTR : Hid (trL acc = ⟨sc, mi, ot⟩) := Lib.hid (by rw [hsc', hmi', hot'])
    have HN := Lib.hid hn
    clear hsc hsc' hmi' hot'
    by_cases hp : pos < s.size
    · have hwd := Lib.hid (width_pos s pos hp)
      have hst := Lib.hid (runesF_step s (fuel - 1) pos hp)
      have hit2 := Lib.hid (Lib.iterAt_heap wr (w.heap.size + 1 + 1) s pos (pos + (Utf8.decode s pos).2) hit.out)
      have ht2 := Lib.hid ((Lib.iterAt_other wr (w.heap.size + 1 + 1) (w.heap.size + 1) s (pos + (Utf8.decode s pos).2) (by omega)).trans ht.out)
      have hr2 := Lib.hid ((Lib.iterAt_other wr (w.heap.size + 1 + 1) (w.heap.size) s (pos + (Utf8.decode s pos).2) (by omega)).trans hr.out)
      have hb2 := Lib.hid (Lib.below_iterAt hb.out (k := w.heap.size + 1 + 1) (by omega) s (pos + (Utf8.decode s pos).2))
      have hnx : ∀ ty, (Instr.next (.pointer (some ⟨w.heap.size + 1 + 1, 0, none⟩)) true ty).run Tryd.prog wr = _ := fun ty => Lib.run_next_any_at wr (w.heap.size + 1 + 1) s pos ty hit.out hp
      generalize wr.iterAt (w.heap.size + 1 + 1) s (pos + (Utf8.decode s pos).2) = W1 at *
      obtain ⟨r, hr'⟩ : ∃ r : Int, r = (((Utf8.decode s pos).1 : Nat) : Int) := ⟨_, rfl⟩
      have hr0 : 0 ≤ r := by rw [hr']; exact Int.natCast_nonneg _
      rw [← hr'] at hnx hst
      clear hr'
      have HC := Lib.hid (HT.out.below hb2.out)
      rw [HTR.out, ← HN.out] at ht2
      have c0 : W1.cell? ⟨w.heap.size + 1, 0, none⟩ = some (.int .i64 n) := by rw [Lib.cell_of_heap ht2.out]; rfl
      have c1 : W1.cell? ⟨w.heap.size + 1, 1, none⟩ = some (.int .u8 sc) := by rw [Lib.cell_of_heap ht2.out]; rfl
      have c2 : W1.cell? ⟨w.heap.size + 1, 2, none⟩ = some (.bool mi) := by rw [Lib.cell_of_heap ht2.out]; rfl
      have c3 : W1.cell? ⟨w.heap.size + 1, 3, none⟩ = some (.bool ot) := by rw [Lib.cell_of_heap ht2.out]; rfl
      have f0 : W1.frozen? ⟨w.heap.size + 1, 0, none⟩ = false := Lib.frozen_of_heap ht2.out 0
      have f3 : W1.frozen? ⟨w.heap.size + 1, 3, none⟩ = false := Lib.frozen_of_heap ht2.out 3
      have ht3 := Lib.hid (heap_set (i := 0) ht2.out (.int .i64 (n + 1)))
      have hr3 := Lib.hid ((Below.heap_setCell W1 ⟨w.heap.size + 1, 0, none⟩ (.int .i64 (n + 1)) w.heap.size (by simp)).trans hr2.out)
      by_cases hq : acc.length = 24
      · have hq1 : n = 24 := by rw [hn]; omega
        have HQ := Lib.hid hq
        subst hq1
        clear hn hq
        go_wp2_with (refine wpList_store_row rfl 51 _ _ rfl w.heap.size #[.int .i64 25, .int .u8 sc, .bool mi, .bool ot] rfl rfl 51 zeroC hr3.out (tr_info _ _ _ _) rfl (tr_one _ _ _ _) ?_)
        rw [Exit.noGoto_ret]
        refine bodyPost_ret (v := .agg #[.int .i64 25, .int .u8 sc, .bool mi, .bool ot]) ?_ rfl ⟨?_, ?_⟩
        · exact results_cell_row rfl _ _ w.heap.size 51 _ (0, 0) _ rfl (setRow_heap _ _ _ _ _ _ hr3.out) Tryd.underlying51 rfl (tr_info _ _ _ _)
        · have h1 : foundN (runes s) = 25 ∧ foundT (runes s) = trL acc := by
            obtain ⟨f, rfl⟩ : ∃ f, fuel = f + 1 := ⟨fuel - 1, by have := hfu.out; omega⟩
            rw [← hacc.out]
            have h := hst.out
            simp only [Nat.add_sub_cancel] at h
            rw [h]
            exact ⟨by unfold foundN; rw [if_pos (by simp; have := HQ.out; omega)], by unfold foundT; rw [List.take_append_of_le_length (by rw [HQ.out]; exact Nat.le_refl _), List.take_of_length_le (by rw [HQ.out]; exact Nat.le_refl _)]⟩
          rw [h1.1, h1.2, HTR.out]; rfl
        · exact below_set2 hb2.out _ _
      · have hn2 : n < 24 := by have := hal.out; omega
        have hn0 : 0 ≤ n := by omega
        have HREL : Hid (∀ W' : World, W'.heap[w.heap.size + 1 + 1]? = some (.stringIter s (pos + (Utf8.decode s pos).2)) → W'.heap[w.heap.size + 1]? = some (.cells (trC (n + 1) ((trL acc).step r)) 51 (0, 0)) → W'.heap[w.heap.size]? = some (.cells zeroC 51 (0, 0)) → Below w.heap.size w W' →
            ∃ (pos fuel : Nat) (acc : List Int), Hid (W'.heap[w.heap.size + 1 + 1]? = some (.stringIter s pos)) ∧ Hid (W'.heap[w.heap.size + 1]? = some (.cells (trC acc.length (trL acc)) 51 (0, 0))) ∧ Hid (W'.heap[w.heap.size]? = some (.cells zeroC 51 (0, 0))) ∧ Hid (Below w.heap.size w W') ∧ Hid (acc ++ runesF s fuel pos = runes s) ∧ Hid (s.size ≤ pos + fuel) ∧ Hid (acc.length ≤ 24)) := by
          refine Lib.hid fun W' h1 h2 h3 h4 => ⟨_, fuel - 1, acc ++ [r], Lib.hid h1, Lib.hid ?_, Lib.hid h3, Lib.hid h4, Lib.hid ?_, Lib.hid ?_, Lib.hid ?_⟩
          · rw [trL_snoc, List.length_append, List.length_singleton, show ((acc.length + 1 : Nat) : Int) = n + 1 by omega]; exact h2
          · obtain ⟨f, rfl⟩ : ∃ f, fuel = f + 1 := ⟨fuel - 1, by have := hfu.out; omega⟩
            rw [← hacc.out]
            have h := hst.out
            simp only [Nat.add_sub_cancel] at h ⊢
            rw [h, List.append_assoc]; rfl
          · have := hwd.out; have := hfu.out; omega
          · rw [List.length_append, List.length_singleton]; omega
        have HME : Hid (∀ W' : World, W'.heap[w.heap.size + 1 + 1]? = some (.stringIter s (pos + (Utf8.decode s pos).2)) → s.size - W'.iterPos (w.heap.size + 1 + 1) < s.size - wr.iterPos (w.heap.size + 1 + 1)) := Lib.hid fun W' h => by
          have := hwd.out
          simp only [World.iterPos, h, hit.out]
          omega
        have hit3 := Lib.hid ((Below.heap_setCell W1 ⟨w.heap.size + 1, 0, none⟩ (.int .i64 (n + 1)) (w.heap.size + 1 + 1) (by simp)).trans hit2.out)
        have hb3 := Lib.hid (hb2.out.setCell (p := ⟨w.heap.size + 1, 0, none⟩) (by simp) (.int .i64 (n + 1)))
        have ht4 := Lib.hid (heap_set (i := 3) ht3.out (.bool true))
        have hit4 := Lib.hid ((Below.heap_setCell (W1.setCell ⟨w.heap.size + 1, 0, none⟩ (.int .i64 (n + 1))) ⟨w.heap.size + 1, 3, none⟩ (.bool true) (w.heap.size + 1 + 1) (by simp)).trans hit3.out)
        have hb4 := Lib.hid (hb3.out.setCell (p := ⟨w.heap.size + 1, 3, none⟩) (by simp) (.bool true))
        have hr4 := Lib.hid ((Below.heap_setCell (W1.setCell ⟨w.heap.size + 1, 0, none⟩ (.int .i64 (n + 1))) ⟨w.heap.size + 1, 3, none⟩ (.bool true) w.heap.size (by simp)).trans hr3.out)
        have HCL : Hid ((((48 ≤ r ∧ r ≤ 57) ∨ r = 45) → chrZ r = true ∧ scrZ r = 0) ∧ ((97 ≤ r ∧ r ≤ 122) → chrZ r = true ∧ scrZ r = 1) ∧ ((945 ≤ r ∧ r ≤ 969) → chrZ r = true ∧ scrZ r = 2) ∧ ((1072 ≤ r ∧ r ≤ 1103) → chrZ r = true ∧ scrZ r = 3)) := Lib.hid ⟨scr_of0, scr_of1, scr_of2, scr_of3⟩
        have hcs : r < 45 ∨ r = 45 ∨ (45 < r ∧ r < 48) ∨ (48 ≤ r ∧ r ≤ 57) ∨ (57 < r ∧ r < 97) ∨ (97 ≤ r ∧ r ≤ 122) ∨ (122 < r ∧ r < 945) ∨ (945 ≤ r ∧ r ≤ 969) ∨ (969 < r ∧ r < 1072) ∨ (1072 ≤ r ∧ r ≤ 1103) ∨ 1103 < r := by omega
        clear hn hq
        have t0 : W1.cell? ⟨0, 0, none⟩ = some (.int .i32 97) := HC.out.2 0 (by decide)
        have t1 : W1.cell? ⟨0, 1, none⟩ = some (.int .i32 122) := HC.out.2 1 (by decide)
        have t2 : W1.cell? ⟨0, 2, none⟩ = some (.int .u8 1) := HC.out.2 2 (by decide)
        have t3 : W1.cell? ⟨0, 3, none⟩ = some (.int .i32 945) := HC.out.2 3 (by decide)
        have t4 : W1.cell? ⟨0, 4, none⟩ = some (.int .i32 969) := HC.out.2 4 (by decide)
        have t5 : W1.cell? ⟨0, 5, none⟩ = some (.int .u8 2) := HC.out.2 5 (by decide)
        have t6 : W1.cell? ⟨0, 6, none⟩ = some (.int .i32 1072) := HC.out.2 6 (by decide)
        have t7 : W1.cell? ⟨0, 7, none⟩ = some (.int .i32 1103) := HC.out.2 7 (by decide)
        have t8 : W1.cell? ⟨0, 8, none⟩ = some (.int .u8 3) := HC.out.2 8 (by decide)
        have t9 : W1.cell? ⟨0, 9, none⟩ = some (.int .i32 48) := HC.out.2 9 (by decide)
        have t10 : W1.cell? ⟨0, 10, none⟩ = some (.int .i32 57) := HC.out.2 10 (by decide)
        have t11 : W1.cell? ⟨0, 11, none⟩ = some (.int .u8 0) := HC.out.2 11 (by decide)
        have t12 : W1.cell? ⟨0, 12, none⟩ = some (.int .i32 45) := HC.out.2 12 (by decide)
        have t13 : W1.cell? ⟨0, 13, none⟩ = some (.int .i32 45) := HC.out.2 13 (by decide)
        have t14 : W1.cell? ⟨0, 14, none⟩ = some (.int .u8 0) := HC.out.2 14 (by decide)
        rcases hcs with h | h | ⟨h, h'⟩ | ⟨h, h'⟩ | ⟨h, h'⟩ | ⟨h, h'⟩ | ⟨h, h'⟩ | ⟨h, h'⟩ | ⟨h, h'⟩ | ⟨h, h'⟩ | h
        · have HX := Lib.hid (scr_no (r := r) (by omega) (by omega) (by omega) (by omega))
          go_wp2_with fail
          refine wp_loop_rounds 6 ?_; repeat any_goals (rw [rounds_succ]; go_wp2_with fail)
          go_roundw
          case rel =>
            refine HREL.out _ hit4.out ?_ hr4.out hb4.out
            rw [HTR.out]
            have h := ht4.out
            have e : Tr.step ⟨sc, mi, ot⟩ r = ⟨sc, mi, true⟩ := by unfold Tr.step; rw [HX.out]; rfl
            rw [e]; exact h
          case measure => exact HME.out _ hit4.out
        · have HX := Lib.hid (HCL.out.1 (by omega))
          go_wp2_with fail
          refine wp_loop_rounds 6 ?_; repeat any_goals (rw [rounds_succ]; go_wp2_with fail)
          refine (add_any (w.heap.size + 1) (n + 1) ⟨sc, mi, ot⟩ 0 _ ht3.out).mono ?_; rintro e W3 ⟨rfl, h3, k3⟩
          have h3' := Lib.hid h3
          have k3' := Lib.hid k3
          clear h3 k3
          go_wp2_with fail
          go_roundw
          case rel =>
            refine HREL.out W3 (turned_iter hit3.out k3'.out (by omega)) ?_ (turned_iter hr3.out k3'.out (by omega)) (turned_below hb3.out k3'.out (by omega) hb3.out.size)
            rw [HTR.out, step_add _ _ HX.out.1, HX.out.2]; exact h3'.out
          case measure => exact HME.out W3 (turned_iter hit3.out k3'.out (by omega))
        · have HX := Lib.hid (scr_no (r := r) (by omega) (by omega) (by omega) (by omega))
          go_wp2_with fail
          refine wp_loop_rounds 6 ?_; repeat any_goals (rw [rounds_succ]; go_wp2_with fail)
          go_roundw
          case rel =>
            refine HREL.out _ hit4.out ?_ hr4.out hb4.out
            rw [HTR.out]
            have h := ht4.out
            have e : Tr.step ⟨sc, mi, ot⟩ r = ⟨sc, mi, true⟩ := by unfold Tr.step; rw [HX.out]; rfl
            rw [e]; exact h
          case measure => exact HME.out _ hit4.out
        · have HX := Lib.hid (HCL.out.1 (by omega))
          go_wp2_with fail
          refine wp_loop_rounds 6 ?_; repeat any_goals (rw [rounds_succ]; go_wp2_with fail)
          refine (add_any (w.heap.size + 1) (n + 1) ⟨sc, mi, ot⟩ 0 _ ht3.out).mono ?_; rintro e W3 ⟨rfl, h3, k3⟩
          have h3' := Lib.hid h3
          have k3' := Lib.hid k3
          clear h3 k3
          go_wp2_with fail
          go_roundw
          case rel =>
            refine HREL.out W3 (turned_iter hit3.out k3'.out (by omega)) ?_ (turned_iter hr3.out k3'.out (by omega)) (turned_below hb3.out k3'.out (by omega) hb3.out.size)
            rw [HTR.out, step_add _ _ HX.out.1, HX.out.2]; exact h3'.out
          case measure => exact HME.out W3 (turned_iter hit3.out k3'.out (by omega))
        · have HX := Lib.hid (scr_no (r := r) (by omega) (by omega) (by omega) (by omega))
          go_wp2_with fail
          refine wp_loop_rounds 6 ?_; repeat any_goals (rw [rounds_succ]; go_wp2_with fail)
          go_roundw
          case rel =>
            refine HREL.out _ hit4.out ?_ hr4.out hb4.out
            rw [HTR.out]
            have h := ht4.out
            have e : Tr.step ⟨sc, mi, ot⟩ r = ⟨sc, mi, true⟩ := by unfold Tr.step; rw [HX.out]; rfl
            rw [e]; exact h
          case measure => exact HME.out _ hit4.out
        · have HX := Lib.hid (HCL.out.2.1 (by omega))
          go_wp2_with fail
          refine wp_loop_rounds 6 ?_; repeat any_goals (rw [rounds_succ]; go_wp2_with fail)
          refine (add_any (w.heap.size + 1) (n + 1) ⟨sc, mi, ot⟩ 1 _ ht3.out).mono ?_; rintro e W3 ⟨rfl, h3, k3⟩
          have h3' := Lib.hid h3
          have k3' := Lib.hid k3
          clear h3 k3
          go_wp2_with fail
          go_roundw
          case rel =>
            refine HREL.out W3 (turned_iter hit3.out k3'.out (by omega)) ?_ (turned_iter hr3.out k3'.out (by omega)) (turned_below hb3.out k3'.out (by omega) hb3.out.size)
            rw [HTR.out, step_add _ _ HX.out.1, HX.out.2]; exact h3'.out
          case measure => exact HME.out W3 (turned_iter hit3.out k3'.out (by omega))
        · have HX := Lib.hid (scr_no (r := r) (by omega) (by omega) (by omega) (by omega))
          go_wp2_with fail
          refine wp_loop_rounds 6 ?_; repeat any_goals (rw [rounds_succ]; go_wp2_with fail)
          go_roundw
          case rel =>
            refine HREL.out _ hit4.out ?_ hr4.out hb4.out
            rw [HTR.out]
            have h := ht4.out
            have e : Tr.step ⟨sc, mi, ot⟩ r = ⟨sc, mi, true⟩ := by unfold Tr.step; rw [HX.out]; rfl
            rw [e]; exact h
          case measure => exact HME.out _ hit4.out
        · have HX := Lib.hid (HCL.out.2.2.1 (by omega))
          go_wp2_with fail
          refine wp_loop_rounds 6 ?_; repeat any_goals (rw [rounds_succ]; go_wp2_with fail)
          refine (add_any (w.heap.size + 1) (n + 1) ⟨sc, mi, ot⟩ 2 _ ht3.out).mono ?_; rintro e W3 ⟨rfl, h3, k3⟩
          have h3' := Lib.hid h3
          have k3' := Lib.hid k3
          clear h3 k3
          go_wp2_with fail
          go_roundw
          case rel =>
            refine HREL.out W3 (turned_iter hit3.out k3'.out (by omega)) ?_ (turned_iter hr3.out k3'.out (by omega)) (turned_below hb3.out k3'.out (by omega) hb3.out.size)
            rw [HTR.out, step_add _ _ HX.out.1, HX.out.2]; exact h3'.out
          case measure => exact HME.out W3 (turned_iter hit3.out k3'.out (by omega))
        · have HX := Lib.hid (scr_no (r := r) (by omega) (by omega) (by omega) (by omega))
          go_wp2_with fail
          refine wp_loop_rounds 6 ?_; repeat any_goals (rw [rounds_succ]; go_wp2_with fail)
          go_roundw
          case rel =>
            refine HREL.out _ hit4.out ?_ hr4.out hb4.out
            rw [HTR.out]
            have h := ht4.out
            have e : Tr.step ⟨sc, mi, ot⟩ r = ⟨sc, mi, true⟩ := by unfold Tr.step; rw [HX.out]; rfl
            rw [e]; exact h
          case measure => exact HME.out _ hit4.out
        · have HX := Lib.hid (HCL.out.2.2.2 (by omega))
          go_wp2_with fail
          refine wp_loop_rounds 6 ?_; repeat any_goals (rw [rounds_succ]; go_wp2_with fail)
          refine (add_any (w.heap.size + 1) (n + 1) ⟨sc, mi, ot⟩ 3 _ ht3.out).mono ?_; rintro e W3 ⟨rfl, h3, k3⟩
          have h3' := Lib.hid h3
          have k3' := Lib.hid k3
          clear h3 k3
          go_wp2_with fail
          go_roundw
          case rel =>
            refine HREL.out W3 (turned_iter hit3.out k3'.out (by omega)) ?_ (turned_iter hr3.out k3'.out (by omega)) (turned_below hb3.out k3'.out (by omega) hb3.out.size)
            rw [HTR.out, step_add _ _ HX.out.1, HX.out.2]; exact h3'.out
          case measure => exact HME.out W3 (turned_iter hit3.out k3'.out (by omega))
        · have HX := Lib.hid (scr_no (r := r) (by omega) (by omega) (by omega) (by omega))
          go_wp2_with fail
          refine wp_loop_rounds 6 ?_; repeat any_goals (rw [rounds_succ]; go_wp2_with fail)
          go_roundw
          case rel =>
            refine HREL.out _ hit4.out ?_ hr4.out hb4.out
            rw [HTR.out]
            have h := ht4.out
            have e : Tr.step ⟨sc, mi, ot⟩ r = ⟨sc, mi, true⟩ := by unfold Tr.step; rw [HX.out]; rfl
            rw [e]; exact h
          case measure => exact HME.out _ hit4.out
    · have hnx : ∀ ty, (Instr.next (.pointer (some ⟨w.heap.size + 1 + 1, 0, none⟩)) true ty).run Tryd.prog wr = _ := fun ty => Lib.run_next_end_at wr (w.heap.size + 1 + 1) s pos ty hit.out hp
      rw [HTR.out, ← HN.out] at ht
      have c0 : wr.cell? ⟨w.heap.size + 1, 0, none⟩ = some (.int .i64 n) := by rw [Lib.cell_of_heap ht.out]; rfl
      have c1 : wr.cell? ⟨w.heap.size + 1, 1, none⟩ = some (.int .u8 sc) := by rw [Lib.cell_of_heap ht.out]; rfl
      have c2 : wr.cell? ⟨w.heap.size + 1, 2, none⟩ = some (.bool mi) := by rw [Lib.cell_of_heap ht.out]; rfl
      have c3 : wr.cell? ⟨w.heap.size + 1, 3, none⟩ = some (.bool ot) := by rw [Lib.cell_of_heap ht.out]; rfl
      have HE := Lib.hid (runesF_end s fuel pos hp)
      clear hp hn
      go_wp2_with (refine wpList_store_row rfl 51 _ _ rfl w.heap.size #[.int .i64 n, .int .u8 sc, .bool mi, .bool ot] rfl rfl 51 zeroC hr.out (tr_info _ _ _ _) rfl (tr_one _ _ _ _) ?_)
      rw [Exit.noGoto_ret]
      refine bodyPost_ret (v := .agg #[.int .i64 n, .int .u8 sc, .bool mi, .bool ot]) ?_ rfl ⟨?_, ?_⟩
      · exact results_cell_row rfl _ _ w.heap.size 51 _ (0, 0) _ rfl (setRow_heap _ _ _ _ _ _ hr.out) Tryd.underlying51 rfl (tr_info _ _ _ _)
      · have h := hacc.out
        rw [HE.out, List.append_nil] at h
        rw [← h, (HF.out acc hal.out).1, (HF.out acc hal.out).2, HTR.out, ← HN.out]; rfl
      · refine hb.out.trans ⟨rfl, rfl, rfl, by simp [World.setRow], fun k hk => setRow_other _ _ _ _ (by omega)⟩
end Go.Proofs.YtkipnbhejokbeaaDoor.Pl
