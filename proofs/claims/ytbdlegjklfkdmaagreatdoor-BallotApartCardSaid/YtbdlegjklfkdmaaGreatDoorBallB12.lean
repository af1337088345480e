/- What the statements leave out; a message with members of its own; the chapter's examples. How members, a transaction, and a message that came in read. The document's Place, num and May of layer 13. The document's Same of layer 13. How a ballot that came in reads. -/
import Derived.Test.YtbdlegjklfkdmaaGreatDoorBallB11
import Derived.Test.YtbdlegjklfkdmaaGreatDoorBallB1
import Derived.Test.YtbdlegjklfkdmaaGreatDoorBallB2
import Derived.ProofKit
import Derived.SliceStrings
import Derived.Laws.AppendOwnNone
import Derived.ChangeSlices
import Derived.Deep.Slices
import Derived.Test.YtbdlegjklfkdmaaGreatDoorBallB9
import Derived.Deep.RegionHeld3
import Derived.Test.YtbdlegjklfkdmaaGreatDoorBallB10
namespace Go.Proofs.YtbdlegjklfkdmaaGreatDoor.Pl
open Go.RowKit

def longL (l : List Mb) : Bool := decide (20 < l.length) || l.any (fun m => decide (20000 < m.2.size))
theorem longL_no {l : List Mb} (h : longL l = false) : l.length ≤ 20 ∧ ∀ m ∈ l, m.2.size ≤ 20000 := by
  simp only [longL, Bool.or_eq_false_iff, decide_eq_false_iff_not, List.any_eq_false] at h
  exact ⟨by omega, fun m hm => by have := h.2 m hm; simpa using this⟩
set_option maxHeartbeats 4000000 in
set_option maxRecDepth 100000 in
theorem longl_any (l : List Mb) (ao : Option Addr) (cap : Nat) (hl : l.length ≤ 9223372036854775807) (w : World) (hrow : MemRow w ao l) :
    Calls Tryz.prog 6 #[.slice ao l.length cap] w fun x w' => x = .returned (.bool (longL l)) ∧ w' = w := by
  obtain ⟨n, hn⟩ : ∃ n, n = l.length := ⟨_, rfl⟩
  obtain ⟨z, hz⟩ : ∃ z, z = longL l := ⟨_, rfl⟩
  rw [← hn, ← hz]
  by_cases h20 : 20 < n
  · have h20' : (20 : Int) < (n : Int) := by omega
    have hT : z = true := by rw [hz]; simp [longL]; left; omega
    subst hT
    clear hrow hz hn hl
    go_enter Tryz.func6, Tryz.ntmps6
    go_wp2_with fail
    go_ret
    exact ⟨rfl, rfl⟩
  · have h20' : ¬ (20 : Int) < (n : Int) := by omega
    have hn20 : n ≤ 20 := by omega
    have HZ := Lib.hid hz
    have HN := Lib.hid hn
    have HROW := Lib.hid hrow
    clear hrow hz hn hl
    go_enter Tryz.func6, Tryz.ntmps6
    go_wp2_with fail
    go_loopw [3] (fun iv wr => ∃ j : Nat, iv = .int .i64 j ∧ j ≤ n ∧ wr = w ∧ Hid (∀ m ∈ l.take j, m.2.size ≤ 20000)) (fun iv _ => n - (intOf iv).toNat)
    case atStart => exact ⟨0, rfl, Nat.zero_le _, rfl, Lib.hid (fun m hm => by cases hm)⟩
    case round =>
      obtain ⟨j, rfl, hjn, rfl, hst⟩ := hrel
      by_cases hj : j < n
      · have hj' : (j : Int) < (n : Int) := by omega
        have hj1 : j < l.length := by rw [← HN.out]; exact hj
        rcases HROW.out with e | ⟨b, off, rfl, hlt, hcs⟩
        · exfalso; rw [e] at hj1; exact absurd hj1 (Nat.not_lt_zero _)
        obtain ⟨x0, x1⟩ := hcs j hj1
        have HYES : Hid (l[j].2.size ≤ 20000 → ∀ m ∈ l.take (j + 1), m.2.size ≤ 20000) := Lib.hid (fun e m hm => by
          rw [List.take_succ_eq_append_getElem hj1] at hm
          rcases List.mem_append.1 hm with hm | hm
          · exact hst.out m hm
          · rw [List.mem_singleton.1 hm]; exact e)
        have HNO : Hid (20000 < l[j].2.size → z = true) := Lib.hid (fun e => by
          rw [HZ.out]; unfold longL
          rw [List.any_eq_true.2 ⟨l[j], List.getElem_mem hj1, decide_eq_true e⟩, Bool.or_true])
        generalize l[j] = m1 at *
        obtain ⟨o1, d1⟩ := m1
        dsimp only at *
        clear hcs hlt hj1 hst
        by_cases hd : 20000 < d1.size
        · have hd' : (20000 : Int) < (d1.size : Int) := by omega
          have hT := HNO.out hd
          subst hT
          clear HYES HNO
          go_wp2_with fail
          go_ret
          exact ⟨rfl, rfl⟩
        · have hd' : ¬ (20000 : Int) < (d1.size : Int) := by omega
          have HT := Lib.hid (HYES.out (by omega))
          clear HYES HNO
          go_wp2_with fail
          go_roundw
          case rel => exact ⟨j + 1, by go_num, by omega, by first | rfl | trivial, HT⟩
          case measure => simp [intOf]; omega
      · obtain rfl : j = n := by omega
        have hF : z = false := by
          rw [HZ.out]
          have h1 := hst.out
          rw [HN.out, List.take_length] at h1
          have h2 := HN.out
          unfold longL
          rw [decide_eq_false (by omega), Bool.false_or, List.any_eq_false]
          intro m hm
          have := h1 m hm
          simp; omega
        subst hF
        go_wp2_with fail
        go_ret
        exact ⟨rfl, rfl⟩
end Go.Proofs.YtbdlegjklfkdmaaGreatDoor.Pl

namespace Go.Proofs.YtbdlegjklfkdmaaGreatDoor.Pl
open Go.RowKit Go.ChangeShapes Go.WideShapes

theorem cells_mem : Tryz.prog.cellsOf 51 = 2 := by kernel_rfl
theorem cells_txn : Tryz.prog.cellsOf 23 = 3 := by kernel_rfl
theorem cells_int12 : Tryz.prog.cellsOf 3 = 1 := by kernel_rfl
theorem cells_str12 : Tryz.prog.cellsOf 9 = 1 := by kernel_rfl
theorem cells_mems : Tryz.prog.cellsOf 24 = 1 := by kernel_rfl
theorem spot_none12 {w : World} {a : Addr} {v : Value} (h : w.cell? a = some v) : a.spot = none ∧ a.block < w.heap.size := by
  obtain ⟨b, off, sp⟩ := a
  unfold World.cell? at h
  cases sp with
  | none =>
    refine ⟨rfl, ?_⟩
    rcases Nat.lt_or_ge b w.heap.size with h1 | h1
    · exact h1
    · simp [Array.getElem?_eq_none h1] at h
  | some x =>
    exfalso
    simp only at h
    split at h
    · simp at h
    · cases h
/-- A number that fits. -/
def I64 (v : Int) : Prop := -9223372036854775808 ≤ v ∧ v ≤ 9223372036854775807
theorem int_fit12 {n : Int} (h : (Lit.int .i64 n).wf = true) : I64 n := by
  have : -9223372036854775808 ≤ n ∧ n ≤ 9223372036854775807 := by simpa [Lit.wf, IntKind.min, IntKind.max, IntKind.signed, IntKind.bits] using h
  exact this
set_option maxRecDepth 100000 in
theorem open_mem {H : Type} {enc : TypeId × Value → H} {w : World} {base fuel : Nat} {b off : Nat} {cs : List Value} {x : DataW H × List MemPlace}
    (hc : w.cells? base ⟨b, off, none⟩ 2 = some cs) (hd : DataW.trod enc Tryz.prog w base (fun _ => true) true fuel 51 cs = some x) : ∃ m : Mb, w.cell? ⟨b, off, none⟩ = some (.int .i64 m.1) ∧ w.cell? ⟨b, off + 1, none⟩ = some (.string m.2) ∧ I64 m.1 := by
  obtain ⟨xs, n, _, _, hl, hlen, hf⟩ := DataW.trod_struct Tryz.underlying51 hd
  rw [cells_mem] at hl
  match cs, hl with
  | [c0, c1], _ =>
    match xs, hlen with
    | [x0, x1], _ =>
      have f0 : DataW.trod enc Tryz.prog w base (fun _ => true) true n 3 [c0] = some x0 := by
        have h := hf 0 ⟨_, _, _, _, _, _, _⟩ rfl
        simp only [cells_int12, List.drop_zero, List.take_succ_cons, List.take_zero] at h
        exact h
      have f1 : DataW.trod enc Tryz.prog w base (fun _ => true) true n 9 [c1] = some x1 := by
        have h := hf 1 ⟨_, _, _, _, _, _, _⟩ rfl
        simp only [cells_str12, List.drop_zero, List.drop_succ_cons, List.take_succ_cons, List.take_zero] at h
        exact h
      obtain ⟨n0, e0, _, w0⟩ := DataW.trod_int Tryz.underlying3 f0
      obtain ⟨t1, e1, _, w1⟩ := DataW.trod_string Tryz.underlying9 f1
      injection e0 with e0 _
      injection e1 with e1 _
      subst e0 e1
      obtain ⟨_, _, hcell⟩ := World.cells?_some hc
      refine ⟨(n0, t1), ?_, ?_, int_fit12 w0⟩
      · have h := hcell 0 (by decide)
        rw [add12] at h
        exact h
      · have h := hcell 1 (by decide)
        rw [add12] at h
        exact h
set_option maxRecDepth 100000 in
theorem open_memsC {H : Type} {enc : TypeId × Value → H} {w : World} {base fuel : Nat} {c : Value} {x : DataW H × List MemPlace}
    (hf : DataW.trod enc Tryz.prog w base (fun _ => true) true fuel 24 [c] = some x) :
    ∃ ao l cap, c = .slice ao (List.length l) cap ∧ MemRow w ao l ∧ List.length l ≤ cap ∧ List.length l ≤ 9223372036854775807 ∧ (ao = none → cap = 0) := by
  rcases Go.Deep.open_slice Tryz.underlying24 hf with ⟨hcs, _⟩ | ⟨a', len, cap, m, n, D, P, hcs, _, hl, hm, hz, _, hcell⟩
  · injection hcs with hcs _
    exact ⟨none, [], 0, hcs, .inl rfl, Nat.le_refl _, Nat.zero_le _, fun _ => rfl⟩
  · injection hcs with hcs _
    subst hcs
    unfold maxLen at hm
    simp only [if_true] at hz
    rw [cells_mem] at hcell
    by_cases h0 : len = 0
    · subst h0
      exact ⟨some a', [], cap, rfl, .inl rfl, Nat.zero_le _, Nat.zero_le _, fun h => by cases h⟩
    obtain ⟨g, go, gs⟩ := a'
    have hsp : gs = none ∧ g < w.heap.size := by
      obtain ⟨cs, h1, _⟩ := hcell 0 (by omega)
      obtain ⟨_, h2, h3⟩ := World.cells?_some h1
      have h4 := h3 0 (by omega)
      rw [List.getElem?_eq_getElem (by omega)] at h4
      exact spot_none12 h4
    obtain ⟨rfl, hlt⟩ := hsp
    have each : ∀ j, j < len → ∃ m : Mb, w.cell? ⟨g, go + j * 2, none⟩ = some (.int .i64 m.1) ∧ w.cell? ⟨g, go + j * 2 + 1, none⟩ = some (.string m.2) := fun j hj => by
      obtain ⟨cs, h1, h2⟩ := hcell j (by omega)
      rw [add12] at h1
      obtain ⟨m, k1, k2, _⟩ := open_mem h1 h2
      exact ⟨m, k1, k2⟩
    have ex : ∀ k, k ≤ len → ∃ l : List Mb, l.length = k ∧ ∀ j, (hj : j < l.length) → w.cell? ⟨g, go + j * 2, none⟩ = some (.int .i64 l[j].1) ∧ w.cell? ⟨g, go + j * 2 + 1, none⟩ = some (.string l[j].2) := by
      intro k
      induction k with
      | zero => exact fun _ => ⟨[], rfl, fun j hj => absurd hj (Nat.not_lt_zero _)⟩
      | succ k ih =>
        intro hk
        obtain ⟨l, e, h⟩ := ih (by omega)
        obtain ⟨s, h1, h2⟩ := each k (by omega)
        refine ⟨l ++ [s], by simp [e], fun j hj => ?_⟩
        by_cases hj2 : j < l.length
        · rw [List.getElem_append_left hj2]
          exact h j hj2
        · have hjk : j = l.length := by simp at hj; omega
          subst hjk
          rw [List.getElem_append_right (Nat.le_refl _)]
          simp only [Nat.sub_self, List.getElem_cons_zero]
          rw [e]
          exact ⟨h1, h2⟩
    obtain ⟨l, e, h⟩ := ex len (Nat.le_refl _)
    exact ⟨some ⟨g, go, none⟩, l, cap, by rw [e], .inr ⟨g, go, rfl, hlt, h⟩, by omega, by omega, fun h => by cases h⟩
set_option maxRecDepth 100000 in
theorem open_txnC {H : Type} {enc : TypeId × Value → H} {w : World} {base fuel : Nat} {cs : List Value} {x : DataW H × List MemPlace}
    (hd : DataW.trod enc Tryz.prog w base (fun _ => true) true fuel 23 cs = some x) : ∃ c e q : Int, cs = [.int .i64 c, .int .i64 e, .int .i64 q] ∧ I64 c ∧ I64 e ∧ I64 q := by
  obtain ⟨xs, n, _, _, hl, hlen, hf⟩ := DataW.trod_struct Tryz.underlying23 hd
  rw [cells_txn] at hl
  match cs, hl with
  | [c0, c1, c2], _ =>
    match xs, hlen with
    | [x0, x1, x2], _ =>
      have f0 : DataW.trod enc Tryz.prog w base (fun _ => true) true n 3 [c0] = some x0 := by
        have h := hf 0 ⟨_, _, _, _, _, _, _⟩ rfl
        simp only [cells_int12, List.drop_zero, List.take_succ_cons, List.take_zero] at h
        exact h
      have f1 : DataW.trod enc Tryz.prog w base (fun _ => true) true n 3 [c1] = some x1 := by
        have h := hf 1 ⟨_, _, _, _, _, _, _⟩ rfl
        simp only [cells_int12, List.drop_zero, List.drop_succ_cons, List.take_succ_cons, List.take_zero] at h
        exact h
      have f2 : DataW.trod enc Tryz.prog w base (fun _ => true) true n 3 [c2] = some x2 := by
        have h := hf 2 ⟨_, _, _, _, _, _, _⟩ rfl
        simp only [cells_int12, List.drop_zero, List.drop_succ_cons, List.take_succ_cons, List.take_zero] at h
        exact h
      obtain ⟨n0, e0, _, w0⟩ := DataW.trod_int Tryz.underlying3 f0
      obtain ⟨n1, e1, _, w1⟩ := DataW.trod_int Tryz.underlying3 f1
      obtain ⟨n2, e2, _, w2⟩ := DataW.trod_int Tryz.underlying3 f2
      injection e0 with e0 _
      injection e1 with e1 _
      injection e2 with e2 _
      subst e0 e1 e2
      exact ⟨n0, n1, n2, rfl, int_fit12 w0, int_fit12 w1, int_fit12 w2⟩
end Go.Proofs.YtbdlegjklfkdmaaGreatDoor.Pl

namespace Go.Proofs.YtbdlegjklfkdmaaGreatDoor.Pl
open Go.RowKit

/-- A ballot's cells, its members at v. -/
abbrev btC (b : Bt) (v : Value) : Array Value := #[.int .i64 b.c, .int .i64 b.e, .int .i64 b.q, .int .i64 b.aud, v, .int .i64 b.org]
def BAt (w : World) (g : Nat) (b : Bt) (v : Value) : Prop := w.heap[g]? = some (.cells (btC b v) 26 (0, 0))
theorem BAt.lt {w : World} {g : Nat} {b : Bt} {v : Value} (h : BAt w g b v) : g < w.heap.size := (Array.getElem?_eq_some_iff.1 h).1
theorem BAt.below {w w' : World} {g : Nat} {b : Bt} {v : Value} (h : BAt w g b v) (hb : Below w.heap.size w w') : BAt w' g b v := (hb.block g h.lt).trans h
theorem BAt.cells {w : World} {g : Nat} {b : Bt} {v : Value} (h : BAt w g b v) : w.cell? ⟨g, 0, none⟩ = some (.int .i64 b.c) ∧ w.cell? ⟨g, 1, none⟩ = some (.int .i64 b.e) ∧ w.cell? ⟨g, 2, none⟩ = some (.int .i64 b.q) ∧ w.cell? ⟨g, 3, none⟩ = some (.int .i64 b.aud) ∧ w.cell? ⟨g, 4, none⟩ = some (v) ∧ w.cell? ⟨g, 5, none⟩ = some (.int .i64 b.org) := by
  unfold BAt btC at h
  exact ⟨cell_of_row _ _ _ _ _ _ h, cell_of_row _ _ _ _ _ _ h, cell_of_row _ _ _ _ _ _ h, cell_of_row _ _ _ _ _ _ h, cell_of_row _ _ _ _ _ _ h, cell_of_row _ _ _ _ _ _ h⟩
theorem bat_new (w : World) (b : Bt) (v : Value) : BAt (w.alloc (.cells (btC b v) 26)) w.heap.size b v := Go.heap_alloc_new _ _
end Go.Proofs.YtbdlegjklfkdmaaGreatDoor.Pl

namespace Go.Proofs.YtbdlegjklfkdmaaGreatDoor.Pl
open Go.RowKit

noncomputable def eqB (a b : Bt) : Bool := @decide (a = b) (Classical.propDecidable _)
theorem eqB_yes {a b : Bt} (h : a = b) : eqB a b = true := by unfold eqB; exact @decide_eq_true _ (Classical.propDecidable _) h
theorem eqB_no {a b : Bt} (h : ¬ a = b) : eqB a b = false := by unfold eqB; exact @decide_eq_false _ (Classical.propDecidable _) h
theorem eqB_mem (c e q aud org : Int) (l k : List Mb) : eqB ⟨c, e, q, aud, l, org⟩ ⟨c, e, q, aud, k, org⟩ = eqL l k := by
  by_cases h : l = k
  · subst h; rw [eqB_yes rfl, eqL_yes rfl]
  · rw [eqB_no (fun e => h (by injection e)), eqL_no h]

set_option maxHeartbeats 8000000 in
set_option maxRecDepth 100000 in
theorem rsame13_any (a b : Bt) (ao bo : Option Addr) (c1 c2 : Nat) (hl : a.mem.length ≤ 1000000) (w : World) (hr1 : MemRow w ao a.mem) (hr2 : MemRow w bo b.mem) :
    Calls Tryz.prog 14 #[.agg (btC a (.slice ao a.mem.length c1)), .agg (btC b (.slice bo b.mem.length c2))] w fun x w' => x = .returned (.bool (eqB a b)) ∧ Below w.heap.size w w' := by
  obtain ⟨c, e, q, aud, l, org⟩ := a
  obtain ⟨c', e', q', aud', k, org'⟩ := b
  dsimp only [btC] at *
  have HB := Lib.hid (show ∀ A B : Obj, Below w.heap.size w ((w.alloc A).alloc B) from fun A B => ((Below.refl _ _).alloc (Nat.le_refl _) _).alloc (by simp) _)
  by_cases h1 : ¬ c = c'
  · have hf : eqB ⟨c, e, q, aud, l, org⟩ ⟨c', e', q', aud', k, org'⟩ = false := eqB_no (fun x => h1 (by injection x))
    rw [hf]
    have f1 : (c == c') = false := beq_eq_false_iff_ne.2 h1
    clear hf h1 hr1 hr2
    go_enter Tryz.func14, Tryz.ntmps14
    go_wp2_with fail
    go_ret
    exact ⟨rfl, HB.out _ _⟩
  have h1 := Classical.byContradiction h1
  subst h1
  by_cases h2 : ¬ e = e'
  · have hf : eqB ⟨c, e, q, aud, l, org⟩ ⟨c, e', q', aud', k, org'⟩ = false := eqB_no (fun x => h2 (by injection x))
    rw [hf]
    have f1 : (e == e') = false := beq_eq_false_iff_ne.2 h2
    clear hf h2 hr1 hr2
    go_enter Tryz.func14, Tryz.ntmps14
    go_wp2_with fail
    go_ret
    exact ⟨rfl, HB.out _ _⟩
  have h2 := Classical.byContradiction h2
  subst h2
  by_cases h3 : ¬ q = q'
  · have hf : eqB ⟨c, e, q, aud, l, org⟩ ⟨c, e, q', aud', k, org'⟩ = false := eqB_no (fun x => h3 (by injection x))
    rw [hf]
    have f1 : (q == q') = false := beq_eq_false_iff_ne.2 h3
    clear hf h3 hr1 hr2
    go_enter Tryz.func14, Tryz.ntmps14
    go_wp2_with fail
    go_ret
    exact ⟨rfl, HB.out _ _⟩
  have h3 := Classical.byContradiction h3
  subst h3
  by_cases h4 : ¬ aud = aud'
  · have hf : eqB ⟨c, e, q, aud, l, org⟩ ⟨c, e, q, aud', k, org'⟩ = false := eqB_no (fun x => h4 (by injection x))
    rw [hf]
    have f1 : (aud == aud') = false := beq_eq_false_iff_ne.2 h4
    clear hf h4 hr1 hr2
    go_enter Tryz.func14, Tryz.ntmps14
    go_wp2_with fail
    go_ret
    exact ⟨rfl, HB.out _ _⟩
  have h4 := Classical.byContradiction h4
  subst h4
  by_cases h5 : ¬ org = org'
  · have hf : eqB ⟨c, e, q, aud, l, org⟩ ⟨c, e, q, aud, k, org'⟩ = false := eqB_no (fun x => h5 (by injection x))
    rw [hf]
    have f1 : (org == org') = false := beq_eq_false_iff_ne.2 h5
    clear hf h5 hr1 hr2
    go_enter Tryz.func14, Tryz.ntmps14
    go_wp2_with fail
    go_ret
    exact ⟨rfl, HB.out _ _⟩
  have h5 := Classical.byContradiction h5
  subst h5
  rw [eqB_mem]
  obtain ⟨W0, hW0⟩ : ∃ V, V = (w.alloc (.cells #[.int .i64 c, .int .i64 e, .int .i64 q, .int .i64 aud, .slice ao l.length c1, .int .i64 org] 26)).alloc (.cells #[.int .i64 c, .int .i64 e, .int .i64 q, .int .i64 aud, .slice bo k.length c2, .int .i64 org] 26) := ⟨_, rfl⟩
  have B0 : Hid (Below w.heap.size w W0) := Lib.hid (by rw [hW0]; exact HB.out _ _)
  have HS := samem_any l k ao bo c1 c2 hl W0 (hr1.below B0.out) (hr2.below B0.out)
  have HW0 := Lib.hid hW0
  clear hW0 hr1 hr2 hl
  generalize eqL l k = z at *
  generalize l.length = n at *
  generalize k.length = n2 at *
  have HS := Lib.hid HS
  go_enter Tryz.func14, Tryz.ntmps14
  go_wp2_with fail
  rw [← HW0.out]
  refine HS.out.mono ?_; rintro x1 V1 ⟨rfl, b1⟩
  go_wp2_with fail
  go_ret
  exact ⟨rfl, below_step B0.out b1⟩
end Go.Proofs.YtbdlegjklfkdmaaGreatDoor.Pl

namespace Go.Proofs.YtbdlegjklfkdmaaGreatDoor.Pl
open Go.RowKit Go.ChangeShapes Go.WideShapes

theorem cells_bt : Tryz.prog.cellsOf 26 = 6 := by kernel_rfl
set_option maxRecDepth 100000 in
theorem open_ballot {H : Type} {enc : TypeId × Value → H} {w : World} {r : Reach} {b0 base : Nat} {v : Value} {d : DataW H} {ps : List MemPlace}
    (hval : Value.okWide Tryz.prog w r b0 26 v) (hd : DataW.Trod enc Tryz.prog w base (fun _ => true) true 26 v d ps) :
    ∃ (b : Bt) (ao : Option Addr) (cap : Nat), v = .agg (btC b (.slice ao b.mem.length cap)) ∧ MemRow w ao b.mem ∧ (ao = none → cap = 0) ∧ b.mem.length ≤ 9223372036854775807 := by
  obtain ⟨cs, rfl, -⟩ := okWide_struct Tryz.underlying26 hval
  obtain ⟨fuel, hf0⟩ := hd
  have hf0' : DataW.trod enc Tryz.prog w base (fun _ => true) true fuel 26 cs.toList = some (d, ps) := hf0
  obtain ⟨xs, n, _, _, hl, hlen, hf⟩ := DataW.trod_struct Tryz.underlying26 hf0'
  rw [cells_bt] at hl
  obtain ⟨L, hL⟩ : ∃ L, L = cs.toList := ⟨_, rfl⟩
  rw [← hL] at hl hf
  match L, hl with
  | [c0, c1, c2, c3, c4, c5], _ =>
    match xs, hlen with
    | [x0, x1, x2, x3], _ =>
      have f0 : DataW.trod enc Tryz.prog w base (fun _ => true) true n 23 [c0, c1, c2] = some x0 := by
        have h := hf 0 ⟨_, _, _, _, _, _, _⟩ rfl
        simp only [cells_txn, List.drop_zero, List.take_succ_cons, List.take_zero] at h
        exact h
      have f1 : DataW.trod enc Tryz.prog w base (fun _ => true) true n 3 [c3] = some x1 := by
        have h := hf 1 ⟨_, _, _, _, _, _, _⟩ rfl
        simp only [cells_int12, List.drop_zero, List.drop_succ_cons, List.take_succ_cons, List.take_zero] at h
        exact h
      have f2 : DataW.trod enc Tryz.prog w base (fun _ => true) true n 24 [c4] = some x2 := by
        have h := hf 2 ⟨_, _, _, _, _, _, _⟩ rfl
        simp only [cells_mems, List.drop_zero, List.drop_succ_cons, List.take_succ_cons, List.take_zero] at h
        exact h
      have f3 : DataW.trod enc Tryz.prog w base (fun _ => true) true n 3 [c5] = some x3 := by
        have h := hf 3 ⟨_, _, _, _, _, _, _⟩ rfl
        simp only [cells_int12, List.drop_zero, List.drop_succ_cons, List.take_succ_cons, List.take_zero] at h
        exact h
      obtain ⟨c, e, q, e0, _⟩ := open_txnC f0
      obtain ⟨n1, e1, _, w1⟩ := DataW.trod_int Tryz.underlying3 f1
      obtain ⟨ao, l, cap, e2, hr, _, hm, hz⟩ := open_memsC f2
      obtain ⟨n3, e3, _, w3⟩ := DataW.trod_int Tryz.underlying3 f3
      injection e0 with e0a e0
      injection e0 with e0b e0
      injection e0 with e0c _
      injection e1 with e1 _
      injection e3 with e3 _
      subst e0a e0b e0c e1 e2 e3
      refine ⟨⟨c, e, q, n1, l, n3⟩, ao, cap, ?_, hr, hz, hm⟩
      rw [show cs = btC ⟨c, e, q, n1, l, n3⟩ (.slice ao l.length cap) from Array.ext' (by rw [← hL])]
end Go.Proofs.YtbdlegjklfkdmaaGreatDoor.Pl
