/- What the statements leave out; a message with members of its own; the chapter's examples. How members, a transaction, and a message that came in read. The document's Org, MayTxn, num, flag and Word of layer 12. The document's Txn and ReadTxn of layer 12. -/
import Derived.Test.YtbdlegjklfkdmaaGreatDoorBallA14
import Derived.Test.YtbdlegjklfkdmaaGreatDoorBallA2
import Derived.Test.YtbdlegjklfkdmaaGreatDoorBallA3
import Derived.ProofKit
import Derived.SliceStrings
import Derived.Laws.AppendOwnNone
import Derived.ChangeSlices
import Derived.Deep.Slices
import Derived.Deep.RegionHeld3
namespace Go.Proofs.YtbdlegjklfkdmaaGreatDoor.Pl
open Go.RowKit

def longL (l : List Mb) : Bool := decide (20 < l.length) || l.any (fun m => decide (20000 < m.2.size))
theorem longL_no {l : List Mb} (h : longL l = false) : l.length ≤ 20 ∧ ∀ m ∈ l, m.2.size ≤ 20000 := by
  simp only [longL, Bool.or_eq_false_iff, decide_eq_false_iff_not, List.any_eq_false] at h
  exact ⟨by omega, fun m hm => by have := h.2 m hm; simpa using this⟩
set_option maxHeartbeats 4000000 in
set_option maxRecDepth 100000 in
theorem longl_any (l : List Mb) (ao : Option Addr) (cap : Nat) (hl : l.length ≤ 9223372036854775807) (w : World) (hrow : MemRow w ao l) :
    Calls Tryz.prog 6 #[.slice ao l.length cap] w fun x w' => x = .returned (.bool (longL l)) ∧ w' = w := by
  obtain ⟨n, hn⟩ : ∃ n, n = l.length := ⟨_, rfl⟩
  obtain ⟨z, hz⟩ : ∃ z, z = longL l := ⟨_, rfl⟩
  rw [← hn, ← hz]
  by_cases h20 : 20 < n
  · have h20' : (20 : Int) < (n : Int) := by omega
    have hT : z = true := by rw [hz]; simp [longL]; left; omega
    subst hT
    clear hrow hz hn hl
    go_enter Tryz.func6, Tryz.ntmps6
    go_wp2_with fail
    go_ret
    exact ⟨rfl, rfl⟩
  · have h20' : ¬ (20 : Int) < (n : Int) := by omega
    have hn20 : n ≤ 20 := by omega
    have HZ := Lib.hid hz
    have HN := Lib.hid hn
    have HROW := Lib.hid hrow
    clear hrow hz hn hl
    go_enter Tryz.func6, Tryz.ntmps6
    go_wp2_with fail
    go_loopw [3] (fun iv wr => ∃ j : Nat, iv = .int .i64 j ∧ j ≤ n ∧ wr = w ∧ Hid (∀ m ∈ l.take j, m.2.size ≤ 20000)) (fun iv _ => n - (intOf iv).toNat)
    case atStart => exact ⟨0, rfl, Nat.zero_le _, rfl, Lib.hid (fun m hm => by cases hm)⟩
    case round =>
      obtain ⟨j, rfl, hjn, rfl, hst⟩ := hrel
      by_cases hj : j < n
      · have hj' : (j : Int) < (n : Int) := by omega
        have hj1 : j < l.length := by rw [← HN.out]; exact hj
        rcases HROW.out with e | ⟨b, off, rfl, hlt, hcs⟩
        · exfalso; rw [e] at hj1; exact absurd hj1 (Nat.not_lt_zero _)
        obtain ⟨x0, x1⟩ := hcs j hj1
        have HYES : Hid (l[j].2.size ≤ 20000 → ∀ m ∈ l.take (j + 1), m.2.size ≤ 20000) := Lib.hid (fun e m hm => by
          rw [List.take_succ_eq_append_getElem hj1] at hm
          rcases List.mem_append.1 hm with hm | hm
          · exact hst.out m hm
          · rw [List.mem_singleton.1 hm]; exact e)
        have HNO : Hid (20000 < l[j].2.size → z = true) := Lib.hid (fun e => by
          rw [HZ.out]; unfold longL
          rw [List.any_eq_true.2 ⟨l[j], List.getElem_mem hj1, decide_eq_true e⟩, Bool.or_true])
        generalize l[j] = m1 at *
        obtain ⟨o1, d1⟩ := m1
        dsimp only at *
        clear hcs hlt hj1 hst
        by_cases hd : 20000 < d1.size
        · have hd' : (20000 : Int) < (d1.size : Int) := by omega
          have hT := HNO.out hd
          subst hT
          clear HYES HNO
          go_wp2_with fail
          go_ret
          exact ⟨rfl, rfl⟩
        · have hd' : ¬ (20000 : Int) < (d1.size : Int) := by omega
          have HT := Lib.hid (HYES.out (by omega))
          clear HYES HNO
          go_wp2_with fail
          go_roundw
          case rel => exact ⟨j + 1, by go_num, by omega, by first | rfl | trivial, HT⟩
          case measure => simp [intOf]; omega
      · obtain rfl : j = n := by omega
        have hF : z = false := by
          rw [HZ.out]
          have h1 := hst.out
          rw [HN.out, List.take_length] at h1
          have h2 := HN.out
          unfold longL
          rw [decide_eq_false (by omega), Bool.false_or, List.any_eq_false]
          intro m hm
          have := h1 m hm
          simp; omega
        subst hF
        go_wp2_with fail
        go_ret
        exact ⟨rfl, rfl⟩
theorem below_of_grown12 {w w' : World} (h : w.grownBy w' none) : Below w.heap.size w w' := ⟨h.os, h.tape, h.output, h.size, fun k hk => h.block k hk (fun e => by cases e)⟩
end Go.Proofs.YtbdlegjklfkdmaaGreatDoor.Pl

namespace Go.Proofs.YtbdlegjklfkdmaaGreatDoor.Pl
open Go.RowKit Go.ChangeShapes Go.WideShapes

theorem cells_mem : Tryz.prog.cellsOf 51 = 2 := by kernel_rfl
theorem cells_txn : Tryz.prog.cellsOf 23 = 3 := by kernel_rfl
theorem cells_int12 : Tryz.prog.cellsOf 3 = 1 := by kernel_rfl
theorem cells_str12 : Tryz.prog.cellsOf 9 = 1 := by kernel_rfl
theorem cells_mems : Tryz.prog.cellsOf 24 = 1 := by kernel_rfl
theorem spot_none12 {w : World} {a : Addr} {v : Value} (h : w.cell? a = some v) : a.spot = none ∧ a.block < w.heap.size := by
  obtain ⟨b, off, sp⟩ := a
  unfold World.cell? at h
  cases sp with
  | none =>
    refine ⟨rfl, ?_⟩
    rcases Nat.lt_or_ge b w.heap.size with h1 | h1
    · exact h1
    · simp [Array.getElem?_eq_none h1] at h
  | some x =>
    exfalso
    simp only at h
    split at h
    · simp at h
    · cases h
/-- A number that fits. -/
def I64 (v : Int) : Prop := -9223372036854775808 ≤ v ∧ v ≤ 9223372036854775807
theorem int_fit12 {n : Int} (h : (Lit.int .i64 n).wf = true) : I64 n := by
  have : -9223372036854775808 ≤ n ∧ n ≤ 9223372036854775807 := by simpa [Lit.wf, IntKind.min, IntKind.max, IntKind.signed, IntKind.bits] using h
  exact this
set_option maxRecDepth 100000 in
theorem open_mem {H : Type} {enc : TypeId × Value → H} {w : World} {base fuel : Nat} {b off : Nat} {cs : List Value} {x : DataW H × List MemPlace}
    (hc : w.cells? base ⟨b, off, none⟩ 2 = some cs) (hd : DataW.trod enc Tryz.prog w base (fun _ => true) true fuel 51 cs = some x) : ∃ m : Mb, w.cell? ⟨b, off, none⟩ = some (.int .i64 m.1) ∧ w.cell? ⟨b, off + 1, none⟩ = some (.string m.2) ∧ I64 m.1 := by
  obtain ⟨xs, n, _, _, hl, hlen, hf⟩ := DataW.trod_struct Tryz.underlying51 hd
  rw [cells_mem] at hl
  match cs, hl with
  | [c0, c1], _ =>
    match xs, hlen with
    | [x0, x1], _ =>
      have f0 : DataW.trod enc Tryz.prog w base (fun _ => true) true n 3 [c0] = some x0 := by
        have h := hf 0 ⟨_, _, _, _, _, _, _⟩ rfl
        simp only [cells_int12, List.drop_zero, List.take_succ_cons, List.take_zero] at h
        exact h
      have f1 : DataW.trod enc Tryz.prog w base (fun _ => true) true n 9 [c1] = some x1 := by
        have h := hf 1 ⟨_, _, _, _, _, _, _⟩ rfl
        simp only [cells_str12, List.drop_zero, List.drop_succ_cons, List.take_succ_cons, List.take_zero] at h
        exact h
      obtain ⟨n0, e0, _, w0⟩ := DataW.trod_int Tryz.underlying3 f0
      obtain ⟨t1, e1, _, w1⟩ := DataW.trod_string Tryz.underlying9 f1
      injection e0 with e0 _
      injection e1 with e1 _
      subst e0 e1
      obtain ⟨_, _, hcell⟩ := World.cells?_some hc
      refine ⟨(n0, t1), ?_, ?_, int_fit12 w0⟩
      · have h := hcell 0 (by decide)
        rw [add12] at h
        exact h
      · have h := hcell 1 (by decide)
        rw [add12] at h
        exact h
set_option maxRecDepth 100000 in
theorem open_memsC {H : Type} {enc : TypeId × Value → H} {w : World} {base fuel : Nat} {c : Value} {x : DataW H × List MemPlace}
    (hf : DataW.trod enc Tryz.prog w base (fun _ => true) true fuel 24 [c] = some x) :
    ∃ ao l cap, c = .slice ao (List.length l) cap ∧ MemRow w ao l ∧ List.length l ≤ cap ∧ List.length l ≤ 9223372036854775807 ∧ (ao = none → cap = 0) := by
  rcases Go.Deep.open_slice Tryz.underlying24 hf with ⟨hcs, _⟩ | ⟨a', len, cap, m, n, D, P, hcs, _, hl, hm, hz, _, hcell⟩
  · injection hcs with hcs _
    exact ⟨none, [], 0, hcs, .inl rfl, Nat.le_refl _, Nat.zero_le _, fun _ => rfl⟩
  · injection hcs with hcs _
    subst hcs
    unfold maxLen at hm
    simp only [if_true] at hz
    rw [cells_mem] at hcell
    by_cases h0 : len = 0
    · subst h0
      exact ⟨some a', [], cap, rfl, .inl rfl, Nat.zero_le _, Nat.zero_le _, fun h => by cases h⟩
    obtain ⟨g, go, gs⟩ := a'
    have hsp : gs = none ∧ g < w.heap.size := by
      obtain ⟨cs, h1, _⟩ := hcell 0 (by omega)
      obtain ⟨_, h2, h3⟩ := World.cells?_some h1
      have h4 := h3 0 (by omega)
      rw [List.getElem?_eq_getElem (by omega)] at h4
      exact spot_none12 h4
    obtain ⟨rfl, hlt⟩ := hsp
    have each : ∀ j, j < len → ∃ m : Mb, w.cell? ⟨g, go + j * 2, none⟩ = some (.int .i64 m.1) ∧ w.cell? ⟨g, go + j * 2 + 1, none⟩ = some (.string m.2) := fun j hj => by
      obtain ⟨cs, h1, h2⟩ := hcell j (by omega)
      rw [add12] at h1
      obtain ⟨m, k1, k2, _⟩ := open_mem h1 h2
      exact ⟨m, k1, k2⟩
    have ex : ∀ k, k ≤ len → ∃ l : List Mb, l.length = k ∧ ∀ j, (hj : j < l.length) → w.cell? ⟨g, go + j * 2, none⟩ = some (.int .i64 l[j].1) ∧ w.cell? ⟨g, go + j * 2 + 1, none⟩ = some (.string l[j].2) := by
      intro k
      induction k with
      | zero => exact fun _ => ⟨[], rfl, fun j hj => absurd hj (Nat.not_lt_zero _)⟩
      | succ k ih =>
        intro hk
        obtain ⟨l, e, h⟩ := ih (by omega)
        obtain ⟨s, h1, h2⟩ := each k (by omega)
        refine ⟨l ++ [s], by simp [e], fun j hj => ?_⟩
        by_cases hj2 : j < l.length
        · rw [List.getElem_append_left hj2]
          exact h j hj2
        · have hjk : j = l.length := by simp at hj; omega
          subst hjk
          rw [List.getElem_append_right (Nat.le_refl _)]
          simp only [Nat.sub_self, List.getElem_cons_zero]
          rw [e]
          exact ⟨h1, h2⟩
    obtain ⟨l, e, h⟩ := ex len (Nat.le_refl _)
    exact ⟨some ⟨g, go, none⟩, l, cap, by rw [e], .inr ⟨g, go, rfl, hlt, h⟩, by omega, by omega, fun h => by cases h⟩
set_option maxRecDepth 100000 in
theorem open_txnC {H : Type} {enc : TypeId × Value → H} {w : World} {base fuel : Nat} {cs : List Value} {x : DataW H × List MemPlace}
    (hd : DataW.trod enc Tryz.prog w base (fun _ => true) true fuel 23 cs = some x) : ∃ c e q : Int, cs = [.int .i64 c, .int .i64 e, .int .i64 q] ∧ I64 c ∧ I64 e ∧ I64 q := by
  obtain ⟨xs, n, _, _, hl, hlen, hf⟩ := DataW.trod_struct Tryz.underlying23 hd
  rw [cells_txn] at hl
  match cs, hl with
  | [c0, c1, c2], _ =>
    match xs, hlen with
    | [x0, x1, x2], _ =>
      have f0 : DataW.trod enc Tryz.prog w base (fun _ => true) true n 3 [c0] = some x0 := by
        have h := hf 0 ⟨_, _, _, _, _, _, _⟩ rfl
        simp only [cells_int12, List.drop_zero, List.take_succ_cons, List.take_zero] at h
        exact h
      have f1 : DataW.trod enc Tryz.prog w base (fun _ => true) true n 3 [c1] = some x1 := by
        have h := hf 1 ⟨_, _, _, _, _, _, _⟩ rfl
        simp only [cells_int12, List.drop_zero, List.drop_succ_cons, List.take_succ_cons, List.take_zero] at h
        exact h
      have f2 : DataW.trod enc Tryz.prog w base (fun _ => true) true n 3 [c2] = some x2 := by
        have h := hf 2 ⟨_, _, _, _, _, _, _⟩ rfl
        simp only [cells_int12, List.drop_zero, List.drop_succ_cons, List.take_succ_cons, List.take_zero] at h
        exact h
      obtain ⟨n0, e0, _, w0⟩ := DataW.trod_int Tryz.underlying3 f0
      obtain ⟨n1, e1, _, w1⟩ := DataW.trod_int Tryz.underlying3 f1
      obtain ⟨n2, e2, _, w2⟩ := DataW.trod_int Tryz.underlying3 f2
      injection e0 with e0 _
      injection e1 with e1 _
      injection e2 with e2 _
      subst e0 e1 e2
      exact ⟨n0, n1, n2, rfl, int_fit12 w0, int_fit12 w1, int_fit12 w2⟩
end Go.Proofs.YtbdlegjklfkdmaaGreatDoor.Pl

namespace Go.Proofs.YtbdlegjklfkdmaaGreatDoor.Pl
open Go.RowKit

set_option maxHeartbeats 1000000 in
set_option maxRecDepth 100000 in
theorem rorg_any (v : Int) (w : World) : Calls Tryz.prog 38 #[.int .i64 v] w fun x w' => x = .returned (.bool (orgP v)) ∧ w' = w := by
  by_cases h1 : (0 : Int) ≤ v
  · by_cases h2 : v < 8
    · have hz : orgP v = true := orgP_iff.2 ⟨h1, h2⟩
      rw [hz]
      clear hz
      go_enter Tryz.func38, Tryz.ntmps38
      go_wp2
      go_ret
      exact ⟨rfl, rfl⟩
    · have hz : orgP v = false := by rw [← Bool.not_eq_true]; exact fun e => h2 (orgP_iff.1 e).2
      rw [hz]
      clear hz
      go_enter Tryz.func38, Tryz.ntmps38
      go_wp2
      go_ret
      exact ⟨rfl, rfl⟩
  · have hz : orgP v = false := by rw [← Bool.not_eq_true]; exact fun e => h1 (orgP_iff.1 e).1
    rw [hz]
    clear hz
    go_enter Tryz.func38, Tryz.ntmps38
    go_wp2
    go_ret
    exact ⟨rfl, rfl⟩
set_option maxHeartbeats 1000000 in
set_option maxRecDepth 100000 in
theorem rmaytxn_any (c e q : Int) (w : World) : Calls Tryz.prog 37 #[.agg #[.int .i64 c, .int .i64 e, .int .i64 q]] w fun x w' => x = .returned (.bool (mayX c e q)) ∧ Below w.heap.size w w' := by
  have HO := Lib.hid (fun V => rorg_any c V)
  have hz : mayX c e q = (orgP c && decide (1 ≤ e) && decide (e ≤ 255) && decide (1 ≤ q) && decide (q ≤ 65535)) := rfl
  generalize mayX c e q = z at *
  generalize orgP c = oc at *
  have HZ := Lib.hid hz
  clear hz
  have B := Lib.hid ((Below.refl w.heap.size w).alloc (Nat.le_refl _) (.cells #[.int .i64 c, .int .i64 e, .int .i64 q] 23))
  cases oc with
  | false =>
    go_enter Tryz.func37, Tryz.ntmps37
    go_wp2_with (go_at_call 38; refine (HO.out _).mono ?_; rintro e w1 ⟨rfl, rfl⟩)
    go_ret
    exact ⟨by rw [HZ.out]; simp [], B.out⟩
  | true =>
    by_cases he1 : (1 : Int) ≤ e
    · by_cases he2 : e ≤ 255
      · by_cases hq1 : (1 : Int) ≤ q
        · by_cases hq2 : q ≤ 65535
          · go_enter Tryz.func37, Tryz.ntmps37
            go_wp2_with (go_at_call 38; refine (HO.out _).mono ?_; rintro e w1 ⟨rfl, rfl⟩)
            go_ret
            exact ⟨by rw [HZ.out]; simp [he1, he2, hq1, hq2], B.out⟩
          · go_enter Tryz.func37, Tryz.ntmps37
            go_wp2_with (go_at_call 38; refine (HO.out _).mono ?_; rintro e w1 ⟨rfl, rfl⟩)
            go_ret
            exact ⟨by rw [HZ.out]; simp [he1, he2, hq1] <;> omega, B.out⟩
        · go_enter Tryz.func37, Tryz.ntmps37
          go_wp2_with (go_at_call 38; refine (HO.out _).mono ?_; rintro e w1 ⟨rfl, rfl⟩)
          go_ret
          exact ⟨by rw [HZ.out]; simp [he1, he2] <;> omega, B.out⟩
      · go_enter Tryz.func37, Tryz.ntmps37
        go_wp2_with (go_at_call 38; refine (HO.out _).mono ?_; rintro e w1 ⟨rfl, rfl⟩)
        go_ret
        exact ⟨by rw [HZ.out]; simp [he1] <;> omega, B.out⟩
    · go_enter Tryz.func37, Tryz.ntmps37
      go_wp2_with (go_at_call 38; refine (HO.out _).mono ?_; rintro e w1 ⟨rfl, rfl⟩)
      go_ret
      exact ⟨by rw [HZ.out]; simp <;> omega, B.out⟩
set_option maxHeartbeats 1000000 in
set_option maxRecDepth 100000 in
theorem rnum12_any (v : Int) (h0 : -9223372036854775808 ≤ v) (h1 : v ≤ 9223372036854775807) (w : World) : Calls Tryz.prog 76 #[.int .i64 v] w fun x w' => x = .returned (.string (numT v)) ∧ Below w.heap.size w w' := by
  have HN := rnum6_any v h0 h1 w
  rw [show st2 (numP v) = .tuple #[.string (numT v), .int .i64 (numP v).2] from rfl] at HN
  have HN := Lib.hid HN
  generalize numT v = nt at *
  generalize (numP v).2 = ne at *
  go_enter Tryz.func76, Tryz.ntmps76
  go_wp2_with (first | (go_at_call 79; refine HN.out.mono ?_; rintro e w1 ⟨rfl, b1⟩) | fail)
  go_ret
  exact ⟨rfl, b1⟩
end Go.Proofs.YtbdlegjklfkdmaaGreatDoor.Pl

namespace Go.Proofs.YtbdlegjklfkdmaaGreatDoor.Pl
open Go.RowKit

set_option maxHeartbeats 8000000 in
set_option maxRecDepth 100000 in
theorem rtxn12_any (c e q : Int) (w : World) : Calls Tryz.prog 30 #[.agg #[.int .i64 c, .int .i64 e, .int .i64 q]] w fun x w' => x = .returned (st2 (txP c e q)) ∧ Below w.heap.size w w' := by
  have HM := fun V => rmaytxn_any c e q V
  obtain ⟨W0, hW0⟩ : ∃ V, V = w.alloc (.cells #[.int .i64 c, .int .i64 e, .int .i64 q] 23) := ⟨_, rfl⟩
  have X0 := Lib.hid (show XAt W0 w.heap.size c e q from hW0 ▸ xat_new w c e q)
  have B0 := Lib.hid (show Below w.heap.size w W0 from hW0 ▸ (Below.refl _ _).alloc (Nat.le_refl _) _)
  have HW0 := Lib.hid hW0
  clear hW0
  unfold txP
  cases hm : mayX c e q with
  | false =>
    rw [hm] at HM
    rw [if_neg (by simp)]
    have HM := Lib.hid HM
    go_enter Tryz.func30, Tryz.ntmps30
    go_wp2_with (first | (go_at_call 37; rw [← HW0.out]; refine (HM.out _).mono ?_; rintro e1 V ⟨rfl, b1⟩) | fail)
    go_ret2
    exact ⟨rfl, below_step B0.out b1⟩
  | true =>
    obtain ⟨h1, h2, h3⟩ := mayX_iff.1 hm
    have N1 := Lib.hid (fun V => rnum12_any c (by omega) (by omega) V)
    have N2 := Lib.hid (fun V => rnum12_any e (by omega) (by omega) V)
    have N3 := Lib.hid (fun V => rnum12_any q (by omega) (by omega) V)
    have HR : ∀ bo V, TxtRow V bo [numT c, numT e, numT q] → Calls Tryz.prog 32 #[.slice bo 3 3] V fun x w' => x = .returned (.tuple #[.string (tb (txnT c e q)), .int .i64 0]) ∧ Below V.heap.size V w' := fun bo V hV => by
      have h := rrow6_any [numT c, numT e, numT q] bo 3 (by simp) (fun x hx => by
        simp only [List.mem_cons, List.not_mem_nil, or_false] at hx
        rcases hx with rfl | rfl | rfl
        · have := numT_size h1.1 (by omega); omega
        · have := numT_size (v := e) (by omega) (by omega); omega
        · have := numT_size (v := q) (by omega) (by omega); omega) V hV
      rw [show [numT c, numT e, numT q].map bl = txnL c e q from rfl, (txn_ok hm).1] at h
      exact h
    have HR := Lib.hid HR
    rw [hm] at HM
    rw [if_pos rfl, show st2 (txnT c e q, 0) = .tuple #[.string (tb (txnT c e q)), .int .i64 0] from rfl]
    have HM := Lib.hid HM
    have HCE : Hid (∀ V, XAt V w.heap.size c e q → V.cell? ⟨w.heap.size, 0, none⟩ = some (.int .i64 c) ∧ V.cell? ⟨w.heap.size, 1, none⟩ = some (.int .i64 e) ∧ V.cell? ⟨w.heap.size, 2, none⟩ = some (.int .i64 q)) := Lib.hid (fun V h => ⟨h.cells.1, h.cells.2.1, h.cells.2.2.1⟩)
    clear hm h1 h2 h3
    generalize tb (txnT c e q) = res at *
    generalize numT c = t1 at *
    generalize numT e = t2 at *
    generalize numT q = t3 at *
    go_enter Tryz.func30, Tryz.ntmps30
    go_wp2_with (first | (go_at_call 37; rw [← HW0.out]; refine (HM.out _).mono ?_; rintro e1 V ⟨rfl, b1⟩) | fail)
    have XX := Lib.hid ((X0.out.below b1).below (drew12 V))
    have BB := Lib.hid (below_step (below_step B0.out b1) (drew12 V))
    have KS := HCE.out _ XX.out
    clear b1
    refine wp_region_held_drew (S := fun W => W.cell? ⟨w.heap.size, 0, none⟩ = some (.int .i64 c) ∧ W.cell? ⟨w.heap.size, 1, none⟩ = some (.int .i64 e) ∧ W.cell? ⟨w.heap.size, 2, none⟩ = some (.int .i64 q)) (by kernel_rfl) (by first | assumption | exact KS) (fun hHeld => ?_)
    generalize V.drew = wz at *
    refine wpAnyH_take (i := 0) (oi := { dst := some 7, op := Op.fieldAddr 23 (Operand.tmp 1) 0, type := 0, pos := "ref.go:41", after := #[], guard := none }) (v := ?_) rfl (by kernel_rfl) (by kernel_rfl) (by kernel_rfl) (fun _ _ _ h => h) (Or.inl ⟨by rfl, ?_⟩) (by assumption) ?_
    rotate_left 1
    · (intro w hSw; (try dsimp only at hSw); go_simp; try with_reducible rfl)
    (try simp only [Act.put, List.setIfInBounds_toArray, List.set_cons_zero, List.set_cons_succ])
    refine wpAnyH_take (i := 1) (oi := { dst := some 8, op := Op.load 3 (Operand.tmp 7), type := 3, pos := "ref.go:41", after := #[{ on := 0, ground := Ground.data }], guard := none }) (v := ?_) rfl (by kernel_rfl) (by kernel_rfl) (by kernel_rfl) (fun _ _ _ h => h) (Or.inl ⟨by rfl, ?_⟩) (by assumption) ?_
    rotate_left 1
    · (intro w hSw; (try dsimp only at hSw); go_simp; try with_reducible rfl)
    (try simp only [Act.put, List.setIfInBounds_toArray, List.set_cons_zero, List.set_cons_succ])
    refine wpAnyH_take (i := 3) (oi := { dst := some 10, op := Op.fieldAddr 23 (Operand.tmp 1) 1, type := 0, pos := "ref.go:41", after := #[], guard := none }) (v := ?_) rfl (by kernel_rfl) (by kernel_rfl) (by kernel_rfl) (fun _ _ _ h => h) (Or.inl ⟨by rfl, ?_⟩) (by assumption) ?_
    rotate_left 1
    · (intro w hSw; (try dsimp only at hSw); go_simp; try with_reducible rfl)
    (try simp only [Act.put, List.setIfInBounds_toArray, List.set_cons_zero, List.set_cons_succ])
    refine wpAnyH_take (i := 4) (oi := { dst := some 11, op := Op.load 3 (Operand.tmp 10), type := 3, pos := "ref.go:41", after := #[{ on := 3, ground := Ground.data }], guard := none }) (v := ?_) rfl (by kernel_rfl) (by kernel_rfl) (by kernel_rfl) (fun _ _ _ h => h) (Or.inl ⟨by rfl, ?_⟩) (by assumption) ?_
    rotate_left 1
    · (intro w hSw; (try dsimp only at hSw); go_simp; try with_reducible rfl)
    (try simp only [Act.put, List.setIfInBounds_toArray, List.set_cons_zero, List.set_cons_succ])
    refine wpAnyH_take (i := 6) (oi := { dst := some 13, op := Op.fieldAddr 23 (Operand.tmp 1) 2, type := 0, pos := "ref.go:41", after := #[], guard := none }) (v := ?_) rfl (by kernel_rfl) (by kernel_rfl) (by kernel_rfl) (fun _ _ _ h => h) (Or.inl ⟨by rfl, ?_⟩) (by assumption) ?_
    rotate_left 1
    · (intro w hSw; (try dsimp only at hSw); go_simp; try with_reducible rfl)
    (try simp only [Act.put, List.setIfInBounds_toArray, List.set_cons_zero, List.set_cons_succ])
    refine wpAnyH_take (i := 7) (oi := { dst := some 14, op := Op.load 3 (Operand.tmp 13), type := 3, pos := "ref.go:41", after := #[{ on := 6, ground := Ground.data }], guard := none }) (v := ?_) rfl (by kernel_rfl) (by kernel_rfl) (by kernel_rfl) (fun _ _ _ h => h) (Or.inl ⟨by rfl, ?_⟩) (by assumption) ?_
    rotate_left 1
    · (intro w hSw; (try dsimp only at hSw); go_simp; try with_reducible rfl)
    (try simp only [Act.put, List.setIfInBounds_toArray, List.set_cons_zero, List.set_cons_succ])
    refine wpAnyH_ready (rs := [2]) (by kernel_rfl) (by simp) ?_
    refine AllReadyH.cons (o := { dst := some 9, op := Op.call { callee := Callee.value (Operand.func 76), args := #[Operand.tmp 8], argTypes := #[3] }, type := 9, pos := "ref.go:41", after := #[{ on := 1, ground := Ground.data }], guard := none }) rfl (fun K hK => ?_) AllReadyH.nil
    go_simp
    refine (N1.out _).mono ?_; rintro e w1 ⟨rfl, b⟩
    have XX := Lib.hid (XX.out.below b)
    have BB := Lib.hid (below_step BB.out b)
    clear b
    refine hK.out _ _ (HCE.out _ XX.out) (fun hHeld => ?_)
    clear hK K
    (try simp only [Act.put, List.setIfInBounds_toArray, List.set_cons_zero, List.set_cons_succ])
    refine wpAnyH_ready (rs := [5]) (by kernel_rfl) (by simp) ?_
    refine AllReadyH.cons (o := { dst := some 12, op := Op.call { callee := Callee.value (Operand.func 76), args := #[Operand.tmp 11], argTypes := #[3] }, type := 9, pos := "ref.go:41", after := #[{ on := 4, ground := Ground.data }, { on := 2, ground := Ground.chain }], guard := none }) rfl (fun K hK => ?_) AllReadyH.nil
    go_simp
    refine (N2.out _).mono ?_; rintro e w2 ⟨rfl, b⟩
    have XX := Lib.hid (XX.out.below b)
    have BB := Lib.hid (below_step BB.out b)
    clear b
    refine hK.out _ _ (HCE.out _ XX.out) (fun hHeld => ?_)
    clear hK K
    (try simp only [Act.put, List.setIfInBounds_toArray, List.set_cons_zero, List.set_cons_succ])
    refine wpAnyH_ready (rs := [8]) (by kernel_rfl) (by simp) ?_
    refine AllReadyH.cons (o := { dst := some 15, op := Op.call { callee := Callee.value (Operand.func 76), args := #[Operand.tmp 14], argTypes := #[3] }, type := 9, pos := "ref.go:41", after := #[{ on := 7, ground := Ground.data }, { on := 5, ground := Ground.chain }], guard := none }) rfl (fun K hK => ?_) AllReadyH.nil
    go_simp
    refine (N3.out _).mono ?_; rintro e w3 ⟨rfl, b⟩
    have XX := Lib.hid (XX.out.below b)
    have BB := Lib.hid (below_step BB.out b)
    clear b
    refine hK.out _ _ (HCE.out _ XX.out) (fun hHeld => ?_)
    clear hK K
    (try simp only [Act.put, List.setIfInBounds_toArray, List.set_cons_zero, List.set_cons_succ])
    refine wpAnyH_ready (rs := [9]) (by kernel_rfl) (by simp) ?_
    refine AllReadyH.cons (o := { dst := some 16, op := Op.buildSlice 53 3 #[(0, Operand.tmp 9), (1, Operand.tmp 12), (2, Operand.tmp 15)], type := 53, pos := "ref.go:41", after := #[{ on := 2, ground := Ground.data }, { on := 5, ground := Ground.data }, { on := 8, ground := Ground.data }], guard := none }) rfl (fun K hK => ?_) AllReadyH.nil
    go_simp
    obtain ⟨W4, hW4⟩ : ∃ V, V = w3.alloc (.cells #[.string t1, .string t2, .string t3] 9) := ⟨_, rfl⟩
    have ba : Below w3.heap.size w3 W4 := by rw [hW4]; exact (Below.refl _ _).alloc (Nat.le_refl _) _
    have T3 := Lib.hid (show TxtRow W4 (some ⟨w3.heap.size, 0, none⟩) [t1, t2, t3] from hW4 ▸ txt_three w3 t1 t2 t3)
    have XX := Lib.hid (XX.out.below ba)
    have BB := Lib.hid (below_step BB.out ba)
    rw [← hW4]
    clear ba hW4
    refine hK.out _ _ (HCE.out _ XX.out) (fun hHeld => ?_)
    clear hK K
    (try simp only [Act.put, List.setIfInBounds_toArray, List.set_cons_zero, List.set_cons_succ])
    refine wpAnyH_ready (rs := [10]) (by kernel_rfl) (by simp) ?_
    refine AllReadyH.cons (o := { dst := some 17, op := Op.call { callee := Callee.value (Operand.func 32), args := #[Operand.tmp 16], argTypes := #[53] }, type := 30, pos := "ref.go:41", after := #[{ on := 9, ground := Ground.data }, { on := 8, ground := Ground.chain }], guard := none }) rfl (fun K hK => ?_) AllReadyH.nil
    go_simp
    refine (HR.out _ _ T3.out).mono ?_; rintro e w5 ⟨rfl, b⟩
    have XX := Lib.hid (XX.out.below b)
    have BB := Lib.hid (below_step BB.out b)
    clear b
    refine hK.out _ _ (HCE.out _ XX.out) (fun hHeld => ?_)
    clear hK K
    (try simp only [Act.put, List.setIfInBounds_toArray, List.set_cons_zero, List.set_cons_succ])
    refine wpAnyH_take (i := 11) (oi := { dst := some 18, op := Op.extract (Operand.tmp 17) 0, type := 9, pos := "ref.go:41", after := #[{ on := 10, ground := Ground.data }], guard := none }) (v := ?_) rfl (by kernel_rfl) (by kernel_rfl) (by kernel_rfl) (fun _ _ _ h => h) (Or.inl ⟨by rfl, ?_⟩) (by assumption) ?_
    rotate_left 1
    · (intro w hSw; (try dsimp only at hSw); go_simp; try with_reducible rfl)
    (try simp only [Act.put, List.setIfInBounds_toArray, List.set_cons_zero, List.set_cons_succ])
    refine wpAnyH_take (i := 12) (oi := { dst := some 19, op := Op.extract (Operand.tmp 17) 1, type := 29, pos := "ref.go:41", after := #[{ on := 10, ground := Ground.data }], guard := none }) (v := ?_) rfl (by kernel_rfl) (by kernel_rfl) (by kernel_rfl) (fun _ _ _ h => h) (Or.inl ⟨by rfl, ?_⟩) (by assumption) ?_
    rotate_left 1
    · (intro w hSw; (try dsimp only at hSw); go_simp; try with_reducible rfl)
    (try simp only [Act.put, List.setIfInBounds_toArray, List.set_cons_zero, List.set_cons_succ])
    refine wpAnyH_take (i := 13) (oi := { dst := some 2, op := Op.assign (Operand.tmp 18), type := 9, pos := "ref.go:41", after := #[{ on := 11, ground := Ground.data }, { on := 10, ground := Ground.chain }, { on := 0, ground := Ground.phase }, { on := 1, ground := Ground.phase }, { on := 2, ground := Ground.phase }, { on := 3, ground := Ground.phase }, { on := 4, ground := Ground.phase }, { on := 5, ground := Ground.phase }, { on := 6, ground := Ground.phase }, { on := 7, ground := Ground.phase }, { on := 8, ground := Ground.phase }, { on := 9, ground := Ground.phase }, { on := 10, ground := Ground.phase }, { on := 11, ground := Ground.phase }, { on := 12, ground := Ground.phase }], guard := none }) (v := ?_) rfl (by kernel_rfl) (by kernel_rfl) (by kernel_rfl) (fun _ _ _ h => h) (Or.inl ⟨by rfl, ?_⟩) (by assumption) ?_
    rotate_left 1
    · (intro w hSw; (try dsimp only at hSw); go_simp; try with_reducible rfl)
    (try simp only [Act.put, List.setIfInBounds_toArray, List.set_cons_zero, List.set_cons_succ])
    refine wpAnyH_take (i := 14) (oi := { dst := some 3, op := Op.assign (Operand.tmp 19), type := 29, pos := "ref.go:41", after := #[{ on := 12, ground := Ground.data }, { on := 13, ground := Ground.chain }, { on := 0, ground := Ground.phase }, { on := 1, ground := Ground.phase }, { on := 2, ground := Ground.phase }, { on := 3, ground := Ground.phase }, { on := 4, ground := Ground.phase }, { on := 5, ground := Ground.phase }, { on := 6, ground := Ground.phase }, { on := 7, ground := Ground.phase }, { on := 8, ground := Ground.phase }, { on := 9, ground := Ground.phase }, { on := 10, ground := Ground.phase }, { on := 11, ground := Ground.phase }, { on := 12, ground := Ground.phase }, { on := 13, ground := Ground.phase }], guard := none }) (v := ?_) rfl (by kernel_rfl) (by kernel_rfl) (by kernel_rfl) (fun _ _ _ h => h) (Or.inl ⟨by rfl, ?_⟩) (by assumption) ?_
    rotate_left 1
    · (intro w hSw; (try dsimp only at hSw); go_simp; try with_reducible rfl)
    (try simp only [Act.put, List.setIfInBounds_toArray, List.set_cons_zero, List.set_cons_succ])
    refine wpAnyH_done (by kernel_rfl) ?_ _
    go_wp2_with fail
    go_ret2
    exact ⟨rfl, BB.out⟩
theorem rparts12_any (t : ByteArray) (ht : t.size ≤ 281474976710656) (w : World) :
    Calls Tryz.prog 51 #[.string t] w fun e w' => ∃ ao cap, e = .returned (.tuple #[.slice ao (partsB t).length cap, .bool (partsP (bl t)).2]) ∧ (partsB t).length ≤ cap ∧ TxtRow w' ao (partsB t) ∧ Below w.heap.size w w' := by
  refine (rparts6_any t ht w).mono ?_
  rintro e w' ⟨v, L, rfl, hL, hp, hb⟩
  obtain ⟨ao, cap, rfl, hc, hr, hB⟩ := own_shape12 hL
  have e := parts_is hp
  rw [← e]
  exact ⟨ao, cap, rfl, hc, hr, hb⟩
theorem rnumr_any (s : ByteArray) (hs : s.size ≤ 281474976710656) (w : World) : Calls Tryz.prog 55 #[.string s] w fun e w' => e = .returned (.tuple #[.int .i64 ((rdN s).getD 0), .bool (rdN s).isSome]) ∧ Below w.heap.size w w' := by
  refine (rreadnum6_any s hs w).mono ?_
  rintro e w' ⟨rfl, hb⟩
  refine ⟨?_, hb⟩
  unfold rdN nb2
  by_cases h : (readnumP (bl s)).2 = true
  · rw [if_pos h, h]; rfl
  · rw [if_neg h]
    have h0 : readnumP (bl s) = (0, false) := by
      unfold readnumP at h ⊢
      split
      · rename_i k; rw [if_pos k] at h; exact absurd rfl h
      · rfl
    rw [h0]; rfl
end Go.Proofs.YtbdlegjklfkdmaaGreatDoor.Pl
