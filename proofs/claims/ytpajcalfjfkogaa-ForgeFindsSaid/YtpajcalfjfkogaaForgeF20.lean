/- The program's own run of steps: the map of what steps of each kind do; whether a step may be. -/
import Derived.Test.YtpajcalfjfkogaaForgeF19
import Derived.Test.YtpajcalfjfkogaaForgeF4
namespace Go.Proofs.Ytpajcalfjfkogaa.Pl
open Go.RowKit Go.Maps

def doT (r : Nat) : List (Lit × Value) := [(.int .u8 1, .agg #[.int .i64 0, .bool true, .bool false, .bool false, .func (.func 63) #[ptr11 r] #[]]), (.int .u8 2, .agg #[.int .i64 0, .bool false, .bool true, .bool false, .func (.func 64) #[ptr11 r] #[]]), (.int .u8 3, .agg #[.int .i64 1, .bool true, .bool false, .bool false, .func (.func 65) #[ptr11 r] #[]]), (.int .u8 4, .agg #[.int .i64 1, .bool false, .bool false, .bool false, .func (.func 66) #[ptr11 r] #[]]), (.int .u8 5, .agg #[.int .i64 2, .bool false, .bool false, .bool false, .func (.func 67) #[ptr11 r] #[]]), (.int .u8 6, .agg #[.int .i64 0, .bool false, .bool false, .bool true, .func (.func 68) #[ptr11 r] #[]]), (.int .u8 7, .agg #[.int .i64 1, .bool false, .bool false, .bool false, .func (.func 69) #[ptr11 r] #[]]), (.int .u8 8, .agg #[.int .i64 2, .bool false, .bool false, .bool false, .func (.func 70) #[ptr11 r] #[]]), (.int .u8 9, .agg #[.int .i64 3, .bool false, .bool false, .bool false, .func (.func 71) #[ptr11 r] #[]])]
theorem keyed_u8 : Keyed Try.prog 5 := int_keyed Try.underlying5
theorem wf_u8 {f : Nat} (h : f ≤ 255) : (Lit.int .u8 (f : Int)).wf = true := by
  simp [Lit.wf, IntKind.min, IntKind.max, IntKind.signed, IntKind.bits]; omega
theorem key_u8 {f : Nat} (h : f ≤ 255) : keyOf Try.prog 5 (.int .u8 (f : Int)) = some (.int .u8 (f : Int)) := keyOf_int_mk Try.underlying5 (wf_u8 h)
theorem key_u8l {f : Int} (h : 0 ≤ f ∧ f ≤ 255) : keyOf Try.prog 5 (.int .u8 f) = some (.int .u8 f) := by
  obtain ⟨n, rfl⟩ := Int.eq_ofNat_of_zero_le h.1
  exact key_u8 (by omega)
theorem zero_do (w : World) : (zeroValue 75).run Try.prog w = .ok (.agg #[.int .i64 0, .bool false, .bool false, .bool false, .nilFunc]) w := by kernel_rfl
theorem below_turned11 {n m : Nat} {w w1 w2 : World} (hb : Below n w w1) (hn : n ≤ w1.heap.size) (h : w1.mapTurned w2 m) (hm : n ≤ m) : Below n w w2 := hb.trans ((Below.refl n w1).grown h.grown hn (fun j hj => by cases hj; exact hm))
set_option maxHeartbeats 8000000 in
set_option maxRecDepth 100000 in
theorem doings11_any (r : Nat) (w : World) : Calls Try.prog 39 #[ptr11 r] w fun e w' => (∃ m, e = .returned (.map (some m)) ∧ MapV w' 5 m (doT r)) ∧ Below w.heap.size w w' := by
  have hmm := @run_makeMap Try.prog
  have M0 := mapV_new w 5
  have B0 : Below w.heap.size w (w.alloc (.map #[] 0)) := (Below.refl _ _).alloc (Nat.le_refl _) _
  obtain ⟨w1, r1, M1, t1⟩ := M0.store (by simp) keyed_u8 Try.underlying71 (.int .u8 1) (.agg #[.int .i64 0, .bool true, .bool false, .bool false, .func (.func 63) #[ptr11 r] #[]]) (.int .u8 1) (key_u8l (by decide)) trivial (by simp)
  have B1 := below_turned11 B0 B0.size t1 (Nat.le_refl _)
  obtain ⟨w2, r2, M2, t2⟩ := M1.store (by simp) keyed_u8 Try.underlying71 (.int .u8 2) (.agg #[.int .i64 0, .bool false, .bool true, .bool false, .func (.func 64) #[ptr11 r] #[]]) (.int .u8 2) (key_u8l (by decide)) trivial (by simp)
  have B2 := below_turned11 B1 B1.size t2 (Nat.le_refl _)
  obtain ⟨w3, r3, M3, t3⟩ := M2.store (by simp) keyed_u8 Try.underlying71 (.int .u8 3) (.agg #[.int .i64 1, .bool true, .bool false, .bool false, .func (.func 65) #[ptr11 r] #[]]) (.int .u8 3) (key_u8l (by decide)) trivial (by simp)
  have B3 := below_turned11 B2 B2.size t3 (Nat.le_refl _)
  obtain ⟨w4, r4, M4, t4⟩ := M3.store (by simp) keyed_u8 Try.underlying71 (.int .u8 4) (.agg #[.int .i64 1, .bool false, .bool false, .bool false, .func (.func 66) #[ptr11 r] #[]]) (.int .u8 4) (key_u8l (by decide)) trivial (by simp)
  have B4 := below_turned11 B3 B3.size t4 (Nat.le_refl _)
  obtain ⟨w5, r5, M5, t5⟩ := M4.store (by simp) keyed_u8 Try.underlying71 (.int .u8 5) (.agg #[.int .i64 2, .bool false, .bool false, .bool false, .func (.func 67) #[ptr11 r] #[]]) (.int .u8 5) (key_u8l (by decide)) trivial (by simp)
  have B5 := below_turned11 B4 B4.size t5 (Nat.le_refl _)
  obtain ⟨w6, r6, M6, t6⟩ := M5.store (by simp) keyed_u8 Try.underlying71 (.int .u8 6) (.agg #[.int .i64 0, .bool false, .bool false, .bool true, .func (.func 68) #[ptr11 r] #[]]) (.int .u8 6) (key_u8l (by decide)) trivial (by simp)
  have B6 := below_turned11 B5 B5.size t6 (Nat.le_refl _)
  obtain ⟨w7, r7, M7, t7⟩ := M6.store (by simp) keyed_u8 Try.underlying71 (.int .u8 7) (.agg #[.int .i64 1, .bool false, .bool false, .bool false, .func (.func 69) #[ptr11 r] #[]]) (.int .u8 7) (key_u8l (by decide)) trivial (by simp)
  have B7 := below_turned11 B6 B6.size t7 (Nat.le_refl _)
  obtain ⟨w8, r8, M8, t8⟩ := M7.store (by simp) keyed_u8 Try.underlying71 (.int .u8 8) (.agg #[.int .i64 2, .bool false, .bool false, .bool false, .func (.func 70) #[ptr11 r] #[]]) (.int .u8 8) (key_u8l (by decide)) trivial (by simp)
  have B8 := below_turned11 B7 B7.size t8 (Nat.le_refl _)
  obtain ⟨w9, r9, M9, t9⟩ := M8.store (by simp) keyed_u8 Try.underlying71 (.int .u8 9) (.agg #[.int .i64 3, .bool false, .bool false, .bool false, .func (.func 71) #[ptr11 r] #[]]) (.int .u8 9) (key_u8l (by decide)) trivial (by simp)
  have B9 := below_turned11 B8 B8.size t9 (Nat.le_refl _)
  have HM := Lib.hid M9
  have HB := Lib.hid B9
  clear M0 B0 M1 B1 M2 B2 M3 B3 M4 B4 M5 B5 M6 B6 M7 B7 M8 B8 M9 B9 t1 t2 t3 t4 t5 t6 t7 t8 t9
  go_enter Try.func39, Try.ntmps39
  go_wp2_with fail
  go_ret
  exact ⟨⟨_, rfl, HM.out⟩, HB.out⟩
/-- Which fields a kind has, in the program's words. -/
def refsOf (f : Nat) : Nat := if f = 9 then 3 else if f = 5 ∨ f = 8 then 2 else if f = 3 ∨ f = 4 ∨ f = 7 then 1 else 0
theorem may_fits {s : Stp} {k : Nat} (h : 1 ≤ s.fn ∧ s.fn ≤ 9) : maySt s k = fitsP (refsOf s.fn) (namesN s.fn) (namesT s.fn) (namesL s.fn) s k := by
  have hf : s.fn = 1 ∨ s.fn = 2 ∨ s.fn = 3 ∨ s.fn = 4 ∨ s.fn = 5 ∨ s.fn = 6 ∨ s.fn = 7 ∨ s.fn = 8 ∨ s.fn = 9 := by omega
  unfold maySt fitsP refsP listP flagP
  rcases hf with e | e | e | e | e | e | e | e | e <;> rw [e] <;> simp only [namesK, namesA, namesB, namesC, namesN, namesT, namesL, refsOf] <;> simp [Bool.and_comm, Bool.and_assoc, Bool.and_left_comm]
theorem may_none11 {s : Stp} {k : Nat} (h : ¬ (1 ≤ s.fn ∧ s.fn ≤ 9)) : maySt s k = false := by
  have : namesK s.fn = false := by
    rw [← Bool.not_eq_true]
    intro e
    simp only [namesK, Bool.and_eq_true, decide_eq_true_eq] at e
    exact h e
  simp [maySt, this]
def doF (f : Nat) : FuncId := if f = 1 then 63 else if f = 2 then 64 else if f = 3 then 65 else if f = 4 then 66 else if f = 5 then 67 else if f = 6 then 68 else if f = 7 then 69 else if f = 8 then 70 else 71
theorem do_in {f r : Nat} (h : 1 ≤ f ∧ f ≤ 9) : (Lit.int .u8 (f : Int), doV (refsOf f) (namesN f) (namesT f) (namesL f) (.func (doF f)) r) ∈ doT r := by
  have hf : f = 1 ∨ f = 2 ∨ f = 3 ∨ f = 4 ∨ f = 5 ∨ f = 6 ∨ f = 7 ∨ f = 8 ∨ f = 9 := by omega
  rcases hf with rfl | rfl | rfl | rfl | rfl | rfl | rfl | rfl | rfl <;> (unfold doT; simp [refsOf, namesN, namesT, namesL, doF])
theorem do_out {f r : Nat} (h : ¬ (1 ≤ f ∧ f ≤ 9)) : (Lit.int .u8 (f : Int)) ∉ (doT r).map Prod.fst := by
  unfold doT
  simp only [List.map_cons, List.map_nil, List.mem_cons, List.not_mem_nil, or_false, Lit.int.injEq, true_and]
  omega
end Go.Proofs.Ytpajcalfjfkogaa.Pl
