/- The hash of a text by reckoning: the same as of the definitions, step by step, each number reckoned once. -/
import Derived.Test.YtogadffbnoinmaaDoorShaIdx
import Derived.KernelRfl
namespace Go.Proofs.YtogadffbnoinmaaDoor.Pl

/-- k of x, x reckoned first. -/
noncomputable def seqN {α : Type} (x : Nat) (k : Nat → α) : α := Nat.rec (k 0) (fun n _ => k (Nat.succ n)) x
theorem seqN_eq {α : Type} (x : Nat) (k : Nat → α) : seqN x k = k x := by cases x <;> rfl
noncomputable def schedS : Nat → List Nat → List Nat
  | 0, l => l
  | n + 1, l => seqN (wnext (l.getD 15 0) (l.getD 14 0) (l.getD 6 0) (l.getD 1 0)) fun v => schedS n (v :: l)
theorem rev_at (l : List Nat) (i : Nat) (h : i < l.length) : l.reverse.getD i 0 = l.getD (l.length - 1 - i) 0 := by
  rw [List.getD_eq_getElem?_getD, List.getElem?_reverse h, List.getD_eq_getElem?_getD]
theorem schedS_eq (B : List Nat) : ∀ (n k : Nat), schedS n (sched B k).reverse = (sched B (k + n)).reverse
  | 0, k => rfl
  | n + 1, k => by
    have hl := sched_length B k
    rw [schedS, seqN_eq, rev_at _ 15 (by omega), rev_at _ 14 (by omega), rev_at _ 6 (by omega), rev_at _ 1 (by omega), hl]
    rw [show 16 + k - 1 - 15 = k by omega, show 16 + k - 1 - 14 = k + 1 by omega, show 16 + k - 1 - 6 = k + 9 by omega, show 16 + k - 1 - 1 = k + 14 by omega]
    have := schedS_eq B n (k + 1)
    rw [show k + 1 + n = k + (n + 1) by omega, sched, List.reverse_append, List.reverse_cons, List.reverse_nil, List.nil_append, List.cons_append, List.nil_append] at this
    exact this
noncomputable def rnS : List Nat → List Nat → S8 → S8
  | k :: ks, x :: xs, s => seqN (T1 s.e s.f s.g s.h k x) fun t1 => seqN (add32 t1 (T2 s.a s.b s.c)) fun a => seqN (add32 s.d t1) fun e => rnS ks xs ⟨a, s.a, s.b, s.c, e, s.e, s.f, s.g⟩
  | _, _, s => s
theorem drop_at (l : List Nat) (t : Nat) (h : t < l.length) : l.drop t = l.getD t 0 :: l.drop (t + 1) := by
  rw [List.drop_eq_getElem_cons h, List.getD_eq_getElem?_getD, List.getElem?_eq_getElem h, Option.getD_some]
theorem rnS_eq (l : List Nat) (s : S8) (hl : l.length = 64) : ∀ (n t : Nat), t + n = 64 → rnS (KL.drop t) (l.drop t) (rn l s t) = rn l s (t + n)
  | 0, t, h => by
    rw [List.drop_of_length_le (by rw [KL_length]; omega)]
    rfl
  | n + 1, t, h => by
    rw [drop_at KL t (by rw [KL_length]; omega), drop_at l t (by omega), rnS, seqN_eq, seqN_eq, seqN_eq]
    have := rnS_eq l s hl n (t + 1) (by omega)
    rw [show t + 1 + n = t + (n + 1) by omega, rn, rnd] at this
    exact this
noncomputable def addS (s r : S8) : S8 :=
  seqN (add32 s.a r.a) fun a => seqN (add32 s.b r.b) fun b => seqN (add32 s.c r.c) fun c => seqN (add32 s.d r.d) fun d => seqN (add32 s.e r.e) fun e => seqN (add32 s.f r.f) fun f => seqN (add32 s.g r.g) fun g => seqN (add32 s.h r.h) fun h => ⟨a, b, c, d, e, f, g, h⟩
/-- A block, reckoned. -/
noncomputable def procS (s : S8) (B : List Nat) : S8 := addS s (rnS KL (schedS 48 (sched B 0).reverse).reverse s)
theorem proc_eq (s : S8) (B : List Nat) : proc s B = procS s B := by
  have h1 : (schedS 48 (sched B 0).reverse).reverse = wds B := by rw [schedS_eq B 48 0, List.reverse_reverse, wds, shut_eq, Nat.zero_add]
  have h2 : rnS KL (wds B) s = rnAll (wds B) s := by
    have := rnS_eq (wds B) s (wds_length B) 64 0 (by omega)
    rw [List.drop_zero, List.drop_zero, Nat.zero_add, rn] at this
    rw [this, rnAll, shut_eq]
  rw [procS, h1, h2, addS, proc]
  simp only [seqN_eq]
end Go.Proofs.YtogadffbnoinmaaDoor.Pl
