/- A region that draws its order, by what holds whatever has come up; inside a fence, also in a round. The places of a text of terms, one behind the other: where each begins, how deep it is, where its head ends, how many parts it has; plain mathematics alone. What term.isName answers. Rows of numbers as the cells of an array. What a law's statement asks behind its walk: the one result is true, and each argument reads as it did, where below the heap's old size nothing has turned. Whatever the parameters' types are. -/
import Derived.OrdersIn
import Derived.OwnWalkIn
import Derived.Test.YtkebfabmcajbmaaGreatKnowZ1
import Derived.Laws.RangeString
import Derived.Laws.RangeAny
import Derived.Lib.RuneBytes
import Derived.Laws.Cover4
import Derived.Lib.OthersKept
import Derived.Laws.OwnMore
import Derived.OwnWalk
import Derived.WalkKit
import Derived.Deep.WholeRow
import Derived.Test.YtkebfabmcajbmaaGreatProg
import Derived.ProofKit
import Derived.OpenShut
import Derived.Carry
import Derived.ChangeOld
namespace Go.Proofs.YtkebfabmcajbmaaGreat.Pl

def unlisted (l : List Bool) : Nat := (l.map fun b => if b then 0 else 1).sum
theorem unlisted_set : ∀ (l : List Bool) (i : Nat), l.getD i true = false → unlisted (l.set i true) + 1 = unlisted l
  | [], i, h => by simp at h
  | b :: l, 0, h => by
    simp at h; subst h
    simp [unlisted]; omega
  | b :: l, i + 1, h => by
    have ih := unlisted_set l i (by simpa using h)
    simp only [unlisted, List.set_cons_succ, List.map_cons, List.sum_cons] at ih ⊢
    omega
theorem unlisted_zero : ∀ (l : List Bool) (i : Nat), unlisted l = 0 → l.getD i true = true
  | [], i, _ => by simp
  | b :: l, 0, h => by
    cases b with
    | true => rfl
    | false => simp [unlisted] at h
  | b :: l, i + 1, h => by
    have h' : unlisted l = 0 := by
      simp only [unlisted, List.map_cons, List.sum_cons] at h ⊢
      omega
    simpa using unlisted_zero l i h'

variable {F : Fence} {n : Nat} {P : Program} {ops : Array Oper} {Q : Exit → Act → World → Prop} {md : Region.Mode}

theorem getD_list (a : Array Bool) (i : Nat) (d : Bool) : a.getD i d = a.toList.getD i d := by
  rw [Array.getD_eq_getD_getElem?, List.getD_eq_getElem?_getD, Array.getElem?_toList]

/-- What holds whatever has come up serves every order. -/
theorem wpAnyIn_inv (I : Array Bool → Act → World → Prop)
    (hstep : ∀ listed a w i, I listed a w → i ∈ Region.ready md ops listed → wpOpIn F n P ops Q i (I (listed.setIfInBounds i true)) a w)
    (hdone : ∀ listed a w, I listed a w → Region.ready md ops listed = [] → Q .normal a w) :
    ∀ (fuel : Nat) (listed : Array Bool) (a : Act) (w : World), unlisted listed.toList ≤ fuel → I listed a w → wpAnyIn F n P md ops Q fuel listed a w
  | 0, listed, a, w, hf, hI => by
    have h0 : Region.ready md ops listed = [] := by
      rw [List.eq_nil_iff_forall_not_mem]
      intro i hi
      have h1 := (mem_ready.1 hi).1
      rw [getD_list, unlisted_zero _ _ (by omega)] at h1
      cases h1
    exact ⟨h0, hdone _ _ _ hI h0⟩
  | fuel + 1, listed, a, w, hf, hI => by
    refine ⟨fun h0 => hdone _ _ _ hI h0, fun i hi => ?_⟩
    refine wpOpIn_mono (fun a' w' h => wpAnyIn_inv I hstep hdone fuel _ a' w' ?_ h) (hstep _ _ _ _ hI hi)
    have h1 := (mem_ready.1 hi).1
    rw [getD_list] at h1
    have h2 := unlisted_set listed.toList i h1
    rw [Array.toList_setIfInBounds]
    omega

/-- Every operation waits for earlier ones alone. -/
def backB (ops : Array Oper) : Bool := (List.range ops.size).all fun i => match ops[i]? with | some o => o.after.all (fun e => decide (e.on < i)) | none => true
theorem backB_spec (h : backB ops = true) {i : Nat} {o : Oper} (ho : ops[i]? = some o) : ∀ e ∈ o.after, e.on < i := by
  intro e he
  unfold backB at h
  have h1 := List.all_eq_true.1 h i (List.mem_range.2 (Array.getElem?_eq_some_iff.1 ho).1)
  simp only [ho] at h1
  have h2 := Array.all_eq_true_iff_forall_mem.1 h1 e he
  simpa using h2
/-- Where nothing may come up any more, everything has. -/
theorem all_listed {listed : Array Bool} (hb : backB ops = true) (hs : listed.size = ops.size) (hr : Region.ready md ops listed = []) : ∀ (k i : Nat), i < k → i < ops.size → listed.getD i true = true
  | 0, _, h, _ => by omega
  | k + 1, i, hk, hi => by
    cases hl : listed.getD i true with
    | true => rfl
    | false =>
      have hm : i ∈ Region.ready md ops listed := by
        refine mem_ready.2 ⟨hl, ops[i], Array.getElem?_eq_getElem hi, fun e he _ => ?_⟩
        have hlt := backB_spec hb (Array.getElem?_eq_getElem hi) e he
        have h1 := all_listed hb hs hr k e.on (by omega) (by omega)
        rw [Array.getD_eq_getD_getElem?, Array.getElem?_eq_getElem (by omega)] at h1 ⊢
        exact h1
      rw [hr] at hm
      cases hm

theorem dep {i : Nat} {listed : Array Bool} {o : Oper} (hi : i ∈ Region.ready md ops listed) (ho : ops[i]? = some o) (e : Edge) (he : e ∈ o.after) (hb : Region.binds md e = true) : listed.getD e.on false = true := by
  obtain ⟨_, o', ho', hall⟩ := mem_ready.1 hi
  rw [ho] at ho'
  cases ho'
  exact hall e he hb

/-- One operation that is carried out, what follows behind a variable. -/
theorem wpOpIn_want {i : Nat} {o : Oper} {a : Act} {w : World} {I : Act → World → Prop} (ho : ops[i]? = some o) (hw : Region.wanted o (yielded ops a.tmps) = true)
    (h : ∀ K : Act → World → Prop, (∀ a w, I a w → K a w) → o.wpIn F n P a w K Q) : wpOpIn F n P ops Q i I a w := by
  unfold wpOpIn
  simp only [ho, hw, if_true]
  exact h I (fun _ _ h => h)

/-- An append that is known to go through. -/
theorem wpOpIn_append {i : Nat} {o : Oper} {a : Act} {w w' : World} {v u v' : Value} {I : Act → World → Prop} (ho : ops[i]? = some o) (hg : Region.wanted o (yielded ops a.tmps) = true) (s x : Operand) (t : TypeId)
    (hop : o.op = Op.call { callee := Callee.builtin Builtin.append, args := #[s, x], argTypes := #[t, t] }) (hs : a.eval s = v) (hx : a.eval x = u) (hrun : (Builtin.append_ #[t, t] o.type #[v, u]).run P w = .ok v' w')
    (h : I (a.put o.dst v') w') : wpOpIn F n P ops Q i I a w := by
  unfold wpOpIn
  simp only [ho, hg, if_true]
  unfold Oper.wpIn
  refine ⟨?_, ?_⟩
  · simp [Oper.about, hop, resolve, Target.leads, Sem.run_pure]
  · rw [Oper.semAt_plain F _ _ (by rw [hop]; intro c hc'; cases hc')]
    simp [execOp, hop, resolve, invoke, builtin, hs, hx, hrun, Result.andThen, Oper.uponIn]
    exact h

end Go.Proofs.YtkebfabmcajbmaaGreat.Pl

namespace Go.Proofs.YtkebfabmcajbmaaGreat.Pl

structure Pl6 where
  at_ : Nat
  dep : Nat
  head : Nat
  parts : Nat

/-- Of so many terms, one behind the other. -/
def visL (vs : Nat → List Pl6 × Nat × Nat) : Nat → Nat → List Pl6 × Nat × Nat
  | 0, a => ([], a, 0)
  | k + 1, a => if (vs a).2.2 = 0 then ((vs a).1 ++ (visL vs k (vs a).2.1).1, (visL vs k (vs a).2.1).2) else ((vs a).1, 0, (vs a).2.2)
/-- Of the term at a place, that is no deeper than d below. -/
def visP (s : List UInt8) : Nat → Nat → List Pl6 × Nat × Nat
  | 0, _ => ([], 0, 60)
  | d + 1, a =>
    if (headP (s.drop a)).2.2 = 0 then
      (⟨a, 16 - d, a + (headP (s.drop a)).1, (headP (s.drop a)).2.1⟩ :: (visL (visP s d) (headP (s.drop a)).2.1 (a + (headP (s.drop a)).1)).1, (visL (visP s d) (headP (s.drop a)).2.1 (a + (headP (s.drop a)).1)).2)
    else ([], 0, (headP (s.drop a)).2.2)

/-- Where the places end, and what is wrong, is what reading tells. -/
theorem vis_read (s : List UInt8) : ∀ (d a : Nat), (visP s d a).2 = if (readP d (s.drop a)).2 = 0 then (a + (readP d (s.drop a)).1, 0) else (0, (readP d (s.drop a)).2) := by
  intro d
  induction d with
  | zero => intro a; simp [visP, readP]
  | succ d ih =>
    have loop : ∀ (k a : Nat), (visL (visP s d) k a).2 = if (loopP (readP d) k (s.drop a)).2 = 0 then (a + (loopP (readP d) k (s.drop a)).1, 0) else (0, (loopP (readP d) k (s.drop a)).2) := by
      intro k
      induction k with
      | zero => intro a; simp [visL, loopP]
      | succ k ihk =>
        intro a
        have h := ih a
        by_cases h0 : (readP d (s.drop a)).2 = 0
        · rw [if_pos h0] at h
          have h1 : (visP s d a).2.2 = 0 := by rw [h]
          have h2 : (visP s d a).2.1 = a + (readP d (s.drop a)).1 := by rw [h]
          rw [visL, if_pos h1, loopP, if_pos h0]
          simp only
          rw [ihk, h2, ← List.drop_drop]
          by_cases h3 : (loopP (readP d) k ((s.drop a).drop (readP d (s.drop a)).1)).2 = 0
          · rw [if_pos h3, if_pos h3]; simp [Nat.add_assoc]
          · rw [if_neg h3, if_neg h3]; exact (if_neg h3).symm
        · rw [if_neg h0] at h
          have h1 : (visP s d a).2.2 ≠ 0 := by rw [h]; exact h0
          rw [visL, if_neg h1, loopP, if_neg h0]
          simp only
          rw [if_neg h0, h]
    intro a
    by_cases h0 : (headP (s.drop a)).2.2 = 0
    · rw [visP, if_pos h0, readP, if_pos h0]
      simp only
      rw [loop, ← List.drop_drop]
      by_cases h3 : (loopP (readP d) (headP (s.drop a)).2.1 ((s.drop a).drop (headP (s.drop a)).1)).2 = 0
      · rw [if_pos h3, if_pos h3]; simp [Nat.add_assoc]
      · rw [if_neg h3, if_neg h3]; exact (if_neg h3).symm
    · rw [visP, if_neg h0, readP, if_neg h0]
      simp [h0]

theorem head_le {s : List UInt8} (h : (headP s).2.2 = 0) : (headP s).1 ≤ s.length := (head_front (s := s) (n := (headP s).1) (p := (headP s).2.1) (by rw [← h])).1
theorem head_le32 {s : List UInt8} (h : (headP s).2.2 = 0) : (headP s).2.1 ≤ 32 := by
  obtain ⟨c, hk⟩ := head_kind (head_front (s := s) (n := (headP s).1) (p := (headP s).2.1) (by rw [← h])).2
  cases hk <;> omega
/-- What every place is. -/
def okPl (s : List UInt8) (p : Pl6) : Prop := p.at_ ≤ s.length ∧ p.head ≤ s.length ∧ 1 ≤ p.dep ∧ p.dep ≤ 16 ∧ p.parts ≤ 32
theorem vis_ok (s : List UInt8) : ∀ (d a : Nat), d ≤ 16 → a ≤ s.length → (∀ p ∈ (visP s d a).1, okPl s p) ∧ ((visP s d a).2.2 = 0 → (visP s d a).2.1 ≤ s.length) := by
  intro d
  induction d with
  | zero => intro a _ _; simp [visP]
  | succ d ih =>
    intro a hd ha
    have loop : ∀ (k a : Nat), a ≤ s.length → (∀ p ∈ (visL (visP s d) k a).1, okPl s p) ∧ ((visL (visP s d) k a).2.2 = 0 → (visL (visP s d) k a).2.1 ≤ s.length) := by
      intro k
      induction k with
      | zero => intro a ha; simp [visL, ha]
      | succ k ihk =>
        intro a ha
        obtain ⟨i1, i2⟩ := ih a (by omega) ha
        rw [visL]
        split
        · rename_i h0
          obtain ⟨j1, j2⟩ := ihk (visP s d a).2.1 (i2 h0)
          refine ⟨?_, j2⟩
          intro p hp
          rcases List.mem_append.1 hp with hp | hp
          · exact i1 p hp
          · exact j1 p hp
        · rename_i h0
          exact ⟨i1, fun h => absurd h h0⟩
    rw [visP]
    split
    · rename_i h0
      have h1 := head_le h0
      have h2 := head_le32 h0
      rw [List.length_drop] at h1
      obtain ⟨j1, j2⟩ := loop (headP (s.drop a)).2.1 (a + (headP (s.drop a)).1) (by omega)
      refine ⟨?_, j2⟩
      intro p hp
      rcases List.mem_cons.1 hp with rfl | hp
      · exact ⟨ha, by show a + _ ≤ _; omega, by show 1 ≤ 16 - d; omega, by show 16 - d ≤ 16; omega, h2⟩
      · exact j1 p hp
    · rename_i h0
      exact ⟨by simp, fun h => absurd h h0⟩

/-- The last place's head is where all ends. -/
theorem vis_last (s : List UInt8) : ∀ (d a : Nat), (visP s d a).2.2 = 0 → ∃ q p, (visP s d a).1 = q ++ [p] ∧ p.head = (visP s d a).2.1 := by
  intro d
  induction d with
  | zero => intro a h; simp [visP] at h
  | succ d ih =>
    have loop : ∀ (k a : Nat), (visL (visP s d) (k + 1) a).2.2 = 0 → ∃ q p, (visL (visP s d) (k + 1) a).1 = q ++ [p] ∧ p.head = (visL (visP s d) (k + 1) a).2.1 := by
      intro k
      induction k with
      | zero =>
        intro a h
        rw [visL] at h ⊢
        split at h
        · rename_i h0
          rw [if_pos h0]
          obtain ⟨q, p, e1, e2⟩ := ih a h0
          exact ⟨q, p, by simp [visL, e1], by simp [visL, e2]⟩
        · rename_i h0
          exact absurd h h0
      | succ k ihk =>
        intro a h
        rw [visL] at h ⊢
        split at h
        · rename_i h0
          rw [if_pos h0]
          obtain ⟨q, p, e1, e2⟩ := ihk _ h
          exact ⟨(visP s d a).1 ++ q, p, by simp [e1], e2⟩
        · rename_i h0
          exact absurd h h0
    intro a h
    rw [visP] at h ⊢
    split at h
    · rename_i h0
      rw [if_pos h0]
      cases hk : (headP (s.drop a)).2.1 with
      | zero => exact ⟨[], ⟨a, 16 - d, a + (headP (s.drop a)).1, 0⟩, by simp [visL], by simp [visL]⟩
      | succ k =>
        rw [hk] at h
        obtain ⟨q, p, e1, e2⟩ := loop k _ h
        exact ⟨_ :: q, p, by simp [e1]; rfl, e2⟩
    · rename_i h0
      exact absurd h h0

/- The places of a tree, each with what stands there. -/
mutual
def offT : Nat → Nat → Tm → List (Pl6 × Tm)
  | a, D, .node h l => (⟨a, D, a + h.length, l.length⟩, .node h l) :: offs (a + h.length) (D + 1) l
def offs : Nat → Nat → List Tm → List (Pl6 × Tm)
  | _, _, [] => []
  | a, D, t :: l => offT a D t ++ offs (a + t.enc.length) D l
end
theorem offs_snd : ∀ t : Tm, ∀ a D, (offT a D t).map Prod.snd = t.places := by
  refine Tm.ind ?_
  intro h l ih a D
  have loop : ∀ m : List Tm, (∀ t ∈ m, t ∈ l) → ∀ a D, (offs a D m).map Prod.snd = placess m := by
    intro m
    induction m with
    | nil => intro _ a D; rfl
    | cons t m ihm =>
      intro hm a D
      rw [offs, List.map_append, ih t (hm t (List.mem_cons_self ..)), ihm (fun u hu => hm u (List.mem_cons_of_mem _ hu)), placess]
  rw [offT, List.map_cons, loop l (fun _ h => h), Tm.places]
/-- What reading a tree's bytes goes over. -/
theorem vis_tree (s : List UInt8) : ∀ t : Tm, t.good → ∀ d, t.deep ≤ d → d ≤ 16 → ∀ a rest, s.drop a = t.enc ++ rest → visP s d a = ((offT a (17 - d) t).map Prod.fst, a + t.enc.length, 0) := by
  refine Tm.ind ?_
  intro h l ih hg d hd hd16 a rest e
  simp only [Tm.good] at hg
  simp only [Tm.deep] at hd
  obtain ⟨d, rfl⟩ : ∃ k, d = k + 1 := ⟨d - 1, by omega⟩
  have loop : ∀ m : List Tm, (∀ t ∈ m, t ∈ l) → ∀ a rest, s.drop a = encs m ++ rest → visL (visP s d) m.length a = ((offs a (17 - d) m).map Prod.fst, a + (encs m).length, 0) := by
    intro m
    induction m with
    | nil => intro _ a rest _; simp [visL, offs, encs]
    | cons t m ihm =>
      intro hm a rest e
      have ht := hm t (List.mem_cons_self ..)
      rw [encs, List.append_assoc] at e
      have h1 := ih t ht (goods_mem hg.2 t ht) d (by have := deeps_mem ht; omega) (by omega) a _ e
      have e2 : s.drop (a + t.enc.length) = encs m ++ rest := by rw [← List.drop_drop, e, List.drop_left]
      have h2 := ihm (fun u hu => hm u (List.mem_cons_of_mem _ hu)) _ _ e2
      rw [List.length_cons, visL, h1, if_pos rfl]
      simp only
      rw [h2, offs, encs, List.map_append]
      simp [Nat.add_assoc]
  rw [Tm.enc_node, List.append_assoc] at e
  have e1 := hg.1 (encs l ++ rest)
  have e2 : s.drop (a + h.length) = encs l ++ rest := by rw [← List.drop_drop, e, List.drop_left]
  rw [visP, e, e1, if_pos rfl]
  simp only
  rw [loop l (fun _ h => h) _ _ e2, offT, Tm.enc_node]
  have hD : 17 - (d + 1) = 16 - d := by omega
  have hD2 : 17 - (d + 1) + 1 = 17 - d := by omega
  rw [hD2, hD, List.map_cons]
  simp [Nat.add_assoc]
/-- What stands at a place. -/
theorem offs_at (s : List UInt8) : ∀ t : Tm, ∀ a D rest, s.drop a = t.enc ++ rest → ∀ x ∈ offT a D t, ∃ r, s.drop x.1.at_ = x.2.enc ++ r := by
  refine Tm.ind ?_
  intro h l ih a D rest e
  have loop : ∀ m : List Tm, (∀ t ∈ m, t ∈ l) → ∀ a D rest, s.drop a = encs m ++ rest → ∀ x ∈ offs a D m, ∃ r, s.drop x.1.at_ = x.2.enc ++ r := by
    intro m
    induction m with
    | nil => intro _ a D rest _ x hx; simp [offs] at hx
    | cons t m ihm =>
      intro hm a D rest e x hx
      rw [encs, List.append_assoc] at e
      rw [offs] at hx
      rcases List.mem_append.1 hx with hx | hx
      · exact ih t (hm t (List.mem_cons_self ..)) a D _ e x hx
      · exact ihm (fun u hu => hm u (List.mem_cons_of_mem _ hu)) (a + t.enc.length) D rest (by rw [← List.drop_drop, e, List.drop_left]) x hx
  intro x hx
  rw [offT] at hx
  rcases List.mem_cons.1 hx with rfl | hx
  · exact ⟨rest, e⟩
  · rw [Tm.enc_node, List.append_assoc] at e
    exact loop l (fun _ h => h) _ _ rest (by rw [← List.drop_drop, e, List.drop_left]) x hx
theorem offs_dep : ∀ t : Tm, ∀ a D, ∀ x ∈ offT a D t, D ≤ x.1.dep := by
  refine Tm.ind ?_
  intro h l ih a D
  have loop : ∀ m : List Tm, (∀ t ∈ m, t ∈ l) → ∀ a D, ∀ x ∈ offs a D m, D ≤ x.1.dep := by
    intro m
    induction m with
    | nil => intro _ a D x hx; simp [offs] at hx
    | cons t m ihm =>
      intro hm a D x hx
      rw [offs] at hx
      rcases List.mem_append.1 hx with hx | hx
      · exact ih t (hm t (List.mem_cons_self ..)) a D x hx
      · exact ihm (fun u hu => hm u (List.mem_cons_of_mem _ hu)) _ D x hx
  intro x hx
  rw [offT] at hx
  rcases List.mem_cons.1 hx with rfl | hx
  · exact Nat.le_refl _
  · have := loop l (fun _ h => h) _ _ x hx; omega
/-- The parts are what stands one deeper. -/
theorem offs_parts (h : List UInt8) (l : List Tm) (a D : Nat) : ((offT a D (.node h l)).filter fun x => x.1.dep == D + 1).map Prod.snd = l := by
  have loop : ∀ m : List Tm, ∀ a, ((offs a (D + 1) m).filter fun x => x.1.dep == D + 1).map Prod.snd = m := by
    intro m
    induction m with
    | nil => intro a; rfl
    | cons t m ihm =>
      intro a
      obtain ⟨h', l'⟩ := t
      rw [offs, List.filter_append, List.map_append, ihm]
      rw [offT, List.filter_cons, if_pos (by simp)]
      have hz : (offs (a + h'.length) (D + 1 + 1) l').filter (fun x => x.1.dep == D + 1) = [] := by
        rw [List.filter_eq_nil_iff]
        intro x hx
        have h1 : D + 1 + 1 ≤ x.1.dep := by
          have h2 := offs_dep (.node h' l') a (D + 1) x (by rw [offT]; exact List.mem_cons_of_mem _ hx)
          have : ∀ m : List Tm, ∀ a E, ∀ x ∈ offs a E m, E ≤ x.1.dep := by
            intro m
            induction m with
            | nil => intro a E x hx; simp [offs] at hx
            | cons t m ihm =>
              intro a E x hx
              rw [offs] at hx
              rcases List.mem_append.1 hx with hx | hx
              · exact offs_dep t a E x hx
              · exact ihm _ E x hx
          exact this l' _ _ x hx
        simp <;> omega
      rw [hz]; simp
  rw [offT, List.filter_cons, if_neg (by simp), loop]
end Go.Proofs.YtkebfabmcajbmaaGreat.Pl

namespace Go.Proofs.YtkebfabmcajbmaaGreat.Pl
open Go.RowKit

theorem bl_at (s : ByteArray) (p : Nat) (h : p < s.size) : (bl s).getD p 0 = s[p]'h := by
  unfold bl
  rw [List.getD_eq_getElem?_getD, List.getElem?_eq_getElem (by rw [Array.length_toList]; exact h)]
  simp
  rfl

set_option maxHeartbeats 4000000 in
set_option maxRecDepth 100000 in
theorem isname_any (s : ByteArray) (hs : s.size ≤ 281474976710656) (w : World) :
    Calls Tryz.prog 51 #[.string s] w fun e w' => e = .returned (.bool (nameOK (bl s))) ∧ Below w.heap.size w w' := by
  obtain ⟨z, hz⟩ : ∃ z, z = nameOK (bl s) := ⟨_, rfl⟩
  rw [← hz]
  by_cases h0 : s.size = 0
  · have HZ : Hid (z = false) := Lib.hid (by rw [hz, bl_nil h0]; rfl)
    obtain rfl : s = ⟨#[]⟩ := bl_inj (bl_nil h0)
    clear hz h0 hs
    go_enter Tryz.func51, Tryz.ntmps51
    go_wp2_with fail
    go_loopw [] (fun wr => Hid (wr.heap[w.heap.size]? = some (.stringIter ⟨#[]⟩ 0)) ∧ Hid (Below w.heap.size w wr)) (fun _ => 0)
    case atStart => exact ⟨Lib.hid (World.iter_heap w _ 0), Lib.hid ((Below.refl _ w).alloc (Nat.le_refl _) _)⟩
    case round =>
      obtain ⟨hit, hbw⟩ := hrel
      have hnx : ∀ ty, (Instr.next (.pointer (some ⟨w.heap.size, 0, none⟩)) true ty).run Tryz.prog wr = _ := fun ty => Lib.run_next_end_at wr w.heap.size ⟨#[]⟩ 0 ty hit.out (by decide)
      go_wp2_with fail
      go_ret
      exact ⟨ret6_bool HZ.out.symm, hbw.out⟩
  · have hne : s ≠ ⟨#[]⟩ := fun e => h0 (by rw [e]; rfl)
    obtain ⟨g1, g2⟩ := str6_ne hne
    have g3 : s.toList.isEmpty = false := by
      rw [Lib.toList_data, List.isEmpty_eq_false_iff]
      intro e
      exact h0 (by rw [size_bl]; unfold bl; rw [e]; rfl)
    have HB : Hid (∀ k, k < s.size → nameB ((bl s).getD k 0) = false → z = false) := Lib.hid (fun k hk hb => by
      rw [hz]
      cases e : nameOK (bl s) with
      | false => rfl
      | true => rw [((nameOK_iff _).1 e).2 k (by rw [bl_length]; exact hk)] at hb; exact absurd hb (by decide))
    have HE : Hid ((∀ j, j < s.size → nameB ((bl s).getD j 0) = true) → z = true) := Lib.hid (fun h => by
      rw [hz, nameOK_iff]
      refine ⟨fun e => h0 (by rw [size_bl, e]; rfl), fun j hj => h j (by rw [bl_length] at hj; exact hj)⟩)
    clear hz h0 hne
    go_enter Tryz.func51, Tryz.ntmps51
    go_wp2_with fail
    go_loopw [] (fun wr => ∃ pos : Nat, Hid (pos ≤ s.size) ∧ Hid (wr.heap[w.heap.size]? = some (.stringIter s pos)) ∧ Hid (∀ j, j < pos → nameB ((bl s).getD j 0) = true) ∧ Hid (Below w.heap.size w wr)) (fun wr => s.size - wr.iterPos w.heap.size)
    case atStart => exact ⟨0, Lib.hid (Nat.zero_le _), Lib.hid (World.iter_heap w s 0), Lib.hid (fun j hj => absurd hj (Nat.not_lt_zero j)), Lib.hid ((Below.refl _ w).alloc (Nat.le_refl _) _)⟩
    case round =>
      obtain ⟨pos, hps, hit, hch, hbw⟩ := hrel
      by_cases hp : pos < s.size
      · have hd : Hid (1 ≤ (Utf8.decode s pos).2 ∧ ((nameB ((bl s).getD pos 0) = true ∧ (Utf8.decode s pos).1 = ((bl s).getD pos 0).toNat ∧ (Utf8.decode s pos).2 = 1) ∨ (nameB ((bl s).getD pos 0) = false ∧ ((Utf8.decode s pos).1 = ((bl s).getD pos 0).toNat ∨ 128 ≤ (Utf8.decode s pos).1)))) := Lib.hid (by
          rw [bl_at s pos hp]
          by_cases ha : (s[pos]'hp).toNat < 128
          · rw [decode_ascii s pos hp ha]
            cases hnb : nameB (s[pos]'hp) with
            | true => exact ⟨Nat.le_refl _, .inl ⟨rfl, rfl, rfl⟩⟩
            | false => exact ⟨Nat.le_refl _, .inr ⟨rfl, .inl rfl⟩⟩
          · have hh := decode_high s pos hp (by omega)
            refine ⟨hh.2, .inr ⟨?_, .inr hh.1⟩⟩
            unfold nameB
            exact decide_eq_false (by omega))
        have hwd : Hid (1 ≤ (Utf8.decode s pos).2) := Lib.hid hd.out.1
        have hit2 := Lib.hid (Lib.iterAt_heap wr w.heap.size s pos (pos + (Utf8.decode s pos).2) hit.out)
        have hb2 := Lib.hid (Lib.below_iterAt hbw.out (k := w.heap.size) (Nat.le_refl _) s (pos + (Utf8.decode s pos).2))
        have hnx : ∀ ty, (Instr.next (.pointer (some ⟨w.heap.size, 0, none⟩)) true ty).run Tryz.prog wr = _ := fun ty => Lib.run_next_any_at wr w.heap.size s pos ty hit.out hp
        generalize wr.iterAt w.heap.size s (pos + (Utf8.decode s pos).2) = W1 at *
        obtain ⟨c, ec⟩ : ∃ c : UInt8, c = (bl s).getD pos 0 := ⟨_, rfl⟩
        have HBK : Hid (nameB c = false → z = false) := Lib.hid (by rw [ec]; exact HB.out pos hp)
        obtain ⟨n, hn⟩ : ∃ n, n = (Utf8.decode s pos).1 := ⟨_, rfl⟩
        obtain ⟨dw, hdw⟩ : ∃ dw, dw = (Utf8.decode s pos).2 := ⟨_, rfl⟩
        have hd' := hd.out
        rw [← hn, ← hdw, ← ec] at hd'
        have HNX : Hid (((97 ≤ n ∧ n ≤ 122) ∨ (48 ≤ n ∧ n ≤ 57) ∨ n = 47 ∨ n = 46 ∨ n = 45) → pos + dw ≤ s.size ∧ ∀ j, j < pos + dw → nameB ((bl s).getD j 0) = true) := Lib.hid (fun h => by
          rcases hd'.2 with ⟨h1, h2, h3⟩ | ⟨h1, h2 | h2⟩
          · refine ⟨by omega, fun j hj => ?_⟩
            by_cases e : j = pos
            · rw [e, ← ec]; exact h1
            · exact hch.out j (by omega)
          · exfalso
            unfold nameB at h1
            rw [← h2] at h1
            exact absurd h (of_decide_eq_false h1)
          · omega)
        have HW : Hid (¬ ((97 ≤ n ∧ n ≤ 122) ∨ (48 ≤ n ∧ n ≤ 57) ∨ n = 47 ∨ n = 46 ∨ n = 45) → z = false) := Lib.hid (fun h => by
          rcases hd'.2 with ⟨h1, h2, h3⟩ | ⟨h1, _⟩
          · exfalso
            unfold nameB at h1
            rw [← h2] at h1
            exact h (of_decide_eq_true h1)
          · exact HBK.out h1)
        rw [← hn] at hnx
        rw [← hdw] at hit2 hwd
        clear ec hn hdw hd hd' HBK
        have hcs : n < 45 ∨ n = 45 ∨ n = 46 ∨ n = 47 ∨ (48 ≤ n ∧ n ≤ 57) ∨ (57 < n ∧ n < 97) ∨ (97 ≤ n ∧ n ≤ 122) ∨ 122 < n := by omega
        have ef : ∀ m : Nat, n ≠ m → ((n : Int) == (m : Int)) = false := fun m h => by rw [beq_eq_false_iff_ne]; omega
        rcases hcs with h | h | h | h | ⟨h, h'⟩ | ⟨h, h'⟩ | ⟨h, h'⟩ | h
        · have HX := Lib.hid (HW.out (by omega))
          have q1 : ((n : Int) == 47) = false := ef 47 (by omega)
          have q2 : ((n : Int) == 46) = false := ef 46 (by omega)
          have q3 : ((n : Int) == 45) = false := ef 45 (by omega)
          clear ef
          go_wp2_with fail
          go_ret
          exact ⟨ret6_bool HX.out.symm, hb2.out⟩
        · subst h
          have HP := Lib.hid (HNX.out (by omega)).1
          have HX := Lib.hid (HNX.out (by omega)).2
          clear ef
          go_wp2_with fail
          go_roundw
          case rel => exact ⟨_, HP, hit2, HX, hb2⟩
          case measure => simp only [World.iterPos, hit2.out, hit.out]; have := hwd.out; omega
        · subst h
          have HP := Lib.hid (HNX.out (by omega)).1
          have HX := Lib.hid (HNX.out (by omega)).2
          clear ef
          go_wp2_with fail
          go_roundw
          case rel => exact ⟨_, HP, hit2, HX, hb2⟩
          case measure => simp only [World.iterPos, hit2.out, hit.out]; have := hwd.out; omega
        · subst h
          have HP := Lib.hid (HNX.out (by omega)).1
          have HX := Lib.hid (HNX.out (by omega)).2
          clear ef
          go_wp2_with fail
          go_roundw
          case rel => exact ⟨_, HP, hit2, HX, hb2⟩
          case measure => simp only [World.iterPos, hit2.out, hit.out]; have := hwd.out; omega
        · have HP := Lib.hid (HNX.out (by omega)).1
          have HX := Lib.hid (HNX.out (by omega)).2
          clear ef
          go_wp2_with fail
          go_roundw
          case rel => exact ⟨_, HP, hit2, HX, hb2⟩
          case measure => simp only [World.iterPos, hit2.out, hit.out]; have := hwd.out; omega
        · have HX := Lib.hid (HW.out (by omega))
          have q1 : ((n : Int) == 47) = false := ef 47 (by omega)
          have q2 : ((n : Int) == 46) = false := ef 46 (by omega)
          have q3 : ((n : Int) == 45) = false := ef 45 (by omega)
          have q4 : decide ((n : Int) ≤ 57) = false := decide_eq_false (by omega)
          clear ef
          go_wp2_with fail
          go_ret
          exact ⟨ret6_bool HX.out.symm, hb2.out⟩
        · have HP := Lib.hid (HNX.out (by omega)).1
          have HX := Lib.hid (HNX.out (by omega)).2
          clear ef
          go_wp2_with fail
          go_roundw
          case rel => exact ⟨_, HP, hit2, HX, hb2⟩
          case measure => simp only [World.iterPos, hit2.out, hit.out]; have := hwd.out; omega
        · have HX := Lib.hid (HW.out (by omega))
          have q1 : ((n : Int) == 47) = false := ef 47 (by omega)
          have q2 : ((n : Int) == 46) = false := ef 46 (by omega)
          have q3 : ((n : Int) == 45) = false := ef 45 (by omega)
          have q4 : decide ((n : Int) ≤ 57) = false := decide_eq_false (by omega)
          have q5 : decide ((n : Int) ≤ 122) = false := decide_eq_false (by omega)
          clear ef
          go_wp2_with fail
          go_ret
          exact ⟨ret6_bool HX.out.symm, hb2.out⟩
      · have hnx : ∀ ty, (Instr.next (.pointer (some ⟨w.heap.size, 0, none⟩)) true ty).run Tryz.prog wr = _ := fun ty => Lib.run_next_end_at wr w.heap.size s pos ty hit.out hp
        have HQ := Lib.hid (HE.out (fun j hj => hch.out j (by omega)))
        clear hp
        go_wp2_with fail
        go_ret
        exact ⟨ret6_bool HQ.out.symm, hbw.out⟩
end Go.Proofs.YtkebfabmcajbmaaGreat.Pl

namespace Go.Proofs.YtkebfabmcajbmaaGreat.Pl
open Go.RowKit

/-- The cells of an array that holds the numbers l. -/
def row (k : IntKind) (l : List Nat) : Array Value := (l.map fun (x : Nat) => Value.int k (x : Int)).toArray
theorem below_setRow {B : Nat} {a w : World} (h : Below B a w) {g : Nat} (hg : B ≤ g) (cs : Array Value) : Below B a (w.setRow g cs) :=
  ⟨h.os, h.tape, h.output, by rw [setRow_size]; exact h.size, fun i hi => by rw [setRow_other _ _ _ _ (by omega)]; exact h.block i hi⟩

theorem heap_below {w w' : World} {b : Nat} {o : Obj} (hb : Below w.heap.size w w') (h : w.heap[b]? = some o) : w'.heap[b]? = some o := by
  rw [hb.block b (Array.getElem?_eq_some_iff.1 h).1]; exact h
theorem heap_alloc {w : World} {b : Nat} {o : Obj} (h : w.heap[b]? = some o) (p : Obj) : (w.alloc p).heap[b]? = some o := by
  rw [Go.heap_alloc_old _ _ (Array.getElem?_eq_some_iff.1 h).1]; exact h
/-- l agrees with f up to n. -/
def Agrees (l : List Nat) (f : Nat → Nat) (n : Nat) : Prop := ∀ j, j < n → l.getD j 0 = f j
theorem Agrees.zero (l : List Nat) (f : Nat → Nat) : Agrees l f 0 := fun _ h => absurd h (by omega)
theorem Agrees.next {l : List Nat} {f : Nat → Nat} {n : Nat} (h : Agrees l f n) (hn : n < l.length) : Agrees (l.set n (f n)) f (n + 1) := by
  intro j hj
  rw [List.getD_eq_getElem?_getD, List.getElem?_set]
  by_cases e : n = j
  · subst e; simp [hn]
  · rw [if_neg e, ← List.getD_eq_getElem?_getD]; exact h j (by omega)
theorem Agrees.ext {l m : List Nat} {n : Nat} (h : Agrees l (fun j => m.getD j 0) n) (hl : l.length = n) (hm : m.length = n) : l = m := by
  apply List.ext_getElem (by omega)
  intro i h1 h2
  have := h i (by omega)
  simpa [List.getD_eq_getElem?_getD, h1, h2] using this
end Go.Proofs.YtkebfabmcajbmaaGreat.Pl

namespace Go.Proofs.YtkebfabmcajbmaaGreat.Pl
open Go.RowKit Go.ChangeShapes Go.WideShapes

/-- Each of these types can be read, and is a row of the table. -/
def typesRowed (P : Program) (ts : List TypeId) : Bool := ts.all fun t => P.readableRec t && decide (t < P.types.size)

theorem trodAll_later {H : Type} {enc : TypeId × Value → H} {P : Program} (hl : laidOutB P = true) {W W' : World} (hb : Below W.heap.size W W') :
    ∀ {ts : List TypeId} {vs : List Value} {ds : List (DataW H)} {ps : List MemPlace}, typesRowed P ts = true →
      DataW.TrodAll enc P W 0 (fun _ => true) true ts vs ds ps → DataW.TrodAll enc P W' 0 (fun b => decide (b < W.heap.size)) true ts vs ds ps
  | [], [], [], _, _, h => h
  | t :: ts, v :: vs, d :: ds, ps, ht, h => by
    have hlt := h.lt
    obtain ⟨p, q, h1, h2, e⟩ := h
    simp only [typesRowed, List.all_cons, Bool.and_eq_true, decide_eq_true_eq] at ht
    exact ⟨p, q, Below.trod hl ht.1.1 ht.1.2 h1 hb (fun x hx => hlt x (by rw [e]; simp [hx])), trodAll_later hl hb ht.2 h2, e⟩
  | [], [], _ :: _, _, _, h => h.elim
  | [], _ :: _, _, _, _, h => h.elim
  | _ :: _, [], _, _, _, h => h.elim
  | _ :: _, _ :: _, [], _, _, h => h.elim

/-- The law's post: the result is true, the arguments read as they did. -/
theorem law_post {H : Type} {enc : TypeId × Value → H} {P : Program} {f : Func} {s : ChangeSpec} {W W' : World} {args : Array Value} {ds gs : List (DataW H)} {before : List MemPlace} {T : TypeId}
    (hl : laidOutB P = true) (ht : typesRowed P f.params.toList = true) (hT : P.underlying T = some .bool) (hr : f.resultTypes = #[T]) (hv : s.vars = [])
    (hW : DataW.Whole enc P f.params.toList s.vars false W args.toList ds gs before) (hb : Below W.heap.size W W')
    (h1 : (s.fn H (ds ++ gs)).results = [.lit (.bool true)]) (h2 : (s.fn H (ds ++ gs)).args = ds) (h3 : (s.fn H (ds ++ gs)).vars = []) :
    s.post enc P f false true false false W args (.bool true) W' := by
  have hW' := hW
  obtain ⟨p, q, hA, hV, hps, _, _⟩ := hW'
  rw [hv] at hV
  obtain ⟨rfl, rfl⟩ := trodVars_none hV
  refine ⟨ds, [], before, [], p, [], hW, ?_, ?_, ?_, World.keptBut_mono (fun x hx => hx.elim) (hb.frame (fun _ => False)), fun h => by cases h⟩
  · rw [h1, hr]
    exact trodAll_mk1 (shut_bool hT true)
  · rw [h2]
    exact trodAll_later hl hb ht hA
  · rw [h3, hv]
    rfl
end Go.Proofs.YtkebfabmcajbmaaGreat.Pl
