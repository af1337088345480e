/- Swapping, place by place: what the pieces laid one behind the other make; plain mathematics alone. -/
import Derived.Test.YtfghhhghhjbiaaaTermHas
namespace Go.Proofs.Ytfghhhghhjbiaaa.Pl

theorem st_good {t sub : ByteArray} {T F : Tm} (hT : T.good) (hF : F.good) (eF : bl sub = F.enc) {a D : Nat} {rest : List UInt8} (e : (bl t).drop a = T.enc ++ rest) {y : Pl6 × Tm} (hy : y ∈ offT a D T) : stB sub t y.1 = true ↔ y.2.enc = F.enc := by
  obtain ⟨r, hr⟩ := offs_at (bl t) T a D rest e y hy
  have hp : y.2 ∈ T.places := by
    rw [← offs_snd T a D]
    exact List.mem_map_of_mem hy
  have hv := places_good T hT _ hp
  unfold stB Lib.hasPrefix
  rw [hr, eF, List.isPrefixOf_iff_prefix]
  constructor
  · rintro ⟨r', h⟩
    rw [(enc_front _ hF _ hv _ _ h).1]
  · rintro h
    rw [h]; exact ⟨r, rfl⟩

/-- What is laid, and how far t has been. -/
def stepS (f t : ByteArray) (u : List UInt8) (st : List UInt8 × Nat) (x : Pl6) : List UInt8 × Nat :=
  if stB f t x = true then (st.1 ++ ((bl t).take x.at_).drop st.2 ++ u, x.at_ + f.size) else st
theorem stepS_yes {f t : ByteArray} {u : List UInt8} {st : List UInt8 × Nat} {x : Pl6} (h : stB f t x = true) : stepS f t u st x = (st.1 ++ ((bl t).take x.at_).drop st.2 ++ u, x.at_ + f.size) := if_pos h
theorem stepS_no {f t : ByteArray} {u : List UInt8} {st : List UInt8 × Nat} {x : Pl6} (h : stB f t x = false) : stepS f t u st x = st := if_neg (by rw [h]; decide)
theorem fold_len (f t : ByteArray) (u : List UInt8) : ∀ (l : List Pl6) (st : List UInt8 × Nat), st.1.length ≤ (l.foldl (stepS f t u) st).1.length
  | [], st => Nat.le_refl _
  | x :: l, st => by
    rw [List.foldl_cons]
    refine Nat.le_trans ?_ (fold_len f t u l _)
    unfold stepS
    split
    · simp only [List.length_append]; omega
    · exact Nat.le_refl _
theorem fold_none (f t : ByteArray) (u : List UInt8) : ∀ (l : List Pl6) (st : List UInt8 × Nat), (∀ x ∈ l, stB f t x = false) → l.foldl (stepS f t u) st = st
  | [], st, _ => rfl
  | x :: l, st, h => by
    rw [List.foldl_cons, stepS_no (h x (List.mem_cons_self ..))]
    exact fold_none f t u l st (fun y hy => h y (List.mem_cons_of_mem _ hy))
theorem prefix_split {α : Type} : ∀ (A B pre : List α) (x : α), pre ++ [x] <+: A ++ B → pre ++ [x] <+: A ∨ ∃ p', pre = A ++ p' ∧ p' ++ [x] <+: B
  | [], B, pre, x, h => .inr ⟨pre, rfl, h⟩
  | a :: A, B, [], x, h => by
    obtain ⟨r, hr⟩ := h
    simp at hr
    exact .inl ⟨A, by simp [hr.1]⟩
  | a :: A, B, b :: pre, x, h => by
    obtain ⟨r, hr⟩ := h
    simp at hr
    obtain ⟨rfl, hr⟩ := hr
    rcases prefix_split A B pre x ⟨r, by simpa using hr⟩ with ⟨r', h'⟩ | ⟨p', rfl, hp⟩
    · exact .inl ⟨r', by rw [← h']; simp⟩
    · exact .inr ⟨p', rfl, hp⟩
theorem seg_more {s h r : List UInt8} {a d : Nat} (e : s.drop a = h ++ r) (hd : d ≤ a) (ha : a ≤ s.length) : (s.take (a + h.length)).drop d = (s.take a).drop d ++ h := by
  rw [List.take_add, e, List.take_left, List.drop_append_of_le_length]
  rw [List.length_take]; omega

/-- What going over a tree's places lays, whatever has been laid ahead of it. -/
def Laid (f t : ByteArray) (u : List UInt8) (L : List Pl6) (n : Nat) (out : List UInt8) (a : Nat) (st : List UInt8 × Nat) : Prop :=
  (L.foldl (stepS f t u) st).2 ≤ a + n ∧ (L.foldl (stepS f t u) st).1 ++ ((bl t).take (a + n)).drop (L.foldl (stepS f t u) st).2 = st.1 ++ ((bl t).take a).drop st.2 ++ out ∧
  ∀ pre x, pre ++ [x] <+: L → stB f t x = true → (pre.foldl (stepS f t u) st).2 ≤ x.at_
theorem laid_tree (f t : ByteArray) {F U : Tm} (hF : F.good) (eF : bl f = F.enc) : ∀ T : Tm, T.good → ∀ a D rest st, (bl t).drop a = T.enc ++ rest → a ≤ (bl t).length → st.2 ≤ a →
    Laid f t U.enc ((offT a D T).map Prod.fst) T.enc.length (T.swap F.enc U).enc a st := by
  refine Tm.ind ?_
  intro h l ih hg a D rest st e hal hst
  have hfs : f.size = F.enc.length := by rw [size_bl, eF]
  have hg' := hg
  simp only [Tm.good] at hg'
  have e0 := e
  rw [Tm.enc_node, List.append_assoc] at e
  have hx0 : (⟨⟨a, D, a + h.length, l.length⟩, .node h l⟩ : Pl6 × Tm) ∈ offT a D (.node h l) := by rw [offT]; exact List.mem_cons_self ..
  have hst0 := st_good hg hF eF e0 hx0
  by_cases hq : (Tm.node h l).enc = F.enc
  · -- the whole is replaced
    have hnone : ∀ x ∈ (offs (a + h.length) (D + 1) l).map Prod.fst, stB f t x = false := by
      intro x hx
      obtain ⟨y, hy, rfl⟩ := List.mem_map.1 hx
      have hy' : y ∈ offT a D (.node h l) := by rw [offT]; exact List.mem_cons_of_mem _ hy
      cases hs : stB f t y.1 with
      | false => rfl
      | true =>
        exfalso
        have h1 := (st_good hg hF eF e0 hy').1 hs
        have h2 : y.2 ∈ placess l := by
          have hmap : ∀ m : List Tm, ∀ a D, (offs a D m).map Prod.snd = placess m := by
            intro m
            induction m with
            | nil => intro a D; rfl
            | cons t m ihm => intro a D; rw [offs, List.map_append, offs_snd, ihm, placess]
          rw [← hmap l (a + h.length) (D + 1)]
          exact List.mem_map_of_mem hy
        rw [placess_flat, List.mem_flatMap] at h2
        obtain ⟨p, hp, hyp⟩ := h2
        have h3 := places_len p _ hyp
        have h4 := head_len hg hp
        have h5 := congrArg List.length h1
        have h6 := congrArg List.length hq
        omega
    rw [offT, List.map_cons]
    have hsw : ((Tm.node h l).swap F.enc U) = U := by rw [Tm.swap_node, if_pos hq]
    have hlen : F.enc.length = (Tm.node h l).enc.length := by rw [hq]
    refine ⟨?_, ?_, ?_⟩
    · rw [List.foldl_cons, stepS_yes (hst0.2 hq), fold_none _ _ _ _ _ hnone]
      simp only
      omega
    · rw [List.foldl_cons, stepS_yes (hst0.2 hq), fold_none _ _ _ _ _ hnone, hsw]
      simp only
      have hz : ((bl t).take (a + (Tm.node h l).enc.length)).drop (a + (Tm.node h l).enc.length) = [] := List.drop_eq_nil_of_le (by rw [List.length_take]; omega)
      rw [hfs, hlen, hz, List.append_nil]
    · intro pre x hpre hx
      cases pre with
      | nil =>
        obtain ⟨r, hr⟩ := hpre
        simp at hr
        obtain ⟨rfl, _⟩ := hr
        exact hst
      | cons p pre =>
        obtain ⟨r, hr⟩ := hpre
        simp at hr
        have : x ∈ (offs (a + h.length) (D + 1) l).map Prod.fst := by
          rw [← hr.2]; simp
        rw [hnone x this] at hx; cases hx
  · have hno : stB f t ⟨a, D, a + h.length, l.length⟩ = false := by
      cases hs : stB f t ⟨a, D, a + h.length, l.length⟩ with
      | false => rfl
      | true => exact absurd (hst0.1 hs) hq
    have hsw : ((Tm.node h l).swap F.enc U).enc = h ++ encs (l.map fun t => t.swap F.enc U) := by rw [Tm.swap_node, if_neg hq, Tm.enc_node]
    have loop : ∀ m : List Tm, (∀ t ∈ m, t ∈ l) → ∀ a D rest st, (bl t).drop a = encs m ++ rest → a ≤ (bl t).length → st.2 ≤ a →
        Laid f t U.enc ((offs a D m).map Prod.fst) (encs m).length (encs (m.map fun t => t.swap F.enc U)) a st := by
      intro m
      induction m with
      | nil =>
        intro _ a D rest st _ _ hst
        refine ⟨by simpa [offs, encs] using hst, by simp [offs, encs], ?_⟩
        rintro pre x ⟨r, hr⟩
        simp [offs] at hr
      | cons c m ihm =>
        intro hm a D rest st e hal hst
        have hc := hm c (List.mem_cons_self ..)
        rw [encs, List.append_assoc] at e
        have e2 : (bl t).drop (a + c.enc.length) = encs m ++ rest := by rw [← List.drop_drop, e, List.drop_left]
        have hal2 : a + c.enc.length ≤ (bl t).length := by
          have := congrArg List.length e
          rw [List.length_drop, List.length_append] at this
          omega
        obtain ⟨p1, p2, p3⟩ := ih c hc (goods_mem hg'.2 c hc) a D _ st e hal hst
        obtain ⟨r1, r2, r3⟩ := ihm (fun u hu => hm u (List.mem_cons_of_mem _ hu)) (a + c.enc.length) D rest _ e2 hal2 p1
        rw [offs, List.map_append]
        refine ⟨?_, ?_, ?_⟩
        · rw [List.foldl_append, encs, List.length_append, ← Nat.add_assoc]
          exact r1
        · rw [List.foldl_append, encs, List.length_append, ← Nat.add_assoc, r2, p2, List.map_cons, encs, List.append_assoc, List.append_assoc]
        · intro pre x hpre hx
          rcases prefix_split _ _ pre x hpre with h1 | ⟨p', rfl, h1⟩
          · exact p3 pre x h1 hx
          · rw [List.foldl_append]
            exact r3 p' x h1 hx
    have e2 : (bl t).drop (a + h.length) = encs l ++ rest := by rw [← List.drop_drop, e, List.drop_left]
    have hal2 : a + h.length ≤ (bl t).length := by
      have := congrArg List.length e
      rw [List.length_drop, List.length_append] at this
      omega
    obtain ⟨r1, r2, r3⟩ := loop l (fun _ h => h) (a + h.length) (D + 1) rest st e2 hal2 (by omega)
    rw [offT, List.map_cons]
    refine ⟨?_, ?_, ?_⟩
    · rw [List.foldl_cons, stepS_no hno, Tm.enc_node, List.length_append, ← Nat.add_assoc]
      exact r1
    · rw [List.foldl_cons, stepS_no hno, Tm.enc_node, List.length_append, ← Nat.add_assoc, r2, hsw, seg_more e hst hal, List.append_assoc, List.append_assoc, List.append_assoc]
    · intro pre x hpre hx
      cases pre with
      | nil =>
        obtain ⟨r, hr⟩ := hpre
        simp at hr
        obtain ⟨rfl, _⟩ := hr
        exact hst
      | cons p pre =>
        obtain ⟨r, hr⟩ := hpre
        simp at hr
        obtain ⟨rfl, hr⟩ := hr
        rw [List.foldl_cons, stepS_no hno]
        exact r3 pre x ⟨r, by simpa using hr⟩ hx

/-- What has been laid when these places have come. -/
def swS (f t u : ByteArray) (l : List Pl6) : List UInt8 × Nat := l.foldl (stepS f t (bl u)) ([], 0)
theorem swS_snoc (f t u : ByteArray) (l : List Pl6) (x : Pl6) : swS f t u (l ++ [x]) = stepS f t (bl u) (swS f t u l) x := by
  unfold swS; rw [List.foldl_append]; rfl
theorem swS_len {f t u : ByteArray} {l m : List Pl6} (h : l <+: m) : (swS f t u l).1.length ≤ (swS f t u m).1.length := by
  obtain ⟨r, rfl⟩ := h
  unfold swS; rw [List.foldl_append]
  exact fold_len _ _ _ _ _
/-- Swap's answer, by what is laid. -/
theorem swS_whole {t f u : ByteArray} (ht : checkP (bl t) = 0) (hf : checkP (bl f) = 0) (hu : checkP (bl u) = 0) :
    (swS f t u (vis t).1).2 ≤ t.size ∧
    swapP (bl t) (bl f) (bl u) = (if checkP ((swS f t u (vis t).1).1 ++ (bl t).drop (swS f t u (vis t).1).2) = 0 then ((swS f t u (vis t).1).1 ++ (bl t).drop (swS f t u (vis t).1).2, 0) else ([], 5)) ∧
    (∀ pre x, pre ++ [x] <+: (vis t).1 → stB f t x = true → (swS f t u pre).2 ≤ x.at_) := by
  obtain ⟨T, tv, te, tr, hv⟩ := vis_term ht
  obtain ⟨F, fv, fe, fr⟩ := tree_of hf
  obtain ⟨U, uv, ue, ur⟩ := tree_of hu
  obtain ⟨h1, h2, h3⟩ := laid_tree (U := U) f t fv.1 fe T tv.1 0 1 [] ([], 0) (by rw [List.drop_zero, te, List.append_nil]) (Nat.zero_le _) (Nat.zero_le _)
  rw [← ue] at h1 h2 h3
  have hvis : (vis t).1 = (offT 0 1 T).map Prod.fst := by rw [hv]
  rw [← hvis] at h1 h2 h3
  have hfin : (swS f t u (vis t).1).1 ++ (bl t).drop (swS f t u (vis t).1).2 = (T.swap (bl f) U).enc := by
    rw [Nat.zero_add, List.take_of_length_le (by rw [te]; exact Nat.le_refl _)] at h2
    rw [fe]
    simpa [swS] using h2
  refine ⟨?_, ?_, h3⟩
  · rw [size_bl, te]
    simpa [swS] using h1
  · rw [hfin]
    unfold swapP
    rw [tr, fr, ur]
end Go.Proofs.Ytfghhhghhjbiaaa.Pl
