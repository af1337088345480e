/- Terms as bytes, and as trees: what is read of bytes, that it is a tree's, and just one's; plain mathematics alone. -/
import Derived.Test.YtfghhhghhjbiaaaPlainb
namespace Go.Proofs.Ytfghhhghhjbiaaa.Pl

def nameB (b : UInt8) : Bool := decide ((97 ≤ b.toNat ∧ b.toNat ≤ 122) ∨ (48 ≤ b.toNat ∧ b.toNat ≤ 57) ∨ b.toNat = 47 ∨ b.toNat = 46 ∨ b.toNat = 45)
def nameOK (s : List UInt8) : Bool := !s.isEmpty && s.all nameB
/-- The bytes ahead of a term's parts, how many parts, what is wrong. -/
def headP : List UInt8 → Nat × Nat × Nat
  | [] => (0, 0, 6)
  | b :: r =>
    if b = 100 then (1 + (rdt r 1024).2.1, 0, (rdt r 1024).2.2)
    else if b = 97 then (if (rdt r 32).2.2 = 0 ∧ nameOK (rdt r 32).1 = false then (0, 0, 7) else (1 + (rdt r 32).2.1, 0, (rdt r 32).2.2))
    else if b = 114 then (if (rdn r).2.2 = 0 ∧ 32 < (rdn r).1 then (0, 0, 5) else (1 + (rdn r).2.1, (rdn r).1, (rdn r).2.2))
    else if b = 104 then (1, 1, 0) else if b = 109 then (1, 2, 0) else if b = 115 then (1, 3, 0) else (0, 0, 7)
/-- Of so many terms, one behind the other. -/
def loopP (rd : List UInt8 → Nat × Nat) : Nat → List UInt8 → Nat × Nat
  | 0, _ => (0, 0)
  | k + 1, s => if (rd s).2 = 0 then (if (loopP rd k (s.drop (rd s).1)).2 = 0 then ((rd s).1 + (loopP rd k (s.drop (rd s).1)).1, 0) else (0, (loopP rd k (s.drop (rd s).1)).2)) else (0, (rd s).2)
/-- The term at the front that is no deeper than d. -/
def readP : Nat → List UInt8 → Nat × Nat
  | 0, _ => (0, 60)
  | d + 1, s => if (headP s).2.2 = 0 then (if (loopP (readP d) (headP s).2.1 (s.drop (headP s).1)).2 = 0 then ((headP s).1 + (loopP (readP d) (headP s).2.1 (s.drop (headP s).1)).1, 0) else (0, (loopP (readP d) (headP s).2.1 (s.drop (headP s).1)).2)) else (0, (headP s).2.2)
def frontP (s : List UInt8) : Nat × Nat := if (readP 16 s).2 = 0 then (if 16384 < (readP 16 s).1 then (0, 5) else readP 16 s) else (0, (readP 16 s).2)
def checkP (t : List UInt8) : Nat := if (frontP t).2 = 0 then (if (frontP t).1 = t.length then 0 else 7) else (frontP t).2

/-- Bytes that are a term's head, of so many parts, whatever stands behind them. -/
def HeadOK (h : List UInt8) (p : Nat) : Prop := ∀ rest, headP (h ++ rest) = (h.length, p, 0)
theorem HeadOK.pos {h : List UInt8} {p : Nat} (k : HeadOK h p) : h ≠ [] := by
  rintro rfl
  have := k []
  simp [headP] at this
theorem HeadOK.same {h h' r r' : List UInt8} {p p' : Nat} (k : HeadOK h p) (k' : HeadOK h' p') (e : h ++ r = h' ++ r') : h = h' ∧ p = p' ∧ r = r' := by
  have e1 := k r
  rw [e, k' r'] at e1
  have hl : h'.length = h.length := congrArg Prod.fst e1
  have hp : p' = p := congrArg (·.2.1) e1
  have hh := List.append_inj e hl.symm
  exact ⟨hh.1, hp.symm, hh.2⟩
theorem head_front {s : List UInt8} {n p : Nat} (h : headP s = (n, p, 0)) : n ≤ s.length ∧ HeadOK (s.take n) p := by
  cases s with
  | nil => simp [headP] at h
  | cons b r =>
    simp only [headP] at h
    split at h
    · rename_i hb
      subst hb
      obtain ⟨t, k, e, hr⟩ : ∃ t k e, rdt r 1024 = (t, k, e) := ⟨_, _, _, rfl⟩
      rw [hr] at h
      simp only [Prod.mk.injEq] at h
      obtain ⟨rfl, rfl, rfl⟩ := h
      obtain ⟨h1, h2, h3, h4⟩ := rdt_sound hr
      refine ⟨by simp; omega, fun rest => ?_⟩
      have e1 : (100 :: r).take (1 + k) = 100 :: txt t := by rw [h4, Nat.add_comm, List.take_succ_cons]
      have hk : (txt t).length = k := by rw [h4, List.length_take]; omega
      rw [e1, List.cons_append, headP, if_pos rfl, rdt_txt (by rw [two64]; omega) rest 1024 (by omega)]
      simp [Nat.add_comm]
    · split at h
      · rename_i hb0 hb
        subst hb
        obtain ⟨t, k, e, hr⟩ : ∃ t k e, rdt r 32 = (t, k, e) := ⟨_, _, _, rfl⟩
        rw [hr] at h
        split at h
        · simp at h
        · rename_i hno
          simp only [Prod.mk.injEq] at h
          obtain ⟨rfl, rfl, rfl⟩ := h
          obtain ⟨h1, h2, h3, h4⟩ := rdt_sound hr
          refine ⟨by simp; omega, fun rest => ?_⟩
          have e1 : (97 :: r).take (1 + k) = 97 :: txt t := by rw [h4, Nat.add_comm, List.take_succ_cons]
          have hk : (txt t).length = k := by rw [h4, List.length_take]; omega
          rw [e1, List.cons_append, headP, if_neg (by decide), if_pos rfl, rdt_txt (by rw [two64]; omega) rest 32 (by omega), if_neg hno]
          simp [Nat.add_comm]
      · split at h
        · rename_i hb0 hb1 hb
          subst hb
          obtain ⟨v, k, e, hr⟩ : ∃ v k e, rdn r = (v, k, e) := ⟨_, _, _, rfl⟩
          rw [hr] at h
          split at h
          · simp at h
          · rename_i hno
            simp only [Prod.mk.injEq] at h
            obtain ⟨rfl, rfl, rfl⟩ := h
            obtain ⟨h1, h2, h3, h4⟩ := rdn_sound hr
            refine ⟨by simp; omega, fun rest => ?_⟩
            have e1 : (114 :: r).take (1 + k) = 114 :: enc v := by rw [h3, Nat.add_comm, List.take_succ_cons]
            have hk : (enc v).length = k := by rw [h3, List.length_take]; omega
            rw [e1, List.cons_append, headP, if_neg (by decide), if_neg (by decide), if_pos rfl, rdn_enc h4 rest]
            rw [if_neg (by simpa using hno)]
            simp [Nat.add_comm]
        · split at h
          · rename_i hb
            subst hb
            simp only [Prod.mk.injEq] at h
            obtain ⟨rfl, rfl, _⟩ := h
            refine ⟨by simp, fun rest => ?_⟩
            rfl
          · split at h
            · rename_i hb
              subst hb
              simp only [Prod.mk.injEq] at h
              obtain ⟨rfl, rfl, _⟩ := h
              exact ⟨by simp, fun rest => rfl⟩
            · split at h
              · rename_i hb
                subst hb
                simp only [Prod.mk.injEq] at h
                obtain ⟨rfl, rfl, _⟩ := h
                exact ⟨by simp, fun rest => rfl⟩
              · simp at h

/-- A term: its head, its parts. -/
inductive Tm where
  | node (h : List UInt8) (l : List Tm) : Tm

mutual
def Tm.enc : Tm → List UInt8
  | .node h l => h ++ encs l
def encs : List Tm → List UInt8
  | [] => []
  | t :: l => t.enc ++ encs l
end
mutual
def Tm.deep : Tm → Nat
  | .node _ l => deeps l + 1
def deeps : List Tm → Nat
  | [] => 0
  | t :: l => max t.deep (deeps l)
end
mutual
def Tm.good : Tm → Prop
  | .node h l => HeadOK h l.length ∧ goods l
def goods : List Tm → Prop
  | [] => True
  | t :: l => t.good ∧ goods l
end
mutual
def Tm.places : Tm → List Tm
  | .node h l => .node h l :: placess l
def placess : List Tm → List Tm
  | [] => []
  | t :: l => t.places ++ placess l
end
theorem Tm.ind {P : Tm → Prop} (step : ∀ h l, (∀ t ∈ l, P t) → P (.node h l)) : ∀ t, P t := by
  intro t
  refine Tm.rec (motive_1 := P) (motive_2 := fun l => ∀ t ∈ l, P t) ?_ ?_ ?_ t
  · intro h l ih; exact step h l ih
  · intro t ht; cases ht
  · intro t l h1 h2 u hu
    rcases List.mem_cons.1 hu with rfl | hu
    · exact h1
    · exact h2 u hu
theorem goods_mem {l : List Tm} (h : goods l) : ∀ t ∈ l, t.good := by
  induction l with
  | nil => intro t ht; cases ht
  | cons u l ih =>
    intro t ht
    rcases List.mem_cons.1 ht with rfl | ht
    · exact h.1
    · exact ih h.2 t ht
theorem goods_of {l : List Tm} (h : ∀ t ∈ l, t.good) : goods l := by
  induction l with
  | nil => trivial
  | cons u l ih => exact ⟨h u (List.mem_cons_self ..), ih (fun t ht => h t (List.mem_cons_of_mem _ ht))⟩
theorem deeps_mem {l : List Tm} {t : Tm} (h : t ∈ l) : t.deep ≤ deeps l := by
  induction l with
  | nil => cases h
  | cons u l ih =>
    simp only [deeps]
    rcases List.mem_cons.1 h with rfl | h
    · omega
    · have := ih h; omega
theorem deeps_le {l : List Tm} {d : Nat} (h : ∀ t ∈ l, t.deep ≤ d) : deeps l ≤ d := by
  induction l with
  | nil => simp [deeps]
  | cons u l ih =>
    simp only [deeps]
    have := h u (List.mem_cons_self ..)
    have := ih (fun t ht => h t (List.mem_cons_of_mem _ ht))
    omega
theorem encs_flat (l : List Tm) : encs l = (l.map Tm.enc).flatten := by
  induction l with
  | nil => rfl
  | cons t l ih => simp [encs, ih]
theorem Tm.enc_node (h : List UInt8) (l : List Tm) : (Tm.node h l).enc = h ++ encs l := by simp [Tm.enc]

/-- What is a term's bytes is read, whatever stands behind it. -/
theorem read_enc : ∀ t : Tm, t.good → ∀ d, t.deep ≤ d → ∀ rest, readP d (t.enc ++ rest) = (t.enc.length, 0) := by
  refine Tm.ind ?_
  intro h l ih hg d hd rest
  simp only [Tm.good] at hg
  simp only [Tm.deep] at hd
  obtain ⟨d, rfl⟩ : ∃ e, d = e + 1 := ⟨d - 1, by omega⟩
  have loop : ∀ m : List Tm, (∀ t ∈ m, t ∈ l) → ∀ rest, loopP (readP d) m.length (encs m ++ rest) = ((encs m).length, 0) := by
    intro m
    induction m with
    | nil => intro _ rest; rfl
    | cons t m ihm =>
      intro hm rest
      have ht := hm t (List.mem_cons_self ..)
      have h1 := ih t ht (goods_mem hg.2 t ht) d (by have := deeps_mem ht; omega) (encs m ++ rest)
      have h2 := ihm (fun u hu => hm u (List.mem_cons_of_mem _ hu)) rest
      simp only [encs, List.length_cons, List.append_assoc]
      rw [loopP, h1]
      simp only [if_true, List.drop_left, h2, List.length_append]
  simp only [Tm.enc, List.append_assoc]
  rw [readP, hg.1]
  simp only [if_true, List.drop_left]
  rw [loop l (fun _ h => h) rest]
  simp

/-- What is read is a term's bytes. -/
theorem read_sound : ∀ (d : Nat) (s : List UInt8) (n : Nat), readP d s = (n, 0) → ∃ t : Tm, t.good ∧ t.deep ≤ d ∧ n = t.enc.length ∧ s = t.enc ++ s.drop n := by
  intro d
  induction d with
  | zero => intro s n h; simp [readP] at h
  | succ d ih =>
    intro s n h
    have loop : ∀ (k : Nat) (s : List UInt8) (n : Nat), loopP (readP d) k s = (n, 0) → ∃ l : List Tm, goods l ∧ l.length = k ∧ deeps l ≤ d ∧ n = (encs l).length ∧ s = encs l ++ s.drop n := by
      intro k
      induction k with
      | zero =>
        intro s n h
        simp only [loopP, Prod.mk.injEq] at h
        obtain ⟨rfl, _⟩ := h
        exact ⟨[], trivial, rfl, Nat.zero_le _, rfl, rfl⟩
      | succ k ihk =>
        intro s n h
        rw [loopP] at h
        split at h
        · rename_i h0
          split at h
          · rename_i h1
            simp only [Prod.mk.injEq, and_true] at h
            obtain ⟨t, g1, g2, g3, g4⟩ := ih s (readP d s).1 (Prod.ext rfl h0)
            obtain ⟨l, k1, k2, k3, k4, k5⟩ := ihk (s.drop (readP d s).1) (loopP (readP d) k (s.drop (readP d s).1)).1 (Prod.ext rfl h1)
            refine ⟨t :: l, ⟨g1, k1⟩, by simp [k2], by simp only [deeps]; omega, ?_, ?_⟩
            · simp only [encs, List.length_append]
              rw [← h, k4, g3]
            · simp only [encs, List.append_assoc]
              rw [← h, ← List.drop_drop, ← k5]; exact g4
          · rename_i h1
            simp only [Prod.mk.injEq] at h
            exact absurd h.2 h1
        · rename_i h0
          simp only [Prod.mk.injEq] at h
          exact absurd h.2 h0
    rw [readP] at h
    split at h
    · rename_i h0
      split at h
      · rename_i h1
        simp only [Prod.mk.injEq, and_true] at h
        obtain ⟨hn, hok⟩ := head_front (s := s) (n := (headP s).1) (p := (headP s).2.1) (by rw [← h0])
        obtain ⟨l, k1, k2, k3, k4, k5⟩ := loop (headP s).2.1 (s.drop (headP s).1) (loopP (readP d) (headP s).2.1 (s.drop (headP s).1)).1 (Prod.ext rfl h1)
        refine ⟨.node (s.take (headP s).1) l, ?_, ?_, ?_, ?_⟩
        · simp only [Tm.good]; exact ⟨by rw [k2]; exact hok, k1⟩
        · simp only [Tm.deep]; omega
        · simp only [Tm.enc, List.length_append, List.length_take]
          rw [← h, k4, Nat.min_eq_left hn]
        · simp only [Tm.enc, List.append_assoc]
          rw [← h, ← List.drop_drop, ← k5, List.take_append_drop]
      · rename_i h1
        simp only [Prod.mk.injEq] at h
        exact absurd h.2 h1
    · rename_i h0
      simp only [Prod.mk.injEq] at h
      exact absurd h.2 h0

/-- No term's bytes begin with another one's. -/
theorem enc_front : ∀ t : Tm, t.good → ∀ u : Tm, u.good → ∀ r r', t.enc ++ r = u.enc ++ r' → t = u ∧ r = r' := by
  refine Tm.ind ?_
  intro h l ih hg u hu r r' e
  obtain ⟨h', l'⟩ := u
  simp only [Tm.good] at hg hu
  simp only [Tm.enc, List.append_assoc] at e
  obtain ⟨rfl, hp, e⟩ := hg.1.same hu.1 e
  have loop : ∀ m m' : List Tm, (∀ t ∈ m, t ∈ l) → goods m' → m.length = m'.length → ∀ r r', encs m ++ r = encs m' ++ r' → m = m' ∧ r = r' := by
    intro m
    induction m with
    | nil =>
      intro m' _ _ hl r r' e
      cases m' with
      | nil => exact ⟨rfl, e⟩
      | cons => simp at hl
    | cons t m ihm =>
      intro m' hm hg' hl r r' e
      cases m' with
      | nil => simp at hl
      | cons t' m' =>
        simp only [encs, List.append_assoc] at e
        have ht := hm t (List.mem_cons_self ..)
        obtain ⟨rfl, e2⟩ := ih t ht (goods_mem hg.2 t ht) t' hg'.1 _ _ e
        obtain ⟨rfl, e3⟩ := ihm m' (fun u hu => hm u (List.mem_cons_of_mem _ hu)) hg'.2 (by simpa using hl) _ _ e2
        exact ⟨rfl, e3⟩
  obtain ⟨rfl, e4⟩ := loop l l' (fun _ h => h) hu.2 hp _ _ e
  exact ⟨rfl, e4⟩
theorem enc_tm_inj {t u : Tm} (ht : t.good) (hu : u.good) (e : t.enc = u.enc) : t = u := (enc_front t ht u hu [] [] (by simpa using e)).1
/-- A term that is too deep is not read. -/
theorem read_deep {t : Tm} (ht : t.good) {d : Nat} (hd : d < t.deep) (rest : List UInt8) : (readP d (t.enc ++ rest)).2 ≠ 0 := by
  intro h0
  obtain ⟨u, g1, g2, g3, g4⟩ := read_sound d (t.enc ++ rest) (readP d (t.enc ++ rest)).1 (Prod.ext rfl h0)
  obtain ⟨rfl, _⟩ := enc_front t ht u g1 _ _ g4
  omega

/-- A valid term. -/
def Tm.valid (t : Tm) : Prop := t.good ∧ t.deep ≤ 16 ∧ t.enc.length ≤ 16384
theorem front_enc {t : Tm} (h : t.valid) (rest : List UInt8) : frontP (t.enc ++ rest) = (t.enc.length, 0) := by
  have e := read_enc t h.1 16 h.2.1 rest
  unfold frontP
  rw [e, if_pos rfl, if_neg (by have := h.2.2; simp only; omega)]
theorem front_sound {s : List UInt8} {n : Nat} (h : frontP s = (n, 0)) : ∃ t : Tm, t.valid ∧ n = t.enc.length ∧ s = t.enc ++ s.drop n := by
  unfold frontP at h
  split at h
  · rename_i h0
    split at h
    · simp at h
    · rename_i h1
      obtain ⟨t, g1, g2, g3, g4⟩ := read_sound 16 s n h
      rw [h] at h1
      exact ⟨t, ⟨g1, g2, by simp only at h1; omega⟩, g3, g4⟩
  · rename_i h0
    simp only [Prod.mk.injEq] at h
    exact absurd h.2 h0
theorem check_enc {t : Tm} (h : t.valid) : checkP t.enc = 0 := by
  have e := front_enc h []
  rw [List.append_nil] at e
  unfold checkP
  rw [e]; simp
theorem check_iff {s : List UInt8} : checkP s = 0 ↔ ∃ t : Tm, t.valid ∧ t.enc = s := by
  constructor
  · intro h
    unfold checkP at h
    split at h
    · rename_i h0
      split at h
      · rename_i h1
        obtain ⟨t, g1, g2, g3⟩ := front_sound (s := s) (n := (frontP s).1) (Prod.ext rfl h0)
        refine ⟨t, g1, ?_⟩
        rw [h1] at g3
        simpa using g3.symm
      · exact absurd h (by decide)
    · rename_i h0
      exact absurd h h0
  · rintro ⟨t, h, rfl⟩
    exact check_enc h
/-- A valid term's bytes, and more: read as that term; cut: as none. -/
theorem check_more {t : Tm} (h : t.valid) (more : List UInt8) : checkP (t.enc ++ more) = 0 ↔ more = [] := by
  rw [check_iff]
  constructor
  · rintro ⟨u, hu, e⟩
    have := enc_front u hu.1 t h.1 [] more (by simpa using e)
    exact this.2.symm
  · rintro rfl
    exact ⟨t, h, by simp⟩
theorem check_cut {t : Tm} (h : t.valid) {k : Nat} (hk : k < t.enc.length) : checkP (t.enc.take k) ≠ 0 := by
  rw [Ne, check_iff]
  rintro ⟨u, hu, e⟩
  have e2 : u.enc ++ t.enc.drop k = t.enc ++ [] := by rw [e, List.take_append_drop, List.append_nil]
  obtain ⟨rfl, e3⟩ := enc_front u hu.1 t h.1 _ _ e2
  have := congrArg List.length e3
  simp at this
  omega
end Go.Proofs.Ytfghhhghhjbiaaa.Pl
