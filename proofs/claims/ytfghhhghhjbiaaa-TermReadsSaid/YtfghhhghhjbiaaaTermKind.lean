/- Which kinds of terms there are, what makes them, and what their parts make again; plain mathematics alone. -/
import Derived.Test.YtfghhhghhjbiaaaTermSwap
namespace Go.Proofs.Ytfghhhghhjbiaaa.Pl

theorem encs_front {m m' : List Tm} (hg : goods m) (hg' : goods m') (hl : m.length = m'.length) {r r' : List UInt8} (e : encs m ++ r = encs m' ++ r') : m = m' ∧ r = r' := by
  induction m generalizing m' with
  | nil =>
    cases m' with
    | nil => exact ⟨rfl, e⟩
    | cons => simp at hl
  | cons t m ih =>
    cases m' with
    | nil => simp at hl
    | cons t' m' =>
      simp only [encs, List.append_assoc] at e
      obtain ⟨rfl, e2⟩ := enc_front t hg.1 t' hg'.1 _ _ e
      obtain ⟨rfl, e3⟩ := ih hg.2 hg'.2 (by simpa using hl) e2
      exact ⟨rfl, e3⟩
/-- Which heads there are. -/
inductive Kd (h : List UInt8) (p : Nat) : Nat → Prop where
  | data (t : List UInt8) : h = 100 :: txt t → t.length ≤ 1024 → p = 0 → Kd h p 1
  | atom (t : List UInt8) : h = 97 :: txt t → t.length ≤ 32 → nameOK t = true → p = 0 → Kd h p 2
  | row (v : Nat) : h = 114 :: enc v → v ≤ 32 → p = v → Kd h p 3
  | hash : h = [104] → p = 1 → Kd h p 4
  | mac : h = [109] → p = 2 → Kd h p 5
  | seal_ : h = [115] → p = 3 → Kd h p 6
theorem head_kind {h : List UInt8} {p : Nat} (k : HeadOK h p) : ∃ c, Kd h p c := by
  have e := k []
  rw [List.append_nil] at e
  cases h with
  | nil => exact absurd rfl k.pos
  | cons b r =>
    simp only [headP] at e
    split at e
    · rename_i hb
      subst hb
      obtain ⟨t, n, f, hr⟩ : ∃ t n f, rdt r 1024 = (t, n, f) := ⟨_, _, _, rfl⟩
      rw [hr] at e
      simp only [Prod.mk.injEq, List.length_cons] at e
      obtain ⟨e1, rfl, rfl⟩ := e
      obtain ⟨h1, h2, h3, h4⟩ := rdt_sound hr
      refine ⟨1, .data t ?_ (by omega) rfl⟩
      rw [h4, List.take_of_length_le (by omega)]
    · split at e
      · rename_i hb
        subst hb
        obtain ⟨t, n, f, hr⟩ : ∃ t n f, rdt r 32 = (t, n, f) := ⟨_, _, _, rfl⟩
        rw [hr] at e
        split at e
        · simp at e
        · rename_i hno
          simp only [Prod.mk.injEq, List.length_cons] at e
          obtain ⟨e1, rfl, rfl⟩ := e
          obtain ⟨h1, h2, h3, h4⟩ := rdt_sound hr
          refine ⟨2, .atom t ?_ (by omega) ?_ rfl⟩
          · rw [h4, List.take_of_length_le (by omega)]
          · cases hn : nameOK t with
            | true => rfl
            | false => exact absurd ⟨rfl, hn⟩ hno
      · split at e
        · rename_i hb
          subst hb
          obtain ⟨v, n, f, hr⟩ : ∃ v n f, rdn r = (v, n, f) := ⟨_, _, _, rfl⟩
          rw [hr] at e
          split at e
          · simp at e
          · rename_i hno
            simp only [Prod.mk.injEq, List.length_cons] at e
            obtain ⟨e1, rfl, rfl⟩ := e
            obtain ⟨h1, h2, h3, h4⟩ := rdn_sound hr
            refine ⟨3, .row v ?_ (by simpa using hno) rfl⟩
            rw [h3, List.take_of_length_le (by omega)]
        · split at e
          · rename_i hb
            subst hb
            simp only [Prod.mk.injEq, List.length_cons] at e
            obtain ⟨e1, rfl, _⟩ := e
            exact ⟨4, .hash (by rw [List.length_eq_zero_iff.1 (show r.length = 0 by omega)]) rfl⟩
          · split at e
            · rename_i hb
              subst hb
              simp only [Prod.mk.injEq, List.length_cons] at e
              obtain ⟨e1, rfl, _⟩ := e
              exact ⟨5, .mac (by rw [List.length_eq_zero_iff.1 (show r.length = 0 by omega)]) rfl⟩
            · split at e
              · rename_i hb
                subst hb
                simp only [Prod.mk.injEq, List.length_cons] at e
                obtain ⟨e1, rfl, _⟩ := e
                exact ⟨6, .seal_ (by rw [List.length_eq_zero_iff.1 (show r.length = 0 by omega)]) rfl⟩
              · simp at e
theorem row_head {v : Nat} (h : v ≤ 32) : HeadOK (114 :: enc v) v := by
  intro rest
  rw [List.cons_append, headP, if_neg (by decide), if_neg (by decide), if_pos rfl, rdn_enc (by rw [two64]; omega) rest, if_neg (by simp only; omega)]
  simp [Nat.add_comm]
theorem data_head {t : List UInt8} (h : t.length ≤ 1024) : HeadOK (100 :: txt t) 0 := by
  intro rest
  rw [List.cons_append, headP, if_pos rfl, rdt_txt (by rw [two64]; omega) rest 1024 (by omega)]
  simp [Nat.add_comm]
theorem atom_head {t : List UInt8} (h : t.length ≤ 32) (hn : nameOK t = true) : HeadOK (97 :: txt t) 0 := by
  intro rest
  rw [List.cons_append, headP, if_neg (by decide), if_pos rfl, rdt_txt (by rw [two64]; omega) rest 32 (by omega), if_neg (by simp [hn])]
  simp [Nat.add_comm]
theorem hash_head : HeadOK [104] 1 := fun _ => rfl
theorem mac_head : HeadOK [109] 2 := fun _ => rfl
theorem seal_head : HeadOK [115] 3 := fun _ => rfl

/-- What letters and parts make, or why there is nothing. -/
def madeP (front : List UInt8) (l : List (List UInt8)) : List UInt8 × Nat :=
  if ∀ x ∈ l, checkP x = 0 then (if checkP (front ++ l.flatten) = 0 then (front ++ l.flatten, 0) else ([], 5)) else ([], 2)
def dataP (s : List UInt8) : List UInt8 × Nat := if 1024 < s.length then ([], 5) else (100 :: txt s, 0)
def atomP (s : List UInt8) : List UInt8 × Nat := if 32 < s.length then ([], 5) else if nameOK s = false then ([], 7) else (97 :: txt s, 0)
def rowP (l : List (List UInt8)) : List UInt8 × Nat := madeP (114 :: enc l.length) l

theorem check_len {s : List UInt8} (h : checkP s = 0) : s.length ≤ 16384 := by
  obtain ⟨t, ht, rfl⟩ := check_iff.1 h
  exact ht.2.2
/-- The trees of terms. -/
theorem trees {l : List (List UInt8)} (h : ∀ x ∈ l, checkP x = 0) : ∃ m : List Tm, (∀ t ∈ m, t.valid) ∧ m.map Tm.enc = l := by
  induction l with
  | nil => exact ⟨[], (fun t ht => by cases ht), rfl⟩
  | cons x l ih =>
    obtain ⟨m, h1, h2⟩ := ih (fun y hy => h y (List.mem_cons_of_mem _ hy))
    obtain ⟨t, ht, e⟩ := check_iff.1 (h x (List.mem_cons_self ..))
    refine ⟨t :: m, ?_, by simp [e, h2]⟩
    intro u hu
    rcases List.mem_cons.1 hu with rfl | hu
    · exact ht
    · exact h1 u hu
theorem node_valid_parts {h : List UInt8} {l : List Tm} (hv : (Tm.node h l).valid) : ∀ t ∈ l, t.valid := by
  intro t ht
  have hg := hv.1
  simp only [Tm.good] at hg
  exact places_valid hv (p := t) (by
    simp only [Tm.places, placess_flat, List.mem_cons, List.mem_flatMap]
    exact .inr ⟨t, ht, by obtain ⟨a, b⟩ := t; simp [Tm.places]⟩)
/-- What a valid term's parts make, behind its head, is it again. -/
theorem made_again {h : List UInt8} {l : List Tm} (hv : (Tm.node h l).valid) : madeP h (l.map Tm.enc) = ((Tm.node h l).enc, 0) := by
  unfold madeP
  rw [if_pos (by
    intro x hx
    obtain ⟨t, ht, rfl⟩ := List.mem_map.1 hx
    exact check_enc (node_valid_parts hv t ht))]
  have e : h ++ (l.map Tm.enc).flatten = (Tm.node h l).enc := by rw [← encs_flat, Tm.enc_node]
  rw [e, if_pos (check_enc hv)]
/-- What was made has just those parts. -/
theorem made_parts {front : List UInt8} {l : List (List UInt8)} (hh : HeadOK front l.length) {r : List UInt8} (h : madeP front l = (r, 0)) : ∃ m : List Tm, (Tm.node front m).valid ∧ (Tm.node front m).enc = r ∧ m.map Tm.enc = l := by
  unfold madeP at h
  split at h
  · rename_i h1
    split at h
    · rename_i h2
      simp only [Prod.mk.injEq, and_true] at h
      obtain ⟨m, hm, rfl⟩ := trees h1
      obtain ⟨t, ht, e⟩ := check_iff.1 h2
      have hg : (Tm.node front m).good := by
        simp only [Tm.good]
        exact ⟨by rw [List.length_map] at hh; exact hh, goods_of fun u hu => (hm u hu).1⟩
      have e2 : t.enc = (Tm.node front m).enc := by rw [e, ← encs_flat, Tm.enc_node]
      obtain rfl := enc_tm_inj ht.1 hg e2
      exact ⟨m, ht, by rw [← h, ← encs_flat, Tm.enc_node], rfl⟩
    · simp at h
  · simp at h
theorem row_parts {l : List (List UInt8)} (h8 : l.length < 256 ^ 8) {r : List UInt8} (h : rowP l = (r, 0)) : ∃ m : List Tm, (Tm.node (114 :: enc l.length) m).valid ∧ (Tm.node (114 :: enc l.length) m).enc = r ∧ m.map Tm.enc = l := by
  by_cases hl : l.length ≤ 32
  · exact made_parts (row_head hl) h
  · exfalso
    unfold rowP madeP at h
    split at h
    · split at h
      · rename_i h2
        obtain ⟨⟨h', l'⟩, ht, e⟩ := check_iff.1 h2
        have hg := ht.1
        simp only [Tm.good] at hg
        obtain ⟨c, hk⟩ := head_kind hg.1
        rw [Tm.enc_node] at e
        cases hk with
        | data t e1 _ _ => rw [e1] at e; simp at e
        | atom t e1 _ _ _ => rw [e1] at e; simp at e
        | hash e1 _ => rw [e1] at e; simp at e
        | mac e1 _ => rw [e1] at e; simp at e
        | seal_ e1 _ => rw [e1] at e; simp at e
        | row v e1 hv _ =>
          rw [e1] at e
          simp only [List.cons_append, List.cons.injEq, true_and] at e
          have r1 := rdn_enc (v := v) (by rw [two64]; omega) (encs l')
          rw [e, rdn_enc h8] at r1
          have := congrArg Prod.fst r1
          simp only at this
          omega
      · simp at h
    · simp at h
/- The tree of a term's bytes. -/
open Classical in
noncomputable def treeOf (s : List UInt8) : Option Tm := if h : ∃ t : Tm, t.valid ∧ t.enc = s then some (Classical.choose h) else none
theorem treeOf_enc {t : Tm} (h : t.valid) : treeOf t.enc = some t := by
  have hx : ∃ u : Tm, u.valid ∧ u.enc = t.enc := ⟨t, h, rfl⟩
  unfold treeOf
  rw [dif_pos hx]
  have := Classical.choose_spec hx
  rw [enc_tm_inj this.1.1 h.1 this.2]
theorem treeOf_none {s : List UInt8} (h : checkP s ≠ 0) : treeOf s = none := by
  unfold treeOf
  rw [dif_neg (fun k => h (check_iff.2 k))]
theorem treeOf_some {s : List UInt8} (h : checkP s = 0) : ∃ t : Tm, t.valid ∧ t.enc = s ∧ treeOf s = some t := by
  obtain ⟨t, ht, rfl⟩ := check_iff.1 h
  exact ⟨t, ht, rfl, treeOf_enc ht⟩
noncomputable def kindP (s : List UInt8) : Nat := if checkP s = 0 then (match s with | [] => 0 | b :: _ => if b = 100 then 1 else if b = 97 then 2 else if b = 114 then 3 else if b = 104 then 4 else if b = 109 then 5 else 6) else 0
noncomputable def textP (s : List UInt8) : List UInt8 × Bool := if checkP s = 0 ∧ (s.head? = some 100 ∨ s.head? = some 97) then ((rdt (s.drop 1) 1024).1, true) else ([], false)
noncomputable def partsP (s : List UInt8) : List (List UInt8) × Bool := match treeOf s with | some (.node _ l) => (l.map Tm.enc, true) | none => ([], false)
noncomputable def sizeP (s : List UInt8) : Nat := match treeOf s with | some t => t.places.length | none => 0
noncomputable def depthP (s : List UInt8) : Nat := match treeOf s with | some t => t.deep | none => 0
noncomputable def placesP (s : List UInt8) : List (List UInt8) := match treeOf s with | some t => t.places.map Tm.enc | none => []
def onceL (l : List (List UInt8)) : List (List UInt8) := l.foldl (fun out x => if x ∈ out then out else out ++ [x]) []
noncomputable def hasP (s f : List UInt8) : Bool := match treeOf s, treeOf f with | some _, some _ => decide (f ∈ placesP s) | _, _ => false
noncomputable def swapP (s f u : List UInt8) : List UInt8 × Nat := match treeOf s, treeOf f, treeOf u with
  | some t, some _, some v => if checkP (t.swap f v).enc = 0 then ((t.swap f v).enc, 0) else ([], 5)
  | _, _, _ => ([], 2)
theorem has_places {t : Tm} {f : List UInt8} : Has t f ↔ f ∈ t.places.map Tm.enc := by
  unfold Has
  rw [List.mem_map]
/-- The theorem of the stage, over plain bytes. -/
theorem back_plain {s f u : List UInt8} (h : (swapP s f u).2 = 0) (hf : hasP s f = true) (hu : hasP s u = false) :
    swapP (swapP s f u).1 u f = (s, 0) ∧ hasP (swapP s f u).1 u = true ∧ (hasP u f = true ∨ hasP (swapP s f u).1 f = false) := by
  unfold swapP at h
  cases hs : treeOf s with
  | none => rw [hs] at h; simp at h
  | some t =>
    cases hff : treeOf f with
    | none => rw [hs, hff] at h; simp at h
    | some F =>
      cases huu : treeOf u with
      | none => rw [hs, hff, huu] at h; simp at h
      | some U =>
        rw [hs, hff, huu] at h
        simp only at h
        split at h
        · rename_i hc
          have tv : ∀ {x : List UInt8} {y : Tm}, treeOf x = some y → y.valid ∧ y.enc = x := by
            intro x y e
            by_cases hx : checkP x = 0
            · obtain ⟨z, h1, h2, h3⟩ := treeOf_some hx
              rw [h3] at e
              obtain rfl := Option.some.inj e
              exact ⟨h1, h2⟩
            · rw [treeOf_none hx] at e; cases e
          obtain ⟨tv1, rfl⟩ := tv hs
          obtain ⟨Fv, rfl⟩ := tv hff
          obtain ⟨Uv, rfl⟩ := tv huu
          have e1 : swapP t.enc F.enc U.enc = ((t.swap F.enc U).enc, 0) := by unfold swapP; rw [hs, hff, huu]; simp only; rw [if_pos hc]
          rw [e1]
          simp only
          obtain ⟨S, hS, e2⟩ := check_iff.1 hc
          have hg := swap_good t tv1.1 F.enc U Uv.1
          obtain rfl := enc_tm_inj hS.1 hg e2
          have hS' := treeOf_enc hS
          have nu : ¬ Has t U.enc := by
            unfold hasP placesP at hu
            rw [hs, huu] at hu
            simp only [decide_eq_false_iff_not] at hu
            rw [has_places]; exact hu
          have hF : Has t F.enc := by
            unfold hasP placesP at hf
            rw [hs, hff] at hf
            simp only [decide_eq_true_eq] at hf
            rw [has_places]; exact hf
          have hb := swap_back t tv1.1 F U Fv.1 Uv.1 nu
          refine ⟨?_, ?_, ?_⟩
          · unfold swapP
            rw [hS', hff, huu]
            simp only
            rw [hb, if_pos (check_enc tv1)]
          · unfold hasP placesP
            rw [hS', huu]
            simp only [decide_eq_true_eq]
            exact has_places.1 (has_swap t F.enc U hF)
          · by_cases hUF : Has U F.enc
            · left
              unfold hasP placesP
              rw [huu, hff]
              simp only [decide_eq_true_eq]
              exact has_places.1 hUF
            · right
              unfold hasP placesP
              rw [hS', hff]
              simp only [decide_eq_false_iff_not]
              exact fun hh => swap_gone t tv1.1 F U Fv.1 Uv.1 nu hUF (has_places.2 hh)
        · simp at h
end Go.Proofs.Ytfghhhghhjbiaaa.Pl
