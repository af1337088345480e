/- What stands at a term's places; one term swapped for another, and back; plain mathematics alone. -/
import Derived.Test.YtfghhhghhjbiaaaTermPlain
namespace Go.Proofs.Ytfghhhghhjbiaaa.Pl

mutual
def Tm.swap : Tm → List UInt8 → Tm → Tm
  | .node h l, f, u => if h ++ encs l = f then u else .node h (swaps l f u)
def swaps : List Tm → List UInt8 → Tm → List Tm
  | [], _, _ => []
  | t :: l, f, u => t.swap f u :: swaps l f u
end
theorem swaps_map (l : List Tm) (f : List UInt8) (u : Tm) : swaps l f u = l.map fun t => t.swap f u := by
  induction l with
  | nil => simp [swaps]
  | cons t l ih => simp [swaps, ih]
theorem Tm.swap_node (h : List UInt8) (l : List Tm) (f : List UInt8) (u : Tm) : (Tm.node h l).swap f u = if (Tm.node h l).enc = f then u else .node h (l.map fun t => t.swap f u) := by
  by_cases e : (Tm.node h l).enc = f
  · rw [if_pos e, Tm.swap, if_pos (by rw [← Tm.enc_node]; exact e)]
  · rw [if_neg e, Tm.swap, if_neg (by rw [← Tm.enc_node]; exact e), swaps_map]
theorem placess_flat (l : List Tm) : placess l = l.flatMap Tm.places := by
  induction l with
  | nil => simp [placess]
  | cons t l ih => simp [placess, ih]
/-- Does a term with these bytes stand in t? -/
def Has (t : Tm) (f : List UInt8) : Prop := ∃ p ∈ t.places, p.enc = f
theorem has_node {h : List UInt8} {l : List Tm} {f : List UInt8} : Has (.node h l) f ↔ (Tm.node h l).enc = f ∨ ∃ p ∈ l, Has p f := by
  unfold Has
  simp only [Tm.places, placess_flat, List.mem_cons, List.mem_flatMap]
  constructor
  · rintro ⟨p, rfl | ⟨q, hq, hp⟩, e⟩
    · exact .inl e
    · exact .inr ⟨q, hq, p, hp, e⟩
  · rintro (e | ⟨q, hq, p, hp, e⟩)
    · exact ⟨_, .inl rfl, e⟩
    · exact ⟨p, .inr ⟨q, hq, hp⟩, e⟩
theorem has_self (t : Tm) : Has t t.enc := by obtain ⟨h, l⟩ := t; exact has_node.2 (.inl rfl)
theorem enc_mem {l : List Tm} {t : Tm} (h : t ∈ l) : t.enc.length ≤ (encs l).length := by
  induction l with
  | nil => cases h
  | cons u l ih =>
    simp only [encs, List.length_append]
    rcases List.mem_cons.1 h with rfl | h
    · omega
    · have := ih h; omega
theorem places_good : ∀ t : Tm, t.good → ∀ p ∈ t.places, p.good := by
  refine Tm.ind ?_
  intro h l ih hg p hp
  simp only [Tm.places, placess_flat, List.mem_cons, List.mem_flatMap] at hp
  rcases hp with rfl | ⟨q, hq, hp⟩
  · exact hg
  · simp only [Tm.good] at hg
    exact ih q hq (goods_mem hg.2 q hq) p hp
theorem places_deep : ∀ t : Tm, ∀ p ∈ t.places, p.deep ≤ t.deep := by
  refine Tm.ind ?_
  intro h l ih p hp
  simp only [Tm.places, placess_flat, List.mem_cons, List.mem_flatMap] at hp
  rcases hp with rfl | ⟨q, hq, hp⟩
  · exact Nat.le_refl _
  · have := ih q hq p hp
    have := deeps_mem hq
    simp only [Tm.deep]; omega
theorem places_len : ∀ t : Tm, ∀ p ∈ t.places, p.enc.length ≤ t.enc.length := by
  refine Tm.ind ?_
  intro h l ih p hp
  simp only [Tm.places, placess_flat, List.mem_cons, List.mem_flatMap] at hp
  rcases hp with rfl | ⟨q, hq, hp⟩
  · exact Nat.le_refl _
  · have := ih q hq p hp
    have := enc_mem hq
    simp only [Tm.enc, List.length_append]; omega
theorem places_valid {t : Tm} (h : t.valid) {p : Tm} (hp : p ∈ t.places) : p.valid :=
  ⟨places_good t h.1 p hp, Nat.le_trans (places_deep t p hp) h.2.1, Nat.le_trans (places_len t p hp) h.2.2⟩
theorem has_len {t : Tm} {f : List UInt8} (h : Has t f) : f.length ≤ t.enc.length := by
  obtain ⟨p, hp, rfl⟩ := h
  exact places_len t p hp
theorem head_len {h : List UInt8} {l : List Tm} (hg : (Tm.node h l).good) {p : Tm} (hp : p ∈ l) : p.enc.length < (Tm.node h l).enc.length := by
  simp only [Tm.good] at hg
  have h1 := List.length_pos_iff.2 hg.1.pos
  have h2 := enc_mem hp
  simp only [Tm.enc, List.length_append]; omega
theorem places_trans : ∀ t : Tm, ∀ p ∈ t.places, ∀ q ∈ p.places, q ∈ t.places := by
  refine Tm.ind ?_
  intro h l ih p hp q hq
  have hp' := hp
  simp only [Tm.places, placess_flat, List.mem_cons, List.mem_flatMap] at hp
  rcases hp with rfl | ⟨r, hr, hp⟩
  · exact hq
  · simp only [Tm.places, placess_flat, List.mem_cons, List.mem_flatMap]
    exact .inr ⟨r, hr, ih r hr p hp q hq⟩
theorem has_trans {t p : Tm} {f : List UInt8} (h : Has t p.enc) (ht : t.good) (hp : p.good) (k : Has p f) : Has t f := by
  obtain ⟨q, hq, e⟩ := h
  obtain rfl := enc_tm_inj (places_good t ht q hq) hp e
  obtain ⟨r, hr, e⟩ := k
  exact ⟨r, places_trans t q hq r hr, e⟩

theorem swap_good : ∀ t : Tm, t.good → ∀ (f : List UInt8) (u : Tm), u.good → (t.swap f u).good := by
  refine Tm.ind ?_
  intro h l ih hg f u hu
  rw [Tm.swap_node]
  split
  · exact hu
  · simp only [Tm.good] at hg ⊢
    refine ⟨by rw [List.length_map]; exact hg.1, goods_of ?_⟩
    intro t ht
    obtain ⟨q, hq, rfl⟩ := List.mem_map.1 ht
    exact ih q hq (goods_mem hg.2 q hq) f u hu
theorem swap_none : ∀ t : Tm, ∀ (f : List UInt8) (u : Tm), ¬ Has t f → t.swap f u = t := by
  refine Tm.ind ?_
  intro h l ih f u hn
  rw [has_node] at hn
  rw [Tm.swap_node, if_neg (fun e => hn (.inl e))]
  have : (l.map fun t => t.swap f u) = l := by
    conv => rhs; rw [← List.map_id l]
    exact List.map_congr_left fun t ht => ih t ht f u (fun hh => hn (.inr ⟨t, ht, hh⟩))
  rw [this]
theorem has_swap : ∀ t : Tm, ∀ (f : List UInt8) (u : Tm), Has t f → Has (t.swap f u) u.enc := by
  refine Tm.ind ?_
  intro h l ih f u hh
  rw [Tm.swap_node]
  split
  · exact has_self u
  · rename_i hne
    rcases has_node.1 hh with e | ⟨p, hp, hh⟩
    · exact absurd e hne
    · exact has_node.2 (.inr ⟨p.swap f u, List.mem_map.2 ⟨p, hp, rfl⟩, ih p hp f u hh⟩)
theorem swap_at {u F : Tm} : u.swap u.enc F = F := by
  obtain ⟨h, l⟩ := u
  rw [Tm.swap_node, if_pos rfl]
/-- A term in which something was swapped for u has not u's bytes itself, unless it was swapped whole, or u stood there. -/
theorem swap_not {h : List UInt8} {l : List Tm} {f : List UInt8} {u : Tm} (hg : (Tm.node h l).good) (hu : u.good) (hne : (Tm.node h l).enc ≠ f) (hn : ¬ Has (.node h l) u.enc) : (Tm.node h (l.map fun t => t.swap f u)).enc ≠ u.enc := by
  intro e
  have e2 : (Tm.node h l).swap f u = Tm.node h (l.map fun t => t.swap f u) := by rw [Tm.swap_node, if_neg hne]
  have hg2 := swap_good _ hg f u hu
  rw [e2] at hg2
  by_cases hh : Has (.node h l) f
  · rcases has_node.1 hh with e3 | ⟨p, hp, hp2⟩
    · exact hne e3
    · have h1 := has_len (has_swap p f u hp2)
      have h2 := head_len hg2 (List.mem_map.2 ⟨p, hp, rfl⟩)
      rw [e] at h2
      omega
  · have e3 := swap_none _ f u hh
    rw [e2] at e3
    rw [e3] at e
    exact hn (by rw [← e]; exact has_self _)
/-- Swapped, and back. -/
theorem swap_back : ∀ t : Tm, t.good → ∀ F u : Tm, F.good → u.good → ¬ Has t u.enc → (t.swap F.enc u).swap u.enc F = t := by
  refine Tm.ind ?_
  intro h l ih hg F u hF hu hn
  rw [Tm.swap_node]
  split
  · rename_i e
    rw [swap_at]
    exact (enc_tm_inj hg hF e).symm
  · rename_i hne
    rw [Tm.swap_node, if_neg (swap_not hg hu hne hn), List.map_map]
    have : (l.map ((fun t => t.swap u.enc F) ∘ fun t => t.swap F.enc u)) = l := by
      conv => rhs; rw [← List.map_id l]
      refine List.map_congr_left fun t ht => ?_
      simp only [Tm.good] at hg
      exact ih t ht (goods_mem hg.2 t ht) F u hF hu (fun hh => hn (has_node.2 (.inr ⟨t, ht, hh⟩)))
    rw [this]
/-- What was swapped stands there no more, unless what came has it. -/
theorem swap_gone : ∀ t : Tm, t.good → ∀ F u : Tm, F.good → u.good → ¬ Has t u.enc → ¬ Has u F.enc → ¬ Has (t.swap F.enc u) F.enc := by
  refine Tm.ind ?_
  intro h l ih hg F u hF hu hn hnu
  rw [Tm.swap_node]
  split
  · exact hnu
  · rename_i hne
    intro hh
    have hg' := hg
    simp only [Tm.good] at hg'
    rcases has_node.1 hh with e | ⟨p, hp, hp2⟩
    · have e2 : (Tm.node h l).swap F.enc u = Tm.node h (l.map fun t => t.swap F.enc u) := by rw [Tm.swap_node, if_neg hne]
      have hg2 := swap_good _ hg F.enc u hu
      rw [e2] at hg2
      by_cases h0 : Has (.node h l) F.enc
      · have h1 := has_swap _ F.enc u h0
        rw [e2] at h1
        have h3 := enc_tm_inj hg2 hF e
        rw [h3] at h1
        exact hn (has_trans h0 hg hF h1)
      · have e3 := swap_none _ F.enc u h0
        rw [e2] at e3
        rw [e3] at e
        exact hne e
    · obtain ⟨q, hq, rfl⟩ := List.mem_map.1 hp
      exact ih q hq (goods_mem hg'.2 q hq) F u hF hu (fun hh => hn (has_node.2 (.inr ⟨q, hq, hh⟩))) hnu hp2
/-- A term that stood there besides stands there still, where what was swapped came in for it. -/
theorem has_swap' {t : Tm} {f : List UInt8} {u : Tm} (h : Has t f) : Has (t.swap f u) u.enc := has_swap t f u h
end Go.Proofs.Ytfghhhghhjbiaaa.Pl
