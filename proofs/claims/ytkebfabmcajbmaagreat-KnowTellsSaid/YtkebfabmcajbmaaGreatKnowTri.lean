/- Somebody, the document's somebody, and a copy; what KnowTells says of them. -/
import Derived.Test.YtkebfabmcajbmaaGreatKnowTwo
namespace Go.Proofs.YtkebfabmcajbmaaGreat.Pl
open Go.RowKit

/-- Where there is room for all of L, who has seen some of L learns all of it. -/
theorem learns_in {L : List (List UInt8)} (hL : (L.map List.length).sum ≤ 6000) : ∀ (l H : List (List UInt8)), (∀ s ∈ l, s ∈ L) → (∀ s ∈ H, s ∈ L) → ∀ s, checkP s = 0 → (s ∈ learns H l ↔ s ∈ l ∨ s ∈ H)
  | [], _, _, _, s, _ => by simp [learns]
  | t :: l, H, h1, h2, s, hs => by
    have h3 : ∀ u ∈ t :: H, u ∈ L := fun u hu => (List.mem_cons.1 hu).elim (fun e => e ▸ h1 t (List.mem_cons.2 (.inl rfl))) (h2 u)
    have hc := cnt_sub h3
    have h4 : ∀ u ∈ learnH H t, u ∈ L := fun u hu => (learnH_sub H t u hu).elim (fun e => e ▸ h1 t (List.mem_cons.2 (.inl rfl))) (h2 u)
    show s ∈ learns (learnH H t) l ↔ _
    rw [learns_in hL l (learnH H t) (fun u hu => h1 u (List.mem_cons.2 (.inr hu))) h4 s hs]
    have h5 : s ∈ learnH H t ↔ s = t ∨ s ∈ H := by
      constructor
      · exact learnH_sub H t s
      · rintro (rfl | h)
        · rw [learnH_yes (learn_ok hs (by omega))]; exact List.mem_cons.2 (.inl rfl)
        · exact learn_mono H t s h
    rw [h5, List.mem_cons]
    constructor
    · rintro (h | h | h)
      · exact .inl (.inr h)
      · exact .inl (.inl h)
      · exact .inr h
    · rintro ((h | h) | h)
      · exact .inr (.inl h)
      · exact .inl h
      · exact .inr (.inr h)
theorem copy_same {L : List (List UInt8)} (hL : (L.map List.length).sum ≤ 6000) (k : Nat) (s : List UInt8) (hs : checkP s = 0) : s ∈ learns [] L ↔ s ∈ learns (learns [] (L.take k)) L := by
  have hsub : ∀ u ∈ learns [] (L.take k), u ∈ L := fun u hu => (learns_sub _ _ u hu).elim List.mem_of_mem_take (fun h => by cases h)
  rw [learns_in hL L [] (fun u hu => hu) (fun u hu => by cases hu) s hs, learns_in hL L _ (fun u hu => hu) hsub s hs]
  constructor
  · rintro (h | h)
    · exact .inl h
    · cases h
  · rintro (h | h)
    · exact .inl h
    · exact .inl (hsub s h)
theorem again_same {L : List (List UInt8)} (hL : (L.map List.length).sum ≤ 6000) (s : List UInt8) (hs : checkP s = 0) : s ∈ learns [] L ↔ s ∈ learns (learns [] L) L := by
  have := copy_same hL L.length s hs
  rwa [List.take_length] at this
theorem RefAt.cut {w : World} {G : Nat → Prop} {r : Nat} {H : List (List UInt8)} (h : RefAt w G r H) : RefAt w (fun b => G b ∧ b < w.heap.size) r H := by
  obtain ⟨L, ao, cap, h1, h2, h3, h4, h5, h6, h7⟩ := h
  refine ⟨L, ao, cap, h1, h2, h3, h4, h5, ⟨h6, (Array.getElem?_eq_some_iff.1 h1).1⟩, fun b off e hn => ⟨h7 b off e hn, ?_⟩⟩
  rcases h2 with h2 | ⟨b', off', e', hlt, _⟩
  · exact absurd h2 hn
  · rw [e] at e'
    cases e'
    exact hlt
/-- Somebody and the document's. -/
structure Tri (S : Nat) (w : World) (F G : Nat → Prop) (p r : Nat) (H K : List (List UInt8)) : Prop where
  fst : KnowAt w F p H
  ref : RefAt w G r K
  apart : ∀ b, F b → G b → False
  lowF : ∀ b, F b → S ≤ b
  lowG : ∀ b, G b → S ≤ b
  foot : ∀ b, G b → b < w.heap.size
theorem Tri.below {S : Nat} {w w' : World} {F G : Nat → Prop} {p r : Nat} {H K : List (List UInt8)} (h : Tri S w F G p r H K) (hb : Below w.heap.size w w') : Tri S w' F G p r H K :=
  ⟨h.fst.kept hb.size (fun b hlt _ => hb.block b hlt), h.ref.below hb, h.apart, h.lowF, h.lowG, fun b hg => Nat.lt_of_lt_of_le (h.foot b hg) hb.size⟩
theorem Tri.learn1 {S : Nat} {w w' : World} {F F' G : Nat → Prop} {p r : Nat} {H H' K : List (List UInt8)} (h : Tri S w F G p r H K) (hS : S ≤ w.heap.size) (hk : KnowAt w' F' p H') (hF : ∀ b, F' b → F b ∨ w.heap.size ≤ b) (ht : Turn F w w') : Tri S w' F' G p r H' K :=
  ⟨hk, h.ref.turn ht (fun b hg hf => h.apart b hf hg), fun b hf hg => (hF b hf).elim (fun e => h.apart b e hg) (fun e => by have := h.foot b hg; omega), fun b hf => (hF b hf).elim (h.lowF b) (fun e => Nat.le_trans hS e), h.lowG, fun b hg => Nat.lt_of_lt_of_le (h.foot b hg) ht.size⟩
theorem Tri.learn2 {S : Nat} {w w' : World} {F G G' : Nat → Prop} {p r : Nat} {H K K' : List (List UInt8)} (h : Tri S w F G p r H K) (hS : S ≤ w.heap.size) (hk : RefAt w' G' r K') (hG : ∀ b, G' b → G b ∨ w.heap.size ≤ b) (ht : Turn G w w') : Tri S w' F (fun b => G' b ∧ b < w'.heap.size) p r H K' :=
  ⟨h.fst.kept ht.size (fun b hlt hf => ht.block b hlt (fun hg => h.apart b hf hg)), hk.cut, fun b hf hg => (hG b hg.1).elim (fun e => h.apart b hf e) (fun e => by have := h.fst.foot b hf; omega), h.lowF, fun b hg => (hG b hg.1).elim (h.lowG b) (fun e => Nat.le_trans hS e), fun b hg => hg.2⟩
theorem ref_in {w : World} {F G : Nat → Prop} {S p r : Nat} {H K : List (List UInt8)} (h : Tri S w F G p r H K) : G r := by
  obtain ⟨L, ao, cap, h1, h2, h3, h4, h5, h6, h7⟩ := h.ref
  exact h6
/-- The copy, by itself. -/
structure Cop (S : Nat) (w : World) (F G E : Nat → Prop) (q : Nat) (K : List (List UInt8)) : Prop where
  cop : KnowAt w E q K
  apF : ∀ b, E b → F b → False
  apG : ∀ b, E b → G b → False
  low : ∀ b, E b → S ≤ b
theorem Cop.below {S : Nat} {w w' : World} {F G E : Nat → Prop} {q : Nat} {K : List (List UInt8)} (h : Cop S w F G E q K) (hb : Below w.heap.size w w') : Cop S w' F G E q K :=
  ⟨h.cop.kept hb.size (fun b hlt _ => hb.block b hlt), h.apF, h.apG, h.low⟩
theorem Cop.learn1 {S : Nat} {w w' : World} {F F' G E : Nat → Prop} {q : Nat} {K : List (List UInt8)} (h : Cop S w F G E q K) (hF : ∀ b, F' b → F b ∨ w.heap.size ≤ b) (ht : Turn F w w') : Cop S w' F' G E q K :=
  ⟨h.cop.kept ht.size (fun b hlt he => ht.block b hlt (h.apF b he)), fun b he hf => (hF b hf).elim (h.apF b he) (fun e => by have := h.cop.foot b he; omega), h.apG, h.low⟩
theorem Cop.learn2 {S : Nat} {w w' : World} {F G G' E : Nat → Prop} {q : Nat} {K : List (List UInt8)} (h : Cop S w F G E q K) (hG : ∀ b, G' b → G b ∨ w.heap.size ≤ b) (ht : Turn G w w') : Cop S w' F (fun b => G' b ∧ b < w'.heap.size) E q K :=
  ⟨h.cop.kept ht.size (fun b hlt he => ht.block b hlt (h.apG b he)), h.apF, fun b he hg => (hG b hg.1).elim (h.apG b he) (fun e => by have := h.cop.foot b he; omega), h.low⟩
/-- Either there is no copy yet, or there is one made behind k of them. -/
def CopAt (S : Nat) (w : World) (F G : Nat → Prop) (p q a k : Nat) (L : List (List UInt8)) : Prop := (q = p ∧ k ≤ a) ∨ (a < k ∧ ∃ E, Cop S w F G E q (learns [] (L.take a)))
theorem CopAt.below {S : Nat} {w w' : World} {F G : Nat → Prop} {p q a k : Nat} {L : List (List UInt8)} (h : CopAt S w F G p q a k L) (hb : Below w.heap.size w w') : CopAt S w' F G p q a k L :=
  h.imp id (fun ⟨h1, E, h2⟩ => ⟨h1, E, h2.below hb⟩)
theorem CopAt.learn1 {S : Nat} {w w' : World} {F F' G : Nat → Prop} {p q a k : Nat} {L : List (List UInt8)} (h : CopAt S w F G p q a k L) (hF : ∀ b, F' b → F b ∨ w.heap.size ≤ b) (ht : Turn F w w') : CopAt S w' F' G p q a k L :=
  h.imp id (fun ⟨h1, E, h2⟩ => ⟨h1, E, h2.learn1 hF ht⟩)
theorem CopAt.learn2 {S : Nat} {w w' : World} {F G G' : Nat → Prop} {p q a k : Nat} {L : List (List UInt8)} (h : CopAt S w F G p q a k L) (hG : ∀ b, G' b → G b ∨ w.heap.size ≤ b) (ht : Turn G w w') : CopAt S w' F (fun b => G' b ∧ b < w'.heap.size) p q a k L :=
  h.imp id (fun ⟨h1, E, h2⟩ => ⟨h1, E, h2.learn2 hG ht⟩)
theorem txt_kept {w w' : World} {ao : Option Addr} {l : List ByteArray} (h : TxtRow w ao l) (hs : w.heap.size ≤ w'.heap.size) (hb : ∀ b, (b < w.heap.size ∧ ∃ off, ao = some ⟨b, off, none⟩) → w'.heap[b]? = w.heap[b]?) : TxtRow w' ao l := by
  rcases h with h | ⟨b, off, e, hlt, hc⟩
  · exact .inl h
  · exact .inr ⟨b, off, e, Nat.lt_of_lt_of_le hlt hs, fun j hj => (World.cell?_of_block (a := ⟨b, off + j, none⟩) (hb b ⟨hlt, off, e⟩)).trans (hc j hj)⟩
/-- The end: the copy, or who was to be copied, sees all of it anew; N: what stays as it is. -/
def EndAt (S : Nat) (w : World) (N : Nat → Prop) (p q : Nat) (L : List (List UInt8)) (k : Nat) : Prop :=
  (∀ b, N b → b < w.heap.size) ∧ ((q = p ∧ ∃ F, KnowAt w F p (learns (learns [] L) (L.take k)) ∧ (∀ b, F b → S ≤ b) ∧ ∀ b, N b → ¬ F b) ∨ ∃ a F E, Two S w F E p q (learns [] L) (learns (learns [] (L.take a)) (L.take k)) ∧ ∀ b, N b → ¬ E b)
theorem EndAt.below {S : Nat} {w w' : World} {N : Nat → Prop} {p q k : Nat} {L : List (List UInt8)} (h : EndAt S w N p q L k) (hb : Below w.heap.size w w') : EndAt S w' N p q L k :=
  ⟨fun b hn => Nat.lt_of_lt_of_le (h.1 b hn) hb.size, h.2.imp (fun ⟨h1, F, h2, h3⟩ => ⟨h1, F, h2.kept hb.size (fun b hlt _ => hb.block b hlt), h3⟩) (fun ⟨a, F, E, h, hn⟩ => ⟨a, F, E, h.below hb, hn⟩)⟩
theorem end_start {S : Nat} {w w' : World} {F G : Nat → Prop} {p q r a k : Nat} {L K : List (List UInt8)} {ao : Option Addr} (h : Tri S w F G p r (learns [] L) K) (hc : CopAt S w F G p q a k L) (hb : Below w.heap.size w w') (hn : ∀ b off, ao = some ⟨b, off, none⟩ → w.heap.size ≤ b) :
    EndAt S w' (fun b => b < w'.heap.size ∧ ∃ off, ao = some ⟨b, off, none⟩) p q L 0 := by
  have h' := h.below hb
  refine ⟨fun b hb => hb.1, ?_⟩
  rcases hc with ⟨h1, _⟩ | ⟨_, E, hE⟩
  · exact .inl ⟨h1, F, h'.fst, h.lowF, fun b ⟨_, off, e⟩ hf => by
      have h1 := hn b off e
      have h2 := h.fst.foot b hf
      omega⟩
  · have hE' := hE.below hb
    exact .inr ⟨a, F, E, ⟨h'.fst, hE'.cop, fun b hf he => hE.apF b he hf, h.lowF, hE.low⟩, fun b ⟨_, off, e⟩ he => by
      have h1 := hn b off e
      have h2 := hE.cop.foot b he
      omega⟩
theorem end_learn {S : Nat} {w : World} {N : Nat → Prop} {p q k : Nat} {l : List ByteArray} (h : EndAt S w N p q (l.map bl) k) (hS : S ≤ w.heap.size) (hk : k < l.length) (hz : l[k].size ≤ 6000) (hM : MX w) :
    Calls Tryz.prog 6 #[.pointer (some ⟨q, 0, none⟩), .string l[k]] w fun e w' => (∃ n : Nat, e = .returned (.int .i64 n)) ∧ EndAt S w' N p q (l.map bl) (k + 1) ∧ Below S w w' ∧ ∀ b, N b → w'.heap[b]? = w.heap[b]? := by
  have hlk : k < (l.map bl).length := by rw [List.length_map]; exact hk
  have e : (l.map bl)[k] = bl l[k] := by simp
  have s2 : ∀ K, learnH (learns K ((l.map bl).take k)) (bl l[k]) = learns K ((l.map bl).take (k + 1)) := fun K => by
    rw [List.take_succ_eq_append_getElem hlk, learns_snoc, e]
  obtain ⟨hlt, h⟩ := h
  rcases h with ⟨rfl, F, h1, h2, h3⟩ | ⟨a, F, E, h1, h3⟩
  · refine (know_learn F q _ l[k] (by omega) w h1 hM).mono ?_
    rintro e w' ⟨rfl, ⟨F2, hk2, hF2⟩, ht⟩
    rw [s2] at hk2
    exact ⟨⟨_, rfl⟩, ⟨fun b hn => Nat.lt_of_lt_of_le (hlt b hn) ht.size, .inl ⟨rfl, F2, hk2, fun b hb => (hF2 b hb).elim (h2 b) (fun e => Nat.le_trans hS e), fun b hn hf => (hF2 b hf).elim (h3 b hn) (fun e => by have := hlt b hn; omega)⟩⟩, turn_to ht h2 hS, fun b hn => ht.block b (hlt b hn) (h3 b hn)⟩
  · refine (know_learn E q _ l[k] (by omega) w h1.snd hM).mono ?_
    rintro e w' ⟨rfl, ⟨F2, hk2, hF2⟩, ht⟩
    rw [s2] at hk2
    exact ⟨⟨_, rfl⟩, ⟨fun b hn => Nat.lt_of_lt_of_le (hlt b hn) ht.size, .inr ⟨a, F, F2, h1.turn hS hk2 hF2 ht, fun b hn hf => (hF2 b hf).elim (h3 b hn) (fun e => by have := hlt b hn; omega)⟩⟩, turn_to ht h1.lowG hS, fun b hn => ht.block b (hlt b hn) (h3 b hn)⟩
theorem end_list {S : Nat} {w : World} {N : Nat → Prop} {p q : Nat} {L : List (List UInt8)} (hL : (L.map List.length).sum ≤ 6000) (h : EndAt S w N p q L L.length) (who : Nat) (hw : who = p ∨ who = q) :
    Calls Tryz.prog 8 #[.pointer (some ⟨who, 0, none⟩)] w fun e w' => (∃ v M, e = .returned v ∧ OwnT w' w.heap.size v M ∧ SortK (learns [] L) (M.map bl)) ∧ Below w.heap.size w w' := by
  have go : ∀ (F : Nat → Prop) (u : Nat) (H : List (List UInt8)), KnowAt w F u H → (∀ s, checkP s = 0 → (s ∈ learns [] L ↔ s ∈ H)) → Calls Tryz.prog 8 #[.pointer (some ⟨u, 0, none⟩)] w fun e w' => (∃ v M, e = .returned v ∧ OwnT w' w.heap.size v M ∧ SortK (learns [] L) (M.map bl)) ∧ Below w.heap.size w w' := fun F u H hk hs =>
    (know_list F u H w hk).mono fun e w' ⟨⟨v, M, h1, h2, h3⟩, h4⟩ => ⟨⟨v, M, h1, h2, sortK_same (fun s hc => (hs s hc).symm) h3⟩, h4⟩
  obtain ⟨_, h⟩ := h
  rcases h with ⟨rfl, F, h1, _⟩ | ⟨a, F, E, h1, _⟩
  · rw [List.take_length] at h1
    rcases hw with rfl | rfl
    all_goals exact go F _ _ h1 (again_same hL)
  · have h2 := h1.snd
    rw [List.take_length] at h2
    rcases hw with rfl | rfl
    · exact go F _ _ h1.fst (fun s _ => Iff.rfl)
    · exact go E _ _ h2 (copy_same hL a)
end Go.Proofs.YtkebfabmcajbmaaGreat.Pl
