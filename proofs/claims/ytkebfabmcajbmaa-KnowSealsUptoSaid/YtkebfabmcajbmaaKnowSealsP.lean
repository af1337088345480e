/- What is made of a key and a secret that nobody has, and how much may be known of it; plain mathematics alone. -/
import Derived.Test.YtkebfabmcajbmaaKnowD1
import Derived.Test.YtkebfabmcajbmaaKnowSeenP
import Derived.Test.YtkebfabmcajbmaaKnowRefG
import Derived.Test.YtkebfabmcajbmaaKnowAlive
namespace Go.Proofs.Ytkebfabmcajbmaa.Pl

theorem mac_head10 : HeadOK [109] 2 := fun _ => rfl
theorem hash_head10 : HeadOK [104] 1 := fun _ => rfl
/-- What the law makes of a key, a nonce, a secret and another term. -/
def hidesP (d : Nat) (k t s u : List UInt8) : List UInt8 × Nat :=
  if d = 0 then madeP [115] [k, t, s] else if d = 1 then madeP [109] [k, u] else if d = 2 then madeP [104] [s] else
  if d = 3 then (if (madeP [115] [k, t, s]).2 = 0 ∧ (madeP [104] [k]).2 = 0 then rowP [u, (madeP [115] [k, t, s]).1, (madeP [104] [k]).1] else ([], 5)) else madeP [109] [u, s]
theorem trees_one {m : List Tm} {a : List UInt8} (h : m.map Tm.enc = [a]) : ∃ x, m = [x] ∧ x.enc = a := by
  match m, h with
  | [x], h => exact ⟨x, rfl, by injection h⟩
theorem trees_two {m : List Tm} {a b : List UInt8} (h : m.map Tm.enc = [a, b]) : ∃ x y, m = [x, y] ∧ x.enc = a ∧ y.enc = b := by
  match m, h with
  | [x, y], h =>
    injection h with h1 h
    injection h with h2 h
    exact ⟨x, y, rfl, h1, h2⟩
theorem trees_three {m : List Tm} {a b c : List UInt8} (h : m.map Tm.enc = [a, b, c]) : ∃ x y z, m = [x, y, z] ∧ x.enc = a ∧ y.enc = b ∧ z.enc = c := by
  match m, h with
  | [x, y, z], h =>
    injection h with h1 h
    injection h with h2 h
    injection h with h3 h
    exact ⟨x, y, z, rfl, h1, h2, h3⟩
theorem seal_tree {K S : Tm} (hK : K.valid) (hS : S.valid) {t r : List UInt8} (h : madeP [115] [K.enc, t, S.enc] = (r, 0)) : ∃ T : Tm, T.valid ∧ T.enc = t ∧ (sealT K T S).valid ∧ (sealT K T S).enc = r := by
  obtain ⟨m, h1, h2, h3⟩ := made_parts seal_head10 h
  obtain ⟨x, y, z, rfl, e1, e2, e3⟩ := trees_three h3
  have hv := node_valid_parts h1
  obtain rfl := enc_tm_inj (hv x (by simp)).1 hK.1 e1
  obtain rfl := enc_tm_inj (hv z (by simp)).1 hS.1 e3
  exact ⟨y, hv y (by simp), e2, h1, h2⟩
theorem hash_tree {K : Tm} (hK : K.valid) {r : List UInt8} (h : madeP [104] [K.enc] = (r, 0)) : (Tm.node [104] [K]).valid ∧ (Tm.node [104] [K]).enc = r := by
  obtain ⟨m, h1, h2, h3⟩ := made_parts hash_head10 h
  obtain ⟨x, rfl, e1⟩ := trees_one h3
  obtain rfl := enc_tm_inj (node_valid_parts h1 x (by simp)).1 hK.1 e1
  exact ⟨h1, h2⟩
theorem mac_tree {t u r : List UInt8} (h : madeP [109] [t, u] = (r, 0)) : ∃ T U : Tm, (Tm.node [109] [T, U]).valid ∧ (Tm.node [109] [T, U]).enc = r := by
  obtain ⟨m, h1, h2, h3⟩ := made_parts mac_head10 h
  obtain ⟨x, y, rfl, e1, e2⟩ := trees_two h3
  exact ⟨x, y, h1, h2⟩
theorem atom_cand {S : Tm} (h : AtomT S) : cand S = [S] := by
  obtain ⟨a, rfl⟩ := h
  rw [cand, if_neg (by simp), if_neg (by simp), if_neg (by intro e; injection e with e; exact absurd e (by decide))]
theorem cover_enc {T : Tm} (h : T.valid) : coverOf T.enc = (cand T).map Tm.enc := by
  unfold coverOf
  rw [treeOf_enc h]
/-- Neither stands in whatever term these bytes are. -/
def CleanB (K S : Tm) (b : List UInt8) : Prop := ∀ T : Tm, T.valid → T.enc = b → cleanT K S T
theorem hides_tree {K S : Tm} (hK : K.valid) (hS : S.valid) (aS : AtomT S) {d : Nat} {t u r : List UInt8} (h : hidesP d K.enc t S.enc u = (r, 0)) (ct : CleanB K S t) (cu : CleanB K S u) :
    ∃ X : Tm, X.valid ∧ X.enc = r ∧ (∀ z ∈ takeT X, LX K S z) ∧ ∃ top, ∀ y ∈ coverOf r, y = top ∨ y ∈ coverOf t ∨ y ∈ coverOf u ∨ y = (Tm.node [104] [K]).enc ∨ y = S.enc := by
  have one : ∀ X : Tm, X.valid → X.enc = r → cand X = [X] → ∃ top, ∀ y ∈ coverOf r, y = top ∨ y ∈ coverOf t ∨ y ∈ coverOf u ∨ y = (Tm.node [104] [K]).enc ∨ y = S.enc := fun X h1 h2 h3 => ⟨X.enc, fun y hy => by
    rw [← h2, cover_enc h1, h3] at hy
    exact .inl (List.mem_singleton.1 hy)⟩
  unfold hidesP at h
  split at h
  · obtain ⟨T, hT, e, hv, hr⟩ := seal_tree hK hS h
    refine ⟨sealT K T S, hv, hr, made_lx (.inr (.inl ⟨T, S, rfl, ct T hT e⟩)), (sealT K T S).enc, fun y hy => ?_⟩
    rw [← hr, cover_enc hv, cand, if_neg (by decide), if_neg (by decide), if_pos rfl, candt, cands, cands, cands, atom_cand aS] at hy
    simp only [List.append_nil, List.map_cons, List.map_append, List.map_nil, List.mem_cons, List.mem_append, List.not_mem_nil, or_false] at hy
    rcases hy with hy | hy | hy
    · exact .inl hy
    · exact .inr (.inl (by rw [← e, cover_enc hT]; exact hy))
    · exact .inr (.inr (.inr (.inr hy)))
  · split at h
    · obtain ⟨T, U, hv, hr⟩ := mac_tree h
      exact ⟨_, hv, hr, made_lx (.inr (.inr (.inl ⟨T, U, rfl⟩))), one _ hv hr (by rw [cand, if_neg (by decide), if_neg (by decide), if_neg (by decide)])⟩
    · split at h
      · obtain ⟨hv, hr⟩ := hash_tree hS h
        exact ⟨_, hv, hr, made_lx (.inr (.inr (.inr (.inl ⟨S, rfl⟩)))), one _ hv hr (by rw [cand, if_neg (by decide), if_neg (by decide), if_neg (by decide)])⟩
      · split at h
        · split at h
          · rename_i hok
            obtain ⟨a, ha⟩ : ∃ a, madeP [115] [K.enc, t, S.enc] = (a, 0) := ⟨_, Prod.ext rfl hok.1⟩
            obtain ⟨b, hb⟩ : ∃ b, madeP [104] [K.enc] = (b, 0) := ⟨_, Prod.ext rfl hok.2⟩
            rw [ha, hb] at h
            obtain ⟨T, hT, e, hv, hr⟩ := seal_tree hK hS ha
            obtain ⟨hv2, hr2⟩ := hash_tree hK hb
            unfold rowP at h
            obtain ⟨m, h1, h2, h3⟩ := made_parts (row_head10 (by simp)) h
            obtain ⟨x, y, z, rfl, e1, e2, e3⟩ := trees_three h3
            have hp := node_valid_parts h1
            obtain rfl := enc_tm_inj (hp y (by simp)).1 hv.1 (e2.trans hr.symm)
            obtain rfl := enc_tm_inj (hp z (by simp)).1 hv2.1 (e3.trans hr2.symm)
            refine ⟨_, h1, h2, made_lx (.inr (.inr (.inr (.inr ⟨_, x, T, S, K, rfl, cu x (hp x (by simp)) e1, ct T hT e⟩)))), (sealT K T S).enc, fun w hw => ?_⟩
            rw [← h2, cover_enc h1, cand, if_neg (by simp), if_pos (by rfl), cands, cands, cands, cands] at hw
            rw [show cand (sealT K T S) = sealT K T S :: (cand T ++ [S]) by rw [cand, if_neg (by decide), if_neg (by decide), if_pos rfl, candt, cands, cands, cands, atom_cand aS, List.append_nil],
              show cand (Tm.node [104] [K]) = [Tm.node [104] [K]] by rw [cand, if_neg (by decide), if_neg (by decide), if_neg (by decide)]] at hw
            simp only [List.append_nil, List.map_cons, List.map_append, List.map_nil, List.mem_cons, List.mem_append, List.not_mem_nil, or_false] at hw
            rcases hw with hw | (hw | hw | hw) | hw
            · exact .inr (.inr (.inl (by rw [← e1, cover_enc (hp x (by simp))]; exact hw)))
            · exact .inl hw
            · exact .inr (.inl (by rw [← e, cover_enc hT]; exact hw))
            · exact .inr (.inr (.inr (.inr hw)))
            · exact .inr (.inr (.inr (.inl hw)))
          · injection h with _ h
            cases h
        · obtain ⟨T, U, hv, hr⟩ := mac_tree h
          exact ⟨_, hv, hr, made_lx (.inr (.inr (.inl ⟨T, U, rfl⟩))), one _ hv hr (by rw [cand, if_neg (by decide), if_neg (by decide), if_neg (by decide)])⟩
/-- All that may be known of what was seen stands among these. -/
def CovB (K S : Tm) (W0 : List (List UInt8)) (n : Nat) (H : List (List UInt8)) : Prop :=
  ∃ tops : List (List UInt8), tops.length ≤ n ∧ ∀ h ∈ H, ∀ y ∈ coverOf h, y ∈ coverP W0 ++ tops ++ [(Tm.node [104] [K]).enc, K.enc, S.enc]
/-- What holds while things are made of the key and the secret. -/
structure SInv (K S : Tm) (W0 : List (List UInt8)) (n : Nat) (H : List (List UInt8)) : Prop where
  safe : ∀ t, SH H t → ∀ z ∈ takeT t, LX K S z
  cov : CovB K S W0 n H
theorem cov_cnt {K S : Tm} {W0 H : List (List UInt8)} {n : Nat} (hW : (W0.map List.length).sum ≤ 6000) (h : CovB K S W0 n H) : cntP H ≤ 2003 + n := by
  obtain ⟨tops, h1, h2⟩ := h
  have h3 := cnt_cover (H := H) (C := coverP W0 ++ tops ++ [(Tm.node [104] [K]).enc, K.enc, S.enc]) fun s hs => by
    have := known_cover hs
    obtain ⟨b, hb, hy⟩ := List.mem_flatMap.1 this
    exact h2 b hb s hy
  have h4 := cover_len W0
  simp only [List.length_append, List.length_cons, List.length_nil] at h3
  omega
theorem cov_cons {K S : Tm} {W0 H : List (List UInt8)} {n : Nat} (h : CovB K S W0 n H) {r top : List UInt8} (hr : ∀ y ∈ coverOf r, y = top ∨ y ∈ coverP W0 ∨ y ∈ [(Tm.node [104] [K]).enc, K.enc, S.enc]) : CovB K S W0 (n + 1) (r :: H) := by
  obtain ⟨tops, h1, h2⟩ := h
  refine ⟨tops ++ [top], by simp; exact h1, fun b hb y hy => ?_⟩
  have hm : y ∈ coverP W0 ++ tops ++ [(Tm.node [104] [K]).enc, K.enc, S.enc] ∨ y = top := by
    rcases List.mem_cons.1 hb with rfl | hb
    · rcases hr y hy with e | e | e
      · exact .inr e
      · exact .inl (List.mem_append.2 (.inl (List.mem_append.2 (.inl e))))
      · exact .inl (List.mem_append.2 (.inr e))
    · exact .inl (h2 b hb y hy)
  rcases hm with e | rfl
  · rcases List.mem_append.1 e with e | e
    · rcases List.mem_append.1 e with e | e
      · exact List.mem_append.2 (.inl (List.mem_append.2 (.inl e)))
      · exact List.mem_append.2 (.inl (List.mem_append.2 (.inr (List.mem_append.2 (.inl e)))))
    · exact List.mem_append.2 (.inr e)
  · exact List.mem_append.2 (.inl (List.mem_append.2 (.inr (List.mem_append.2 (.inr (by simp))))))
theorem cover_mem {W0 : List (List UInt8)} {t y : List UInt8} (ht : t ∈ W0) (hy : y ∈ coverOf t) : y ∈ coverP W0 := List.mem_flatMap.2 ⟨t, ht, hy⟩
theorem sinv_start {K S : Tm} {W0 L : List (List UInt8)} (hL : ∀ b ∈ L, b ∈ W0) (hc : ∀ b ∈ L, CleanB K S b) : SInv K S W0 0 (learns [] L) := by
  have hs : ∀ b ∈ learns [] L, b ∈ L := fun b hb => (learns_sub L [] b hb).elim id (fun h => by cases h)
  exact ⟨fun t ht => made_lx (.inl (hc _ (hs _ ht.2) t ht.1 rfl)), ⟨[], Nat.le_refl _, fun b hb y hy => List.mem_append.2 (.inl (List.mem_append.2 (.inl (cover_mem (hL b (hs b hb)) hy))))⟩⟩
theorem sinv_step {K S : Tm} (hK : K.valid) (hS : S.valid) (aS : AtomT S) {W0 H : List (List UInt8)} {n d : Nat} (h : SInv K S W0 n H) {t u r : List UInt8} (hr : hidesP d K.enc t S.enc u = (r, 0)) (ht : t ∈ W0) (hu : u ∈ W0) (ct : CleanB K S t) (cu : CleanB K S u) :
    SInv K S W0 (n + 1) (r :: H) ∧ checkP r = 0 := by
  obtain ⟨X, h1, h2, h3, top, h4⟩ := hides_tree hK hS aS hr ct cu
  refine ⟨⟨fun x hx => ?_, cov_cons h.cov (top := top) fun y hy => ?_⟩, by rw [← h2]; exact check_enc h1⟩
  · rcases List.mem_cons.1 hx.2 with e | e
    · obtain rfl := enc_tm_inj hx.1.1 h1.1 (e.trans h2.symm)
      exact h3
    · exact h.safe x ⟨hx.1, e⟩
  · rcases h4 y hy with e | e | e | e | e
    · exact .inl e
    · exact .inr (.inl (cover_mem ht e))
    · exact .inr (.inl (cover_mem hu e))
    · exact .inr (.inr (by rw [e]; simp))
    · exact .inr (.inr (by rw [e]; simp))
theorem sinv_more {K S : Tm} {W0 H : List (List UInt8)} {n m : Nat} (h : SInv K S W0 n H) (hn : n ≤ m) : SInv K S W0 m H := by
  obtain ⟨h1, tops, h2, h3⟩ := h
  exact ⟨h1, tops, Nat.le_trans h2 hn, h3⟩
theorem sinv_hidden {K S : Tm} (hK : K.valid) (hS : S.valid) (aK : AtomT K) (aS : AtomT S) {W0 H : List (List UInt8)} {n : Nat} (h : SInv K S W0 n H) :
    canPB H K.enc = false ∧ canPB H S.enc = false ∧ ∀ hd : List UInt8, hd.head? = some 114 → (Tm.node hd [K, S]).valid → canPB H (Tm.node hd [K, S]).enc = false := by
  obtain ⟨h1, h2, h3⟩ := hidden aK aS h.safe
  exact ⟨canPB_no fun e => h1 ((can_cl hK).1 e), canPB_no fun e => h2 ((can_cl hS).1 e), fun hd hh hv => canPB_no fun e => h3 hd hh ((can_cl hv).1 e)⟩
/-- It can be learnt. -/
theorem sinv_learn {K S : Tm} {W0 H : List (List UInt8)} {n : Nat} (hW : (W0.map List.length).sum ≤ 6000) (hn : n ≤ 45) {r : List UInt8} (h : CovB K S W0 n (r :: H)) (hc : checkP r = 0) : learnE H r = 0 ∧ learnH H r = r :: H ∧ canPB (r :: H) r = true := by
  have h1 := cov_cnt hW h
  have h2 : learnE H r = 0 := learn_ok hc (by omega)
  exact ⟨h2, by unfold learnH; rw [if_pos h2], canPB_iff.2 (seen_can (by simp) hc)⟩
/-- The key itself, at last. -/
theorem cov_key {K S : Tm} (hK : K.valid) (aK : AtomT K) {W0 H : List (List UInt8)} {n : Nat} (h : CovB K S W0 n H) : CovB K S W0 (n + 1) (K.enc :: H) :=
  cov_cons h (top := []) fun y hy => by
    rw [cover_enc hK, atom_cand aK] at hy
    simp only [List.map_cons, List.map_nil, List.mem_singleton] at hy
    exact .inr (.inr (by rw [hy]; simp))
theorem clean_has {K S : Tm} (hK : K.valid) (hS : S.valid) {b : List UInt8} (h1 : hasP b K.enc = false) (h2 : hasP b S.enc = false) : CleanB K S b := by
  rintro T hT rfl
  have aux : ∀ Y : Tm, Y.valid → hasP T.enc Y.enc = false → Y ∉ T.places := fun Y hY h e => by
    have : hasP T.enc Y.enc = true := by
      unfold hasP placesP
      rw [treeOf_enc hT, treeOf_enc hY]
      exact decide_eq_true (List.mem_map_of_mem e)
    rw [h] at this
    cases this
  exact ⟨aux K hK h1, aux S hS h2⟩
/-- Two atoms make a row. -/
theorem atoms_row {K S : Tm} (hK : K.valid) (hS : S.valid) (aK : AtomT K) (aS : AtomT S) : (Tm.node (114 :: enc 2) [K, S]).valid := by
  have len : ∀ {A : Tm}, A.valid → AtomT A → A.enc.length ≤ 42 ∧ A.deep = 1 := fun {A} hA aA => by
    obtain ⟨a, rfl⟩ := aA
    have hg := hA.1
    simp only [Tm.good] at hg
    obtain ⟨c, hk⟩ := head_kind hg.1
    refine ⟨?_, by simp [Tm.deep, deeps]⟩
    rcases hk with ⟨t, e, _, _⟩ | ⟨t, e, h1, _, _⟩ | ⟨v, e, _, _⟩ | ⟨e, _⟩ | ⟨e, _⟩ | ⟨e, _⟩
    · cases e
    · rw [Tm.enc_node, e]
      have h2 := (enc_len t.length).2
      simp only [encs, List.append_nil, List.length_cons, txt_len]
      omega
    · cases e
    · cases e
    · cases e
    · cases e
  have h1 := len hK aK
  have h2 := len hS aS
  refine ⟨?_, ?_, ?_⟩
  · simp only [Tm.good]
    exact ⟨row_head10 (by decide), hK.1, hS.1, trivial⟩
  · simp only [Tm.deep, deeps]
    omega
  · rw [Tm.enc_node]
    simp only [encs, List.length_append, List.length_cons, List.length_nil]
    have h3 := (enc_len 2).2
    omega
end Go.Proofs.Ytkebfabmcajbmaa.Pl
