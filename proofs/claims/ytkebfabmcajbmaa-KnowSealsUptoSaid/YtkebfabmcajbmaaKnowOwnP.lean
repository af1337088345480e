/- How the program's own know lists what is known, rule by rule, till nothing new may be opened; plain mathematics alone. -/
import Derived.Test.YtkebfabmcajbmaaKnowD1
namespace Go.Proofs.Ytkebfabmcajbmaa.Pl

mutual
/-- What is listed of a term that is known: as takeT, and of a seal what its nonce tells, too. -/
def listT : Tm → List Tm
  | .node h l => if h.head? = some 100 then [] else if h.head? = some 114 then listTs l else .node h l :: (if h = [115] then listN l else [])
def listTs : List Tm → List Tm
  | [] => []
  | t :: l => listT t ++ listTs l
def listN : List Tm → List Tm
  | [] => []
  | _ :: l => listM l
def listM : List Tm → List Tm
  | [] => []
  | t :: _ => listT t
end
theorem mem_listTs {y : Tm} : ∀ {l : List Tm}, y ∈ listTs l ↔ ∃ t ∈ l, y ∈ listT t
  | [] => by simp [listTs]
  | t :: l => by rw [listTs, List.mem_append, mem_listTs]; simp
theorem listN_eq (k n x : Tm) : listN [k, n, x] = listT n := by rw [listN, listM]
theorem listT_data {h : List UInt8} {l : List Tm} (k : h.head? = some 100) : listT (.node h l) = [] := by rw [listT, if_pos k]
theorem listT_row {h : List UInt8} {l : List Tm} (k : h.head? = some 114) : listT (.node h l) = listTs l := by rw [listT, if_neg (by rw [k]; decide), if_pos k]
theorem listT_seal (k n x : Tm) : listT (sealT k n x) = sealT k n x :: listT n := by rw [listT, if_neg (by decide), if_neg (by decide), if_pos rfl, listN_eq]
theorem listT_else {h : List UInt8} {l : List Tm} (h1 : h.head? ≠ some 100) (h2 : h.head? ≠ some 114) (h3 : h ≠ [115]) : listT (.node h l) = [.node h l] := by rw [listT, if_neg h1, if_neg h2, if_neg h3]
theorem three {h : List UInt8} {l : List Tm} (hg : (Tm.node h l).good) (k : h = [115]) : ∃ a b c, l = [a, b, c] := by
  simp only [Tm.good] at hg
  obtain ⟨c, hk⟩ := head_kind hg.1
  subst k
  have h3 : l.length = 3 := by
    rcases hk with ⟨t, e, _, _⟩ | ⟨t, e, _, _, _⟩ | ⟨v, e, _, _⟩ | ⟨e, _⟩ | ⟨e, _⟩ | ⟨_, e⟩
    · cases e
    · cases e
    · cases e
    · cases e
    · cases e
    · exact e
  match l, h3 with
  | [a, b, c], _ => exact ⟨a, b, c, rfl⟩
/-- What is told is listed. -/
theorem take_listT : ∀ (t y : Tm), y ∈ takeT t → y ∈ listT t := by
  refine Tm.ind fun hd l ih y hy => ?_
  rw [takeT] at hy
  rw [listT]
  split at hy
  · cases hy
  · rename_i h1
    rw [if_neg h1]
    split at hy
    · rename_i h2
      rw [if_pos h2]
      obtain ⟨t, ht, h⟩ := mem_takeTs.1 hy
      exact mem_listTs.2 ⟨t, ht, ih t ht y h⟩
    · rename_i h2
      rw [if_neg h2]
      exact List.mem_cons.2 (.inl (List.mem_singleton.1 hy))
/-- Whatever tells what its seals' nonces tell has all that is listed of what it tells. -/
theorem list_in {L : Tm → Prop} (hL : ∀ k n x, L (sealT k n x) → ∀ y ∈ takeT n, L y) : ∀ t : Tm, t.good → (∀ y ∈ takeT t, L y) → ∀ y ∈ listT t, L y := by
  refine Tm.ind fun hd l ih hg h y hy => ?_
  have hg' := hg
  simp only [Tm.good] at hg'
  by_cases h1 : hd.head? = some 100
  · rw [listT_data h1] at hy
    cases hy
  · by_cases h2 : hd.head? = some 114
    · rw [listT_row h2] at hy
      obtain ⟨t, ht, hy⟩ := mem_listTs.1 hy
      refine ih t ht (goods_mem hg'.2 t ht) (fun z hz => h z ?_) y hy
      rw [takeT, if_neg h1, if_pos h2]
      exact mem_takeTs.2 ⟨t, ht, hz⟩
    · have hs : L (.node hd l) := h _ (by rw [take_self h1 h2]; exact List.mem_singleton.2 rfl)
      by_cases h3 : hd = [115]
      · obtain ⟨k, n, x, rfl⟩ := three hg h3
        subst h3
        rw [listT_seal] at hy
        rcases List.mem_cons.1 hy with rfl | hy
        · exact hs
        · exact ih n (by simp) (goods_mem hg'.2 n (by simp)) (hL k n x hs) y hy
      · rw [listT_else h1 h2 h3] at hy
        rw [List.mem_singleton.1 hy]
        exact hs
/-- What a seal's nonce tells is listed beside it. -/
theorem list_nonce {k n x : Tm} : ∀ t : Tm, t.good → sealT k n x ∈ listT t → ∀ y ∈ listT n, y ∈ listT t := by
  refine Tm.ind fun hd l ih hg h y hy => ?_
  have hg' := hg
  simp only [Tm.good] at hg'
  by_cases h1 : hd.head? = some 100
  · rw [listT_data h1] at h
    cases h
  · by_cases h2 : hd.head? = some 114
    · rw [listT_row h2] at h ⊢
      obtain ⟨t, ht, h⟩ := mem_listTs.1 h
      exact mem_listTs.2 ⟨t, ht, ih t ht (goods_mem hg'.2 t ht) h y hy⟩
    · by_cases h3 : hd = [115]
      · obtain ⟨k', n', x', rfl⟩ := three hg h3
        subst h3
        rw [listT_seal] at h ⊢
        rcases List.mem_cons.1 h with e | h
        · injection e with _ e
          injection e with e1 e
          injection e with e2 e
          subst e2
          exact List.mem_cons.2 (.inr hy)
        · exact List.mem_cons.2 (.inr (ih n' (by simp) (goods_mem hg'.2 n' (by simp)) h y hy))
      · rw [listT_else h1 h2 h3] at h
        have e := List.mem_singleton.1 h
        injection e with e _
        exact absurd e.symm h3
theorem listT_cand : ∀ (t y : Tm), y ∈ listT t → y ∈ cand t := by
  have aux : ∀ l : List Tm, (∀ t ∈ l, ∀ y, y ∈ listT t → y ∈ cand t) → ∀ y, y ∈ listN l → y ∈ candt l := by
    intro l h y hy
    match l, h, hy with
    | [], _, hy => rw [listN] at hy; cases hy
    | [a], _, hy => rw [listN, listM] at hy; cases hy
    | a :: b :: r, h, hy =>
      rw [listN, listM] at hy
      rw [candt, cands]
      exact List.mem_append.2 (.inl (h b (by simp) y hy))
  refine Tm.ind fun hd l ih y hy => ?_
  rw [listT] at hy
  rw [cand]
  split at hy
  · cases hy
  · rename_i h1
    rw [if_neg h1]
    split at hy
    · rename_i h2
      rw [if_pos h2]
      obtain ⟨t, ht, h⟩ := mem_listTs.1 hy
      exact mem_cands.2 ⟨t, ht, ih t ht y h⟩
    · rename_i h2
      rw [if_neg h2]
      rcases List.mem_cons.1 hy with rfl | hy
      · exact List.mem_cons.2 (.inl rfl)
      · split at hy
        · rename_i h3
          rw [if_pos h3]
          exact List.mem_cons.2 (.inr (aux l ih y hy))
        · cases hy
theorem listT_valid {t : Tm} (hv : t.valid) {y : Tm} (h : y ∈ listT t) : y.valid := cand_valid t hv y (listT_cand t y h)
theorem listTs_len : ∀ l : List Tm, (∀ t ∈ l, (listT t).length ≤ t.enc.length) → (listTs l).length ≤ (encs l).length
  | [], _ => Nat.le_refl _
  | t :: l, h => by
    have h1 := h t (List.mem_cons.2 (.inl rfl))
    have h2 := listTs_len l fun u hu => h u (List.mem_cons.2 (.inr hu))
    rw [listTs, encs, List.length_append, List.length_append]
    omega
theorem listT_len : ∀ t : Tm, t.good → (listT t).length ≤ t.enc.length := by
  refine Tm.ind fun hd l ih hg => ?_
  have hg' := hg
  simp only [Tm.good] at hg'
  have ih' : ∀ t ∈ l, (listT t).length ≤ t.enc.length := fun t ht => ih t ht (goods_mem hg'.2 t ht)
  have h2 := two_bytes _ hg
  by_cases h1 : hd.head? = some 100
  · rw [listT_data h1]
    exact Nat.zero_le _
  · by_cases h2 : hd.head? = some 114
    · rw [listT_row h2]
      have := listTs_len l ih'
      rw [Tm.enc_node, List.length_append]
      omega
    · by_cases h3 : hd = [115]
      · obtain ⟨k, n, x, rfl⟩ := three hg h3
        subst h3
        rw [listT_seal]
        have := ih' n (by simp)
        rw [Tm.enc_node, List.length_append]
        simp only [encs, List.length_append, List.length_cons, List.length_nil]
        omega
      · rw [listT_else h1 h2 h3]
        simp only [List.length_cons, List.length_nil]
        omega

/-! ### Lists -/
def lstL (L : List (List UInt8)) (T : Tm) : List (List UInt8) := (listT T).foldl (fun L y => insL L y.enc) L
theorem mem_lstL {L : List (List UInt8)} {T : Tm} {u : List UInt8} : u ∈ lstL L T ↔ u ∈ L ∨ ∃ y ∈ listT T, y.enc = u := mem_foldIns
theorem lst_front (L : List (List UInt8)) (T : Tm) : L <+: lstL L T := fold_front _ (fun L _ => ins_front L _) _ _
theorem lst_nodup {L : List (List UInt8)} (h : L.Nodup) (T : Tm) : (lstL L T).Nodup := fold_keep (fun (L : List (List UInt8)) (y : Tm) => insL L y.enc) List.Nodup (listT T) (fun _ h _ _ => ins_nodup h _) L h
theorem lst_data {h : List UInt8} {l : List Tm} (k : h.head? = some 100) (L : List (List UInt8)) : lstL L (.node h l) = L := by
  unfold lstL
  rw [listT_data k]
  rfl
theorem foldl_listTs : ∀ (l : List Tm) (L : List (List UInt8)), (listTs l).foldl (fun L y => insL L y.enc) L = l.foldl lstL L
  | [], _ => rfl
  | t :: l, L => by rw [listTs, List.foldl_append, foldl_listTs]; rfl
theorem lst_row {h : List UInt8} {l : List Tm} (k : h.head? = some 114) (L : List (List UInt8)) : lstL L (.node h l) = l.foldl lstL L := by
  unfold lstL
  rw [listT_row k]
  exact foldl_listTs l L
theorem lst_seal (k n x : Tm) (L : List (List UInt8)) : lstL L (sealT k n x) = lstL (insL L (sealT k n x).enc) n := by
  unfold lstL
  rw [listT_seal]
  rfl
theorem lst_else {h : List UInt8} {l : List Tm} (h1 : h.head? ≠ some 100) (h2 : h.head? ≠ some 114) (h3 : h ≠ [115]) (L : List (List UInt8)) : lstL L (.node h l) = insL L (Tm.node h l).enc := by
  unfold lstL
  rw [listT_else h1 h2 h3]
  rfl
theorem lst_step {l : List Tm} {k : Nat} (hk : k < l.length) (L : List (List UInt8)) : (l.take (k + 1)).foldl lstL L = lstL ((l.take k).foldl lstL L) l[k] := by
  rw [List.take_succ_eq_append_getElem hk, List.foldl_append]
  rfl
theorem insL_len (L : List (List UInt8)) (s : List UInt8) : (insL L s).length ≤ L.length + 1 := by
  unfold insL
  split
  · omega
  · simp
theorem foldInsL_len : ∀ (l : List Tm) (L : List (List UInt8)), (l.foldl (fun L y => insL L y.enc) L).length ≤ L.length + l.length
  | [], _ => Nat.le_refl _
  | y :: l, L => by
    have h1 := foldInsL_len l (insL L y.enc)
    have h2 := insL_len L y.enc
    simp only [List.foldl_cons, List.length_cons]
    omega
theorem lst_len (L : List (List UInt8)) {t : Tm} (h : t.good) : (lstL L t).length ≤ L.length + t.enc.length := by
  have h1 := foldInsL_len (listT t) L
  have h2 := listT_len t h
  unfold lstL
  omega
theorem foldLst_len : ∀ (l : List Tm) (L : List (List UInt8)), (∀ t ∈ l, t.good) → (l.foldl lstL L).length ≤ L.length + (encs l).length
  | [], _, _ => by simp [encs]
  | t :: l, L, h => by
    have h1 := foldLst_len l (lstL L t) fun u hu => h u (List.mem_cons.2 (.inr hu))
    have h2 := lst_len L (h t (List.mem_cons.2 (.inl rfl)))
    rw [List.foldl_cons, encs, List.length_append]
    omega
theorem encs_cut10 (l : List Tm) (k : Nat) : (encs (l.take k)).length ≤ (encs l).length := by
  have h : encs l = encs (l.take k) ++ encs (l.drop k) := by
    rw [encs_flat, encs_flat, encs_flat, ← List.flatten_append, ← List.map_append, List.take_append_drop]
  rw [h, List.length_append]
  omega
theorem mem_foldLst {u : List UInt8} : ∀ {l : List Tm} {L : List (List UInt8)}, u ∈ l.foldl lstL L ↔ u ∈ L ∨ ∃ t ∈ l, ∃ y ∈ listT t, y.enc = u
  | [], L => by simp
  | t :: l, L => by
    rw [List.foldl_cons, mem_foldLst, mem_lstL]
    simp only [List.mem_cons, exists_eq_or_imp]
    constructor
    · rintro ((h | h) | h)
      · exact .inl h
      · exact .inr (.inl h)
      · exact .inr (.inr h)
    · rintro (h | h | h)
      · exact .inl (.inl h)
      · exact .inl (.inr h)
      · exact .inr h

/-! ### Kinds -/
theorem kd_node10 {h : List UInt8} {l : List Tm} (hv : (Tm.node h l).valid) : ∃ c, Kd h l.length c ∧ kindP (Tm.node h l).enc = c := by
  have hg := hv.1
  simp only [Tm.good] at hg
  obtain ⟨c, hk⟩ := head_kind hg.1
  refine ⟨c, hk, ?_⟩
  unfold kindP
  rw [if_pos (check_enc hv), Tm.enc_node]
  rcases hk with ⟨t, rfl, _, _⟩ | ⟨t, rfl, _, _, _⟩ | ⟨v, rfl, _, _⟩ | ⟨rfl, _⟩ | ⟨rfl, _⟩ | ⟨rfl, _⟩ <;> rfl
theorem kd_first10 {h : List UInt8} {p c : Nat} (hk : Kd h p c) : (c = 1 ↔ h.head? = some 100) ∧ (c = 2 ↔ h.head? = some 97) ∧ (c = 3 ↔ h.head? = some 114) ∧ (c = 6 ↔ h = [115]) := by
  rcases hk with ⟨t, rfl, _, _⟩ | ⟨t, rfl, _, _, _⟩ | ⟨v, rfl, _, _⟩ | ⟨rfl, _⟩ | ⟨rfl, _⟩ | ⟨rfl, _⟩ <;> simp
theorem kd_le10 {h : List UInt8} {p c : Nat} (hk : Kd h p c) : p ≤ 32 ∧ c ≤ 6 := by
  rcases hk with ⟨_, _, _, h⟩ | ⟨_, _, _, _, h⟩ | ⟨v, _, hv, h⟩ | ⟨_, h⟩ | ⟨_, h⟩ | ⟨_, h⟩ <;> omega
theorem parts_node10 {h : List UInt8} {l : List Tm} (hv : (Tm.node h l).valid) : partsP (Tm.node h l).enc = (l.map Tm.enc, true) := by
  unfold partsP
  rw [treeOf_enc hv]

/-! ### Locks -/
/-- A seal's key and what is sealed. -/
def lockT : Tm → List UInt8 × List UInt8
  | .node [115] [k, _, x] => (k.enc, x.enc)
  | _ => ([], [])
noncomputable def lockP (s : List UInt8) : List UInt8 × List UInt8 := match treeOf s with | some t => lockT t | none => ([], [])
theorem lockT_seal (k n x : Tm) : lockT (sealT k n x) = (k.enc, x.enc) := rfl
theorem lockT_else {h : List UInt8} {l : List Tm} (hh : h ≠ [115]) : lockT (.node h l) = ([], []) := by
  unfold lockT
  split
  · rename_i e
    injection e with e _
    exact absurd e hh
  · rfl
theorem lockP_enc {t : Tm} (h : t.valid) : lockP t.enc = lockT t := by
  unfold lockP
  rw [treeOf_enc h]
theorem lock_key {t : Tm} (h : t.valid) (hk : (lockT t).1 ≠ []) : ∃ k n x, t = sealT k n x := by
  obtain ⟨hd, l⟩ := t
  by_cases h3 : hd = [115]
  · obtain ⟨k, n, x, rfl⟩ := three h.1 h3
    subst h3
    exact ⟨k, n, x, rfl⟩
  · rw [lockT_else h3] at hk
    exact absurd rfl hk
/-- A key has bytes. -/
theorem key_bytes {k : Tm} (h : k.valid) : k.enc ≠ [] := by
  have := two_bytes k h.1
  intro e
  rw [e] at this
  simp at this

/-! ### What matters -/
/-- What can be made now, and could not before, has something new in it. -/
theorem new_in {L M : Tm → Prop} : ∀ t : Tm, can M t → ¬ can L t → ∃ y, M y ∧ ¬ L y ∧ ∃ a b, t.enc = a ++ y.enc ++ b := by
  refine Tm.ind fun hd l ih hM hL => ?_
  rw [can] at hM hL
  rcases hM with h | h | ⟨h1, h2⟩
  · exact absurd (.inl h) hL
  · exact ⟨.node hd l, h, fun e => hL (.inr (.inl e)), [], [], by simp⟩
  · have : ∃ t ∈ l, ¬ can L t := Classical.byContradiction fun hn => hL (.inr (.inr ⟨h1, cans_all.2 fun t ht => Classical.byContradiction fun e => hn ⟨t, ht, e⟩⟩))
    obtain ⟨t, ht, hn⟩ := this
    obtain ⟨y, hy1, hy2, a, b, e⟩ := ih t ht (cans_all.1 h2 t ht) hn
    obtain ⟨l1, l2, rfl⟩ := List.append_of_mem ht
    refine ⟨y, hy1, hy2, hd ++ encs l1 ++ a, b ++ encs l2, ?_⟩
    rw [Tm.enc_node, encs_flat, encs_flat, encs_flat, List.map_append, List.flatten_append, List.map_cons, List.flatten_cons, e]
    simp only [List.append_assoc]

/-! ### How the list grows -/
/-- What holds while T is learnt by who knew the list L0 of H: X: what is listed; open: what is to be told still. -/
structure Opens (H L0 : List (List UInt8)) (T : Tm) (X opn : List (List UInt8)) : Prop where
  nodup : X.Nodup
  known : ∀ s ∈ X, knownP (T.enc :: H) s
  old : ∀ s ∈ L0, s ∈ X
  told : ∀ b ∈ opn, ∃ B : Tm, B.valid ∧ B.enc = b ∧ ∀ y ∈ takeT B, Cl (SH (T.enc :: H)) y
  nonce : ∀ k n x, LB X (sealT k n x) → ∀ y ∈ takeT n, LB X y
  opened : ∀ k n x, LB X (sealT k n x) → can (LB X) k → (∀ y ∈ takeT x, LB X y) ∨ x.enc ∈ opn
  first : (∀ y ∈ takeT T, LB X y) ∨ T.enc ∈ opn

theorem lb_mono {X Y : List (List UInt8)} (h : ∀ s ∈ X, s ∈ Y) {y : Tm} (k : LB X y) : LB Y y := ⟨k.1, h _ k.2⟩
theorem opens_start {H L0 : List (List UInt8)} {T : Tm} (hT : T.valid) (h : IsK H L0) : Opens H L0 T L0 [T.enc] := by
  have hs := isK_sat h
  refine ⟨h.1, fun s hs => known_mono (fun _ hu => List.mem_cons.2 (.inr hu)) ((h.2 s).1 hs), fun _ h => h, fun b hb => ?_, fun k n x h1 => (hs k n x h1).1, fun k n x h1 h2 => .inl ((hs k n x h1).2 h2), .inr (by simp)⟩
  rw [List.mem_singleton.1 hb]
  exact ⟨T, hT, rfl, cl_take ⟨hT, List.mem_cons.2 (.inl rfl)⟩⟩
/-- At the end nothing is left to be opened. -/
theorem opens_end {H L0 X : List (List UInt8)} {T : Tm} (hT : T.valid) (h0 : IsK H L0) (h : Opens H L0 T X []) : IsK (T.enc :: H) X := by
  refine grows_end hT h0 ⟨h.nodup, h.known, h.old, fun y hy => ?_⟩ fun k n x hs => ⟨h.nonce k n x hs, fun hc => ?_⟩
  · rcases h.first with e | e
    · exact (e y hy).2
    · cases e
  · rcases h.opened k n x hs hc with e | e
    · exact e
    · cases e
/-- Told: those of opn up to i; Y: what is listed then. -/
structure Tells (H L0 : List (List UInt8)) (T : Tm) (X opn : List (List UInt8)) (i : Nat) (Y : List (List UInt8)) : Prop where
  nodup : Y.Nodup
  known : ∀ s ∈ Y, knownP (T.enc :: H) s
  more : ∀ s ∈ X, s ∈ Y
  nonce : ∀ k n x, LB Y (sealT k n x) → ∀ y ∈ takeT n, LB Y y
  done : ∀ B : Tm, B.valid → B.enc ∈ opn.take i → ∀ y ∈ takeT B, LB Y y
theorem tells_start {H L0 X opn : List (List UInt8)} {T : Tm} (h : Opens H L0 T X opn) : Tells H L0 T X opn 0 X :=
  ⟨h.nodup, h.known, fun _ h => h, h.nonce, fun _ _ hb => by simp at hb⟩
theorem lb_lst {X : List (List UInt8)} {B y : Tm} (hB : B.valid) (hy : y ∈ listT B) : LB (lstL X B) y := ⟨listT_valid hB hy, mem_lstL.2 (.inr ⟨y, hy, rfl⟩)⟩
theorem tells_step {H L0 X opn Y : List (List UInt8)} {T : Tm} (h : Opens H L0 T X opn) {i : Nat} (hi : i < opn.length) (k : Tells H L0 T X opn i Y) {B : Tm} (hB : B.valid) (e : B.enc = opn[i]) : Tells H L0 T X opn (i + 1) (lstL Y B) := by
  have hin : ∀ s ∈ Y, s ∈ lstL Y B := fun s hs => mem_lstL.2 (.inl hs)
  have hcl : ∀ y ∈ takeT B, Cl (SH (T.enc :: H)) y := by
    obtain ⟨C, hC, e2, h2⟩ := h.told opn[i] (List.getElem_mem hi)
    obtain rfl := enc_tm_inj hC.1 hB.1 (e2.trans e.symm)
    exact h2
  have hcl2 : ∀ y ∈ listT B, Cl (SH (T.enc :: H)) y := list_in (fun k n x hs => (cl_sat _ k n x hs).1) B hB.1 hcl
  have tk : ∀ {t y : Tm}, t.valid → y ∈ takeT t → y.valid := fun ht hy => cand_valid _ ht _ (take_cand _ _ hy)
  refine ⟨lst_nodup k.nodup B, fun s hs => ?_, fun s hs => hin s (k.more s hs), fun a n x hs y hy => ?_, fun C hC hb y hy => ?_⟩
  · rcases mem_lstL.1 hs with hs | ⟨y, hy, rfl⟩
    · exact k.known s hs
    · exact ⟨y, hcl2 y hy, rfl⟩
  · rcases mem_lstL.1 hs.2 with hy2 | ⟨z, hz, e2⟩
    · exact lb_mono hin (k.nonce a n x ⟨hs.1, hy2⟩ y hy)
    · obtain rfl := enc_tm_inj (listT_valid hB hz).1 hs.1.1 e2
      exact lb_lst hB (list_nonce B hB.1 hz y (take_listT n y hy))
  · rw [List.take_succ_eq_append_getElem hi, List.mem_append, List.mem_singleton] at hb
    rcases hb with hb | hb
    · exact lb_mono hin (k.done C hC hb y hy)
    · obtain rfl := enc_tm_inj hB.1 hC.1 (e.trans hb.symm)
      exact lb_lst hB (take_listT B y hy)
/-- What is opened behind all that: each seal whose key can be made, if it is new, or something new stands in its key. -/
theorem tells_end {H L0 X opn Y opn2 : List (List UInt8)} {T : Tm} (hT : T.valid) (h : Opens H L0 T X opn) (k : Tells H L0 T X opn opn.length Y)
    (h1 : ∀ b ∈ opn2, ∃ a n x, LB Y (sealT a n x) ∧ can (LB Y) a ∧ x.enc = b)
    (h2 : ∀ a n x, LB Y (sealT a n x) → can (LB Y) a → (∃ y ∈ Y, y ∉ X ∧ (y = (sealT a n x).enc ∨ ∃ u v, a.enc = u ++ y ++ v)) → x.enc ∈ opn2) : Opens H L0 T Y opn2 := by
  have tk : ∀ {t y : Tm}, t.valid → y ∈ takeT t → y.valid := fun ht hy => cand_valid _ ht _ (take_cand _ _ hy)
  have vp : ∀ {a n x : Tm}, (sealT a n x).valid → x.valid := fun hv => node_valid_parts hv _ (by simp)
  have dn : ∀ {x : Tm}, x.valid → x.enc ∈ opn → ∀ y ∈ takeT x, LB Y y := fun hx hin => k.done _ hx (by rw [List.take_length]; exact hin)
  have lbk : ∀ y, LB Y y → Cl (SH (T.enc :: H)) y := lb_known k.known
  refine ⟨k.nodup, k.known, fun s hs => k.more s (h.old s hs), fun b hb => ?_, k.nonce, fun a n x hs hc => ?_, ?_⟩
  · obtain ⟨a, n, x, hs, hc, e⟩ := h1 b hb
    exact ⟨x, vp hs.1, e, (cl_sat _ a n x (lbk _ hs)).2 (can_mono lbk a hc)⟩
  · by_cases hX : LB X (sealT a n x)
    · by_cases hcX : can (LB X) a
      · rcases h.opened a n x hX hcX with e | e
        · exact .inl fun y hy => lb_mono k.more (e y hy)
        · exact .inl (dn (vp hs.1) e)
      · obtain ⟨y, hy1, hy2, u, v, e⟩ := new_in a hc hcX
        exact .inr (h2 a n x hs hc ⟨y.enc, hy1.2, fun hin => hy2 ⟨hy1.1, hin⟩, .inr ⟨u, v, e⟩⟩)
    · exact .inr (h2 a n x hs hc ⟨(sealT a n x).enc, hs.2, fun hin => hX ⟨hs.1, hin⟩, .inl rfl⟩)
  · rcases h.first with e | e
    · exact .inl fun y hy => lb_mono k.more (e y hy)
    · exact .inl (dn hT e)
theorem opens_cnt {H Y : List (List UInt8)} {T : Tm} (h1 : Y.Nodup) (h2 : ∀ s ∈ Y, knownP (T.enc :: H) s) : Y.length ≤ cntP (T.enc :: H) := by
  obtain ⟨L, hL, _⟩ := isK_ex (T.enc :: H)
  rw [← cnt_eq hL]
  exact nodup_len h1 fun s hs => (hL.2 s).2 (h2 s hs)
end Go.Proofs.Ytkebfabmcajbmaa.Pl
