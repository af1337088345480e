/- More of what suites make of plain bytes: what a datum says, what a seal's parts are, images of trees; plain mathematics alone. -/
import Derived.Test.YtedidoeoomijjaaDoorSuiteD1
import Derived.Test.YtedidoeoomijjaaDoorSuiteD2
import Derived.Test.YtedidoeoomijjaaDoorTermNumber
namespace Go.Proofs.YtedidoeoomijjaaDoor.Pl
open Go.RowKit

theorem kind1_check {s : List UInt8} (h : kindP s = 1) : checkP s = 0 := by
  apply Classical.byContradiction
  intro hc
  unfold kindP at h
  rw [if_neg hc] at h
  cases h
theorem kindN_check {s : List UInt8} (h : kindP s ≠ 0) : checkP s = 0 := by
  apply Classical.byContradiction
  intro hc
  unfold kindP at h
  rw [if_neg hc] at h
  exact h rfl
theorem str_yes {s : List UInt8} (h : kindP s = 1) : strP s = some (strD s) := by rw [strD, strP, if_pos h]; rfl
theorem str_no {s : List UInt8} (h : kindP s ≠ 1) : strP s = none := by rw [strP, if_neg h]
theorem strD_no {s : List UInt8} (h : kindP s ≠ 1) : strD s = [] := by rw [strD, str_no h]; rfl
theorem strD_yes {s : List UInt8} (h : kindP s = 1) : strD s = (textP s).1 := by rw [strD, strP, if_pos h]; rfl
/-- A term by its tree. -/
theorem kd_of {s : List UInt8} (h : checkP s = 0) : ∃ hd l c, treeOf s = some (.node hd l) ∧ (Tm.node hd l).valid ∧ s = hd ++ encs l ∧ Kd hd l.length c ∧ kindP s = c := by
  obtain ⟨⟨hd, l⟩, tv, te, tr⟩ := treeOf_some h
  have hg := tv.1
  simp only [Tm.good] at hg
  obtain ⟨c, hk⟩ := head_kind hg.1
  rw [Tm.enc_node] at te
  refine ⟨hd, l, c, tr, tv, te.symm, hk, ?_⟩
  unfold kindP
  rw [if_pos h, ← te]
  cases hk with
  | data t e1 _ _ => rw [e1]; rfl
  | atom t e1 _ _ _ => rw [e1]; rfl
  | hash e1 _ => rw [e1]; rfl
  | mac e1 _ => rw [e1]; rfl
  | seal_ e1 _ => rw [e1]; rfl
  | row v e1 hv _ => rw [e1]; rfl
theorem text_yes {s : List UInt8} (h : kindP s = 1) : textP s = (strD s, true) := by
  obtain ⟨hd, l, c, _, _, te, hk, e⟩ := kd_of (kind1_check h)
  rw [strD_yes h]
  have hc := kind1_check h
  rw [h] at e
  subst e
  cases hk with
  | data t e1 _ _ =>
    unfold textP
    rw [if_pos ⟨hc, .inl (by rw [te, e1]; rfl)⟩]
theorem strD_len (s : List UInt8) : (strD s).length ≤ s.length := by
  by_cases h : kindP s = 1
  · rw [strD_yes h]; exact textP_len s
  · rw [strD_no h]; exact Nat.zero_le _
/-- The parts of a seal. -/
theorem seal_three {s : List UInt8} (h : kindP s = 6) : ∃ a b d, partsP s = ([a, b, d], true) := by
  obtain ⟨hd, l, c, tr, _, te, hk, e⟩ := kd_of (kindN_check (by rw [h]; decide))
  rw [h] at e
  subst e
  cases hk with
  | seal_ _ e3 =>
    match l, e3 with
    | [a, b, d], _ =>
      exact ⟨a.enc, b.enc, d.enc, by unfold partsP; rw [tr]; rfl⟩
theorem atom_err {s : List UInt8} (h : (atomP s).2 ≠ 0) : (atomP s).1 = [] := by
  unfold atomP at h ⊢
  split
  · rfl
  · rename_i h1
    rw [if_neg h1] at h
    split
    · rfl
    · rename_i h2
      rw [if_neg h2] at h
      exact absurd rfl h
theorem hash8_terms (c : Cry) (t : List UInt8) : hash8P c true t = madeP [104] [t] := by
  unfold hash8P
  by_cases h : checkP t = 0
  · simp [h]
  · simp [h, madeP]
theorem mac8_terms (c : Cry) (k t : List UInt8) : mac8P c true k t = madeP [109] [k, t] := by
  unfold mac8P
  by_cases h : checkP k = 0 ∧ checkP t = 0
  · simp [h]
  · have h' : checkP k ≠ 0 ∨ checkP t ≠ 0 := by
      by_cases h1 : checkP k = 0
      · exact .inr (fun h2 => h ⟨h1, h2⟩)
      · exact .inl h1
    rcases h' with h' | h' <;> simp [h', madeP]
theorem seal8_terms (c : Cry) (k n t : List UInt8) : seal8P c true k n t = madeP [115] [k, n, t] := by
  unfold seal8P
  by_cases h1 : checkP k = 0
  · by_cases h2 : checkP n = 0
    · by_cases h3 : checkP t = 0
      · simp [h1, h2, h3]
      · simp [h3, madeP]
    · simp [h2, madeP]
  · simp [h1, madeP]
theorem key8_terms (c : Cry) (m name : List UInt8) : keyP c true m name = atomP name := by simp [keyP]
end Go.Proofs.YtedidoeoomijjaaDoor.Pl
