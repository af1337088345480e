/- Rows of texts read: what comes, text by text, and what a reader of count of them answers; plain mathematics alone. -/
import Derived.Test.YtfghhhghhjbiaaaPlainb
namespace Go.Proofs.Ytfghhhghhjbiaaa.Pl

/-- What is read of l, one text behind the other, up to the first that can't be read. -/
def seqP (m : Int) : Nat → List UInt8 → List (List UInt8 × Nat × Nat)
  | 0, _ => []
  | f + 1, l => rdt l m :: (if (rdt l m).2.2 = 0 then seqP m f (l.drop (rdt l m).2.1) else [])
/-- What a reader of k texts answers, behind acc that have at bytes. -/
def rdrow (m : Int) : Nat → List UInt8 → List (List UInt8) → Nat → List (List UInt8) × Nat × Nat
  | 0, _, acc, at' => (acc, at', 0)
  | k + 1, l, acc, at' => if (rdt l m).2.2 = 0 then rdrow m k (l.drop (rdt l m).2.1) (acc ++ [(rdt l m).1]) (at' + (rdt l m).2.1) else ([], 0, (rdt l m).2.2)

def sumN (xs : List (List UInt8 × Nat × Nat)) : Nat := (xs.map (·.2.1)).sum

theorem rdrow_exit (m : Int) : ∀ (pre : List (List UInt8 × Nat × Nat)) (f : Nat) (l : List UInt8) (acc : List (List UInt8)) (at' : Nat), pre <+: seqP m f l → (∀ x ∈ pre, x.2.2 = 0) →
    rdrow m pre.length l acc at' = (acc ++ pre.map (·.1), at' + sumN pre, 0)
  | [], _, _, _, _, _, _ => by simp [rdrow, sumN]
  | x :: pre, 0, l, acc, at', h, _ => by simp [seqP] at h
  | x :: pre, f + 1, l, acc, at', h, he => by
    rw [seqP, List.cons_prefix_cons] at h
    obtain ⟨hx, h⟩ := h
    have h0 := he x (by simp)
    subst hx
    rw [if_pos h0] at h
    have ih := rdrow_exit m pre f _ (acc ++ [(rdt l m).1]) (at' + (rdt l m).2.1) h (fun y hy => he y (by simp [hy]))
    simp only [List.length_cons, rdrow, if_pos h0]
    rw [ih]
    simp [sumN]; omega

theorem rdrow_ret (m : Int) : ∀ (q : List (List UInt8 × Nat × Nat)) (x : List UInt8 × Nat × Nat) (f : Nat) (l : List UInt8) (acc : List (List UInt8)) (at' k : Nat), q ++ [x] <+: seqP m f l → (∀ y ∈ q, y.2.2 = 0) → x.2.2 ≠ 0 → q.length < k →
    rdrow m k l acc at' = ([], 0, x.2.2)
  | [], x, 0, l, acc, at', k, h, _, _, _ => by simp [seqP] at h
  | [], x, f + 1, l, acc, at', k, h, _, hx, hk => by
    rw [seqP, List.nil_append, List.cons_prefix_cons] at h
    obtain ⟨k, rfl⟩ : ∃ j, k = j + 1 := ⟨k - 1, by simp at hk; omega⟩
    rw [rdrow, ← h.1, if_neg hx]
  | y :: q, x, 0, l, acc, at', k, h, _, _, _ => by simp [seqP] at h
  | y :: q, x, f + 1, l, acc, at', k, h, he, hx, hk => by
    rw [seqP, List.cons_append, List.cons_prefix_cons] at h
    obtain ⟨hy, h⟩ := h
    have h0 := he y (by simp)
    subst hy
    rw [if_pos h0] at h
    obtain ⟨k, rfl⟩ : ∃ j, k = j + 1 := ⟨k - 1, by simp at hk; omega⟩
    rw [rdrow, if_pos h0]
    exact rdrow_ret m q x f _ _ _ k h (fun z hz => he z (by simp [hz])) hx (by simpa using hk)

theorem rdt_nil (m : Int) : rdt [] m = ([], 0, 6) := by simp [rdt, rdn]
theorem rdt_step {l : List UInt8} {m : Int} (h : (rdt l m).2.2 = 0) : 1 ≤ (rdt l m).2.1 ∧ (rdt l m).2.1 ≤ l.length := by
  have e : rdt l m = ((rdt l m).1, (rdt l m).2.1, 0) := by rw [← h]
  obtain ⟨h1, h2, _⟩ := rdt_sound e
  exact ⟨h1, h2⟩
theorem rdt_size (l : List UInt8) (m : Int) : (rdt l m).2.1 ≤ l.length := by
  by_cases h : (rdt l m).2.2 = 0
  · exact (rdt_step h).2
  · have ⟨v, n, e, hr⟩ : ∃ v n e, rdn l = (v, n, e) := ⟨_, _, _, rfl⟩
    by_cases he : e = 0
    · subst he
      by_cases h1 : max m 0 < (v : Int)
      · rw [rdt_long hr h1]; simp
      · by_cases h2 : l.length - n < v
        · rw [rdt_end hr h1 h2]; simp
        · rw [rdt_ok hr h1 h2] at h; simp at h
    · rw [rdt_err hr he]; simp
/-- It ends: by one that can't be read. -/
theorem seqP_ends (m : Int) : ∀ (f : Nat) (l : List UInt8), l.length < f → ¬ ∀ x ∈ seqP m f l, x.2.2 = 0
  | 0, l, h, _ => by omega
  | f + 1, l, h, he => by
    rw [seqP] at he
    have h0 := he (rdt l m) (by simp)
    rw [if_pos h0] at he
    have hs := rdt_step h0
    exact seqP_ends m f (l.drop (rdt l m).2.1) (by simp; omega) (fun x hx => he x (by simp [hx]))
end Go.Proofs.Ytfghhhghhjbiaaa.Pl
