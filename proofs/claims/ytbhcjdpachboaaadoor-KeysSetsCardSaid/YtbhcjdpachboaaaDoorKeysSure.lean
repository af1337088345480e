/- What the stage's theorem about keys comes down to: who shares a key, whose keys a set knows; plain mathematics alone. -/
import Derived.Test.YtbhcjdpachboaaaDoorKeysPlain
namespace Go.Proofs.YtbhcjdpachboaaaDoor.Pl

theorem nameK_err (c d : UInt8) (a b : Int) : (nameK c a b).2 = (nameK d a b).2 := by
  unfold nameK
  by_cases h : inO a ∧ inO b
  · rw [if_pos h, if_pos h]
  · rw [if_neg h, if_neg h]
theorem nameK_in {c : UInt8} {a b : Int} {r : List UInt8} (h : nameK c a b = (r, 0)) : inO a ∧ inO b ∧ r = nm c a.toNat b.toNat := by
  unfold nameK at h
  split at h
  · rename_i k
    exact ⟨k.1, k.2, (congrArg Prod.fst h).symm⟩
  · cases h
theorem nameK_no {c : UInt8} {a b : Int} (h : (nameK c a b).2 ≠ 0) : nameK c a b = ([], 2) := by
  unfold nameK at h ⊢
  split
  · rename_i k
    rw [if_pos k] at h
    exact absurd rfl h
  · rfl
/-- No other two share a key. -/
theorem name_same {e : UInt8} {a b c d : Int} {r s : List UInt8} (h : nameK e a b = (r, 0)) (k : nameK e c d = (s, 0)) : r = s ↔ (a = c ∧ b = d) ∨ (a = d ∧ b = c) := by
  obtain ⟨h1, h2, rfl⟩ := nameK_in h
  obtain ⟨k1, k2, rfl⟩ := nameK_in k
  unfold inO at *
  rw [nm_eq (by omega) (by omega) (by omega) (by omega)]
  constructor
  · rintro ⟨_, h | h⟩ <;> omega
  · rintro (⟨rfl, rfl⟩ | ⟨rfl, rfl⟩)
    · exact ⟨rfl, .inl ⟨rfl, rfl⟩⟩
    · exact ⟨rfl, .inr ⟨rfl, rfl⟩⟩
theorem tag_seal {a b c d : Int} {r s : List UInt8} (h : nameK 107 a b = (r, 0)) (k : nameK 115 c d = (s, 0)) : r ≠ s := by
  obtain ⟨_, _, rfl⟩ := nameK_in h
  obtain ⟨_, _, rfl⟩ := nameK_in k
  simp [nm]
theorem seal_read {a b : Int} {r : List UInt8} (h : nameK 115 a b = (r, 0)) : ∃ x y : Nat, readK r = (2, x, y, true) ∧ (x : Int) = min a b ∧ (y : Int) = max a b := by
  obtain ⟨h1, h2, rfl⟩ := nameK_in h
  unfold inO at *
  refine ⟨min a.toNat b.toNat, max a.toNat b.toNat, ?_, by omega, by omega⟩
  rw [read_nm (.inr rfl) (by omega) (by omega)]
  rfl
/-- What a set knows is just the keys of which one of the two is in it. -/
theorem known_is {e : UInt8} (he : e = 107 ∨ e = 115) {a b n : Int} {s : Nat} {r : List UInt8} (h : nameK e a b = (r, 0)) :
    r ∈ knownK s n ↔ (1 ≤ n ∧ n ≤ 8) ∧ a < n ∧ b < n ∧ (setB s a = true ∨ setB s b = true) := by
  obtain ⟨h1, h2, rfl⟩ := nameK_in h
  unfold inO at h1 h2
  by_cases hn : 1 ≤ n ∧ n ≤ 8
  · rw [mem_known he (by omega) (by omega) hn, Int.toNat_of_nonneg h1.1, Int.toNat_of_nonneg h2.1]
    exact ⟨fun k => ⟨hn, k⟩, fun k => k.2⟩
  · exact ⟨fun k => absurd k (not_known hn), fun k => absurd k.1 hn⟩
theorem of_own {a b n : Int} {r : List UInt8} (h : nameK 107 a b = (r, 0)) : r ∈ ofK a n ↔ (1 ≤ n ∧ n ≤ 8) ∧ a < n ∧ b < n := by
  obtain ⟨h1, h2, rfl⟩ := nameK_in h
  unfold inO at h1 h2
  by_cases hn : (1 ≤ n ∧ n ≤ 8) ∧ a < n
  · rw [mem_of (.inl rfl) (by omega) (by omega) hn.1 ⟨h1.1, hn.2⟩, Int.toNat_of_nonneg h1.1, Int.toNat_of_nonneg h2.1]
    omega
  · exact ⟨fun k => absurd k (not_of (fun e => hn ⟨⟨e.1, e.2.1⟩, e.2.2.2⟩)), fun k => absurd ⟨k.1, k.2.1⟩ hn⟩
theorem of_other {a c d n : Int} {r : List UInt8} (ha : inO a) (hn : 1 ≤ n ∧ n ≤ 8) (h : nameK 107 c d = (r, 0)) : r ∈ ofK a n ↔ a < n ∧ c < n ∧ d < n ∧ (a = c ∨ a = d) := by
  obtain ⟨h1, h2, rfl⟩ := nameK_in h
  unfold inO at ha h1 h2
  by_cases han : a < n
  · rw [mem_of (.inl rfl) (by omega) (by omega) hn ⟨ha.1, han⟩, Int.toNat_of_nonneg h1.1, Int.toNat_of_nonneg h2.1]
    omega
  · exact ⟨fun k => absurd k (not_of (fun e => han e.2.2.2)), fun k => absurd k.1 han⟩
theorem al9_known : knownK 1 2 = [[107, 47, 48, 47, 48], [115, 47, 48, 47, 48], [107, 47, 48, 47, 49], [115, 47, 48, 47, 49]] := by decide
theorem al9_tag : nameK 107 2 0 = ([107, 47, 48, 47, 50], 0) := by decide
theorem al9_seal : nameK 115 1 1 = ([115, 47, 49, 47, 49], 0) := by decide
theorem al9_no : nameK 107 0 8 = ([], 2) := by decide
end Go.Proofs.YtbhcjdpachboaaaDoor.Pl
