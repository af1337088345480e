/- Texts as bytes, and what a reader of them answers; plain mathematics alone, no program. -/
import Derived.Test.YtfghhhghhjbiaaaPlain
namespace Go.Proofs.Ytfghhhghhjbiaaa.Pl

/-- What a reader of a text of at most m bytes answers. -/
def rdt (l : List UInt8) (m : Int) : List UInt8 × Nat × Nat :=
  if (rdn l).2.2 ≠ 0 then ([], 0, (rdn l).2.2)
  else if max m 0 < ((rdn l).1 : Int) then ([], 0, 5)
  else if l.length - (rdn l).2.1 < (rdn l).1 then ([], 0, 6)
  else ((l.drop (rdn l).2.1).take (rdn l).1, (rdn l).2.1 + (rdn l).1, 0)
/-- The encoding of a text. -/
def txt (t : List UInt8) : List UInt8 := enc t.length ++ t

theorem rdt_err {l : List UInt8} {m : Int} {v n e : Nat} (h : rdn l = (v, n, e)) (he : e ≠ 0) : rdt l m = ([], 0, e) := by simp [rdt, h, he]
theorem rdt_long {l : List UInt8} {m : Int} {v n : Nat} (h : rdn l = (v, n, 0)) (h1 : max m 0 < (v : Int)) : rdt l m = ([], 0, 5) := by
  unfold rdt; rw [h]; rw [if_neg (by simp), if_pos h1]
theorem rdt_end {l : List UInt8} {m : Int} {v n : Nat} (h : rdn l = (v, n, 0)) (h1 : ¬ max m 0 < (v : Int)) (h2 : l.length - n < v) : rdt l m = ([], 0, 6) := by
  unfold rdt; rw [h]; rw [if_neg (by simp), if_neg h1, if_pos h2]
theorem rdt_ok {l : List UInt8} {m : Int} {v n : Nat} (h : rdn l = (v, n, 0)) (h1 : ¬ max m 0 < (v : Int)) (h2 : ¬ l.length - n < v) : rdt l m = ((l.drop n).take v, n + v, 0) := by
  unfold rdt; rw [h]; rw [if_neg (by simp), if_neg h1, if_neg h2]

theorem rdt_txt {t : List UInt8} (ht : t.length < 256 ^ 8) (s : List UInt8) (m : Int) (hm : (t.length : Int) ≤ m) : rdt (txt t ++ s) m = (t, (txt t).length, 0) := by
  have h := rdn_enc ht (t ++ s)
  have e : txt t ++ s = enc t.length ++ (t ++ s) := by simp [txt]
  rw [e, rdt_ok h (by omega) (by simp)]
  simp [txt]
theorem rdt_sound {l t : List UInt8} {m : Int} {n : Nat} (h : rdt l m = (t, n, 0)) : 1 ≤ n ∧ n ≤ l.length ∧ (t.length : Int) ≤ max m 0 ∧ txt t = l.take n := by
  have ⟨v, k, e, hr⟩ : ∃ v k e, rdn l = (v, k, e) := ⟨_, _, _, rfl⟩
  by_cases he : e = 0
  · subst he
    obtain ⟨k1, k2, k3, k4⟩ := rdn_sound hr
    by_cases h1 : max m 0 < (v : Int)
    · rw [rdt_long hr h1] at h; simp at h
    · by_cases h2 : l.length - k < v
      · rw [rdt_end hr h1 h2] at h; simp at h
      · rw [rdt_ok hr h1 h2] at h
        simp only [Prod.mk.injEq, and_true] at h
        obtain ⟨rfl, rfl⟩ := h
        have hl : ((l.drop k).take v).length = v := by simp; omega
        refine ⟨by omega, by omega, by rw [hl]; omega, ?_⟩
        rw [txt, hl, k3, List.take_add]
  · rw [rdt_err hr he] at h
    simp at h
    omega
theorem txt_len (t : List UInt8) : (txt t).length = (enc t.length).length + t.length := by simp [txt]
end Go.Proofs.Ytfghhhghhjbiaaa.Pl
