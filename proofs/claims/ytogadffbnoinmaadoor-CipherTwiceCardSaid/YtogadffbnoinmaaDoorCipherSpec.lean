/- What is sealed, over plain numbers: the key stream, what is hidden, the sealed form. -/
import Derived.Test.YtogadffbnoinmaaDoorHmacSpec
namespace Go.Proofs.YtogadffbnoinmaaDoor.Pl

def streamL : List Nat := [115, 116, 114, 101, 97, 109]
def tagL : List Nat := [116, 97, 103]
/-- The key of the stream, and that of the tag. -/
noncomputable def skey (k : List Nat) : List Nat := tagOf k streamL
noncomputable def tkey (k : List Nat) : List Nat := tagOf k tagL
/-- A number as four bytes. -/
def be4 (i : Nat) : List Nat := [i / 16777216 % 256, i / 65536 % 256, i / 256 % 256, i % 256]
/-- A part of the stream. -/
noncomputable def partL (sk nonce : List Nat) (i : Nat) : List Nat := tagOf sk (nonce ++ be4 i)
/-- The stream's byte j. -/
noncomputable def ksAt (sk nonce : List Nat) (j : Nat) : Nat := (partL sk nonce (j / 32)).getD (j % 32) 0
/-- Two rows of numbers, xor each other, as far as the first goes, by what f says. -/
def xorf (l : List Nat) (f : Nat → Nat) : List Nat := (List.range l.length).map fun j => l.getD j 0 ^^^ f j
noncomputable def hide (sk nonce l : List Nat) : List Nat := xorf l (ksAt sk nonce)
/-- What is hidden, with its nonce ahead; with its tag. -/
noncomputable def hiddenL (k nonce s : List Nat) : List Nat := nonce ++ hide (skey k) nonce s
noncomputable def sealedL (k nonce s : List Nat) : List Nat := hiddenL k nonce s ++ tagOf (tkey k) (hiddenL k nonce s)

theorem be4_bytes (i : Nat) : Bytes (be4 i) := by
  intro x hx
  simp only [be4, List.mem_cons, List.not_mem_nil, or_false] at hx
  rcases hx with rfl | rfl | rfl | rfl <;> exact Nat.mod_lt _ (by decide)
theorem be4_length (i : Nat) : (be4 i).length = 4 := rfl
theorem skey_bytes (k : List Nat) : Bytes (skey k) := tagOf_bytes _ _
theorem skey_length (k : List Nat) : (skey k).length = 32 := tagOf_length _ _
theorem tkey_bytes (k : List Nat) : Bytes (tkey k) := tagOf_bytes _ _
theorem tkey_length (k : List Nat) : (tkey k).length = 32 := tagOf_length _ _
theorem partL_bytes (sk nonce : List Nat) (i : Nat) : Bytes (partL sk nonce i) := tagOf_bytes _ _
theorem partL_length (sk nonce : List Nat) (i : Nat) : (partL sk nonce i).length = 32 := tagOf_length _ _
theorem ksAt_lt (sk nonce : List Nat) (j : Nat) : ksAt sk nonce j < 256 := (partL_bytes sk nonce (j / 32)).at _
theorem ksAt_part (sk nonce : List Nat) (i k : Nat) (hk : k < 32) : ksAt sk nonce (32 * i + k) = (partL sk nonce i).getD k 0 := by
  rw [ksAt, show (32 * i + k) / 32 = i by omega, show (32 * i + k) % 32 = k by omega]
theorem xorf_length (l : List Nat) (f : Nat → Nat) : (xorf l f).length = l.length := by simp [xorf]
theorem xorf_at (l : List Nat) (f : Nat → Nat) (j : Nat) (h : j < l.length) : (xorf l f).getD j 0 = l.getD j 0 ^^^ f j := by
  simp [xorf, List.getD_eq_getElem?_getD, h]
theorem xorf_bytes {l : List Nat} {f : Nat → Nat} (h : Bytes l) (hf : ∀ j, f j < 256) : Bytes (xorf l f) := by
  intro x hx
  obtain ⟨j, _, rfl⟩ := List.mem_map.1 hx
  exact Nat.xor_lt_two_pow (n := 8) (h.at j) (hf j)
theorem listD_ext {l m : List Nat} (h : l.length = m.length) (k : ∀ i, i < l.length → l.getD i 0 = m.getD i 0) : l = m := by
  apply List.ext_getElem h
  intro i h1 h2
  have := k i h1
  rwa [List.getD_eq_getElem?_getD, List.getD_eq_getElem?_getD, List.getElem?_eq_getElem h1, List.getElem?_eq_getElem h2, Option.getD_some, Option.getD_some] at this
theorem xorf_xorf (l : List Nat) (f : Nat → Nat) : xorf (xorf l f) f = l := by
  apply listD_ext (by rw [xorf_length, xorf_length])
  intro i hi
  rw [xorf_length, xorf_length] at hi
  rw [xorf_at _ _ _ (by rw [xorf_length]; exact hi), xorf_at _ _ _ hi, Nat.xor_assoc, Nat.xor_self, Nat.xor_zero]
theorem hide_length (sk nonce l : List Nat) : (hide sk nonce l).length = l.length := xorf_length _ _
theorem hide_bytes (sk nonce : List Nat) {l : List Nat} (h : Bytes l) : Bytes (hide sk nonce l) := xorf_bytes h (ksAt_lt sk nonce)
theorem hide_hide (sk nonce l : List Nat) : hide sk nonce (hide sk nonce l) = l := xorf_xorf _ _
theorem hiddenL_length (k nonce s : List Nat) : (hiddenL k nonce s).length = nonce.length + s.length := by rw [hiddenL, List.length_append, hide_length]
theorem hiddenL_bytes (k : List Nat) {nonce s : List Nat} (hn : Bytes nonce) (hs : Bytes s) : Bytes (hiddenL k nonce s) := hn.append (hide_bytes _ _ hs)
theorem sealedL_length (k nonce s : List Nat) : (sealedL k nonce s).length = nonce.length + s.length + 32 := by rw [sealedL, List.length_append, hiddenL_length, tagOf_length]
theorem sealedL_bytes (k : List Nat) {nonce s : List Nat} (hn : Bytes nonce) (hs : Bytes s) : Bytes (sealedL k nonce s) := (hiddenL_bytes k hn hs).append (tagOf_bytes _ _)
/-- The first n pairs of an index and the stream's byte. -/
noncomputable def ksF (sk nonce : List Nat) (n : Nat) : List (Fin n × Fin 256) := List.ofFn fun j : Fin n => (j, ⟨ksAt sk nonce j.1, ksAt_lt sk nonce j.1⟩)
theorem ksF_length (sk nonce : List Nat) (n : Nat) : (ksF sk nonce n).length = n := by simp [ksF]
theorem ksF_take (sk nonce : List Nat) {n k : Nat} (h : k < n) : (ksF sk nonce n).take (k + 1) = (ksF sk nonce n).take k ++ [(⟨k, h⟩, ⟨ksAt sk nonce k, ksAt_lt sk nonce k⟩)] := by
  rw [List.take_succ_eq_append_getElem (by rw [ksF_length]; exact h)]
  simp [ksF]
theorem ksF_all (sk nonce : List Nat) (n : Nat) : (ksF sk nonce n).take n = ksF sk nonce n := List.take_of_length_le (by rw [ksF_length]; exact Nat.le_refl _)
/-- What becomes of a row of numbers by pairs of an index and a number. -/
def app {n : Nat} (l : List Nat) (pre : List (Fin n × Fin 256)) : List Nat := pre.foldl (fun m x => m.set x.1.1 (m.getD x.1.1 0 ^^^ x.2.1)) l
theorem app_nil {n : Nat} (l : List Nat) : app l ([] : List (Fin n × Fin 256)) = l := rfl
theorem app_snoc {n : Nat} (l : List Nat) (pre : List (Fin n × Fin 256)) (x : Fin n × Fin 256) : app l (pre ++ [x]) = (app l pre).set x.1.1 ((app l pre).getD x.1.1 0 ^^^ x.2.1) := by
  simp [app, List.foldl_append]
theorem app_length {n : Nat} (l : List Nat) (pre : List (Fin n × Fin 256)) : (app l pre).length = l.length := by
  induction pre generalizing l with
  | nil => rfl
  | cons x r ih => rw [show app l (x :: r) = app (l.set x.1.1 (l.getD x.1.1 0 ^^^ x.2.1)) r from rfl, ih, List.length_set]
theorem set_getD (l : List Nat) (k x j : Nat) (h : k < l.length) : (l.set k x).getD j 0 = if j = k then x else l.getD j 0 := by
  rw [List.getD_eq_getElem?_getD, List.getD_eq_getElem?_getD, List.getElem?_set]
  by_cases e : j = k
  · rw [if_pos e.symm, if_pos h, if_pos e, Option.getD_some]
  · rw [if_neg (fun e' => e e'.symm), if_neg e]
theorem app_bytes {n : Nat} {l : List Nat} (h : Bytes l) (pre : List (Fin n × Fin 256)) : Bytes (app l pre) := by
  induction pre generalizing l with
  | nil => exact h
  | cons x r ih =>
    refine ih (l := l.set x.1.1 (l.getD x.1.1 0 ^^^ x.2.1)) ?_
    intro y hy
    rcases List.mem_or_eq_of_mem_set hy with h' | rfl
    · exact h y h'
    · exact Nat.xor_lt_two_pow (n := 8) (h.at _) x.2.2
theorem app_take (sk nonce l : List Nat) (n : Nat) (hl : l.length = n) : ∀ k, k ≤ n → ∀ j, (app l ((ksF sk nonce n).take k)).getD j 0 = if j < k then l.getD j 0 ^^^ ksAt sk nonce j else l.getD j 0 := by
  intro k
  induction k with
  | zero => intro _ j; rw [List.take_zero, app_nil, if_neg (by omega)]
  | succ k ih =>
    intro hk j
    have ih := ih (by omega)
    have hkn : k < n := by omega
    rw [ksF_take sk nonce hkn, app_snoc]
    show ((app l ((ksF sk nonce n).take k)).set k ((app l ((ksF sk nonce n).take k)).getD k 0 ^^^ ksAt sk nonce k)).getD j 0 = _
    rw [set_getD _ _ _ _ (by rw [app_length, hl]; exact hkn), ih k, if_neg (Nat.lt_irrefl k)]
    by_cases e : j = k
    · rw [if_pos e, e, if_pos (by omega)]
    · rw [if_neg e, ih j]
      by_cases h : j < k
      · rw [if_pos h, if_pos (by omega)]
      · rw [if_neg h, if_neg (by omega)]
theorem app_all (sk nonce l : List Nat) (n : Nat) (hl : l.length = n) : app l (ksF sk nonce n) = hide sk nonce l := by
  apply listD_ext (by rw [app_length, hide_length])
  intro i hi
  rw [app_length, hl] at hi
  rw [← ksF_all sk nonce n, app_take sk nonce l n hl n (Nat.le_refl _) i, if_pos hi, hide, xorf_at _ _ _ (by rw [hl]; exact hi)]
end Go.Proofs.YtogadffbnoinmaaDoor.Pl
