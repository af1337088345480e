/- The encoding of numbers, texts and rows of texts as lists of bytes, and what holds of it; plain mathematics alone, no program. Texts as bytes, and what a reader of them answers; plain mathematics alone, no program. Terms as bytes, and as trees: what is read of bytes, that it is a tree's, and just one's; plain mathematics alone. What stands at a term's places; one term swapped for another, and back; plain mathematics alone. Which kinds of terms there are, what makes them, and what their parts make again; plain mathematics alone. Small facts that the walks share: worlds in which nothing old has turned, and endings. A text's bytes, its places, its slices, as facts for the walk; what the document's name of layer 6 answers. What octet.Num answers. What octet.ReadNum answers. What octet.Text and octet.ReadText answer. What the document's own Num and digits answer: the same encoding. What the document's own ReadNum answers: the same as octet.ReadNum. What the document's Text and ReadText answer. Rows of texts read: what comes, text by text, and what a reader of count of them answers; plain mathematics alone. What the document's head, read, Read, Check and May of layer 6 answer. What the document's read, Read, Check and May of layer 6 answer: read calls itself. What the document's Data, Atom, Num, Kind, Text, and what makes a term of parts, answer. What the document's made answers, of whatever parts; Row, Hash, Mac, Seal. What the document's parts of a term answers: a row of texts that the call owns. What the document's Places, Parts, Size, depth, Depth, In and Has of layer 6 answer: Places and depth call themselves. What the document's Parts, Size, depth, Depth, In and Has of layer 6 answer. A region that draws its order, by what holds whatever has come up; inside a fence, also in a round. The places of a text of terms, one behind the other: where each begins, how deep it is, where its head ends, how many parts it has; plain mathematics alone. What term's need, textSize and rowHead answer, and what they throw. What the document's Row, Hash, Mac, Seal, Text and ReadNum of layer 6 answer. What the document's ReadNum of layer 6 answers: the number in a datum. Rows of numbers as the cells of an array. What the document's Subs of layer 6 answers: what stands at the places, each once, in order. What the document's Same of layer 6 answers: are two rows of texts alike? What Long of layer 6 tells of a row of texts. -/
import GoSem.Op.String
import Derived.WalkKit
import Derived.Deep.Draws
import Derived.Test.YthemopejebioaaaProg
import Derived.Handy
import Derived.Lib.Hide
import Derived.Lib.Strings
import Derived.Laws.IdiomStrings
import Derived.WalkSpells
import Derived.Outline
import Derived.Test.YthemopejebioaaaShelf
import Derived.BigQuiet
import Derived.Deep.QuietTactic
import Derived.Deep.RegionWith
import Derived.WalkLawsBesides
import Derived.Deep.RegionHeld3
import Derived.Laws.OwnMore
import Derived.OwnWalk
import Derived.Maps.AppendAt
import Derived.OrdersIn
import Derived.OwnWalkIn
import Derived.Deep.WholeRow
namespace Go.Proofs.Ythemopejebioaaa.Pl

/-- The digits of v to the base 256, the highest first, no more than f of them; of 0 none. -/
def dig : Nat → Nat → List UInt8
  | 0, _ => []
  | f + 1, v => if v = 0 then [] else dig f (v / 256) ++ [UInt8.ofNat (v % 256)]

/-- The encoding of a number. -/
def enc (v : Nat) : List UInt8 := if v < 248 then [UInt8.ofNat v] else UInt8.ofNat (247 + (dig 8 v).length) :: dig 8 v

/-- The number that digits are. -/
def val (l : List UInt8) : Nat := l.foldl (fun a b => a * 256 + b.toNat) 0

theorem val_nil : val [] = 0 := rfl
theorem val_snoc (l : List UInt8) (b : UInt8) : val (l ++ [b]) = val l * 256 + b.toNat := by simp [val, List.foldl_append]
theorem foldl_val (l : List UInt8) : ∀ a, l.foldl (fun a b => a * 256 + b.toNat) a = a * 256 ^ l.length + val l := by
  induction l with
  | nil => intro a; simp [val]
  | cons b r ih =>
    intro a
    have h1 := ih (a * 256 + b.toNat)
    have h2 := ih (0 * 256 + b.toNat)
    show r.foldl _ (a * 256 + b.toNat) = _
    have h3 : val (b :: r) = r.foldl (fun a b => a * 256 + b.toNat) (0 * 256 + b.toNat) := rfl
    rw [h1, h3, h2, List.length_cons, Nat.pow_succ]
    simp only [Nat.add_mul, Nat.zero_mul, Nat.zero_add]
    have : a * 256 * 256 ^ r.length = a * (256 ^ r.length * 256) := by rw [Nat.mul_assoc, Nat.mul_comm 256]
    omega
theorem val_cons (b : UInt8) (r : List UInt8) : val (b :: r) = b.toNat * 256 ^ r.length + val r := by
  have h := foldl_val r (0 * 256 + b.toNat)
  have h3 : val (b :: r) = r.foldl (fun a b => a * 256 + b.toNat) (0 * 256 + b.toNat) := rfl
  rw [h3, h]; simp
theorem val_lt (l : List UInt8) : val l < 256 ^ l.length := by
  induction l with
  | nil => simp [val]
  | cons b r ih =>
    rw [val_cons, List.length_cons, Nat.pow_succ]
    have hb : b.toNat < 256 := b.toNat_lt
    have : b.toNat * 256 ^ r.length + 256 ^ r.length ≤ 256 ^ r.length * 256 := by
      rw [← Nat.succ_mul, Nat.mul_comm]
      exact Nat.mul_le_mul_left _ hb
    omega

theorem dig_zero (f : Nat) : dig f 0 = [] := by cases f <;> simp [dig]
theorem dig_succ (f v : Nat) (h : v ≠ 0) : dig (f + 1) v = dig f (v / 256) ++ [UInt8.ofNat (v % 256)] := by simp [dig, h]

theorem val_dig (f : Nat) : ∀ v, v < 256 ^ f → val (dig f v) = v := by
  induction f with
  | zero => intro v h; have : v = 0 := by simpa using h
            subst this; rfl
  | succ f ih =>
    intro v h
    by_cases h0 : v = 0
    · subst h0; rw [dig_zero]; rfl
    · rw [dig_succ f v h0, val_snoc, ih (v / 256) (by rw [Nat.pow_succ] at h; omega)]
      have : (UInt8.ofNat (v % 256)).toNat = v % 256 := by simp
      omega

/-- Digits that do not begin with 0 are the digits of their number. -/
theorem dig_val (f : Nat) : ∀ l : List UInt8, l.length ≤ f → l.head? ≠ some 0 → dig f (val l) = l := by
  induction f with
  | zero => intro l h _; have : l = [] := List.eq_nil_of_length_eq_zero (by omega)
            subst this; rfl
  | succ f ih =>
    intro l hl hh
    rcases List.eq_nil_or_concat l with rfl | ⟨r, b, rfl⟩
    · rw [val_nil, dig_zero]
    · rw [List.concat_eq_append] at *
      have hb : b.toNat < 256 := b.toNat_lt
      have hv : val (r ++ [b]) ≠ 0 := by
        rw [val_snoc]
        intro h0
        cases r with
        | nil =>
          simp at hh
          apply hh
          have : b.toNat = 0 := by omega
          exact UInt8.toNat.inj (by simpa using this)
        | cons c r =>
          rw [val_cons] at h0
          simp at hh
          have h1 : 0 < 256 ^ r.length := Nat.pow_pos (by decide)
          have h2 : c.toNat * 256 ^ r.length = 0 := by omega
          have h3 : c.toNat = 0 := by
            rcases Nat.mul_eq_zero.1 h2 with h | h
            · exact h
            · omega
          exact hh (UInt8.toNat.inj (by simpa using h3))
      rw [dig_succ f _ hv, val_snoc]
      have e1 : (val r * 256 + b.toNat) / 256 = val r := by omega
      have e2 : (val r * 256 + b.toNat) % 256 = b.toNat := by omega
      rw [e1, e2, ih r (by simp at hl; omega) (by
        cases r with
        | nil => simp
        | cons c r => simpa using hh)]
      simp

theorem dig_length_le (f : Nat) : ∀ v, (dig f v).length ≤ f := by
  induction f with
  | zero => intro v; simp [dig]
  | succ f ih =>
    intro v
    by_cases h0 : v = 0
    · subst h0; rw [dig_zero]; simp
    · rw [dig_succ f v h0]; have := ih (v / 256); simp; omega

theorem dig_head (f : Nat) : ∀ v, v < 256 ^ f → (dig f v).head? ≠ some 0 := by
  induction f with
  | zero => intro v _; simp [dig]
  | succ f ih =>
    intro v h
    by_cases h0 : v = 0
    · subst h0; rw [dig_zero]; simp
    · rw [dig_succ f v h0]
      have h1 := ih (v / 256) (by rw [Nat.pow_succ] at h; omega)
      cases hd : dig f (v / 256) with
      | nil =>
        have h2 := val_dig f (v / 256) (by rw [Nat.pow_succ] at h; omega)
        rw [hd, val_nil] at h2
        simp
        intro h3
        have h4 : (UInt8.ofNat (v % 256)).toNat = v % 256 := by simp
        rw [h3] at h4
        simp at h4
        omega
      | cons c r => rw [hd] at h1; simpa using h1

theorem dig_pos (v : Nat) (h : v ≠ 0) : 0 < (dig 8 v).length := by
  rw [dig_succ 7 v h]; simp

theorem val_pos {l : List UInt8} (h : l.head? ≠ some 0) : 256 ^ l.length ≤ val l * 256 ∨ l = [] := by
  cases l with
  | nil => exact .inr rfl
  | cons c r =>
    left
    rw [val_cons, List.length_cons, Nat.pow_succ]
    have hc : c.toNat ≠ 0 := fun h0 => h (by simp; exact UInt8.toNat.inj (by simpa using h0))
    have : 1 * 256 ^ r.length ≤ c.toNat * 256 ^ r.length := Nat.mul_le_mul_right _ (by omega)
    omega

/-- Less, at a first difference. -/
def SLt (l m : List UInt8) : Prop := ∃ p a b r s, l = p ++ a :: r ∧ m = p ++ b :: s ∧ a < b
theorem SLt.append {l m : List UInt8} (h : SLt l m) (x y : List UInt8) : SLt (l ++ x) (m ++ y) := by
  obtain ⟨p, a, b, r, s, rfl, rfl, hab⟩ := h
  exact ⟨p, a, b, r ++ x, s ++ y, by simp, by simp, hab⟩
theorem SLt.cons {l m : List UInt8} (h : SLt l m) (c : UInt8) : SLt (c :: l) (c :: m) := by
  obtain ⟨p, a, b, r, s, rfl, rfl, hab⟩ := h
  exact ⟨c :: p, a, b, r, s, by simp, by simp, hab⟩
theorem SLt.more {l m : List UInt8} (h : SLt l m) : Op.bytesLess m l = false := by
  obtain ⟨p, a, b, r, s, rfl, rfl, hab⟩ := h
  induction p with
  | nil =>
    have h1 : ¬ b < a := fun h => absurd (UInt8.lt_trans h hab) (UInt8.lt_irrefl _)
    have h2 : b ≠ a := fun h => by subst h; exact UInt8.lt_irrefl _ hab
    simp [Op.bytesLess, h1, h2]
  | cons c p ih => 
    have h1 : ¬ c < c := UInt8.lt_irrefl _
    simp only [List.cons_append, Op.bytesLess, ih]
    simp [h1]
theorem enc_small {v : Nat} (h : v < 248) : enc v = [UInt8.ofNat v] := by simp [enc, h]
theorem enc_big {v : Nat} (h : ¬ v < 248) : enc v = UInt8.ofNat (247 + (dig 8 v).length) :: dig 8 v := by simp [enc, h]
theorem two64 : (256 : Nat) ^ 8 = 18446744073709551616 := by decide

theorem enc_len (v : Nat) : 1 ≤ (enc v).length ∧ (enc v).length ≤ 9 := by
  by_cases h : v < 248
  · rw [enc_small h]; simp
  · rw [enc_big h]; have := dig_length_le 8 v; simp; omega

/-- What a reader of a number answers: the number, how many bytes it has, what is wrong. -/
def rdn (l : List UInt8) : Nat × Nat × Nat :=
  match l with
  | [] => (0, 0, 6)
  | b :: r =>
    if b.toNat < 248 then (b.toNat, 1, 0)
    else if r.length < b.toNat - 247 then (0, 0, 6)
    else if r.headD 0 = 0 ∨ (b.toNat = 248 ∧ (r.headD 0).toNat < 248) then (0, 0, 7)
    else (val (r.take (b.toNat - 247)), 1 + (b.toNat - 247), 0)

theorem rdn_small (b : UInt8) (r : List UInt8) (h : b.toNat < 248) : rdn (b :: r) = (b.toNat, 1, 0) := by simp [rdn, h]
theorem rdn_end (b : UInt8) (r : List UInt8) (h : ¬ b.toNat < 248) (h2 : r.length < b.toNat - 247) : rdn (b :: r) = (0, 0, 6) := by simp [rdn, h, h2]
theorem rdn_form (b : UInt8) (r : List UInt8) (h : ¬ b.toNat < 248) (h2 : ¬ r.length < b.toNat - 247) (h3 : r.headD 0 = 0 ∨ (b.toNat = 248 ∧ (r.headD 0).toNat < 248)) : rdn (b :: r) = (0, 0, 7) := by
  simp only [rdn]; rw [if_neg h, if_neg h2, if_pos h3]
theorem rdn_ok (b : UInt8) (r : List UInt8) (h : ¬ b.toNat < 248) (h2 : ¬ r.length < b.toNat - 247) (h3 : ¬ (r.headD 0 = 0 ∨ (b.toNat = 248 ∧ (r.headD 0).toNat < 248))) :
    rdn (b :: r) = (val (r.take (b.toNat - 247)), 1 + (b.toNat - 247), 0) := by
  simp only [rdn]; rw [if_neg h, if_neg h2, if_neg h3]

/-- Of a number whose digits are read: what would be put is what was read, just if nothing is wrong with its form. -/
theorem enc_val {d : List UInt8} (hl : 1 ≤ d.length) (h8 : d.length ≤ 8) :
    enc (val d) = UInt8.ofNat (247 + d.length) :: d ↔ ¬ (d.headD 0 = 0 ∨ (d.length = 1 ∧ (d.headD 0).toNat < 248)) := by
  cases d with
  | nil => simp at hl
  | cons c r =>
    simp only [List.headD_cons]
    constructor
    · intro h hbad
      rcases hbad with hc | ⟨h1, hc⟩
      · by_cases hs : val (c :: r) < 248
        · rw [enc_small hs] at h; simp at h
        · rw [enc_big hs] at h
          have h2 : dig 8 (val (c :: r)) = c :: r := by injection h
          have h3 := dig_head 8 (val (c :: r)) (by
            have := val_lt (c :: r)
            exact Nat.lt_of_lt_of_le this (Nat.pow_le_pow_right (by decide) h8))
          rw [h2] at h3
          simp at h3
          exact h3 hc
      · have hr : r = [] := List.eq_nil_of_length_eq_zero (by simpa using h1)
        subst hr
        have hs : val [c] < 248 := by simpa [val] using hc
        rw [enc_small hs] at h; simp at h
    · intro h
      have hc : c ≠ 0 := fun e => h (.inl e)
      have hd : dig 8 (val (c :: r)) = c :: r := dig_val 8 _ h8 (by simpa using hc)
      have hb : ¬ val (c :: r) < 248 := by
        intro hs
        cases r with
        | nil => exact h (.inr ⟨rfl, by simpa [val] using hs⟩)
        | cons e r =>
          have := val_pos (l := c :: e :: r) (by simpa using hc)
          rcases this with h1 | h1
          · have h2 : (256 : Nat) ^ 2 ≤ 256 ^ (c :: e :: r).length := Nat.pow_le_pow_right (by decide) (by simp)
            omega
          · simp at h1
      rw [enc_big hb, hd]

theorem headD_take {r : List UInt8} {k : Nat} (h : 1 ≤ k) : (r.take k).headD 0 = r.headD 0 := by
  cases r with
  | nil => simp
  | cons c r =>
    obtain ⟨k, rfl⟩ : ∃ j, k = j + 1 := ⟨k - 1, by omega⟩
    simp

/-- What was put is read, whatever stands behind it. -/
theorem rdn_enc {v : Nat} (hv : v < 256 ^ 8) (s : List UInt8) : rdn (enc v ++ s) = (v, (enc v).length, 0) := by
  by_cases h : v < 248
  · rw [enc_small h]
    have : (UInt8.ofNat v).toNat = v := by simp; omega
    simp only [List.cons_append, List.nil_append]
    rw [rdn_small _ _ (by omega), this]; rfl
  · rw [enc_big h]
    have hl := dig_length_le 8 v
    have hp := dig_pos v (by omega)
    have hb : (UInt8.ofNat (247 + (dig 8 v).length)).toNat = 247 + (dig 8 v).length := by simp; omega
    have hh := dig_head 8 v hv
    have hd := val_dig 8 v hv
    have hk : (UInt8.ofNat (247 + (dig 8 v).length)).toNat - 247 = (dig 8 v).length := by omega
    have hhd : (dig 8 v ++ s).headD 0 = (dig 8 v).headD 0 := by
      cases hdd : dig 8 v with
      | nil => rw [hdd] at hp; simp at hp
      | cons c r => simp
    simp only [List.cons_append]
    rw [rdn_ok _ _ (by omega) (by simp; omega) ?_, hk, List.take_left' rfl, hd]
    · simp [Nat.add_comm]
    · rw [hhd]
      have hev := (enc_val (d := dig 8 v) hp hl).1 (by rw [hd, enc_big h])
      intro hx
      apply hev
      rcases hx with hx | ⟨hx, hy⟩
      · exact .inl hx
      · exact .inr ⟨by omega, hy⟩

/-- What is read is what would be put. -/
theorem rdn_sound {l : List UInt8} {v n : Nat} (h : rdn l = (v, n, 0)) : 1 ≤ n ∧ n ≤ l.length ∧ enc v = l.take n ∧ v < 256 ^ 8 := by
  cases l with
  | nil => simp [rdn] at h
  | cons b r =>
    have hb : b.toNat < 256 := b.toNat_lt
    by_cases h1 : b.toNat < 248
    · rw [rdn_small b r h1] at h
      simp only [Prod.mk.injEq, and_true] at h
      obtain ⟨rfl, rfl⟩ := h
      refine ⟨by omega, by simp, ?_, by omega⟩
      rw [enc_small h1]; simp
    · by_cases h2 : r.length < b.toNat - 247
      · rw [rdn_end b r h1 h2] at h; simp at h
      · by_cases h3 : r.headD 0 = 0 ∨ (b.toNat = 248 ∧ (r.headD 0).toNat < 248)
        · rw [rdn_form b r h1 h2 h3] at h; simp at h
        · rw [rdn_ok b r h1 h2 h3] at h
          simp only [Prod.mk.injEq, and_true] at h
          obtain ⟨rfl, rfl⟩ := h
          have hlen : (r.take (b.toNat - 247)).length = b.toNat - 247 := by simp; omega
          refine ⟨by omega, by simp; omega, ?_, ?_⟩
          · rw [Nat.add_comm 1, List.take_succ_cons]
            rw [(enc_val (d := r.take (b.toNat - 247)) (by omega) (by omega)).2 ?_]
            · have hbb : UInt8.ofNat (247 + (b.toNat - 247)) = b := by
                apply UInt8.toNat.inj
                simp; omega
              rw [hlen, hbb]
            · rw [headD_take (by omega), hlen]
              intro hx
              apply h3
              rcases hx with hx | ⟨hx, hy⟩
              · exact .inl hx
              · exact .inr ⟨by omega, hy⟩
          · have := val_lt (r.take (b.toNat - 247))
            exact Nat.lt_of_lt_of_le this (Nat.pow_le_pow_right (by decide) (by omega))

theorem rdn_err {l : List UInt8} {v n e : Nat} (h : rdn l = (v, n, e)) : e = 0 ∨ (v = 0 ∧ n = 0 ∧ (e = 6 ∨ e = 7)) := by
  cases l with
  | nil => simp [rdn] at h; omega
  | cons b r =>
    by_cases h1 : b.toNat < 248
    · rw [rdn_small b r h1] at h; simp at h; omega
    · by_cases h2 : r.length < b.toNat - 247
      · rw [rdn_end b r h1 h2] at h; simp at h; omega
      · by_cases h3 : r.headD 0 = 0 ∨ (b.toNat = 248 ∧ (r.headD 0).toNat < 248)
        · rw [rdn_form b r h1 h2 h3] at h; simp at h; omega
        · rw [rdn_ok b r h1 h2 h3] at h; simp at h; omega

/-- Just k digits of v, as numbers. -/
def dn : Nat → Nat → List Nat
  | 0, _ => []
  | k + 1, v => dn k (v / 256) ++ [v % 256]
theorem dig_dn (f : Nat) : ∀ k v, k ≤ f → v < 256 ^ k → (k = 0 ∨ 256 ^ k ≤ v * 256) → dig f v = (dn k v).map UInt8.ofNat := by
  induction f with
  | zero => intro k v hk _ _; obtain rfl : k = 0 := by omega
            rfl
  | succ f ih =>
    intro k v hk hi lo
    cases k with
    | zero => have : v = 0 := by simpa using hi
              subst this; rw [dig_zero]; rfl
    | succ k =>
      have hlo : 256 ^ (k + 1) ≤ v * 256 := by
        rcases lo with h | h
        · cases h
        · exact h
      rw [Nat.pow_succ] at hi hlo
      have hp : 0 < 256 ^ k := Nat.pow_pos (by decide)
      rw [dig_succ f v (by omega), ih k (v / 256) (by omega) (by omega) ?_]
      · simp [dn]
      · cases k with
        | zero => exact .inl rfl
        | succ k =>
          right
          clear hi hp ih lo
          rw [Nat.pow_succ] at hlo ⊢
          generalize 256 ^ k = q at hlo ⊢
          have h1 : q * 256 ≤ v := Nat.le_of_mul_le_mul_right hlo (by decide)
          have h2 : q ≤ v / 256 := (Nat.le_div_iff_mul_le (by decide)).2 h1
          exact Nat.mul_le_mul_right _ h2
theorem dn_length (k : Nat) : ∀ v, (dn k v).length = k := by
  induction k with
  | zero => intro v; rfl
  | succ k ih => intro v; simp [dn, ih]
theorem enc_dn {k v : Nat} (h8 : k ≤ 8) (hv : ¬ v < 248) (hi : v < 256 ^ k) (lo : 256 ^ k ≤ v * 256) : enc v = ((247 + k) :: dn k v).map UInt8.ofNat := by
  rw [enc_big hv, dig_dn 8 k v h8 hi (.inr lo), List.length_map, dn_length, List.map_cons]

end Go.Proofs.Ythemopejebioaaa.Pl

namespace Go.Proofs.Ythemopejebioaaa.Pl

/-- What a reader of a text of at most m bytes answers. -/
def rdt (l : List UInt8) (m : Int) : List UInt8 × Nat × Nat :=
  if (rdn l).2.2 ≠ 0 then ([], 0, (rdn l).2.2)
  else if max m 0 < ((rdn l).1 : Int) then ([], 0, 5)
  else if l.length - (rdn l).2.1 < (rdn l).1 then ([], 0, 6)
  else ((l.drop (rdn l).2.1).take (rdn l).1, (rdn l).2.1 + (rdn l).1, 0)
/-- The encoding of a text. -/
def txt (t : List UInt8) : List UInt8 := enc t.length ++ t

theorem rdt_err {l : List UInt8} {m : Int} {v n e : Nat} (h : rdn l = (v, n, e)) (he : e ≠ 0) : rdt l m = ([], 0, e) := by simp [rdt, h, he]
theorem rdt_long {l : List UInt8} {m : Int} {v n : Nat} (h : rdn l = (v, n, 0)) (h1 : max m 0 < (v : Int)) : rdt l m = ([], 0, 5) := by
  unfold rdt; rw [h]; rw [if_neg (by simp), if_pos h1]
theorem rdt_end {l : List UInt8} {m : Int} {v n : Nat} (h : rdn l = (v, n, 0)) (h1 : ¬ max m 0 < (v : Int)) (h2 : l.length - n < v) : rdt l m = ([], 0, 6) := by
  unfold rdt; rw [h]; rw [if_neg (by simp), if_neg h1, if_pos h2]
theorem rdt_ok {l : List UInt8} {m : Int} {v n : Nat} (h : rdn l = (v, n, 0)) (h1 : ¬ max m 0 < (v : Int)) (h2 : ¬ l.length - n < v) : rdt l m = ((l.drop n).take v, n + v, 0) := by
  unfold rdt; rw [h]; rw [if_neg (by simp), if_neg h1, if_neg h2]

theorem rdt_txt {t : List UInt8} (ht : t.length < 256 ^ 8) (s : List UInt8) (m : Int) (hm : (t.length : Int) ≤ m) : rdt (txt t ++ s) m = (t, (txt t).length, 0) := by
  have h := rdn_enc ht (t ++ s)
  have e : txt t ++ s = enc t.length ++ (t ++ s) := by simp [txt]
  rw [e, rdt_ok h (by omega) (by simp)]
  simp [txt]
theorem rdt_sound {l t : List UInt8} {m : Int} {n : Nat} (h : rdt l m = (t, n, 0)) : 1 ≤ n ∧ n ≤ l.length ∧ (t.length : Int) ≤ max m 0 ∧ txt t = l.take n := by
  have ⟨v, k, e, hr⟩ : ∃ v k e, rdn l = (v, k, e) := ⟨_, _, _, rfl⟩
  by_cases he : e = 0
  · subst he
    obtain ⟨k1, k2, k3, k4⟩ := rdn_sound hr
    by_cases h1 : max m 0 < (v : Int)
    · rw [rdt_long hr h1] at h; simp at h
    · by_cases h2 : l.length - k < v
      · rw [rdt_end hr h1 h2] at h; simp at h
      · rw [rdt_ok hr h1 h2] at h
        simp only [Prod.mk.injEq, and_true] at h
        obtain ⟨rfl, rfl⟩ := h
        have hl : ((l.drop k).take v).length = v := by simp; omega
        refine ⟨by omega, by omega, by rw [hl]; omega, ?_⟩
        rw [txt, hl, k3, List.take_add]
  · rw [rdt_err hr he] at h
    simp at h
    omega
theorem txt_len (t : List UInt8) : (txt t).length = (enc t.length).length + t.length := by simp [txt]
end Go.Proofs.Ythemopejebioaaa.Pl

namespace Go.Proofs.Ythemopejebioaaa.Pl

def nameB (b : UInt8) : Bool := decide ((97 ≤ b.toNat ∧ b.toNat ≤ 122) ∨ (48 ≤ b.toNat ∧ b.toNat ≤ 57) ∨ b.toNat = 47 ∨ b.toNat = 46 ∨ b.toNat = 45)
def nameOK (s : List UInt8) : Bool := !s.isEmpty && s.all nameB
/-- The bytes ahead of a term's parts, how many parts, what is wrong. -/
def headP : List UInt8 → Nat × Nat × Nat
  | [] => (0, 0, 6)
  | b :: r =>
    if b = 100 then (1 + (rdt r 1024).2.1, 0, (rdt r 1024).2.2)
    else if b = 97 then (if (rdt r 32).2.2 = 0 ∧ nameOK (rdt r 32).1 = false then (0, 0, 7) else (1 + (rdt r 32).2.1, 0, (rdt r 32).2.2))
    else if b = 114 then (if (rdn r).2.2 = 0 ∧ 32 < (rdn r).1 then (0, 0, 5) else (1 + (rdn r).2.1, (rdn r).1, (rdn r).2.2))
    else if b = 104 then (1, 1, 0) else if b = 109 then (1, 2, 0) else if b = 115 then (1, 3, 0) else (0, 0, 7)
/-- Of so many terms, one behind the other. -/
def loopP (rd : List UInt8 → Nat × Nat) : Nat → List UInt8 → Nat × Nat
  | 0, _ => (0, 0)
  | k + 1, s => if (rd s).2 = 0 then (if (loopP rd k (s.drop (rd s).1)).2 = 0 then ((rd s).1 + (loopP rd k (s.drop (rd s).1)).1, 0) else (0, (loopP rd k (s.drop (rd s).1)).2)) else (0, (rd s).2)
/-- The term at the front that is no deeper than d. -/
def readP : Nat → List UInt8 → Nat × Nat
  | 0, _ => (0, 60)
  | d + 1, s => if (headP s).2.2 = 0 then (if (loopP (readP d) (headP s).2.1 (s.drop (headP s).1)).2 = 0 then ((headP s).1 + (loopP (readP d) (headP s).2.1 (s.drop (headP s).1)).1, 0) else (0, (loopP (readP d) (headP s).2.1 (s.drop (headP s).1)).2)) else (0, (headP s).2.2)
def frontP (s : List UInt8) : Nat × Nat := if (readP 16 s).2 = 0 then (if 16384 < (readP 16 s).1 then (0, 5) else readP 16 s) else (0, (readP 16 s).2)
def checkP (t : List UInt8) : Nat := if (frontP t).2 = 0 then (if (frontP t).1 = t.length then 0 else 7) else (frontP t).2

/-- Bytes that are a term's head, of so many parts, whatever stands behind them. -/
def HeadOK (h : List UInt8) (p : Nat) : Prop := ∀ rest, headP (h ++ rest) = (h.length, p, 0)
theorem HeadOK.pos {h : List UInt8} {p : Nat} (k : HeadOK h p) : h ≠ [] := by
  rintro rfl
  have := k []
  simp [headP] at this
theorem HeadOK.same {h h' r r' : List UInt8} {p p' : Nat} (k : HeadOK h p) (k' : HeadOK h' p') (e : h ++ r = h' ++ r') : h = h' ∧ p = p' ∧ r = r' := by
  have e1 := k r
  rw [e, k' r'] at e1
  have hl : h'.length = h.length := congrArg Prod.fst e1
  have hp : p' = p := congrArg (·.2.1) e1
  have hh := List.append_inj e hl.symm
  exact ⟨hh.1, hp.symm, hh.2⟩
theorem head_front {s : List UInt8} {n p : Nat} (h : headP s = (n, p, 0)) : n ≤ s.length ∧ HeadOK (s.take n) p := by
  cases s with
  | nil => simp [headP] at h
  | cons b r =>
    simp only [headP] at h
    split at h
    · rename_i hb
      subst hb
      obtain ⟨t, k, e, hr⟩ : ∃ t k e, rdt r 1024 = (t, k, e) := ⟨_, _, _, rfl⟩
      rw [hr] at h
      simp only [Prod.mk.injEq] at h
      obtain ⟨rfl, rfl, rfl⟩ := h
      obtain ⟨h1, h2, h3, h4⟩ := rdt_sound hr
      refine ⟨by simp; omega, fun rest => ?_⟩
      have e1 : (100 :: r).take (1 + k) = 100 :: txt t := by rw [h4, Nat.add_comm, List.take_succ_cons]
      have hk : (txt t).length = k := by rw [h4, List.length_take]; omega
      rw [e1, List.cons_append, headP, if_pos rfl, rdt_txt (by rw [two64]; omega) rest 1024 (by omega)]
      simp [Nat.add_comm]
    · split at h
      · rename_i hb0 hb
        subst hb
        obtain ⟨t, k, e, hr⟩ : ∃ t k e, rdt r 32 = (t, k, e) := ⟨_, _, _, rfl⟩
        rw [hr] at h
        split at h
        · simp at h
        · rename_i hno
          simp only [Prod.mk.injEq] at h
          obtain ⟨rfl, rfl, rfl⟩ := h
          obtain ⟨h1, h2, h3, h4⟩ := rdt_sound hr
          refine ⟨by simp; omega, fun rest => ?_⟩
          have e1 : (97 :: r).take (1 + k) = 97 :: txt t := by rw [h4, Nat.add_comm, List.take_succ_cons]
          have hk : (txt t).length = k := by rw [h4, List.length_take]; omega
          rw [e1, List.cons_append, headP, if_neg (by decide), if_pos rfl, rdt_txt (by rw [two64]; omega) rest 32 (by omega), if_neg hno]
          simp [Nat.add_comm]
      · split at h
        · rename_i hb0 hb1 hb
          subst hb
          obtain ⟨v, k, e, hr⟩ : ∃ v k e, rdn r = (v, k, e) := ⟨_, _, _, rfl⟩
          rw [hr] at h
          split at h
          · simp at h
          · rename_i hno
            simp only [Prod.mk.injEq] at h
            obtain ⟨rfl, rfl, rfl⟩ := h
            obtain ⟨h1, h2, h3, h4⟩ := rdn_sound hr
            refine ⟨by simp; omega, fun rest => ?_⟩
            have e1 : (114 :: r).take (1 + k) = 114 :: enc v := by rw [h3, Nat.add_comm, List.take_succ_cons]
            have hk : (enc v).length = k := by rw [h3, List.length_take]; omega
            rw [e1, List.cons_append, headP, if_neg (by decide), if_neg (by decide), if_pos rfl, rdn_enc h4 rest]
            rw [if_neg (by simpa using hno)]
            simp [Nat.add_comm]
        · split at h
          · rename_i hb
            subst hb
            simp only [Prod.mk.injEq] at h
            obtain ⟨rfl, rfl, _⟩ := h
            refine ⟨by simp, fun rest => ?_⟩
            rfl
          · split at h
            · rename_i hb
              subst hb
              simp only [Prod.mk.injEq] at h
              obtain ⟨rfl, rfl, _⟩ := h
              exact ⟨by simp, fun rest => rfl⟩
            · split at h
              · rename_i hb
                subst hb
                simp only [Prod.mk.injEq] at h
                obtain ⟨rfl, rfl, _⟩ := h
                exact ⟨by simp, fun rest => rfl⟩
              · simp at h

/-- A term: its head, its parts. -/
inductive Tm where
  | node (h : List UInt8) (l : List Tm) : Tm

mutual
def Tm.enc : Tm → List UInt8
  | .node h l => h ++ encs l
def encs : List Tm → List UInt8
  | [] => []
  | t :: l => t.enc ++ encs l
end
mutual
def Tm.deep : Tm → Nat
  | .node _ l => deeps l + 1
def deeps : List Tm → Nat
  | [] => 0
  | t :: l => max t.deep (deeps l)
end
mutual
def Tm.good : Tm → Prop
  | .node h l => HeadOK h l.length ∧ goods l
def goods : List Tm → Prop
  | [] => True
  | t :: l => t.good ∧ goods l
end
mutual
def Tm.places : Tm → List Tm
  | .node h l => .node h l :: placess l
def placess : List Tm → List Tm
  | [] => []
  | t :: l => t.places ++ placess l
end
theorem Tm.ind {P : Tm → Prop} (step : ∀ h l, (∀ t ∈ l, P t) → P (.node h l)) : ∀ t, P t := by
  intro t
  refine Tm.rec (motive_1 := P) (motive_2 := fun l => ∀ t ∈ l, P t) ?_ ?_ ?_ t
  · intro h l ih; exact step h l ih
  · intro t ht; cases ht
  · intro t l h1 h2 u hu
    rcases List.mem_cons.1 hu with rfl | hu
    · exact h1
    · exact h2 u hu
theorem goods_mem {l : List Tm} (h : goods l) : ∀ t ∈ l, t.good := by
  induction l with
  | nil => intro t ht; cases ht
  | cons u l ih =>
    intro t ht
    rcases List.mem_cons.1 ht with rfl | ht
    · exact h.1
    · exact ih h.2 t ht
theorem goods_of {l : List Tm} (h : ∀ t ∈ l, t.good) : goods l := by
  induction l with
  | nil => trivial
  | cons u l ih => exact ⟨h u (List.mem_cons_self ..), ih (fun t ht => h t (List.mem_cons_of_mem _ ht))⟩
theorem deeps_mem {l : List Tm} {t : Tm} (h : t ∈ l) : t.deep ≤ deeps l := by
  induction l with
  | nil => cases h
  | cons u l ih =>
    simp only [deeps]
    rcases List.mem_cons.1 h with rfl | h
    · omega
    · have := ih h; omega
theorem encs_flat (l : List Tm) : encs l = (l.map Tm.enc).flatten := by
  induction l with
  | nil => rfl
  | cons t l ih => simp [encs, ih]
theorem Tm.enc_node (h : List UInt8) (l : List Tm) : (Tm.node h l).enc = h ++ encs l := by simp [Tm.enc]

/-- What is a term's bytes is read, whatever stands behind it. -/
theorem read_enc : ∀ t : Tm, t.good → ∀ d, t.deep ≤ d → ∀ rest, readP d (t.enc ++ rest) = (t.enc.length, 0) := by
  refine Tm.ind ?_
  intro h l ih hg d hd rest
  simp only [Tm.good] at hg
  simp only [Tm.deep] at hd
  obtain ⟨d, rfl⟩ : ∃ e, d = e + 1 := ⟨d - 1, by omega⟩
  have loop : ∀ m : List Tm, (∀ t ∈ m, t ∈ l) → ∀ rest, loopP (readP d) m.length (encs m ++ rest) = ((encs m).length, 0) := by
    intro m
    induction m with
    | nil => intro _ rest; rfl
    | cons t m ihm =>
      intro hm rest
      have ht := hm t (List.mem_cons_self ..)
      have h1 := ih t ht (goods_mem hg.2 t ht) d (by have := deeps_mem ht; omega) (encs m ++ rest)
      have h2 := ihm (fun u hu => hm u (List.mem_cons_of_mem _ hu)) rest
      simp only [encs, List.length_cons, List.append_assoc]
      rw [loopP, h1]
      simp only [if_true, List.drop_left, h2, List.length_append]
  simp only [Tm.enc, List.append_assoc]
  rw [readP, hg.1]
  simp only [if_true, List.drop_left]
  rw [loop l (fun _ h => h) rest]
  simp

/-- What is read is a term's bytes. -/
theorem read_sound : ∀ (d : Nat) (s : List UInt8) (n : Nat), readP d s = (n, 0) → ∃ t : Tm, t.good ∧ t.deep ≤ d ∧ n = t.enc.length ∧ s = t.enc ++ s.drop n := by
  intro d
  induction d with
  | zero => intro s n h; simp [readP] at h
  | succ d ih =>
    intro s n h
    have loop : ∀ (k : Nat) (s : List UInt8) (n : Nat), loopP (readP d) k s = (n, 0) → ∃ l : List Tm, goods l ∧ l.length = k ∧ deeps l ≤ d ∧ n = (encs l).length ∧ s = encs l ++ s.drop n := by
      intro k
      induction k with
      | zero =>
        intro s n h
        simp only [loopP, Prod.mk.injEq] at h
        obtain ⟨rfl, _⟩ := h
        exact ⟨[], trivial, rfl, Nat.zero_le _, rfl, rfl⟩
      | succ k ihk =>
        intro s n h
        rw [loopP] at h
        split at h
        · rename_i h0
          split at h
          · rename_i h1
            simp only [Prod.mk.injEq, and_true] at h
            obtain ⟨t, g1, g2, g3, g4⟩ := ih s (readP d s).1 (Prod.ext rfl h0)
            obtain ⟨l, k1, k2, k3, k4, k5⟩ := ihk (s.drop (readP d s).1) (loopP (readP d) k (s.drop (readP d s).1)).1 (Prod.ext rfl h1)
            refine ⟨t :: l, ⟨g1, k1⟩, by simp [k2], by simp only [deeps]; omega, ?_, ?_⟩
            · simp only [encs, List.length_append]
              rw [← h, k4, g3]
            · simp only [encs, List.append_assoc]
              rw [← h, ← List.drop_drop, ← k5]; exact g4
          · rename_i h1
            simp only [Prod.mk.injEq] at h
            exact absurd h.2 h1
        · rename_i h0
          simp only [Prod.mk.injEq] at h
          exact absurd h.2 h0
    rw [readP] at h
    split at h
    · rename_i h0
      split at h
      · rename_i h1
        simp only [Prod.mk.injEq, and_true] at h
        obtain ⟨hn, hok⟩ := head_front (s := s) (n := (headP s).1) (p := (headP s).2.1) (by rw [← h0])
        obtain ⟨l, k1, k2, k3, k4, k5⟩ := loop (headP s).2.1 (s.drop (headP s).1) (loopP (readP d) (headP s).2.1 (s.drop (headP s).1)).1 (Prod.ext rfl h1)
        refine ⟨.node (s.take (headP s).1) l, ?_, ?_, ?_, ?_⟩
        · simp only [Tm.good]; exact ⟨by rw [k2]; exact hok, k1⟩
        · simp only [Tm.deep]; omega
        · simp only [Tm.enc, List.length_append, List.length_take]
          rw [← h, k4, Nat.min_eq_left hn]
        · simp only [Tm.enc, List.append_assoc]
          rw [← h, ← List.drop_drop, ← k5, List.take_append_drop]
      · rename_i h1
        simp only [Prod.mk.injEq] at h
        exact absurd h.2 h1
    · rename_i h0
      simp only [Prod.mk.injEq] at h
      exact absurd h.2 h0

/-- No term's bytes begin with another one's. -/
theorem enc_front : ∀ t : Tm, t.good → ∀ u : Tm, u.good → ∀ r r', t.enc ++ r = u.enc ++ r' → t = u ∧ r = r' := by
  refine Tm.ind ?_
  intro h l ih hg u hu r r' e
  obtain ⟨h', l'⟩ := u
  simp only [Tm.good] at hg hu
  simp only [Tm.enc, List.append_assoc] at e
  obtain ⟨rfl, hp, e⟩ := hg.1.same hu.1 e
  have loop : ∀ m m' : List Tm, (∀ t ∈ m, t ∈ l) → goods m' → m.length = m'.length → ∀ r r', encs m ++ r = encs m' ++ r' → m = m' ∧ r = r' := by
    intro m
    induction m with
    | nil =>
      intro m' _ _ hl r r' e
      cases m' with
      | nil => exact ⟨rfl, e⟩
      | cons => simp at hl
    | cons t m ihm =>
      intro m' hm hg' hl r r' e
      cases m' with
      | nil => simp at hl
      | cons t' m' =>
        simp only [encs, List.append_assoc] at e
        have ht := hm t (List.mem_cons_self ..)
        obtain ⟨rfl, e2⟩ := ih t ht (goods_mem hg.2 t ht) t' hg'.1 _ _ e
        obtain ⟨rfl, e3⟩ := ihm m' (fun u hu => hm u (List.mem_cons_of_mem _ hu)) hg'.2 (by simpa using hl) _ _ e2
        exact ⟨rfl, e3⟩
  obtain ⟨rfl, e4⟩ := loop l l' (fun _ h => h) hu.2 hp _ _ e
  exact ⟨rfl, e4⟩
theorem enc_tm_inj {t u : Tm} (ht : t.good) (hu : u.good) (e : t.enc = u.enc) : t = u := (enc_front t ht u hu [] [] (by simpa using e)).1
/-- A valid term. -/
def Tm.valid (t : Tm) : Prop := t.good ∧ t.deep ≤ 16 ∧ t.enc.length ≤ 16384
theorem front_enc {t : Tm} (h : t.valid) (rest : List UInt8) : frontP (t.enc ++ rest) = (t.enc.length, 0) := by
  have e := read_enc t h.1 16 h.2.1 rest
  unfold frontP
  rw [e, if_pos rfl, if_neg (by have := h.2.2; simp only; omega)]
theorem front_sound {s : List UInt8} {n : Nat} (h : frontP s = (n, 0)) : ∃ t : Tm, t.valid ∧ n = t.enc.length ∧ s = t.enc ++ s.drop n := by
  unfold frontP at h
  split at h
  · rename_i h0
    split at h
    · simp at h
    · rename_i h1
      obtain ⟨t, g1, g2, g3, g4⟩ := read_sound 16 s n h
      rw [h] at h1
      exact ⟨t, ⟨g1, g2, by simp only at h1; omega⟩, g3, g4⟩
  · rename_i h0
    simp only [Prod.mk.injEq] at h
    exact absurd h.2 h0
theorem check_enc {t : Tm} (h : t.valid) : checkP t.enc = 0 := by
  have e := front_enc h []
  rw [List.append_nil] at e
  unfold checkP
  rw [e]; simp
theorem check_iff {s : List UInt8} : checkP s = 0 ↔ ∃ t : Tm, t.valid ∧ t.enc = s := by
  constructor
  · intro h
    unfold checkP at h
    split at h
    · rename_i h0
      split at h
      · rename_i h1
        obtain ⟨t, g1, g2, g3⟩ := front_sound (s := s) (n := (frontP s).1) (Prod.ext rfl h0)
        refine ⟨t, g1, ?_⟩
        rw [h1] at g3
        simpa using g3.symm
      · exact absurd h (by decide)
    · rename_i h0
      exact absurd h h0
  · rintro ⟨t, h, rfl⟩
    exact check_enc h
end Go.Proofs.Ythemopejebioaaa.Pl

namespace Go.Proofs.Ythemopejebioaaa.Pl

theorem placess_flat (l : List Tm) : placess l = l.flatMap Tm.places := by
  induction l with
  | nil => simp [placess]
  | cons t l ih => simp [placess, ih]
theorem enc_mem {l : List Tm} {t : Tm} (h : t ∈ l) : t.enc.length ≤ (encs l).length := by
  induction l with
  | nil => cases h
  | cons u l ih =>
    simp only [encs, List.length_append]
    rcases List.mem_cons.1 h with rfl | h
    · omega
    · have := ih h; omega
theorem places_good : ∀ t : Tm, t.good → ∀ p ∈ t.places, p.good := by
  refine Tm.ind ?_
  intro h l ih hg p hp
  simp only [Tm.places, placess_flat, List.mem_cons, List.mem_flatMap] at hp
  rcases hp with rfl | ⟨q, hq, hp⟩
  · exact hg
  · simp only [Tm.good] at hg
    exact ih q hq (goods_mem hg.2 q hq) p hp
theorem places_deep : ∀ t : Tm, ∀ p ∈ t.places, p.deep ≤ t.deep := by
  refine Tm.ind ?_
  intro h l ih p hp
  simp only [Tm.places, placess_flat, List.mem_cons, List.mem_flatMap] at hp
  rcases hp with rfl | ⟨q, hq, hp⟩
  · exact Nat.le_refl _
  · have := ih q hq p hp
    have := deeps_mem hq
    simp only [Tm.deep]; omega
theorem places_len : ∀ t : Tm, ∀ p ∈ t.places, p.enc.length ≤ t.enc.length := by
  refine Tm.ind ?_
  intro h l ih p hp
  simp only [Tm.places, placess_flat, List.mem_cons, List.mem_flatMap] at hp
  rcases hp with rfl | ⟨q, hq, hp⟩
  · exact Nat.le_refl _
  · have := ih q hq p hp
    have := enc_mem hq
    simp only [Tm.enc, List.length_append]; omega
theorem places_valid {t : Tm} (h : t.valid) {p : Tm} (hp : p ∈ t.places) : p.valid :=
  ⟨places_good t h.1 p hp, Nat.le_trans (places_deep t p hp) h.2.1, Nat.le_trans (places_len t p hp) h.2.2⟩
end Go.Proofs.Ythemopejebioaaa.Pl

namespace Go.Proofs.Ythemopejebioaaa.Pl

/-- Which heads there are. -/
inductive Kd (h : List UInt8) (p : Nat) : Nat → Prop where
  | data (t : List UInt8) : h = 100 :: txt t → t.length ≤ 1024 → p = 0 → Kd h p 1
  | atom (t : List UInt8) : h = 97 :: txt t → t.length ≤ 32 → nameOK t = true → p = 0 → Kd h p 2
  | row (v : Nat) : h = 114 :: enc v → v ≤ 32 → p = v → Kd h p 3
  | hash : h = [104] → p = 1 → Kd h p 4
  | mac : h = [109] → p = 2 → Kd h p 5
  | seal_ : h = [115] → p = 3 → Kd h p 6
theorem head_kind {h : List UInt8} {p : Nat} (k : HeadOK h p) : ∃ c, Kd h p c := by
  have e := k []
  rw [List.append_nil] at e
  cases h with
  | nil => exact absurd rfl k.pos
  | cons b r =>
    simp only [headP] at e
    split at e
    · rename_i hb
      subst hb
      obtain ⟨t, n, f, hr⟩ : ∃ t n f, rdt r 1024 = (t, n, f) := ⟨_, _, _, rfl⟩
      rw [hr] at e
      simp only [Prod.mk.injEq, List.length_cons] at e
      obtain ⟨e1, rfl, rfl⟩ := e
      obtain ⟨h1, h2, h3, h4⟩ := rdt_sound hr
      refine ⟨1, .data t ?_ (by omega) rfl⟩
      rw [h4, List.take_of_length_le (by omega)]
    · split at e
      · rename_i hb
        subst hb
        obtain ⟨t, n, f, hr⟩ : ∃ t n f, rdt r 32 = (t, n, f) := ⟨_, _, _, rfl⟩
        rw [hr] at e
        split at e
        · simp at e
        · rename_i hno
          simp only [Prod.mk.injEq, List.length_cons] at e
          obtain ⟨e1, rfl, rfl⟩ := e
          obtain ⟨h1, h2, h3, h4⟩ := rdt_sound hr
          refine ⟨2, .atom t ?_ (by omega) ?_ rfl⟩
          · rw [h4, List.take_of_length_le (by omega)]
          · cases hn : nameOK t with
            | true => rfl
            | false => exact absurd ⟨rfl, hn⟩ hno
      · split at e
        · rename_i hb
          subst hb
          obtain ⟨v, n, f, hr⟩ : ∃ v n f, rdn r = (v, n, f) := ⟨_, _, _, rfl⟩
          rw [hr] at e
          split at e
          · simp at e
          · rename_i hno
            simp only [Prod.mk.injEq, List.length_cons] at e
            obtain ⟨e1, rfl, rfl⟩ := e
            obtain ⟨h1, h2, h3, h4⟩ := rdn_sound hr
            refine ⟨3, .row v ?_ (by simpa using hno) rfl⟩
            rw [h3, List.take_of_length_le (by omega)]
        · split at e
          · rename_i hb
            subst hb
            simp only [Prod.mk.injEq, List.length_cons] at e
            obtain ⟨e1, rfl, _⟩ := e
            exact ⟨4, .hash (by rw [List.length_eq_zero_iff.1 (show r.length = 0 by omega)]) rfl⟩
          · split at e
            · rename_i hb
              subst hb
              simp only [Prod.mk.injEq, List.length_cons] at e
              obtain ⟨e1, rfl, _⟩ := e
              exact ⟨5, .mac (by rw [List.length_eq_zero_iff.1 (show r.length = 0 by omega)]) rfl⟩
            · split at e
              · rename_i hb
                subst hb
                simp only [Prod.mk.injEq, List.length_cons] at e
                obtain ⟨e1, rfl, _⟩ := e
                exact ⟨6, .seal_ (by rw [List.length_eq_zero_iff.1 (show r.length = 0 by omega)]) rfl⟩
              · simp at e
theorem row_head {v : Nat} (h : v ≤ 32) : HeadOK (114 :: enc v) v := by
  intro rest
  rw [List.cons_append, headP, if_neg (by decide), if_neg (by decide), if_pos rfl, rdn_enc (by rw [two64]; omega) rest, if_neg (by simp only; omega)]
  simp [Nat.add_comm]
theorem data_head {t : List UInt8} (h : t.length ≤ 1024) : HeadOK (100 :: txt t) 0 := by
  intro rest
  rw [List.cons_append, headP, if_pos rfl, rdt_txt (by rw [two64]; omega) rest 1024 (by omega)]
  simp [Nat.add_comm]
/-- What letters and parts make, or why there is nothing. -/
def madeP (front : List UInt8) (l : List (List UInt8)) : List UInt8 × Nat :=
  if ∀ x ∈ l, checkP x = 0 then (if checkP (front ++ l.flatten) = 0 then (front ++ l.flatten, 0) else ([], 5)) else ([], 2)
def dataP (s : List UInt8) : List UInt8 × Nat := if 1024 < s.length then ([], 5) else (100 :: txt s, 0)
def atomP (s : List UInt8) : List UInt8 × Nat := if 32 < s.length then ([], 5) else if nameOK s = false then ([], 7) else (97 :: txt s, 0)
def rowP (l : List (List UInt8)) : List UInt8 × Nat := madeP (114 :: enc l.length) l

theorem check_len {s : List UInt8} (h : checkP s = 0) : s.length ≤ 16384 := by
  obtain ⟨t, ht, rfl⟩ := check_iff.1 h
  exact ht.2.2
/-- The trees of terms. -/
theorem trees {l : List (List UInt8)} (h : ∀ x ∈ l, checkP x = 0) : ∃ m : List Tm, (∀ t ∈ m, t.valid) ∧ m.map Tm.enc = l := by
  induction l with
  | nil => exact ⟨[], (fun t ht => by cases ht), rfl⟩
  | cons x l ih =>
    obtain ⟨m, h1, h2⟩ := ih (fun y hy => h y (List.mem_cons_of_mem _ hy))
    obtain ⟨t, ht, e⟩ := check_iff.1 (h x (List.mem_cons_self ..))
    refine ⟨t :: m, ?_, by simp [e, h2]⟩
    intro u hu
    rcases List.mem_cons.1 hu with rfl | hu
    · exact ht
    · exact h1 u hu
theorem node_valid_parts {h : List UInt8} {l : List Tm} (hv : (Tm.node h l).valid) : ∀ t ∈ l, t.valid := by
  intro t ht
  have hg := hv.1
  simp only [Tm.good] at hg
  exact places_valid hv (p := t) (by
    simp only [Tm.places, placess_flat, List.mem_cons, List.mem_flatMap]
    exact .inr ⟨t, ht, by obtain ⟨a, b⟩ := t; simp [Tm.places]⟩)
/-- What a valid term's parts make, behind its head, is it again. -/
theorem made_again {h : List UInt8} {l : List Tm} (hv : (Tm.node h l).valid) : madeP h (l.map Tm.enc) = ((Tm.node h l).enc, 0) := by
  unfold madeP
  rw [if_pos (by
    intro x hx
    obtain ⟨t, ht, rfl⟩ := List.mem_map.1 hx
    exact check_enc (node_valid_parts hv t ht))]
  have e : h ++ (l.map Tm.enc).flatten = (Tm.node h l).enc := by rw [← encs_flat, Tm.enc_node]
  rw [e, if_pos (check_enc hv)]
/-- What was made has just those parts. -/
theorem made_parts {front : List UInt8} {l : List (List UInt8)} (hh : HeadOK front l.length) {r : List UInt8} (h : madeP front l = (r, 0)) : ∃ m : List Tm, (Tm.node front m).valid ∧ (Tm.node front m).enc = r ∧ m.map Tm.enc = l := by
  unfold madeP at h
  split at h
  · rename_i h1
    split at h
    · rename_i h2
      simp only [Prod.mk.injEq, and_true] at h
      obtain ⟨m, hm, rfl⟩ := trees h1
      obtain ⟨t, ht, e⟩ := check_iff.1 h2
      have hg : (Tm.node front m).good := by
        simp only [Tm.good]
        exact ⟨by rw [List.length_map] at hh; exact hh, goods_of fun u hu => (hm u hu).1⟩
      have e2 : t.enc = (Tm.node front m).enc := by rw [e, ← encs_flat, Tm.enc_node]
      obtain rfl := enc_tm_inj ht.1 hg e2
      exact ⟨m, ht, by rw [← h, ← encs_flat, Tm.enc_node], rfl⟩
    · simp at h
  · simp at h
theorem row_parts {l : List (List UInt8)} (h8 : l.length < 256 ^ 8) {r : List UInt8} (h : rowP l = (r, 0)) : ∃ m : List Tm, (Tm.node (114 :: enc l.length) m).valid ∧ (Tm.node (114 :: enc l.length) m).enc = r ∧ m.map Tm.enc = l := by
  by_cases hl : l.length ≤ 32
  · exact made_parts (row_head hl) h
  · exfalso
    unfold rowP madeP at h
    split at h
    · split at h
      · rename_i h2
        obtain ⟨⟨h', l'⟩, ht, e⟩ := check_iff.1 h2
        have hg := ht.1
        simp only [Tm.good] at hg
        obtain ⟨c, hk⟩ := head_kind hg.1
        rw [Tm.enc_node] at e
        cases hk with
        | data t e1 _ _ => rw [e1] at e; simp at e
        | atom t e1 _ _ _ => rw [e1] at e; simp at e
        | hash e1 _ => rw [e1] at e; simp at e
        | mac e1 _ => rw [e1] at e; simp at e
        | seal_ e1 _ => rw [e1] at e; simp at e
        | row v e1 hv _ =>
          rw [e1] at e
          simp only [List.cons_append, List.cons.injEq, true_and] at e
          have r1 := rdn_enc (v := v) (by rw [two64]; omega) (encs l')
          rw [e, rdn_enc h8] at r1
          have := congrArg Prod.fst r1
          simp only at this
          omega
      · simp at h
    · simp at h
/- The tree of a term's bytes. -/
open Classical in
noncomputable def treeOf (s : List UInt8) : Option Tm := if h : ∃ t : Tm, t.valid ∧ t.enc = s then some (Classical.choose h) else none
theorem treeOf_enc {t : Tm} (h : t.valid) : treeOf t.enc = some t := by
  have hx : ∃ u : Tm, u.valid ∧ u.enc = t.enc := ⟨t, h, rfl⟩
  unfold treeOf
  rw [dif_pos hx]
  have := Classical.choose_spec hx
  rw [enc_tm_inj this.1.1 h.1 this.2]
theorem treeOf_none {s : List UInt8} (h : checkP s ≠ 0) : treeOf s = none := by
  unfold treeOf
  rw [dif_neg (fun k => h (check_iff.2 k))]
theorem treeOf_some {s : List UInt8} (h : checkP s = 0) : ∃ t : Tm, t.valid ∧ t.enc = s ∧ treeOf s = some t := by
  obtain ⟨t, ht, rfl⟩ := check_iff.1 h
  exact ⟨t, ht, rfl, treeOf_enc ht⟩
noncomputable def kindP (s : List UInt8) : Nat := if checkP s = 0 then (match s with | [] => 0 | b :: _ => if b = 100 then 1 else if b = 97 then 2 else if b = 114 then 3 else if b = 104 then 4 else if b = 109 then 5 else 6) else 0
noncomputable def textP (s : List UInt8) : List UInt8 × Bool := if checkP s = 0 ∧ (s.head? = some 100 ∨ s.head? = some 97) then ((rdt (s.drop 1) 1024).1, true) else ([], false)
noncomputable def partsP (s : List UInt8) : List (List UInt8) × Bool := match treeOf s with | some (.node _ l) => (l.map Tm.enc, true) | none => ([], false)
noncomputable def placesP (s : List UInt8) : List (List UInt8) := match treeOf s with | some t => t.places.map Tm.enc | none => []
noncomputable def hasP (s f : List UInt8) : Bool := match treeOf s, treeOf f with | some _, some _ => decide (f ∈ placesP s) | _, _ => false
end Go.Proofs.Ythemopejebioaaa.Pl

namespace Go.Proofs.Ythemopejebioaaa.Pl
open Go.RowKit

theorem below_step {a b c : World} (h : Below a.heap.size a b) (k : Below b.heap.size b c) : Below a.heap.size a c := h.trans (k.mono h.size)
theorem below_undrew {a b : World} (h : Below a.drew.heap.size a.drew b) : Below a.heap.size a b := ⟨h.os, h.tape, h.output, h.size, h.block⟩
theorem below_drewN {B : Nat} {a w : World} (h : Below B a w) (n : Nat) : Below B a (w.drewN n) := ⟨h.os, h.tape, h.output, h.size, h.block⟩
theorem ret3 {a b : Int} {n m : Value} (h : a = b) : Ending.returned (.tuple #[.int .u64 a, n, m]) = .returned (.tuple #[.int .u64 b, n, m]) := by rw [h]
theorem ret3s {a b : ByteArray} {n m : Int} {k j : Int} (h : a = b) (h1 : n = m) (h2 : k = j) : Ending.returned (.tuple #[.string a, .int .i64 n, .int .i64 k]) = .returned (.tuple #[.string b, .int .i64 m, .int .i64 j]) := by rw [h, h1, h2]
theorem size_lit (l : List UInt8) : (ByteArray.mk l.toArray).size = l.length := by simp [ByteArray.size]
end Go.Proofs.Ythemopejebioaaa.Pl

namespace Go.Proofs.Ythemopejebioaaa.Pl
open Go.RowKit

/-- A text's bytes. -/
def bl (s : ByteArray) : List UInt8 := s.data.toList
theorem bl_length (s : ByteArray) : (bl s).length = s.size := by unfold bl; rw [Array.length_toList]; rfl
theorem bl_mk (l : List UInt8) : bl ⟨l.toArray⟩ = l := rfl
theorem bl_inj {a b : ByteArray} (h : bl a = bl b) : a = b := ByteArray.ext (Array.ext' h)
theorem tslice_from (x : ByteArray) (m : Nat) (h : m ≤ x.size) (V : World) : (Instr.sliceAt 9 (.string x) (some (.int .i64 (m : Int))) none none).run Try.prog V = .ok (.string (x.extract m x.size)) V := by
  have h0 : (0 : Int) ≤ (m : Int) := by omega
  have h1 : (m : Int) ≤ (x.size : Int) := by omega
  go_simp
theorem tslice_mid (x : ByteArray) (a b : Nat) (h : a ≤ b) (h2 : b ≤ x.size) (V : World) : (Instr.sliceAt 9 (.string x) (some (.int .i64 (a : Int))) (some (.int .i64 (b : Int))) none).run Try.prog V = .ok (.string (x.extract a b)) V := by
  have h0 : (0 : Int) ≤ (a : Int) := by omega
  have h1 : (a : Int) ≤ (b : Int) := by omega
  have h3 : (b : Int) ≤ (x.size : Int) := by omega
  go_simp
theorem bl_extract (x : ByteArray) (a b : Nat) : bl (x.extract a b) = ((bl x).take b).drop a := by
  unfold bl
  rw [Lib.extract_data, List.take_drop]
  by_cases h : a ≤ b
  · rw [show a + (b - a) = b by omega]
  · have : (x.data.toList.take (a + (b - a))).drop a = [] := List.drop_eq_nil_of_le (by simp; omega)
    rw [this]
    exact (List.drop_eq_nil_of_le (by simp; omega)).symm
theorem bl_from (x : ByteArray) (m : Nat) : bl (x.extract m x.size) = (bl x).drop m := by
  rw [bl_extract, List.take_of_length_le (by rw [bl_length]; exact Nat.le_refl _)]
theorem size_bl (s : ByteArray) : s.size = (bl s).length := (bl_length s).symm
theorem bl_nil {s : ByteArray} (h : s.size = 0) : bl s = [] := List.length_eq_zero_iff.1 (by rw [bl_length]; exact h)
theorem nameOK_iff (l : List UInt8) : nameOK l = true ↔ l ≠ [] ∧ ∀ j, j < l.length → nameB (l.getD j 0) = true := by
  unfold nameOK
  rw [Bool.and_eq_true, List.all_eq_true]
  constructor
  · rintro ⟨h, k⟩
    refine ⟨fun e => by rw [e] at h; simp at h, fun j hj => k _ ?_⟩
    rw [List.getD_eq_getElem?_getD, List.getElem?_eq_getElem hj]; exact List.getElem_mem hj
  · rintro ⟨h, k⟩
    refine ⟨by cases l with | nil => exact absurd rfl h | cons => rfl, fun x hx => ?_⟩
    obtain ⟨j, hj, rfl⟩ := List.getElem_of_mem hx
    have := k j hj
    simpa [List.getD_eq_getElem?_getD, hj] using this
theorem str6_ne {a b : ByteArray} (h : a ≠ b) : (a.toList == b.toList) = false ∧ (a.toList != b.toList) = true := by
  have h' : a.toList ≠ b.toList := fun e => h (by
    rw [Lib.toList_data, Lib.toList_data] at e
    exact ByteArray.ext (Array.ext' e))
  exact ⟨beq_eq_false_iff_ne.2 h', bne_iff_ne.2 h'⟩
theorem ret6_bool {a b : Bool} (h : a = b) : Ending.returned (.bool a) = .returned (.bool b) := by rw [h]
end Go.Proofs.Ythemopejebioaaa.Pl

namespace Go.Proofs.Ythemopejebioaaa.Pl
open Go.RowKit

theorem conv_tail (w : World) (b off len cap : Nat) (l : List UInt8) (hl : l.length = len) (hc : ∀ j (hj : j < l.length), w.cell? ⟨b, off + j, none⟩ = some (.int .u8 (l[j].toNat : Int))) :
    (convert 104 9 (.slice (some ⟨b, off, none⟩) len cap)).run Try.prog w = .ok (.string ⟨l.toArray⟩) w := by
  subst hl
  exact run_convert_bytes_back w _ _ _ ⟨b, off, none⟩ cap l Try.underlying104 Try.underlying5 Try.underlying9 (fun j hj => by
    rw [show (⟨b, off, none⟩ : Addr).add j = ⟨b, off + j, none⟩ from by unfold Addr.add; split <;> simp_all]
    exact hc j hj)

theorem conv_lit (w : World) (C : Array Value) (t off len cap : Nat) (ns : List Nat) (h : ∀ n, n ∈ ns → n < 256) (hl : ns.length = len)
    (hC : C.toList.drop off = ns.map fun (n : Nat) => Value.int .u8 (n : Int)) :
    (convert 104 9 (.slice (some ⟨w.heap.size, off, none⟩) len cap)).run Try.prog (w.alloc (.cells C t)) = .ok (.string ⟨(ns.map UInt8.ofNat).toArray⟩) (w.alloc (.cells C t)) := by
  refine conv_tail _ _ _ _ _ (ns.map UInt8.ofNat) (by simpa using hl) ?_
  intro j hj
  rw [World.cell?_alloc_mark]
  have hj' : j < ns.length := by simpa using hj
  have h1 : (C.toList.drop off)[j]? = some (.int .u8 (ns[j] : Int)) := by rw [hC]; simp [hj']
  rw [List.getElem?_drop, Array.getElem?_toList] at h1
  rw [h1]
  have h2 := h ns[j] (List.getElem_mem hj')
  have h3 : ((ns.map UInt8.ofNat)[j]).toNat = ns[j] := by simp; omega
  rw [h3]

set_option maxRecDepth 100000 in
theorem num_any (v : Nat) (h8 : v < 256 ^ 8) (w : World) :
    Calls Try.prog 72 #[.int .u64 v] w fun e w' => e = .returned (.string ⟨(enc v).toArray⟩) ∧ Below w.heap.size w w' := by
  have h9 : v < 18446744073709551616 := by rw [two64] at h8; exact h8
  clear h8
  by_cases hv : v < 248
  · go_enter Try.func72, Try.ntmps72
    go_wp2
    rw [conv_lit w _ 103 8 1 1 [v] (by intro n hn; simp at hn; omega) rfl (by simp)]
    go_wp2
    go_ret
    refine ⟨?_, (Below.refl _ _).alloc (Nat.le_refl _) _⟩
    rw [enc_small hv]; rfl
  · go_enter Try.func72, Try.ntmps72
    go_wp2
    go_rounds 9
    · rw [conv_lit w _ 103 0 9 9 ((247 + 8) :: dn 8 v) (by intro n hn; simp [dn] at hn; omega) rfl (by simp [dn]; try omega)]
      go_wp2; go_ret
      refine ⟨?_, (Below.refl _ _).alloc (Nat.le_refl _) _⟩
      rw [enc_dn (k := 8) (by omega) hv (by simp; omega) (by simp; omega)]; rfl
    · rw [conv_lit w _ 103 1 8 8 ((247 + 7) :: dn 7 v) (by intro n hn; simp [dn] at hn; omega) rfl (by simp [dn]; try omega)]
      go_wp2; go_ret
      refine ⟨?_, (Below.refl _ _).alloc (Nat.le_refl _) _⟩
      rw [enc_dn (k := 7) (by omega) hv (by simp; omega) (by simp; omega)]; rfl
    · rw [conv_lit w _ 103 2 7 7 ((247 + 6) :: dn 6 v) (by intro n hn; simp [dn] at hn; omega) rfl (by simp [dn]; try omega)]
      go_wp2; go_ret
      refine ⟨?_, (Below.refl _ _).alloc (Nat.le_refl _) _⟩
      rw [enc_dn (k := 6) (by omega) hv (by simp; omega) (by simp; omega)]; rfl
    · rw [conv_lit w _ 103 3 6 6 ((247 + 5) :: dn 5 v) (by intro n hn; simp [dn] at hn; omega) rfl (by simp [dn]; try omega)]
      go_wp2; go_ret
      refine ⟨?_, (Below.refl _ _).alloc (Nat.le_refl _) _⟩
      rw [enc_dn (k := 5) (by omega) hv (by simp; omega) (by simp; omega)]; rfl
    · rw [conv_lit w _ 103 4 5 5 ((247 + 4) :: dn 4 v) (by intro n hn; simp [dn] at hn; omega) rfl (by simp [dn]; try omega)]
      go_wp2; go_ret
      refine ⟨?_, (Below.refl _ _).alloc (Nat.le_refl _) _⟩
      rw [enc_dn (k := 4) (by omega) hv (by simp; omega) (by simp; omega)]; rfl
    · rw [conv_lit w _ 103 5 4 4 ((247 + 3) :: dn 3 v) (by intro n hn; simp [dn] at hn; omega) rfl (by simp [dn]; try omega)]
      go_wp2; go_ret
      refine ⟨?_, (Below.refl _ _).alloc (Nat.le_refl _) _⟩
      rw [enc_dn (k := 3) (by omega) hv (by simp; omega) (by simp; omega)]; rfl
    · rw [conv_lit w _ 103 6 3 3 ((247 + 2) :: dn 2 v) (by intro n hn; simp [dn] at hn; omega) rfl (by simp [dn]; try omega)]
      go_wp2; go_ret
      refine ⟨?_, (Below.refl _ _).alloc (Nat.le_refl _) _⟩
      rw [enc_dn (k := 2) (by omega) hv (by simp; omega) (by simp; omega)]; rfl
    · rw [conv_lit w _ 103 7 2 2 ((247 + 1) :: dn 1 v) (by intro n hn; simp [dn] at hn; omega) rfl (by simp [dn]; try omega)]
      go_wp2; go_ret
      refine ⟨?_, (Below.refl _ _).alloc (Nat.le_refl _) _⟩
      rw [enc_dn (k := 1) (by omega) hv (by simp; omega) (by simp; omega)]; rfl
end Go.Proofs.Ythemopejebioaaa.Pl

namespace Go.Proofs.Ythemopejebioaaa.Pl
open Go.RowKit

theorem isEmpty_no {s : ByteArray} (h0 : 0 < s.size) : s.toList.isEmpty = false := by
  rw [ByteArray.toList_eq]
  have : s.data.toList.length = s.size := by simp
  cases hd : s.data.toList with
  | nil => rw [hd] at this; simp at this; omega
  | cons a r => rfl

set_option maxRecDepth 100000 in
theorem readnum_nil (w : World) :
    Calls Try.prog 76 #[.string ⟨#[]⟩] w fun e w' => e = .returned (.tuple #[.int .u64 0, .int .i64 0, .int .i64 6]) ∧ w = w' := by
  go_enter Try.func76, Try.ntmps76
  go_wp2
  go_ret3
  exact ⟨rfl, rfl⟩
set_option maxRecDepth 100000 in
theorem readnum_small (s : ByteArray) (h0 : 0 < s.size) (hb : s[0].toNat < 248) (w : World) :
    Calls Try.prog 76 #[.string s] w fun e w' => e = .returned (.tuple #[.int .u64 s[0].toNat, .int .i64 1, .int .i64 0]) ∧ w = w' := by
  have hne : s.toList.isEmpty = false := isEmpty_no h0
  go_enter Try.func76, Try.ntmps76
  go_wp2
  go_ret3
  exact ⟨rfl, rfl⟩
set_option maxRecDepth 100000 in
theorem readnum_end (s : ByteArray) (h0 : 0 < s.size) (hb : 248 ≤ s[0].toNat) (hb2 : s[0].toNat < 256) (hk : s.size - 1 < s[0].toNat - 247) (w : World) :
    Calls Try.prog 76 #[.string s] w fun e w' => e = .returned (.tuple #[.int .u64 0, .int .i64 0, .int .i64 6]) ∧ w = w' := by
  have hne : s.toList.isEmpty = false := isEmpty_no h0
  go_enter Try.func76, Try.ntmps76
  go_wp2
  go_ret3
  exact ⟨rfl, rfl⟩
set_option maxRecDepth 100000 in
theorem readnum_zero (s d : ByteArray) (hd : s.extract 1 s.size = d) (h0 : 0 < s.size) (hb : 248 ≤ s[0].toNat) (hb2 : s[0].toNat < 256) (hk : s[0].toNat - 247 ≤ d.size) (h1 : 0 < d.size) (hz : d[0].toNat = 0) (w : World) :
    Calls Try.prog 76 #[.string s] w fun e w' => e = .returned (.tuple #[.int .u64 0, .int .i64 0, .int .i64 7]) ∧ w = w' := by
  have hne : s.toList.isEmpty = false := isEmpty_no h0
  have hz' : ((d[0].toNat : Int) == 0) = true := by rw [hz]; rfl
  clear hz
  go_enter Try.func76, Try.ntmps76
  go_wp2
  go_ret3
  exact ⟨rfl, rfl⟩
set_option maxRecDepth 100000 in
theorem readnum_one (s d : ByteArray) (hd : s.extract 1 s.size = d) (h0 : 0 < s.size) (hb : s[0].toNat = 248) (h1 : 0 < d.size) (hz : d[0].toNat ≠ 0) (hz2 : d[0].toNat < 248) (w : World) :
    Calls Try.prog 76 #[.string s] w fun e w' => e = .returned (.tuple #[.int .u64 0, .int .i64 0, .int .i64 7]) ∧ w = w' := by
  have hne : s.toList.isEmpty = false := isEmpty_no h0
  have hz' : ((d[0].toNat : Int) == 0) = false := by rw [beq_eq_false_iff_ne]; omega
  clear hz
  go_enter Try.func76, Try.ntmps76
  go_wp2
  go_ret3
  exact ⟨rfl, rfl⟩
/-- A number of fewer than eight digits, and one digit more. -/
theorem or_digit (V : Nat) (b : UInt8) (hV : V < 256 ^ 7) : bits .or .u64 (IntKind.u64.wrap ((V : Int) * 256)) (IntKind.u64.wrap (b.toNat : Int)) = ((V * 256 + b.toNat : Nat) : Int) := by
  have hb : b.toNat < 256 := b.toNat_lt
  have h7 : V < 72057594037927936 := hV
  have e1 : IntKind.u64.wrap ((V : Int) * 256) = ((V * 256 : Nat) : Int) := by rw [IntWalk.u64_in _ (by omega)]; omega
  have e2 : IntKind.u64.wrap (b.toNat : Int) = (b.toNat : Int) := IntWalk.u64_in _ (by omega)
  rw [e1, e2, bits_or_u64_nat _ _ (by omega) (by omega)]
  have h := Nat.two_pow_add_eq_or_of_lt (i := 8) (b := b.toNat) (by omega) V
  have h2 : 2 ^ 8 * V = V * 256 := by omega
  rw [h2] at h
  rw [← h]
theorem val_take (l : List UInt8) (j : Nat) (h : j < l.length) : val (l.take (j + 1)) = val (l.take j) * 256 + l[j].toNat := by
  rw [List.take_succ_eq_append_getElem h, val_snoc]
theorem or_zero64 (b : UInt8) : bits .or .u64 0 (IntKind.u64.wrap (b.toNat : Int)) = (b.toNat : Int) := by
  have h := or_digit 0 b (by decide)
  have e : IntKind.u64.wrap (((0 : Nat) : Int) * 256) = 0 := by rw [IntWalk.u64_in _ (by omega)]; omega
  rw [e] at h
  rw [h]; simp
set_option maxRecDepth 100000 in
theorem readnum_ok1 (s d : ByteArray) (hd : s.extract 1 s.size = d) (h0 : 0 < s.size) (hb : s[0].toNat = 248) (h1 : 0 < d.size) (hz2 : 248 ≤ d[0].toNat) (w : World) :
    Calls Try.prog 76 #[.string s] w fun e w' => e = .returned (.tuple #[.int .u64 d[0].toNat, .int .i64 2, .int .i64 0]) ∧ w = w' := by
  have hne : s.toList.isEmpty = false := isEmpty_no h0
  have hz' : ((d[0].toNat : Int) == 0) = false := by rw [beq_eq_false_iff_ne]; omega
  go_enter Try.func76, Try.ntmps76
  go_wp2
  go_rounds 2
  go_ret3
  exact ⟨ret3 (or_zero64 _), rfl⟩
set_option maxRecDepth 100000 in
theorem readnum_okk (s d : ByteArray) (k : Nat) (hd : s.extract 1 s.size = d) (h0 : 0 < s.size) (hb : s[0].toNat = 247 + k) (hk2 : 2 ≤ k) (hk8 : k ≤ 8) (h1 : k ≤ d.size) (h1' : 0 < d.size) (hz : d[0].toNat ≠ 0) (w : World) :
    Calls Try.prog 76 #[.string s] w fun e w' => e = .returned (.tuple #[.int .u64 (val (d.data.toList.take k)), .int .i64 (1 + k), .int .i64 0]) ∧ w = w' := by
  have hne : s.toList.isEmpty = false := isEmpty_no h0
  have hz' : ((d[0].toNat : Int) == 0) = false := by rw [beq_eq_false_iff_ne]; omega
  have hk1 : ((k : Int) == 1) = false := by rw [beq_eq_false_iff_ne]; omega
  have hk7 : (247 + (k : Int) - 247) = k := by omega
  have hd1 : decide (d.size < k) = false := by simp; omega
  have hd2 : decide (247 + (k : Int) < 248) = false := by simp; omega
  clear hz
  go_enter Try.func76, Try.ntmps76
  go_wp2
  go_loop [2, 39] (fun v i => ∃ j : Nat, j ≤ k ∧ i = .int .i64 j ∧ v = .int .u64 (val (d.data.toList.take j))) (fun _ i => k - (intOf i).toNat)
  case atStart => exact ⟨0, Nat.zero_le _, rfl, rfl⟩
  case round =>
    obtain ⟨j, hj, rfl, rfl⟩ := hrel
    have HS : Hid (∀ h : j < d.size, val (d.data.toList.take (j + 1)) = val (d.data.toList.take j) * 256 + d[j].toNat) := fun h => val_take d.data.toList j (by simpa using h)
    have HV : Hid (j < k → val (d.data.toList.take j) < 256 ^ 7) := fun h => by
      have h2 := val_lt (d.data.toList.take j)
      exact Nat.lt_of_lt_of_le h2 (Nat.pow_le_pow_right (by decide) (by simp; omega))
    clear hz' hk1 hk7 hne hd1 hd2
    go_wp2
    · have hlt : j < k := by assumption
      go_round
      case rel => exact ⟨j + 1, by omega, by go_num, by rw [HS.out (by omega), ← or_digit _ _ (HV.out hlt)]⟩
      case measure => simp [intOf]; omega
    · obtain rfl : j = k := by omega
      go_ret3
      exact ⟨rfl, rfl⟩
/-- ReadNum, whatever it is given. -/
theorem readnum_any (s : ByteArray) (hs : s.size ≤ 9223372036854775807) (w : World) :
    Calls Try.prog 76 #[.string s] w fun e w' => e = .returned (.tuple #[.int .u64 (rdn s.data.toList).1, .int .i64 (rdn s.data.toList).2.1, .int .i64 (rdn s.data.toList).2.2]) ∧ w = w' := by
  by_cases h0 : 0 < s.size
  · have hd : ∃ d, s.extract 1 s.size = d := ⟨_, rfl⟩
    obtain ⟨d, hd⟩ := hd
    have hdd : d.data.toList = s.data.toList.drop 1 := by
      rw [← hd]
      have := Lib.extract_data s 1 s.size
      rw [this]
      exact List.take_of_length_le (by simp)
    have hds : d.size = s.size - 1 := by
      have : d.data.toList.length = s.size - 1 := by rw [hdd]; simp
      simpa using this
    have hlist : s.data.toList = s[0] :: d.data.toList := by
      rw [hdd]
      have h1 : s.data.toList.length = s.size := by simp
      cases hl : s.data.toList with
      | nil => rw [hl] at h1; simp at h1; omega
      | cons a r =>
        have : s[0] = a := by
          have h2 : s.data.toList[0]'(by omega) = a := by simp [hl]
          exact h2
        simp [this]
    have hhd : ∀ h : 0 < d.size, d.data.toList.headD 0 = d[0] := by
      intro h
      have h1 : d.data.toList.length = d.size := by simp
      cases hl : d.data.toList with
      | nil => rw [hl] at h1; simp at h1; omega
      | cons a r =>
        have h2 : d.data.toList[0]'(by omega) = a := by simp [hl]
        exact h2.symm
    have hb2 : s[0].toNat < 256 := s[0].toNat_lt
    have hdl : d.data.toList.length = d.size := by simp
    rw [hlist]
    by_cases hb : s[0].toNat < 248
    · rw [rdn_small _ _ hb]
      exact readnum_small s h0 hb w
    · by_cases hk : d.size < s[0].toNat - 247
      · rw [rdn_end _ _ hb (by omega)]
        exact readnum_end s h0 (by omega) hb2 (by omega) w
      · have h1 : 0 < d.size := by omega
        have hh := hhd h1
        by_cases hz : d[0].toNat = 0
        · rw [rdn_form _ _ hb (by omega) (.inl (by rw [hh]; exact UInt8.toNat.inj (by simpa using hz)))]
          exact readnum_zero s d hd h0 (by omega) hb2 (by omega) h1 hz w
        · have hz' : ¬ d.data.toList.headD 0 = 0 := fun e => hz (by rw [← hh, e]; rfl)
          by_cases hone : s[0].toNat = 248
          · by_cases hz2 : d[0].toNat < 248
            · rw [rdn_form _ _ hb (by omega) (.inr ⟨hone, by rw [hh]; exact hz2⟩)]
              exact readnum_one s d hd h0 hone h1 hz hz2 w
            · rw [rdn_ok _ _ hb (by omega) (by
                intro h
                rcases h with h | ⟨_, h⟩
                · exact hz' h
                · rw [hh] at h; exact hz2 h), hone]
              have e1 : val (d.data.toList.take (248 - 247)) = d[0].toNat := by
                rw [← hh]
                cases hl : d.data.toList with
                | nil => rw [hl] at hdl; simp at hdl; omega
                | cons a r => simp [val]
              rw [e1]
              exact readnum_ok1 s d hd h0 hone h1 (by omega) w
          · have ⟨k, hk2⟩ : ∃ k, s[0].toNat = 247 + k := ⟨s[0].toNat - 247, by omega⟩
            rw [rdn_ok _ _ hb (by omega) (by
                intro h
                rcases h with h | ⟨h, _⟩
                · exact hz' h
                · exact hone h), hk2, Nat.add_sub_cancel_left]
            exact readnum_okk s d k hd h0 hk2 (by omega) (by omega) (by omega) h1 hz w
  · have : s = ⟨#[]⟩ := by
      cases s with
      | mk a =>
        have h2 : a.size = 0 := by simpa [ByteArray.size] using h0
        rw [Array.eq_empty_of_size_eq_zero h2]
    subst this
    exact readnum_nil w
end Go.Proofs.Ythemopejebioaaa.Pl

namespace Go.Proofs.Ythemopejebioaaa.Pl
open Go.RowKit

theorem clone_any (s : ByteArray) (w : World) (hs : s.size ≤ 281474976710656) :
    Calls Try.prog 54 #[.string s] w fun e w' => e = .returned (.string s) ∧ Below w.heap.size w w' := by
  go_enter Try.func54, Try.ntmps54
  go_wp2_with (go_at_call 75; refine (Try.stringslite_Clone _ _ hs).mono ?_; rintro e w' ⟨rfl, hb⟩)
  go_ret
  exact ⟨rfl, hb⟩

set_option maxRecDepth 100000 in
theorem text_any (s : ByteArray) (w : World) (hs : s.size ≤ 281474976710656) :
    Calls Try.prog 70 #[.string s] w fun e w' => e = .returned (.string (⟨(enc s.size).toArray⟩ ++ s)) ∧ Below w.heap.size w w' := by
  have h8 : s.size < 256 ^ 8 := by rw [two64]; omega
  have hl := (enc_len s.size).2
  have H8 := Lib.hid h8
  clear h8
  go_enter Try.func70, Try.ntmps70
  go_wp2_with (go_at_call 72; refine (num_any _ H8.out _).mono ?_; rintro e w' ⟨rfl, hb⟩)
  go_ret
  exact ⟨rfl, hb⟩
theorem text_list (s : ByteArray) : (⟨(enc s.size).toArray⟩ ++ s : ByteArray) = ⟨(txt s.data.toList).toArray⟩ := by
  apply ByteArray.ext
  simp [txt]

set_option maxRecDepth 100000 in
theorem readtext_any (s : ByteArray) (m : Int) (w : World) (hs : s.size ≤ 281474976710656) (m1 : -9223372036854775808 ≤ m) (m2 : m ≤ 9223372036854775807) :
    Calls Try.prog 55 #[.string s, .int .i64 m] w fun e w' =>
      e = .returned (.tuple #[.string ⟨(rdt s.data.toList m).1.toArray⟩, .int .i64 (rdt s.data.toList m).2.1, .int .i64 (rdt s.data.toList m).2.2]) ∧ Below w.heap.size w w' := by
  have ⟨v, n, e, hr⟩ : ∃ v n e, rdn s.data.toList = (v, n, e) := ⟨_, _, _, rfl⟩
  have hc : ∀ W, Calls Try.prog 76 #[.string s] W fun e' w' => e' = .returned (.tuple #[.int .u64 v, .int .i64 n, .int .i64 e]) ∧ W = w' := by
    intro W
    have h := readnum_any s (by omega) W
    rw [hr] at h
    exact h
  have hlen : s.data.toList.length = s.size := by simp
  have HC := Lib.hid hc
  clear hc
  by_cases he : e = 0
  · subst he
    obtain ⟨n1, n2, hn, hv⟩ := rdn_sound hr
    clear hn
    have hv' : v < 18446744073709551616 := by rw [two64] at hv; exact hv
    clear hv
    by_cases h1 : max m 0 < (v : Int)
    · have HR := Lib.hid (rdt_long hr h1)
      clear hr hlen
      go_enter Try.func55, Try.ntmps55
      go_wp2_with (go_at_call 76; refine (HC.out _).mono ?_; rintro e w' ⟨rfl, rfl⟩)
      go_ret3
      exact ⟨by rw [HR.out]; rfl, Below.refl _ _⟩
    · have hns : n ≤ s.size := by omega
      by_cases h2 : s.size - n < v
      · have HR := Lib.hid (rdt_end (m := m) hr h1 (by rw [hlen]; exact h2))
        clear hr hlen
        go_enter Try.func55, Try.ntmps55
        go_wp2_with (go_at_call 76; refine (HC.out _).mono ?_; rintro e w' ⟨rfl, rfl⟩)
        go_quiet (fail)
        go_wp2
        go_ret3
        exact ⟨by rw [HR.out]; rfl, below_drewN (Below.refl _ _) _⟩
      · have HR := Lib.hid (rdt_ok (m := m) hr h1 (by rw [hlen]; exact h2))
        have HE : Hid ((s.extract n s.size).extract 0 v = ⟨((s.data.toList.drop n).take v).toArray⟩) := by
          apply ByteArray.ext
          apply Array.toList_inj.1
          rw [Lib.extract_data, Lib.extract_data]
          simp only [List.drop_zero, Nat.sub_zero]
          congr 1
          exact List.take_of_length_le (by simp)
        clear hr hlen
        go_enter Try.func55, Try.ntmps55
        go_wp2_with (go_at_call 76; refine (HC.out _).mono ?_; rintro e w' ⟨rfl, rfl⟩)
        go_quiet (fail)
        go_wp2_with (go_at_call 54; refine (clone_any _ _ (by simp; omega)).mono ?_; rintro e w' ⟨rfl, hb⟩)
        go_ret3
        exact ⟨by rw [HR.out]; exact ret3s HE.out (by simp) rfl, (below_drewN (Below.refl _ _) _).trans hb⟩
  · have HR := Lib.hid (rdt_err (m := m) hr he)
    have he' : ((e : Int) != 0) = true := by rw [bne_iff_ne]; omega
    clear hr hlen
    go_enter Try.func55, Try.ntmps55
    go_wp2_with (go_at_call 76; refine (HC.out _).mono ?_; rintro e w' ⟨rfl, rfl⟩)
    go_ret3
    exact ⟨by rw [HR.out]; rfl, Below.refl _ _⟩
end Go.Proofs.Ythemopejebioaaa.Pl

namespace Go.Proofs.Ythemopejebioaaa.Pl
open Go.RowKit

theorem conv_at (W : World) (b : Nat) (x : Int) (h : W.cell? ⟨b, 0, none⟩ = some (.int .u8 x)) :
    (convert 104 9 (.slice (some ⟨b, 0, none⟩) 1 1)).run Try.prog W = .ok (.string ⟨#[UInt8.ofNat x.toNat]⟩) W := by
  rw [run_convert_bytes_string W _ _ _ (some ⟨b, 0, none⟩) 1 1 Try.underlying104 Try.underlying5 Try.underlying9]
  have hl := run_loadCells_list (P := Try.prog) W ⟨b, 0, none⟩ ([x].map (Value.int .u8)) (fun j v hj => by
    have hj' := (List.getElem?_eq_some_iff.1 hj).1
    obtain rfl : j = 0 := by simp at hj'; omega
    simp at hj
    rw [← hj]
    exact h)
  rw [run_bytesToString W ⟨b, 0, none⟩ 1 1 [x] hl]
  rfl
theorem conv_new (W : World) (x : Int) (T : TypeId) :
    (convert 104 9 (.slice (some ⟨W.heap.size, 0, none⟩) 1 1)).run Try.prog (W.alloc (.cells #[.int .u8 x] T)) = .ok (.string ⟨#[UInt8.ofNat x.toNat]⟩) (W.alloc (.cells #[.int .u8 x] T)) :=
  conv_at _ _ x (by rw [World.cell?_alloc_mark]; rfl)
theorem conv_newd (W : World) (x : Int) (T : TypeId) :
    (convert 104 9 (.slice (some ⟨W.heap.size, 0, none⟩) 1 1)).run Try.prog (W.alloc (.cells #[.int .u8 x] T)).drew = .ok (.string ⟨#[UInt8.ofNat x.toNat]⟩) (W.alloc (.cells #[.int .u8 x] T)).drew :=
  conv_at _ _ x (by rw [show (W.alloc (.cells #[.int .u8 x] T)).drew.cell? ⟨W.heap.size, 0, none⟩ = (W.alloc (.cells #[.int .u8 x] T)).cell? ⟨W.heap.size, 0, none⟩ from rfl, World.cell?_alloc_mark]; rfl)
attribute [local go_sem] conv_new conv_newd
end Go.Proofs.Ythemopejebioaaa.Pl

namespace Go.Proofs.Ythemopejebioaaa.Pl
open Go.RowKit

/-- The number that the first j bytes behind the first one are. -/
def pre (s : ByteArray) (j : Nat) : Nat := val ((s.data.toList.drop 1).take j)
end Go.Proofs.Ythemopejebioaaa.Pl

namespace Go.Proofs.Ythemopejebioaaa.Pl
open Go.RowKit

end Go.Proofs.Ythemopejebioaaa.Pl

namespace Go.Proofs.Ythemopejebioaaa.Pl

theorem rdt_step {l : List UInt8} {m : Int} (h : (rdt l m).2.2 = 0) : 1 ≤ (rdt l m).2.1 ∧ (rdt l m).2.1 ≤ l.length := by
  have e : rdt l m = ((rdt l m).1, (rdt l m).2.1, 0) := by rw [← h]
  obtain ⟨h1, h2, _⟩ := rdt_sound e
  exact ⟨h1, h2⟩
theorem rdt_size (l : List UInt8) (m : Int) : (rdt l m).2.1 ≤ l.length := by
  by_cases h : (rdt l m).2.2 = 0
  · exact (rdt_step h).2
  · have ⟨v, n, e, hr⟩ : ∃ v n e, rdn l = (v, n, e) := ⟨_, _, _, rfl⟩
    by_cases he : e = 0
    · subst he
      by_cases h1 : max m 0 < (v : Int)
      · rw [rdt_long hr h1]; simp
      · by_cases h2 : l.length - n < v
        · rw [rdt_end hr h1 h2]; simp
        · rw [rdt_ok hr h1 h2] at h; simp at h
    · rw [rdt_err hr he]; simp
end Go.Proofs.Ythemopejebioaaa.Pl

namespace Go.Proofs.Ythemopejebioaaa.Pl
open Go.RowKit

end Go.Proofs.Ythemopejebioaaa.Pl

namespace Go.Proofs.Ythemopejebioaaa.Pl
open Go.RowKit

end Go.Proofs.Ythemopejebioaaa.Pl

namespace Go.Proofs.Ythemopejebioaaa.Pl
open Go.RowKit

def st2 (h : List UInt8 × Nat) : Value := .tuple #[.string ⟨h.1.toArray⟩, .int .i64 h.2]
theorem cat_front (b : UInt8) (l : List UInt8) : (⟨#[b]⟩ ++ ⟨l.toArray⟩ : ByteArray) = ⟨(b :: l).toArray⟩ := by
  apply bl_inj
  unfold bl
  rw [ByteArray.data_append]
  simp
theorem txt_le (t : List UInt8) : (txt t).length ≤ 9 + t.length := by rw [txt_len]; have := enc_len t.length; omega

/-- The term of a number. -/
def numP (v : Int) : List UInt8 × Nat := if 0 ≤ v ∧ v ≤ 2147483647 then (100 :: txt (enc v.toNat), 0) else ([], 2)
theorem dataP_enc (v : Nat) : dataP (enc v) = (100 :: txt (enc v), 0) := by
  unfold dataP
  exact if_neg (by have := enc_len v; omega)
end Go.Proofs.Ythemopejebioaaa.Pl

namespace Go.Proofs.Ythemopejebioaaa.Pl
open Go.RowKit

/-- A row of texts in memory, to read. -/
def TxtRow (w : World) (ao : Option Addr) (l : List ByteArray) : Prop := l = [] ∨ ∃ b off, ao = some ⟨b, off, none⟩ ∧ b < w.heap.size ∧ ∀ j, j < l.length → w.cell? ⟨b, off + j, none⟩ = some (.string (l.getD j ByteArray.empty))
theorem TxtRow.below {w w' : World} {ao : Option Addr} {l : List ByteArray} (h : TxtRow w ao l) (hb : Below w.heap.size w w') : TxtRow w' ao l := by
  rcases h with h | ⟨b, off, hg, hlt, hc⟩
  · exact .inl h
  · exact .inr ⟨b, off, hg, Nat.lt_of_lt_of_le hlt hb.size, fun j hj => (hb.cell (p := ⟨b, off + j, none⟩) hlt).trans (hc j hj)⟩
/-- The parts' bytes, one behind the other. -/
def catL (l : List ByteArray) (k : Nat) : List UInt8 := ((l.take k).map bl).flatten
theorem catL_zero (l : List ByteArray) : catL l 0 = [] := by simp [catL]
theorem catL_succ (l : List ByteArray) (k : Nat) (h : k < l.length) : catL l (k + 1) = catL l k ++ bl (l.getD k ByteArray.empty) := by
  unfold catL
  rw [List.take_succ_eq_append_getElem h, List.map_append, List.flatten_append]
  simp [List.getD_eq_getElem?_getD, h]
theorem catL_all (l : List ByteArray) (k : Nat) (h : l.length ≤ k) : catL l k = (l.map bl).flatten := by
  unfold catL; rw [List.take_of_length_le h]
theorem catL_le (l : List ByteArray) (k : Nat) : (catL l k).length ≤ ((l.map bl).flatten).length := by
  have e : (l.map bl).flatten = catL l k ++ ((l.drop k).map bl).flatten := by
    unfold catL
    rw [← List.flatten_append, ← List.map_append, List.take_append_drop]
  rw [e, List.length_append]; omega
theorem cat_bytes (a b : ByteArray) : bl (a ++ b) = bl a ++ bl b := by
  unfold bl
  rw [ByteArray.data_append, Array.toList_append]
theorem mem_getD6 {l : List ByteArray} {x : ByteArray} (h : x ∈ l) : ∃ k, k < l.length ∧ l.getD k ByteArray.empty = x := by
  obtain ⟨k, hk, rfl⟩ := List.getElem_of_mem h
  exact ⟨k, hk, by simp [List.getD_eq_getElem?_getD, hk]⟩
theorem getD_mem6 (l : List ByteArray) (k : Nat) (h : k < l.length) : l.getD k ByteArray.empty ∈ l := by
  rw [List.getD_eq_getElem?_getD, List.getElem?_eq_getElem h]; exact List.getElem_mem h

end Go.Proofs.Ythemopejebioaaa.Pl

namespace Go.Proofs.Ythemopejebioaaa.Pl
open Go.RowKit

def txts (l : List ByteArray) : List Value := l.map Value.string
theorem txts_length (l : List ByteArray) : (txts l).length = l.length := by simp [txts]
theorem txts_at (l : List ByteArray) (j : Nat) (h : j < l.length) : (txts l)[j]? = some (.string (l.getD j ByteArray.empty)) := by
  simp [txts, List.getD_eq_getElem?_getD, h]
/-- v is a row of these texts that the call owns, from block B on. -/
def OwnT (w : World) (B : Nat) (v : Value) (l : List ByteArray) : Prop := w.ownsRow B 9 1 v l.length (txts l)
theorem ownT_nil (w : World) (B : Nat) : OwnT w B (.slice none 0 0) [] := World.ownsRow_nil _ _ _ _
theorem ownT_below {w w' : World} {B : Nat} {v : Value} {l : List ByteArray} (h : OwnT w B v l) (hb : Below w.heap.size w w') : OwnT w' B v l := by
  refine ⟨h.1, ?_⟩
  rcases h.2 with hn | ⟨g, cap, cur, hv, hbg, hg, rest⟩
  · exact .inl hn
  · exact .inr ⟨g, cap, cur, hv, hbg, (hb.block g (Array.getElem?_eq_some_iff.1 hg).1).trans hg, rest⟩
theorem ownT_row {w : World} {B : Nat} {v : Value} {l : List ByteArray} (h : OwnT w B v l) : ∃ ao cap, v = .slice ao l.length cap ∧ TxtRow w ao l := by
  rcases h.2 with ⟨hv, h0⟩ | ⟨g, cap, cur, hv, hbg, hg, rest⟩
  · exact ⟨none, 0, by rw [hv, h0], .inl (List.length_eq_zero_iff.1 h0)⟩
  · have h' := h
    unfold OwnT at h'
    rw [hv] at h'
    exact ⟨_, cap, hv, .inr ⟨g, 0, rfl, (Array.getElem?_eq_some_iff.1 hg).1, fun j hj => by rw [Nat.zero_add, h'.cellAt j (by omega), txts_at l j hj]⟩⟩
theorem ownT_row2 {w : World} {B : Nat} {v : Value} {l : List ByteArray} (h : OwnT w B v l) : ∃ ao cap, v = .slice ao l.length cap ∧ TxtRow w ao l ∧ ∀ b off, ao = some ⟨b, off, none⟩ → B ≤ b := by
  rcases h.2 with ⟨hv, h0⟩ | ⟨g, cap, cur, hv, hbg, hg, rest⟩
  · exact ⟨none, 0, by rw [hv, h0], .inl (List.length_eq_zero_iff.1 h0), fun b off e => by cases e⟩
  · have h' := h
    unfold OwnT at h'
    rw [hv] at h'
    exact ⟨_, cap, hv, .inr ⟨g, 0, rfl, (Array.getElem?_eq_some_iff.1 hg).1, fun j hj => by rw [Nat.zero_add, h'.cellAt j (by omega), txts_at l j hj]⟩, fun b off e => by cases e; exact hbg⟩
theorem TxtRow.grown {w w' : World} {ao : Option Addr} {l : List ByteArray} {row : Option Nat} (h : TxtRow w ao l) (hg : w.grownBy w' row) (hne : ∀ b off, ao = some ⟨b, off, none⟩ → row ≠ some b) : TxtRow w' ao l := by
  rcases h with h | ⟨b, off, e, hlt, hc⟩
  · exact .inl h
  · exact .inr ⟨b, off, e, Nat.lt_of_lt_of_le hlt hg.size, fun j hj => hg.cell (hc j hj) (fun e2 => hne b off e e2.symm)⟩
theorem infoStr : (Try.prog.info? 9).map (fun i => (i.zero, i.size, i.bytes)) = some (some (.string ⟨#[]⟩), 1, 16) := by kernel_rfl
/-- A tree's parts as texts. -/
def tx (t : Tm) : ByteArray := ⟨t.enc.toArray⟩
theorem bl_tx (t : Tm) : bl (tx t) = t.enc := rfl
end Go.Proofs.Ythemopejebioaaa.Pl

namespace Go.Proofs.Ythemopejebioaaa.Pl
open Go.RowKit

theorem placess_len {l : List Tm} (h : ∀ t ∈ l, t.places.length ≤ t.enc.length) : (placess l).length ≤ (encs l).length := by
  induction l with
  | nil => simp [placess]
  | cons t l ih =>
    simp only [placess, encs, List.length_append]
    have h1 := h t (List.mem_cons_self ..)
    have h2 := ih (fun u hu => h u (List.mem_cons_of_mem _ hu))
    omega
theorem places_count : ∀ t : Tm, t.good → t.places.length ≤ t.enc.length := by
  refine Tm.ind ?_
  intro h l ih hg
  simp only [Tm.good] at hg
  have h1 := List.length_pos_iff.2 hg.1.pos
  have h2 := placess_len (l := l) (fun t ht => ih t ht (goods_mem hg.2 t ht))
  simp only [Tm.places, Tm.enc, List.length_cons, List.length_append]
  omega
theorem ownT_one (w : World) (s : ByteArray) : OwnT (w.alloc (.cells #[.string s] 9)) w.heap.size (.slice (some ⟨w.heap.size, 0, none⟩) 1 1) [s] :=
  World.ownsRow_lit w #[.string s] 1 (Nat.le_refl _) (by decide) rfl

end Go.Proofs.Ythemopejebioaaa.Pl

namespace Go.Proofs.Ythemopejebioaaa.Pl
open Go.RowKit

theorem tree_of {s : List UInt8} (h : checkP s = 0) : ∃ t : Tm, t.valid ∧ s = t.enc ∧ treeOf s = some t := by
  obtain ⟨t, h1, h2, h3⟩ := treeOf_some h
  exact ⟨t, h1, h2.symm, h3⟩
theorem may_yes {s : ByteArray} (h : checkP (bl s) = 0) : (checkP (bl s) == 0) = true := by rw [h]; rfl
theorem may_no {s : ByteArray} (h : checkP (bl s) ≠ 0) : (checkP (bl s) == 0) = false := by rw [beq_eq_false_iff_ne]; exact h
theorem valid_size {t : Tm} (h : t.valid) {s : ByteArray} (e : bl s = t.enc) : s.size ≤ 16384 := by rw [size_bl, e]; exact h.2.2

end Go.Proofs.Ythemopejebioaaa.Pl

namespace Go.Proofs.Ythemopejebioaaa.Pl

def unlisted (l : List Bool) : Nat := (l.map fun b => if b then 0 else 1).sum
theorem unlisted_set : ∀ (l : List Bool) (i : Nat), l.getD i true = false → unlisted (l.set i true) + 1 = unlisted l
  | [], i, h => by simp at h
  | b :: l, 0, h => by
    simp at h; subst h
    simp [unlisted]; omega
  | b :: l, i + 1, h => by
    have ih := unlisted_set l i (by simpa using h)
    simp only [unlisted, List.set_cons_succ, List.map_cons, List.sum_cons] at ih ⊢
    omega
theorem unlisted_zero : ∀ (l : List Bool) (i : Nat), unlisted l = 0 → l.getD i true = true
  | [], i, _ => by simp
  | b :: l, 0, h => by
    cases b with
    | true => rfl
    | false => simp [unlisted] at h
  | b :: l, i + 1, h => by
    have h' : unlisted l = 0 := by
      simp only [unlisted, List.map_cons, List.sum_cons] at h ⊢
      omega
    simpa using unlisted_zero l i h'

variable {F : Fence} {n : Nat} {P : Program} {ops : Array Oper} {Q : Exit → Act → World → Prop} {md : Region.Mode}

theorem getD_list (a : Array Bool) (i : Nat) (d : Bool) : a.getD i d = a.toList.getD i d := by
  rw [Array.getD_eq_getD_getElem?, List.getD_eq_getElem?_getD, Array.getElem?_toList]

/-- What holds whatever has come up serves every order. -/
theorem wpAnyIn_inv (I : Array Bool → Act → World → Prop)
    (hstep : ∀ listed a w i, I listed a w → i ∈ Region.ready md ops listed → wpOpIn F n P ops Q i (I (listed.setIfInBounds i true)) a w)
    (hdone : ∀ listed a w, I listed a w → Region.ready md ops listed = [] → Q .normal a w) :
    ∀ (fuel : Nat) (listed : Array Bool) (a : Act) (w : World), unlisted listed.toList ≤ fuel → I listed a w → wpAnyIn F n P md ops Q fuel listed a w
  | 0, listed, a, w, hf, hI => by
    have h0 : Region.ready md ops listed = [] := by
      rw [List.eq_nil_iff_forall_not_mem]
      intro i hi
      have h1 := (mem_ready.1 hi).1
      rw [getD_list, unlisted_zero _ _ (by omega)] at h1
      cases h1
    exact ⟨h0, hdone _ _ _ hI h0⟩
  | fuel + 1, listed, a, w, hf, hI => by
    refine ⟨fun h0 => hdone _ _ _ hI h0, fun i hi => ?_⟩
    refine wpOpIn_mono (fun a' w' h => wpAnyIn_inv I hstep hdone fuel _ a' w' ?_ h) (hstep _ _ _ _ hI hi)
    have h1 := (mem_ready.1 hi).1
    rw [getD_list] at h1
    have h2 := unlisted_set listed.toList i h1
    rw [Array.toList_setIfInBounds]
    omega

/-- Every operation waits for earlier ones alone. -/
def backB (ops : Array Oper) : Bool := (List.range ops.size).all fun i => match ops[i]? with | some o => o.after.all (fun e => decide (e.on < i)) | none => true
theorem backB_spec (h : backB ops = true) {i : Nat} {o : Oper} (ho : ops[i]? = some o) : ∀ e ∈ o.after, e.on < i := by
  intro e he
  unfold backB at h
  have h1 := List.all_eq_true.1 h i (List.mem_range.2 (Array.getElem?_eq_some_iff.1 ho).1)
  simp only [ho] at h1
  have h2 := Array.all_eq_true_iff_forall_mem.1 h1 e he
  simpa using h2
/-- Where nothing may come up any more, everything has. -/
theorem all_listed {listed : Array Bool} (hb : backB ops = true) (hs : listed.size = ops.size) (hr : Region.ready md ops listed = []) : ∀ (k i : Nat), i < k → i < ops.size → listed.getD i true = true
  | 0, _, h, _ => by omega
  | k + 1, i, hk, hi => by
    cases hl : listed.getD i true with
    | true => rfl
    | false =>
      have hm : i ∈ Region.ready md ops listed := by
        refine mem_ready.2 ⟨hl, ops[i], Array.getElem?_eq_getElem hi, fun e he _ => ?_⟩
        have hlt := backB_spec hb (Array.getElem?_eq_getElem hi) e he
        have h1 := all_listed hb hs hr k e.on (by omega) (by omega)
        rw [Array.getD_eq_getD_getElem?, Array.getElem?_eq_getElem (by omega)] at h1 ⊢
        exact h1
      rw [hr] at hm
      cases hm

theorem dep {i : Nat} {listed : Array Bool} {o : Oper} (hi : i ∈ Region.ready md ops listed) (ho : ops[i]? = some o) (e : Edge) (he : e ∈ o.after) (hb : Region.binds md e = true) : listed.getD e.on false = true := by
  obtain ⟨_, o', ho', hall⟩ := mem_ready.1 hi
  rw [ho] at ho'
  cases ho'
  exact hall e he hb

/-- One operation that is carried out, what follows behind a variable. -/
theorem wpOpIn_want {i : Nat} {o : Oper} {a : Act} {w : World} {I : Act → World → Prop} (ho : ops[i]? = some o) (hw : Region.wanted o (yielded ops a.tmps) = true)
    (h : ∀ K : Act → World → Prop, (∀ a w, I a w → K a w) → o.wpIn F n P a w K Q) : wpOpIn F n P ops Q i I a w := by
  unfold wpOpIn
  simp only [ho, hw, if_true]
  exact h I (fun _ _ h => h)

/-- An append that is known to go through. -/
theorem wpOpIn_append {i : Nat} {o : Oper} {a : Act} {w w' : World} {v u v' : Value} {I : Act → World → Prop} (ho : ops[i]? = some o) (hg : Region.wanted o (yielded ops a.tmps) = true) (s x : Operand) (t : TypeId)
    (hop : o.op = Op.call { callee := Callee.builtin Builtin.append, args := #[s, x], argTypes := #[t, t] }) (hs : a.eval s = v) (hx : a.eval x = u) (hrun : (Builtin.append_ #[t, t] o.type #[v, u]).run P w = .ok v' w')
    (h : I (a.put o.dst v') w') : wpOpIn F n P ops Q i I a w := by
  unfold wpOpIn
  simp only [ho, hg, if_true]
  unfold Oper.wpIn
  refine ⟨?_, ?_⟩
  · simp [Oper.about, hop, resolve, Target.leads, Sem.run_pure]
  · rw [Oper.semAt_plain F _ _ (by rw [hop]; intro c hc'; cases hc')]
    simp [execOp, hop, resolve, invoke, builtin, hs, hx, hrun, Result.andThen, Oper.uponIn]
    exact h

end Go.Proofs.Ythemopejebioaaa.Pl

namespace Go.Proofs.Ythemopejebioaaa.Pl

structure Pl6 where
  at_ : Nat
  dep : Nat
  head : Nat
  parts : Nat

/-- Of so many terms, one behind the other. -/
def visL (vs : Nat → List Pl6 × Nat × Nat) : Nat → Nat → List Pl6 × Nat × Nat
  | 0, a => ([], a, 0)
  | k + 1, a => if (vs a).2.2 = 0 then ((vs a).1 ++ (visL vs k (vs a).2.1).1, (visL vs k (vs a).2.1).2) else ((vs a).1, 0, (vs a).2.2)
/-- Of the term at a place, that is no deeper than d below. -/
def visP (s : List UInt8) : Nat → Nat → List Pl6 × Nat × Nat
  | 0, _ => ([], 0, 60)
  | d + 1, a =>
    if (headP (s.drop a)).2.2 = 0 then
      (⟨a, 16 - d, a + (headP (s.drop a)).1, (headP (s.drop a)).2.1⟩ :: (visL (visP s d) (headP (s.drop a)).2.1 (a + (headP (s.drop a)).1)).1, (visL (visP s d) (headP (s.drop a)).2.1 (a + (headP (s.drop a)).1)).2)
    else ([], 0, (headP (s.drop a)).2.2)

/-- Where the places end, and what is wrong, is what reading tells. -/
theorem vis_read (s : List UInt8) : ∀ (d a : Nat), (visP s d a).2 = if (readP d (s.drop a)).2 = 0 then (a + (readP d (s.drop a)).1, 0) else (0, (readP d (s.drop a)).2) := by
  intro d
  induction d with
  | zero => intro a; simp [visP, readP]
  | succ d ih =>
    have loop : ∀ (k a : Nat), (visL (visP s d) k a).2 = if (loopP (readP d) k (s.drop a)).2 = 0 then (a + (loopP (readP d) k (s.drop a)).1, 0) else (0, (loopP (readP d) k (s.drop a)).2) := by
      intro k
      induction k with
      | zero => intro a; simp [visL, loopP]
      | succ k ihk =>
        intro a
        have h := ih a
        by_cases h0 : (readP d (s.drop a)).2 = 0
        · rw [if_pos h0] at h
          have h1 : (visP s d a).2.2 = 0 := by rw [h]
          have h2 : (visP s d a).2.1 = a + (readP d (s.drop a)).1 := by rw [h]
          rw [visL, if_pos h1, loopP, if_pos h0]
          simp only
          rw [ihk, h2, ← List.drop_drop]
          by_cases h3 : (loopP (readP d) k ((s.drop a).drop (readP d (s.drop a)).1)).2 = 0
          · rw [if_pos h3, if_pos h3]; simp [Nat.add_assoc]
          · rw [if_neg h3, if_neg h3]; exact (if_neg h3).symm
        · rw [if_neg h0] at h
          have h1 : (visP s d a).2.2 ≠ 0 := by rw [h]; exact h0
          rw [visL, if_neg h1, loopP, if_neg h0]
          simp only
          rw [if_neg h0, h]
    intro a
    by_cases h0 : (headP (s.drop a)).2.2 = 0
    · rw [visP, if_pos h0, readP, if_pos h0]
      simp only
      rw [loop, ← List.drop_drop]
      by_cases h3 : (loopP (readP d) (headP (s.drop a)).2.1 ((s.drop a).drop (headP (s.drop a)).1)).2 = 0
      · rw [if_pos h3, if_pos h3]; simp [Nat.add_assoc]
      · rw [if_neg h3, if_neg h3]; exact (if_neg h3).symm
    · rw [visP, if_neg h0, readP, if_neg h0]
      simp [h0]

theorem head_le {s : List UInt8} (h : (headP s).2.2 = 0) : (headP s).1 ≤ s.length := (head_front (s := s) (n := (headP s).1) (p := (headP s).2.1) (by rw [← h])).1
theorem head_le32 {s : List UInt8} (h : (headP s).2.2 = 0) : (headP s).2.1 ≤ 32 := by
  obtain ⟨c, hk⟩ := head_kind (head_front (s := s) (n := (headP s).1) (p := (headP s).2.1) (by rw [← h])).2
  cases hk <;> omega
/-- What every place is. -/
def okPl (s : List UInt8) (p : Pl6) : Prop := p.at_ ≤ s.length ∧ p.head ≤ s.length ∧ 1 ≤ p.dep ∧ p.dep ≤ 16 ∧ p.parts ≤ 32
theorem vis_ok (s : List UInt8) : ∀ (d a : Nat), d ≤ 16 → a ≤ s.length → (∀ p ∈ (visP s d a).1, okPl s p) ∧ ((visP s d a).2.2 = 0 → (visP s d a).2.1 ≤ s.length) := by
  intro d
  induction d with
  | zero => intro a _ _; simp [visP]
  | succ d ih =>
    intro a hd ha
    have loop : ∀ (k a : Nat), a ≤ s.length → (∀ p ∈ (visL (visP s d) k a).1, okPl s p) ∧ ((visL (visP s d) k a).2.2 = 0 → (visL (visP s d) k a).2.1 ≤ s.length) := by
      intro k
      induction k with
      | zero => intro a ha; simp [visL, ha]
      | succ k ihk =>
        intro a ha
        obtain ⟨i1, i2⟩ := ih a (by omega) ha
        rw [visL]
        split
        · rename_i h0
          obtain ⟨j1, j2⟩ := ihk (visP s d a).2.1 (i2 h0)
          refine ⟨?_, j2⟩
          intro p hp
          rcases List.mem_append.1 hp with hp | hp
          · exact i1 p hp
          · exact j1 p hp
        · rename_i h0
          exact ⟨i1, fun h => absurd h h0⟩
    rw [visP]
    split
    · rename_i h0
      have h1 := head_le h0
      have h2 := head_le32 h0
      rw [List.length_drop] at h1
      obtain ⟨j1, j2⟩ := loop (headP (s.drop a)).2.1 (a + (headP (s.drop a)).1) (by omega)
      refine ⟨?_, j2⟩
      intro p hp
      rcases List.mem_cons.1 hp with rfl | hp
      · exact ⟨ha, by show a + _ ≤ _; omega, by show 1 ≤ 16 - d; omega, by show 16 - d ≤ 16; omega, h2⟩
      · exact j1 p hp
    · rename_i h0
      exact ⟨by simp, fun h => absurd h h0⟩

/-- The last place's head is where all ends. -/
theorem vis_last (s : List UInt8) : ∀ (d a : Nat), (visP s d a).2.2 = 0 → ∃ q p, (visP s d a).1 = q ++ [p] ∧ p.head = (visP s d a).2.1 := by
  intro d
  induction d with
  | zero => intro a h; simp [visP] at h
  | succ d ih =>
    have loop : ∀ (k a : Nat), (visL (visP s d) (k + 1) a).2.2 = 0 → ∃ q p, (visL (visP s d) (k + 1) a).1 = q ++ [p] ∧ p.head = (visL (visP s d) (k + 1) a).2.1 := by
      intro k
      induction k with
      | zero =>
        intro a h
        rw [visL] at h ⊢
        split at h
        · rename_i h0
          rw [if_pos h0]
          obtain ⟨q, p, e1, e2⟩ := ih a h0
          exact ⟨q, p, by simp [visL, e1], by simp [visL, e2]⟩
        · rename_i h0
          exact absurd h h0
      | succ k ihk =>
        intro a h
        rw [visL] at h ⊢
        split at h
        · rename_i h0
          rw [if_pos h0]
          obtain ⟨q, p, e1, e2⟩ := ihk _ h
          exact ⟨(visP s d a).1 ++ q, p, by simp [e1], e2⟩
        · rename_i h0
          exact absurd h h0
    intro a h
    rw [visP] at h ⊢
    split at h
    · rename_i h0
      rw [if_pos h0]
      cases hk : (headP (s.drop a)).2.1 with
      | zero => exact ⟨[], ⟨a, 16 - d, a + (headP (s.drop a)).1, 0⟩, by simp [visL], by simp [visL]⟩
      | succ k =>
        rw [hk] at h
        obtain ⟨q, p, e1, e2⟩ := loop k _ h
        exact ⟨_ :: q, p, by simp [e1]; rfl, e2⟩
    · rename_i h0
      exact absurd h h0

/- The places of a tree, each with what stands there. -/
mutual
def offT : Nat → Nat → Tm → List (Pl6 × Tm)
  | a, D, .node h l => (⟨a, D, a + h.length, l.length⟩, .node h l) :: offs (a + h.length) (D + 1) l
def offs : Nat → Nat → List Tm → List (Pl6 × Tm)
  | _, _, [] => []
  | a, D, t :: l => offT a D t ++ offs (a + t.enc.length) D l
end
theorem offs_snd : ∀ t : Tm, ∀ a D, (offT a D t).map Prod.snd = t.places := by
  refine Tm.ind ?_
  intro h l ih a D
  have loop : ∀ m : List Tm, (∀ t ∈ m, t ∈ l) → ∀ a D, (offs a D m).map Prod.snd = placess m := by
    intro m
    induction m with
    | nil => intro _ a D; rfl
    | cons t m ihm =>
      intro hm a D
      rw [offs, List.map_append, ih t (hm t (List.mem_cons_self ..)), ihm (fun u hu => hm u (List.mem_cons_of_mem _ hu)), placess]
  rw [offT, List.map_cons, loop l (fun _ h => h), Tm.places]
/-- What reading a tree's bytes goes over. -/
theorem vis_tree (s : List UInt8) : ∀ t : Tm, t.good → ∀ d, t.deep ≤ d → d ≤ 16 → ∀ a rest, s.drop a = t.enc ++ rest → visP s d a = ((offT a (17 - d) t).map Prod.fst, a + t.enc.length, 0) := by
  refine Tm.ind ?_
  intro h l ih hg d hd hd16 a rest e
  simp only [Tm.good] at hg
  simp only [Tm.deep] at hd
  obtain ⟨d, rfl⟩ : ∃ k, d = k + 1 := ⟨d - 1, by omega⟩
  have loop : ∀ m : List Tm, (∀ t ∈ m, t ∈ l) → ∀ a rest, s.drop a = encs m ++ rest → visL (visP s d) m.length a = ((offs a (17 - d) m).map Prod.fst, a + (encs m).length, 0) := by
    intro m
    induction m with
    | nil => intro _ a rest _; simp [visL, offs, encs]
    | cons t m ihm =>
      intro hm a rest e
      have ht := hm t (List.mem_cons_self ..)
      rw [encs, List.append_assoc] at e
      have h1 := ih t ht (goods_mem hg.2 t ht) d (by have := deeps_mem ht; omega) (by omega) a _ e
      have e2 : s.drop (a + t.enc.length) = encs m ++ rest := by rw [← List.drop_drop, e, List.drop_left]
      have h2 := ihm (fun u hu => hm u (List.mem_cons_of_mem _ hu)) _ _ e2
      rw [List.length_cons, visL, h1, if_pos rfl]
      simp only
      rw [h2, offs, encs, List.map_append]
      simp [Nat.add_assoc]
  rw [Tm.enc_node, List.append_assoc] at e
  have e1 := hg.1 (encs l ++ rest)
  have e2 : s.drop (a + h.length) = encs l ++ rest := by rw [← List.drop_drop, e, List.drop_left]
  rw [visP, e, e1, if_pos rfl]
  simp only
  rw [loop l (fun _ h => h) _ _ e2, offT, Tm.enc_node]
  have hD : 17 - (d + 1) = 16 - d := by omega
  have hD2 : 17 - (d + 1) + 1 = 17 - d := by omega
  rw [hD2, hD, List.map_cons]
  simp [Nat.add_assoc]
/-- What stands at a place. -/
theorem offs_at (s : List UInt8) : ∀ t : Tm, ∀ a D rest, s.drop a = t.enc ++ rest → ∀ x ∈ offT a D t, ∃ r, s.drop x.1.at_ = x.2.enc ++ r := by
  refine Tm.ind ?_
  intro h l ih a D rest e
  have loop : ∀ m : List Tm, (∀ t ∈ m, t ∈ l) → ∀ a D rest, s.drop a = encs m ++ rest → ∀ x ∈ offs a D m, ∃ r, s.drop x.1.at_ = x.2.enc ++ r := by
    intro m
    induction m with
    | nil => intro _ a D rest _ x hx; simp [offs] at hx
    | cons t m ihm =>
      intro hm a D rest e x hx
      rw [encs, List.append_assoc] at e
      rw [offs] at hx
      rcases List.mem_append.1 hx with hx | hx
      · exact ih t (hm t (List.mem_cons_self ..)) a D _ e x hx
      · exact ihm (fun u hu => hm u (List.mem_cons_of_mem _ hu)) (a + t.enc.length) D rest (by rw [← List.drop_drop, e, List.drop_left]) x hx
  intro x hx
  rw [offT] at hx
  rcases List.mem_cons.1 hx with rfl | hx
  · exact ⟨rest, e⟩
  · rw [Tm.enc_node, List.append_assoc] at e
    exact loop l (fun _ h => h) _ _ rest (by rw [← List.drop_drop, e, List.drop_left]) x hx
theorem offs_dep : ∀ t : Tm, ∀ a D, ∀ x ∈ offT a D t, D ≤ x.1.dep := by
  refine Tm.ind ?_
  intro h l ih a D
  have loop : ∀ m : List Tm, (∀ t ∈ m, t ∈ l) → ∀ a D, ∀ x ∈ offs a D m, D ≤ x.1.dep := by
    intro m
    induction m with
    | nil => intro _ a D x hx; simp [offs] at hx
    | cons t m ihm =>
      intro hm a D x hx
      rw [offs] at hx
      rcases List.mem_append.1 hx with hx | hx
      · exact ih t (hm t (List.mem_cons_self ..)) a D x hx
      · exact ihm (fun u hu => hm u (List.mem_cons_of_mem _ hu)) _ D x hx
  intro x hx
  rw [offT] at hx
  rcases List.mem_cons.1 hx with rfl | hx
  · exact Nat.le_refl _
  · have := loop l (fun _ h => h) _ _ x hx; omega
/-- The parts are what stands one deeper. -/
theorem offs_parts (h : List UInt8) (l : List Tm) (a D : Nat) : ((offT a D (.node h l)).filter fun x => x.1.dep == D + 1).map Prod.snd = l := by
  have loop : ∀ m : List Tm, ∀ a, ((offs a (D + 1) m).filter fun x => x.1.dep == D + 1).map Prod.snd = m := by
    intro m
    induction m with
    | nil => intro a; rfl
    | cons t m ihm =>
      intro a
      obtain ⟨h', l'⟩ := t
      rw [offs, List.filter_append, List.map_append, ihm]
      rw [offT, List.filter_cons, if_pos (by simp)]
      have hz : (offs (a + h'.length) (D + 1 + 1) l').filter (fun x => x.1.dep == D + 1) = [] := by
        rw [List.filter_eq_nil_iff]
        intro x hx
        have h1 : D + 1 + 1 ≤ x.1.dep := by
          have h2 := offs_dep (.node h' l') a (D + 1) x (by rw [offT]; exact List.mem_cons_of_mem _ hx)
          have : ∀ m : List Tm, ∀ a E, ∀ x ∈ offs a E m, E ≤ x.1.dep := by
            intro m
            induction m with
            | nil => intro a E x hx; simp [offs] at hx
            | cons t m ihm =>
              intro a E x hx
              rw [offs] at hx
              rcases List.mem_append.1 hx with hx | hx
              · exact offs_dep t a E x hx
              · exact ihm _ E x hx
          exact this l' _ _ x hx
        simp <;> omega
      rw [hz]; simp
  rw [offT, List.filter_cons, if_neg (by simp), loop]
end Go.Proofs.Ythemopejebioaaa.Pl

namespace Go.Proofs.Ythemopejebioaaa.Pl
open Go.RowKit

/-- What is thrown. -/
abbrev boom (e : Nat) : Ending := .panicked [{ v := .iface 29 (.int .i64 e), recovered := false }]

theorem need_ok (w : World) : Calls Try.prog 90 #[.int .i64 0] w fun x w' => x = .returned (.tuple #[]) ∧ w' = w := by
  go_enter Try.func90, Try.ntmps90
  go_wp2
  go_end0
  exact ⟨rfl, rfl⟩
theorem need_bad (e : Nat) (he : e ≠ 0) (w : World) : Calls Try.prog 90 #[.int .i64 e] w fun x w' => x = boom e ∧ w' = w := by
  have hz : ((e : Int) != 0) = true := by rw [bne_iff_ne]; omega
  go_enter Try.func90, Try.ntmps90
  go_wp2
  exact ⟨rfl, rfl, rfl⟩

/-- A text's size, or what is wrong. -/
def Size6 (r : Nat × Nat) (w : World) (x : Ending) (w' : World) : Prop := (if r.2 = 0 then x = .returned (.int .i64 r.1) else x = boom r.2) ∧ Below w.heap.size w w'
theorem Size6.ok {k : Nat} {w w' : World} (h : Below w.heap.size w w') : Size6 (k, 0) w (.returned (.int .i64 k)) w' := ⟨by rw [if_pos rfl], h⟩
theorem Size6.bad {k f : Nat} {w w' : World} (hf : f ≠ 0) (h : Below w.heap.size w w') : Size6 (k, f) w (boom f) w' := ⟨by rw [if_neg hf], h⟩

set_option maxHeartbeats 1000000 in
set_option maxRecDepth 100000 in
theorem textsize_any (s : ByteArray) (hs : s.size ≤ 281474976710656) (w : World) :
    Calls Try.prog 84 #[.string s] w (Size6 ((rdt (bl s) 1024).2.1, (rdt (bl s) 1024).2.2) w) := by
  have hT := fun V => readtext_any s 1024 V hs (by decide) (by decide)
  obtain ⟨r, hr⟩ : ∃ r, r = rdt (bl s) 1024 := ⟨_, rfl⟩
  have hbl : s.data.toList = bl s := rfl
  rw [hbl, ← hr] at hT
  rw [← hr]
  obtain ⟨t, k, f⟩ := r
  clear hr hs hbl
  have HT := Lib.hid hT
  clear hT
  by_cases hf : f = 0
  · subst hf
    go_enter Try.func84, Try.ntmps84
    go_wp2_with (first | (go_at_call 55; refine (HT.out _).mono ?_; rintro e w1 ⟨rfl, b1⟩) | (go_at_call 90; refine (need_ok _).mono ?_; rintro e w2 ⟨rfl, rfl⟩))
    go_ret
    exact Size6.ok b1
  · have HF := Lib.hid hf
    go_enter Try.func84, Try.ntmps84
    go_wp2_with (first | (go_at_call 55; refine (HT.out _).mono ?_; rintro e w1 ⟨rfl, b1⟩) | (go_at_call 90; refine (need_bad f HF.out _).mono ?_; rintro e w2 ⟨rfl, rfl⟩))
    exact ⟨by first | rfl | trivial, Size6.bad HF.out b1⟩

/-- A row's parts and its head's length, or what is wrong. -/
def Size62 (r : Nat × Nat × Nat) (w : World) (x : Ending) (w' : World) : Prop := (if r.2.2 = 0 then x = .returned (.tuple #[.int .i64 r.1, .int .i64 r.2.1]) else x = boom r.2.2) ∧ Below w.heap.size w w'
theorem Size62.ok {v k : Nat} {w w' : World} (h : Below w.heap.size w w') : Size62 (v, k, 0) w (.returned (.tuple #[.int .i64 v, .int .i64 k])) w' := ⟨by rw [if_pos rfl], h⟩
theorem Size62.bad {v k f : Nat} {w w' : World} (hf : f ≠ 0) (h : Below w.heap.size w w') : Size62 (v, k, f) w (boom f) w' := ⟨by rw [if_neg hf], h⟩
def rowP6 (s : List UInt8) : Nat × Nat × Nat := if (rdn s).2.2 = 0 ∧ 32 < (rdn s).1 then (0, 0, 5) else rdn s

set_option maxHeartbeats 1000000 in
set_option maxRecDepth 100000 in
theorem rowhead_any (s : ByteArray) (hs : s.size ≤ 281474976710656) (w : World) :
    Calls Try.prog 86 #[.string s] w (Size62 (rowP6 (bl s)) w) := by
  have hT := fun V => readnum_any s (by omega) V
  obtain ⟨r, hr⟩ : ∃ r, r = rdn (bl s) := ⟨_, rfl⟩
  have hbl : s.data.toList = bl s := rfl
  rw [hbl, ← hr] at hT
  obtain ⟨z, hz⟩ : ∃ z, z = rowP6 (bl s) := ⟨_, rfl⟩
  rw [← hz]
  unfold rowP6 at hz
  rw [← hr] at hz
  obtain ⟨v, k, f⟩ := r
  have HZ := Lib.hid hz
  clear hr hs hbl hz
  have HT := Lib.hid hT
  clear hT
  by_cases hf : f = 0
  · subst hf
    by_cases hv : 32 < v
    · have q1 : (32 : Int) < (v : Int) := by omega
      have HV := Lib.hid hv
      clear hv
      go_enter Try.func86, Try.ntmps86
      go_wp2_with (first | (go_at_call 76; refine (HT.out _).mono ?_; rintro e w1 ⟨rfl, rfl⟩) | (go_at_call 90; refine (need_ok _).mono ?_; rintro e w2 ⟨rfl, rfl⟩))
      have hz := HZ.out
      rw [if_pos (by first | exact ⟨rfl, HV.out⟩ | exact ⟨trivial, HV.out⟩)] at hz
      exact ⟨rfl, hz ▸ Size62.bad (f := 5) (by decide) (Below.refl _ _)⟩
    · have q1 : ¬ (32 : Int) < (v : Int) := by omega
      have q2 : (v : Int) ≤ 32 := by omega
      have HV := Lib.hid hv
      clear hv
      go_enter Try.func86, Try.ntmps86
      go_wp2_with (first | (go_at_call 76; refine (HT.out _).mono ?_; rintro e w1 ⟨rfl, rfl⟩) | (go_at_call 90; refine (need_ok _).mono ?_; rintro e w2 ⟨rfl, rfl⟩))
      go_ret2
      have hz := HZ.out
      rw [if_neg (by rintro ⟨_, h⟩; exact HV.out h)] at hz
      exact hz ▸ Size62.ok (Below.refl _ _)
  · have HF := Lib.hid hf
    go_enter Try.func86, Try.ntmps86
    go_wp2_with (first | (go_at_call 76; refine (HT.out _).mono ?_; rintro e w1 ⟨rfl, rfl⟩) | (go_at_call 90; refine (need_bad f HF.out _).mono ?_; rintro e w2 ⟨rfl, rfl⟩))
    have hz := HZ.out
    rw [if_neg (by rintro ⟨h, _⟩; exact HF.out h)] at hz
    exact ⟨rfl, hz ▸ Size62.bad HF.out (Below.refl _ _)⟩
end Go.Proofs.Ythemopejebioaaa.Pl

namespace Go.Proofs.Ythemopejebioaaa.Pl
open Go.RowKit

theorem row1 (w : World) (a : ByteArray) : TxtRow (w.alloc (.cells #[.string a] 9)) (some ⟨w.heap.size, 0, none⟩) [a] :=
  .inr ⟨w.heap.size, 0, rfl, by simp, fun j hj => by
    obtain rfl : j = 0 := by simp at hj; omega
    simp⟩
def tb2 (h : List UInt8 × Bool) : Value := .tuple #[.string ⟨h.1.toArray⟩, .bool h.2]
end Go.Proofs.Ythemopejebioaaa.Pl

namespace Go.Proofs.Ythemopejebioaaa.Pl
open Go.RowKit

noncomputable def readnumP (s : List UInt8) : Nat × Bool :=
  if (textP s).2 = true ∧ kindP s = 1 ∧ (rdn (textP s).1).2.2 = 0 ∧ (rdn (textP s).1).2.1 = (textP s).1.length ∧ (rdn (textP s).1).1 ≤ 2147483647 then ((rdn (textP s).1).1, true) else (0, false)
theorem rdt_out (l : List UInt8) (m : Int) : (rdt l m).1.length ≤ l.length := by
  unfold rdt
  by_cases h1 : (rdn l).2.2 ≠ 0
  · rw [if_pos h1]; simp
  · rw [if_neg h1]
    by_cases h2 : max m 0 < ((rdn l).1 : Int)
    · rw [if_pos h2]; simp
    · rw [if_neg h2]
      by_cases h3 : l.length - (rdn l).2.1 < (rdn l).1
      · rw [if_pos h3]; simp
      · rw [if_neg h3]; simp; omega
theorem textP_len (s : List UInt8) : (textP s).1.length ≤ s.length := by
  unfold textP
  by_cases h : checkP s = 0 ∧ (s.head? = some 100 ∨ s.head? = some 97)
  · rw [if_pos h]
    have h1 := rdt_out (s.drop 1) 1024
    rw [List.length_drop] at h1
    simp only
    omega
  · rw [if_neg h]; simp
theorem kindP_le (s : List UInt8) : kindP s ≤ 6 := by
  unfold kindP
  split
  · split
    · omega
    · repeat (split; omega)
      omega
  · omega
def nb2 (h : Nat × Bool) : Value := .tuple #[.int .i64 h.1, .bool h.2]
end Go.Proofs.Ythemopejebioaaa.Pl

namespace Go.Proofs.Ythemopejebioaaa.Pl
open Go.RowKit

/-- The cells of an array that holds the numbers l. -/
def row (k : IntKind) (l : List Nat) : Array Value := (l.map fun (x : Nat) => Value.int k (x : Int)).toArray
theorem below_setRow {B : Nat} {a w : World} (h : Below B a w) {g : Nat} (hg : B ≤ g) (cs : Array Value) : Below B a (w.setRow g cs) :=
  ⟨h.os, h.tape, h.output, by rw [setRow_size]; exact h.size, fun i hi => by rw [setRow_other _ _ _ _ (by omega)]; exact h.block i hi⟩

theorem heap_below {w w' : World} {b : Nat} {o : Obj} (hb : Below w.heap.size w w') (h : w.heap[b]? = some o) : w'.heap[b]? = some o := by
  rw [hb.block b (Array.getElem?_eq_some_iff.1 h).1]; exact h
theorem heap_alloc {w : World} {b : Nat} {o : Obj} (h : w.heap[b]? = some o) (p : Obj) : (w.alloc p).heap[b]? = some o := by
  rw [Go.heap_alloc_old _ _ (Array.getElem?_eq_some_iff.1 h).1]; exact h
theorem heap_setRow {w : World} {b : Nat} {o : Obj} (h : w.heap[b]? = some o) {g : Nat} (hg : b ≠ g) (cs : Array Value) : (w.setRow g cs).heap[b]? = some o := by
  rw [setRow_other _ _ _ _ hg]; exact h

/-- l agrees with f up to n. -/
def Agrees (l : List Nat) (f : Nat → Nat) (n : Nat) : Prop := ∀ j, j < n → l.getD j 0 = f j
theorem Agrees.zero (l : List Nat) (f : Nat → Nat) : Agrees l f 0 := fun _ h => absurd h (by omega)
theorem Agrees.next {l : List Nat} {f : Nat → Nat} {n : Nat} (h : Agrees l f n) (hn : n < l.length) : Agrees (l.set n (f n)) f (n + 1) := by
  intro j hj
  rw [List.getD_eq_getElem?_getD, List.getElem?_set]
  by_cases e : n = j
  · subst e; simp [hn]
  · rw [if_neg e, ← List.getD_eq_getElem?_getD]; exact h j (by omega)
theorem Agrees.ext {l m : List Nat} {n : Nat} (h : Agrees l (fun j => m.getD j 0) n) (hl : l.length = n) (hm : m.length = n) : l = m := by
  apply List.ext_getElem (by omega)
  intro i h1 h2
  have := h i (by omega)
  simpa [List.getD_eq_getElem?_getD, h1, h2] using this
end Go.Proofs.Ythemopejebioaaa.Pl

namespace Go.Proofs.Ythemopejebioaaa.Pl
open Go.RowKit

open Classical in
noncomputable def onceF (out : List ByteArray) (x : ByteArray) : List ByteArray := if x ∈ out then out else out ++ [x]
end Go.Proofs.Ythemopejebioaaa.Pl

namespace Go.Proofs.Ythemopejebioaaa.Pl
open Go.RowKit

end Go.Proofs.Ythemopejebioaaa.Pl

namespace Go.Proofs.Ythemopejebioaaa.Pl
open Go.RowKit

end Go.Proofs.Ythemopejebioaaa.Pl
