/- The encoding of numbers, texts and rows of texts as lists of bytes, and what holds of it; plain mathematics alone, no program. Texts as bytes, and what a reader of them answers; plain mathematics alone, no program. Terms as bytes, and as trees: what is read of bytes, that it is a tree's, and just one's; plain mathematics alone. What stands at a term's places; one term swapped for another, and back; plain mathematics alone. Which kinds of terms there are, what makes them, and what their parts make again; plain mathematics alone. Names, over plain numbers: the runes of a text, what they are, what is wrong with them, how they look. The lines of terms: characters, digits, what stands in a line; plain mathematics alone. Which term a line is: read as the chapter has it, and that just the lines of terms are read; plain mathematics alone. Just the lines of terms are read; plain mathematics alone. How the program reads a line: what stands next, up to a sign; it comes to what the chapter's reading comes to. Plain mathematics alone. Small facts that the walks share: worlds in which nothing old has turned, and endings. A region that draws its order, by what holds whatever has come up; inside a fence, also in a round. Rows of texts read: what comes, text by text, and what a reader of count of them answers; plain mathematics alone. -/
import GoSem.Op.String
import Derived.Laws.RangeString
import Derived.Laws.RangeAny
import Derived.Lib.RuneBytes
import Derived.Lib.Bytealg
import Derived.Lib.Strings
import Derived.Laws.Cover4
import Derived.WalkKit
import Derived.Deep.Draws
import Derived.OrdersIn
import Derived.OwnWalkIn
namespace Go.Proofs.YtiehhlolhhjgpaaGreatDoor.Pl

/-- The digits of v to the base 256, the highest first, no more than f of them; of 0 none. -/
def dig : Nat → Nat → List UInt8
  | 0, _ => []
  | f + 1, v => if v = 0 then [] else dig f (v / 256) ++ [UInt8.ofNat (v % 256)]

/-- The encoding of a number. -/
def enc (v : Nat) : List UInt8 := if v < 248 then [UInt8.ofNat v] else UInt8.ofNat (247 + (dig 8 v).length) :: dig 8 v

/-- The number that digits are. -/
def val (l : List UInt8) : Nat := l.foldl (fun a b => a * 256 + b.toNat) 0

theorem val_nil : val [] = 0 := rfl
theorem val_snoc (l : List UInt8) (b : UInt8) : val (l ++ [b]) = val l * 256 + b.toNat := by simp [val, List.foldl_append]
theorem foldl_val (l : List UInt8) : ∀ a, l.foldl (fun a b => a * 256 + b.toNat) a = a * 256 ^ l.length + val l := by
  induction l with
  | nil => intro a; simp [val]
  | cons b r ih =>
    intro a
    have h1 := ih (a * 256 + b.toNat)
    have h2 := ih (0 * 256 + b.toNat)
    show r.foldl _ (a * 256 + b.toNat) = _
    have h3 : val (b :: r) = r.foldl (fun a b => a * 256 + b.toNat) (0 * 256 + b.toNat) := rfl
    rw [h1, h3, h2, List.length_cons, Nat.pow_succ]
    simp only [Nat.add_mul, Nat.zero_mul, Nat.zero_add]
    have : a * 256 * 256 ^ r.length = a * (256 ^ r.length * 256) := by rw [Nat.mul_assoc, Nat.mul_comm 256]
    omega
theorem val_cons (b : UInt8) (r : List UInt8) : val (b :: r) = b.toNat * 256 ^ r.length + val r := by
  have h := foldl_val r (0 * 256 + b.toNat)
  have h3 : val (b :: r) = r.foldl (fun a b => a * 256 + b.toNat) (0 * 256 + b.toNat) := rfl
  rw [h3, h]; simp
theorem val_lt (l : List UInt8) : val l < 256 ^ l.length := by
  induction l with
  | nil => simp [val]
  | cons b r ih =>
    rw [val_cons, List.length_cons, Nat.pow_succ]
    have hb : b.toNat < 256 := b.toNat_lt
    have : b.toNat * 256 ^ r.length + 256 ^ r.length ≤ 256 ^ r.length * 256 := by
      rw [← Nat.succ_mul, Nat.mul_comm]
      exact Nat.mul_le_mul_left _ hb
    omega

theorem dig_zero (f : Nat) : dig f 0 = [] := by cases f <;> simp [dig]
theorem dig_succ (f v : Nat) (h : v ≠ 0) : dig (f + 1) v = dig f (v / 256) ++ [UInt8.ofNat (v % 256)] := by simp [dig, h]

theorem val_dig (f : Nat) : ∀ v, v < 256 ^ f → val (dig f v) = v := by
  induction f with
  | zero => intro v h; have : v = 0 := by simpa using h
            subst this; rfl
  | succ f ih =>
    intro v h
    by_cases h0 : v = 0
    · subst h0; rw [dig_zero]; rfl
    · rw [dig_succ f v h0, val_snoc, ih (v / 256) (by rw [Nat.pow_succ] at h; omega)]
      have : (UInt8.ofNat (v % 256)).toNat = v % 256 := by simp
      omega

/-- Digits that do not begin with 0 are the digits of their number. -/
theorem dig_val (f : Nat) : ∀ l : List UInt8, l.length ≤ f → l.head? ≠ some 0 → dig f (val l) = l := by
  induction f with
  | zero => intro l h _; have : l = [] := List.eq_nil_of_length_eq_zero (by omega)
            subst this; rfl
  | succ f ih =>
    intro l hl hh
    rcases List.eq_nil_or_concat l with rfl | ⟨r, b, rfl⟩
    · rw [val_nil, dig_zero]
    · rw [List.concat_eq_append] at *
      have hb : b.toNat < 256 := b.toNat_lt
      have hv : val (r ++ [b]) ≠ 0 := by
        rw [val_snoc]
        intro h0
        cases r with
        | nil =>
          simp at hh
          apply hh
          have : b.toNat = 0 := by omega
          exact UInt8.toNat.inj (by simpa using this)
        | cons c r =>
          rw [val_cons] at h0
          simp at hh
          have h1 : 0 < 256 ^ r.length := Nat.pow_pos (by decide)
          have h2 : c.toNat * 256 ^ r.length = 0 := by omega
          have h3 : c.toNat = 0 := by
            rcases Nat.mul_eq_zero.1 h2 with h | h
            · exact h
            · omega
          exact hh (UInt8.toNat.inj (by simpa using h3))
      rw [dig_succ f _ hv, val_snoc]
      have e1 : (val r * 256 + b.toNat) / 256 = val r := by omega
      have e2 : (val r * 256 + b.toNat) % 256 = b.toNat := by omega
      rw [e1, e2, ih r (by simp at hl; omega) (by
        cases r with
        | nil => simp
        | cons c r => simpa using hh)]
      simp

theorem dig_length_le (f : Nat) : ∀ v, (dig f v).length ≤ f := by
  induction f with
  | zero => intro v; simp [dig]
  | succ f ih =>
    intro v
    by_cases h0 : v = 0
    · subst h0; rw [dig_zero]; simp
    · rw [dig_succ f v h0]; have := ih (v / 256); simp; omega

theorem dig_head (f : Nat) : ∀ v, v < 256 ^ f → (dig f v).head? ≠ some 0 := by
  induction f with
  | zero => intro v _; simp [dig]
  | succ f ih =>
    intro v h
    by_cases h0 : v = 0
    · subst h0; rw [dig_zero]; simp
    · rw [dig_succ f v h0]
      have h1 := ih (v / 256) (by rw [Nat.pow_succ] at h; omega)
      cases hd : dig f (v / 256) with
      | nil =>
        have h2 := val_dig f (v / 256) (by rw [Nat.pow_succ] at h; omega)
        rw [hd, val_nil] at h2
        simp
        intro h3
        have h4 : (UInt8.ofNat (v % 256)).toNat = v % 256 := by simp
        rw [h3] at h4
        simp at h4
        omega
      | cons c r => rw [hd] at h1; simpa using h1

theorem dig_pos (v : Nat) (h : v ≠ 0) : 0 < (dig 8 v).length := by
  rw [dig_succ 7 v h]; simp

theorem val_pos {l : List UInt8} (h : l.head? ≠ some 0) : 256 ^ l.length ≤ val l * 256 ∨ l = [] := by
  cases l with
  | nil => exact .inr rfl
  | cons c r =>
    left
    rw [val_cons, List.length_cons, Nat.pow_succ]
    have hc : c.toNat ≠ 0 := fun h0 => h (by simp; exact UInt8.toNat.inj (by simpa using h0))
    have : 1 * 256 ^ r.length ≤ c.toNat * 256 ^ r.length := Nat.mul_le_mul_right _ (by omega)
    omega

/-- Less, at a first difference. -/
def SLt (l m : List UInt8) : Prop := ∃ p a b r s, l = p ++ a :: r ∧ m = p ++ b :: s ∧ a < b
theorem SLt.append {l m : List UInt8} (h : SLt l m) (x y : List UInt8) : SLt (l ++ x) (m ++ y) := by
  obtain ⟨p, a, b, r, s, rfl, rfl, hab⟩ := h
  exact ⟨p, a, b, r ++ x, s ++ y, by simp, by simp, hab⟩
theorem SLt.cons {l m : List UInt8} (h : SLt l m) (c : UInt8) : SLt (c :: l) (c :: m) := by
  obtain ⟨p, a, b, r, s, rfl, rfl, hab⟩ := h
  exact ⟨c :: p, a, b, r, s, by simp, by simp, hab⟩
theorem SLt.less {l m : List UInt8} (h : SLt l m) : Op.bytesLess l m = true := by
  obtain ⟨p, a, b, r, s, rfl, rfl, hab⟩ := h
  induction p with
  | nil => simp [Op.bytesLess, hab]
  | cons c p ih => simp [Op.bytesLess, ih]
theorem SLt.more {l m : List UInt8} (h : SLt l m) : Op.bytesLess m l = false := by
  obtain ⟨p, a, b, r, s, rfl, rfl, hab⟩ := h
  induction p with
  | nil =>
    have h1 : ¬ b < a := fun h => absurd (UInt8.lt_trans h hab) (UInt8.lt_irrefl _)
    have h2 : b ≠ a := fun h => by subst h; exact UInt8.lt_irrefl _ hab
    simp [Op.bytesLess, h1, h2]
  | cons c p ih => 
    have h1 : ¬ c < c := UInt8.lt_irrefl _
    simp only [List.cons_append, Op.bytesLess, ih]
    simp [h1]
theorem SLt.ne {l m : List UInt8} (h : SLt l m) : l ≠ m := by
  intro e
  subst e
  have := h.less
  rw [h.more] at this
  cases this
theorem SLt.not_prefix {l m : List UInt8} (h : SLt l m) : ∀ k, m.take k ≠ l := by
  obtain ⟨p, a, b, r, s, rfl, rfl, hab⟩ := h
  intro k hk
  have h1 : ((p ++ b :: s).take k)[p.length]? = some a := by rw [hk]; simp
  rw [List.getElem?_take] at h1
  split at h1
  · simp at h1; subst h1; exact UInt8.lt_irrefl _ hab
  · cases h1
theorem SLt.not_prefix' {l m : List UInt8} (h : SLt l m) : ∀ k, l.take k ≠ m := by
  obtain ⟨p, a, b, r, s, rfl, rfl, hab⟩ := h
  intro k hk
  have h1 : ((p ++ a :: r).take k)[p.length]? = some b := by rw [hk]; simp
  rw [List.getElem?_take] at h1
  split at h1
  · simp at h1; subst h1; exact UInt8.lt_irrefl _ hab
  · cases h1
theorem bytesLess_irrefl (l : List UInt8) : Op.bytesLess l l = false := by
  induction l with
  | nil => rfl
  | cons c p ih => simp only [Op.bytesLess, ih]; simp [UInt8.lt_irrefl c]

theorem slt_of_val : ∀ l m : List UInt8, l.length = m.length → val l < val m → SLt l m := by
  intro l
  induction l with
  | nil =>
    intro m h1 h2
    have : m = [] := List.eq_nil_of_length_eq_zero (by simpa using h1.symm)
    subst this; exact absurd h2 (Nat.lt_irrefl _)
  | cons a r ih =>
    intro m h1 h2
    cases m with
    | nil => simp at h1
    | cons b s =>
      have hl : r.length = s.length := by simpa using h1
      rw [val_cons, val_cons, ← hl] at h2
      have v1 := val_lt r
      have v2 := val_lt s
      rw [← hl] at v2
      by_cases hab : a = b
      · subst hab
        exact (ih s hl (by omega)).cons a
      · by_cases hlt : a < b
        · exact ⟨[], a, b, r, s, rfl, rfl, hlt⟩
        · exfalso
          have h3 : b.toNat < a.toNat := by
            rcases Nat.lt_trichotomy a.toNat b.toNat with h | h | h
            · exact absurd (UInt8.lt_iff_toNat_lt.2 h) hlt
            · exact absurd (UInt8.toNat.inj h) hab
            · exact h
          have h4 : (b.toNat + 1) * 256 ^ r.length ≤ a.toNat * 256 ^ r.length := Nat.mul_le_mul_right _ h3
          rw [Nat.succ_mul] at h4
          omega

theorem enc_small {v : Nat} (h : v < 248) : enc v = [UInt8.ofNat v] := by simp [enc, h]
theorem enc_big {v : Nat} (h : ¬ v < 248) : enc v = UInt8.ofNat (247 + (dig 8 v).length) :: dig 8 v := by simp [enc, h]
theorem two64 : (256 : Nat) ^ 8 = 18446744073709551616 := by decide

/-- Numbers in their order have encodings in theirs. -/
theorem enc_slt {v w : Nat} (h : v < w) (hw : w < 256 ^ 8) : SLt (enc v) (enc w) := by
  have hv : v < 256 ^ 8 := by omega
  by_cases h1 : w < 248
  · rw [enc_small h1, enc_small (by omega : v < 248)]
    refine ⟨[], _, _, [], [], rfl, rfl, ?_⟩
    rw [UInt8.lt_iff_toNat_lt]; simp; omega
  · rw [enc_big h1]
    have lw := dig_length_le 8 w
    have pw := dig_pos w (by omega)
    by_cases h2 : v < 248
    · rw [enc_small h2]
      refine ⟨[], _, _, [], _, rfl, rfl, ?_⟩
      rw [UInt8.lt_iff_toNat_lt]; simp; omega
    · rw [enc_big h2]
      have lv := dig_length_le 8 v
      have ev := val_dig 8 v hv
      have ew := val_dig 8 w hw
      rcases Nat.lt_trichotomy (dig 8 v).length (dig 8 w).length with hl | hl | hl
      · refine ⟨[], _, _, _, _, rfl, rfl, ?_⟩
        rw [UInt8.lt_iff_toNat_lt]; simp; omega
      · rw [hl]
        exact (slt_of_val _ _ hl (by omega)).cons _
      · exfalso
        have b1 := val_lt (dig 8 w)
        rcases val_pos (dig_head 8 v hv) with b2 | b2
        · rw [ev] at b2
          rw [ew] at b1
          have b3 : (256 : Nat) ^ ((dig 8 w).length + 1) ≤ 256 ^ (dig 8 v).length := Nat.pow_le_pow_right (by decide) hl
          rw [Nat.pow_succ] at b3
          omega
        · rw [b2] at hl; simp at hl

theorem enc_inj {v w : Nat} (hv : v < 256 ^ 8) (hw : w < 256 ^ 8) (h : enc v = enc w) : v = w := by
  rcases Nat.lt_trichotomy v w with h1 | h1 | h1
  · exact absurd h (enc_slt h1 hw).ne
  · exact h1
  · exact absurd h.symm (enc_slt h1 hv).ne

theorem enc_len (v : Nat) : 1 ≤ (enc v).length ∧ (enc v).length ≤ 9 := by
  by_cases h : v < 248
  · rw [enc_small h]; simp
  · rw [enc_big h]; have := dig_length_le 8 v; simp; omega

/-- What a reader of a number answers: the number, how many bytes it has, what is wrong. -/
def rdn (l : List UInt8) : Nat × Nat × Nat :=
  match l with
  | [] => (0, 0, 6)
  | b :: r =>
    if b.toNat < 248 then (b.toNat, 1, 0)
    else if r.length < b.toNat - 247 then (0, 0, 6)
    else if r.headD 0 = 0 ∨ (b.toNat = 248 ∧ (r.headD 0).toNat < 248) then (0, 0, 7)
    else (val (r.take (b.toNat - 247)), 1 + (b.toNat - 247), 0)

theorem rdn_small (b : UInt8) (r : List UInt8) (h : b.toNat < 248) : rdn (b :: r) = (b.toNat, 1, 0) := by simp [rdn, h]
theorem rdn_end (b : UInt8) (r : List UInt8) (h : ¬ b.toNat < 248) (h2 : r.length < b.toNat - 247) : rdn (b :: r) = (0, 0, 6) := by simp [rdn, h, h2]
theorem rdn_form (b : UInt8) (r : List UInt8) (h : ¬ b.toNat < 248) (h2 : ¬ r.length < b.toNat - 247) (h3 : r.headD 0 = 0 ∨ (b.toNat = 248 ∧ (r.headD 0).toNat < 248)) : rdn (b :: r) = (0, 0, 7) := by
  simp only [rdn]; rw [if_neg h, if_neg h2, if_pos h3]
theorem rdn_ok (b : UInt8) (r : List UInt8) (h : ¬ b.toNat < 248) (h2 : ¬ r.length < b.toNat - 247) (h3 : ¬ (r.headD 0 = 0 ∨ (b.toNat = 248 ∧ (r.headD 0).toNat < 248))) :
    rdn (b :: r) = (val (r.take (b.toNat - 247)), 1 + (b.toNat - 247), 0) := by
  simp only [rdn]; rw [if_neg h, if_neg h2, if_neg h3]

/-- Of a number whose digits are read: what would be put is what was read, just if nothing is wrong with its form. -/
theorem enc_val {d : List UInt8} (hl : 1 ≤ d.length) (h8 : d.length ≤ 8) :
    enc (val d) = UInt8.ofNat (247 + d.length) :: d ↔ ¬ (d.headD 0 = 0 ∨ (d.length = 1 ∧ (d.headD 0).toNat < 248)) := by
  cases d with
  | nil => simp at hl
  | cons c r =>
    simp only [List.headD_cons]
    constructor
    · intro h hbad
      rcases hbad with hc | ⟨h1, hc⟩
      · by_cases hs : val (c :: r) < 248
        · rw [enc_small hs] at h; simp at h
        · rw [enc_big hs] at h
          have h2 : dig 8 (val (c :: r)) = c :: r := by injection h
          have h3 := dig_head 8 (val (c :: r)) (by
            have := val_lt (c :: r)
            exact Nat.lt_of_lt_of_le this (Nat.pow_le_pow_right (by decide) h8))
          rw [h2] at h3
          simp at h3
          exact h3 hc
      · have hr : r = [] := List.eq_nil_of_length_eq_zero (by simpa using h1)
        subst hr
        have hs : val [c] < 248 := by simpa [val] using hc
        rw [enc_small hs] at h; simp at h
    · intro h
      have hc : c ≠ 0 := fun e => h (.inl e)
      have hd : dig 8 (val (c :: r)) = c :: r := dig_val 8 _ h8 (by simpa using hc)
      have hb : ¬ val (c :: r) < 248 := by
        intro hs
        cases r with
        | nil => exact h (.inr ⟨rfl, by simpa [val] using hs⟩)
        | cons e r =>
          have := val_pos (l := c :: e :: r) (by simpa using hc)
          rcases this with h1 | h1
          · have h2 : (256 : Nat) ^ 2 ≤ 256 ^ (c :: e :: r).length := Nat.pow_le_pow_right (by decide) (by simp)
            omega
          · simp at h1
      rw [enc_big hb, hd]

theorem headD_take {r : List UInt8} {k : Nat} (h : 1 ≤ k) : (r.take k).headD 0 = r.headD 0 := by
  cases r with
  | nil => simp
  | cons c r =>
    obtain ⟨k, rfl⟩ : ∃ j, k = j + 1 := ⟨k - 1, by omega⟩
    simp

/-- What was put is read, whatever stands behind it. -/
theorem rdn_enc {v : Nat} (hv : v < 256 ^ 8) (s : List UInt8) : rdn (enc v ++ s) = (v, (enc v).length, 0) := by
  by_cases h : v < 248
  · rw [enc_small h]
    have : (UInt8.ofNat v).toNat = v := by simp; omega
    simp only [List.cons_append, List.nil_append]
    rw [rdn_small _ _ (by omega), this]; rfl
  · rw [enc_big h]
    have hl := dig_length_le 8 v
    have hp := dig_pos v (by omega)
    have hb : (UInt8.ofNat (247 + (dig 8 v).length)).toNat = 247 + (dig 8 v).length := by simp; omega
    have hh := dig_head 8 v hv
    have hd := val_dig 8 v hv
    have hk : (UInt8.ofNat (247 + (dig 8 v).length)).toNat - 247 = (dig 8 v).length := by omega
    have hhd : (dig 8 v ++ s).headD 0 = (dig 8 v).headD 0 := by
      cases hdd : dig 8 v with
      | nil => rw [hdd] at hp; simp at hp
      | cons c r => simp
    simp only [List.cons_append]
    rw [rdn_ok _ _ (by omega) (by simp; omega) ?_, hk, List.take_left' rfl, hd]
    · simp [Nat.add_comm]
    · rw [hhd]
      have hev := (enc_val (d := dig 8 v) hp hl).1 (by rw [hd, enc_big h])
      intro hx
      apply hev
      rcases hx with hx | ⟨hx, hy⟩
      · exact .inl hx
      · exact .inr ⟨by omega, hy⟩

/-- What is read is what would be put. -/
theorem rdn_sound {l : List UInt8} {v n : Nat} (h : rdn l = (v, n, 0)) : 1 ≤ n ∧ n ≤ l.length ∧ enc v = l.take n ∧ v < 256 ^ 8 := by
  cases l with
  | nil => simp [rdn] at h
  | cons b r =>
    have hb : b.toNat < 256 := b.toNat_lt
    by_cases h1 : b.toNat < 248
    · rw [rdn_small b r h1] at h
      simp only [Prod.mk.injEq, and_true] at h
      obtain ⟨rfl, rfl⟩ := h
      refine ⟨by omega, by simp, ?_, by omega⟩
      rw [enc_small h1]; simp
    · by_cases h2 : r.length < b.toNat - 247
      · rw [rdn_end b r h1 h2] at h; simp at h
      · by_cases h3 : r.headD 0 = 0 ∨ (b.toNat = 248 ∧ (r.headD 0).toNat < 248)
        · rw [rdn_form b r h1 h2 h3] at h; simp at h
        · rw [rdn_ok b r h1 h2 h3] at h
          simp only [Prod.mk.injEq, and_true] at h
          obtain ⟨rfl, rfl⟩ := h
          have hlen : (r.take (b.toNat - 247)).length = b.toNat - 247 := by simp; omega
          refine ⟨by omega, by simp; omega, ?_, ?_⟩
          · rw [Nat.add_comm 1, List.take_succ_cons]
            rw [(enc_val (d := r.take (b.toNat - 247)) (by omega) (by omega)).2 ?_]
            · have hbb : UInt8.ofNat (247 + (b.toNat - 247)) = b := by
                apply UInt8.toNat.inj
                simp; omega
              rw [hlen, hbb]
            · rw [headD_take (by omega), hlen]
              intro hx
              apply h3
              rcases hx with hx | ⟨hx, hy⟩
              · exact .inl hx
              · exact .inr ⟨by omega, hy⟩
          · have := val_lt (r.take (b.toNat - 247))
            exact Nat.lt_of_lt_of_le this (Nat.pow_le_pow_right (by decide) (by omega))

theorem rdn_err {l : List UInt8} {v n e : Nat} (h : rdn l = (v, n, e)) : e = 0 ∨ (v = 0 ∧ n = 0 ∧ (e = 6 ∨ e = 7)) := by
  cases l with
  | nil => simp [rdn] at h; omega
  | cons b r =>
    by_cases h1 : b.toNat < 248
    · rw [rdn_small b r h1] at h; simp at h; omega
    · by_cases h2 : r.length < b.toNat - 247
      · rw [rdn_end b r h1 h2] at h; simp at h; omega
      · by_cases h3 : r.headD 0 = 0 ∨ (b.toNat = 248 ∧ (r.headD 0).toNat < 248)
        · rw [rdn_form b r h1 h2 h3] at h; simp at h; omega
        · rw [rdn_ok b r h1 h2 h3] at h; simp at h; omega

/-- Just k digits of v, as numbers. -/
def dn : Nat → Nat → List Nat
  | 0, _ => []
  | k + 1, v => dn k (v / 256) ++ [v % 256]
theorem dig_dn (f : Nat) : ∀ k v, k ≤ f → v < 256 ^ k → (k = 0 ∨ 256 ^ k ≤ v * 256) → dig f v = (dn k v).map UInt8.ofNat := by
  induction f with
  | zero => intro k v hk _ _; obtain rfl : k = 0 := by omega
            rfl
  | succ f ih =>
    intro k v hk hi lo
    cases k with
    | zero => have : v = 0 := by simpa using hi
              subst this; rw [dig_zero]; rfl
    | succ k =>
      have hlo : 256 ^ (k + 1) ≤ v * 256 := by
        rcases lo with h | h
        · cases h
        · exact h
      rw [Nat.pow_succ] at hi hlo
      have hp : 0 < 256 ^ k := Nat.pow_pos (by decide)
      rw [dig_succ f v (by omega), ih k (v / 256) (by omega) (by omega) ?_]
      · simp [dn]
      · cases k with
        | zero => exact .inl rfl
        | succ k =>
          right
          clear hi hp ih lo
          rw [Nat.pow_succ] at hlo ⊢
          generalize 256 ^ k = q at hlo ⊢
          have h1 : q * 256 ≤ v := Nat.le_of_mul_le_mul_right hlo (by decide)
          have h2 : q ≤ v / 256 := (Nat.le_div_iff_mul_le (by decide)).2 h1
          exact Nat.mul_le_mul_right _ h2
theorem dn_length (k : Nat) : ∀ v, (dn k v).length = k := by
  induction k with
  | zero => intro v; rfl
  | succ k ih => intro v; simp [dn, ih]
theorem enc_dn {k v : Nat} (h8 : k ≤ 8) (hv : ¬ v < 248) (hi : v < 256 ^ k) (lo : 256 ^ k ≤ v * 256) : enc v = ((247 + k) :: dn k v).map UInt8.ofNat := by
  rw [enc_big hv, dig_dn 8 k v h8 hi (.inr lo), List.length_map, dn_length, List.map_cons]

end Go.Proofs.YtiehhlolhhjgpaaGreatDoor.Pl

namespace Go.Proofs.YtiehhlolhhjgpaaGreatDoor.Pl

/-- What a reader of a text of at most m bytes answers. -/
def rdt (l : List UInt8) (m : Int) : List UInt8 × Nat × Nat :=
  if (rdn l).2.2 ≠ 0 then ([], 0, (rdn l).2.2)
  else if max m 0 < ((rdn l).1 : Int) then ([], 0, 5)
  else if l.length - (rdn l).2.1 < (rdn l).1 then ([], 0, 6)
  else ((l.drop (rdn l).2.1).take (rdn l).1, (rdn l).2.1 + (rdn l).1, 0)
/-- The encoding of a text. -/
def txt (t : List UInt8) : List UInt8 := enc t.length ++ t

theorem rdt_err {l : List UInt8} {m : Int} {v n e : Nat} (h : rdn l = (v, n, e)) (he : e ≠ 0) : rdt l m = ([], 0, e) := by simp [rdt, h, he]
theorem rdt_long {l : List UInt8} {m : Int} {v n : Nat} (h : rdn l = (v, n, 0)) (h1 : max m 0 < (v : Int)) : rdt l m = ([], 0, 5) := by
  unfold rdt; rw [h]; rw [if_neg (by simp), if_pos h1]
theorem rdt_end {l : List UInt8} {m : Int} {v n : Nat} (h : rdn l = (v, n, 0)) (h1 : ¬ max m 0 < (v : Int)) (h2 : l.length - n < v) : rdt l m = ([], 0, 6) := by
  unfold rdt; rw [h]; rw [if_neg (by simp), if_neg h1, if_pos h2]
theorem rdt_ok {l : List UInt8} {m : Int} {v n : Nat} (h : rdn l = (v, n, 0)) (h1 : ¬ max m 0 < (v : Int)) (h2 : ¬ l.length - n < v) : rdt l m = ((l.drop n).take v, n + v, 0) := by
  unfold rdt; rw [h]; rw [if_neg (by simp), if_neg h1, if_neg h2]

theorem rdt_txt {t : List UInt8} (ht : t.length < 256 ^ 8) (s : List UInt8) (m : Int) (hm : (t.length : Int) ≤ m) : rdt (txt t ++ s) m = (t, (txt t).length, 0) := by
  have h := rdn_enc ht (t ++ s)
  have e : txt t ++ s = enc t.length ++ (t ++ s) := by simp [txt]
  rw [e, rdt_ok h (by omega) (by simp)]
  simp [txt]
theorem rdt_sound {l t : List UInt8} {m : Int} {n : Nat} (h : rdt l m = (t, n, 0)) : 1 ≤ n ∧ n ≤ l.length ∧ (t.length : Int) ≤ max m 0 ∧ txt t = l.take n := by
  have ⟨v, k, e, hr⟩ : ∃ v k e, rdn l = (v, k, e) := ⟨_, _, _, rfl⟩
  by_cases he : e = 0
  · subst he
    obtain ⟨k1, k2, k3, k4⟩ := rdn_sound hr
    by_cases h1 : max m 0 < (v : Int)
    · rw [rdt_long hr h1] at h; simp at h
    · by_cases h2 : l.length - k < v
      · rw [rdt_end hr h1 h2] at h; simp at h
      · rw [rdt_ok hr h1 h2] at h
        simp only [Prod.mk.injEq, and_true] at h
        obtain ⟨rfl, rfl⟩ := h
        have hl : ((l.drop k).take v).length = v := by simp; omega
        refine ⟨by omega, by omega, by rw [hl]; omega, ?_⟩
        rw [txt, hl, k3, List.take_add]
  · rw [rdt_err hr he] at h
    simp at h
    omega
theorem txt_len (t : List UInt8) : (txt t).length = (enc t.length).length + t.length := by simp [txt]
end Go.Proofs.YtiehhlolhhjgpaaGreatDoor.Pl

namespace Go.Proofs.YtiehhlolhhjgpaaGreatDoor.Pl

def nameB (b : UInt8) : Bool := decide ((97 ≤ b.toNat ∧ b.toNat ≤ 122) ∨ (48 ≤ b.toNat ∧ b.toNat ≤ 57) ∨ b.toNat = 47 ∨ b.toNat = 46 ∨ b.toNat = 45)
def nameOK (s : List UInt8) : Bool := !s.isEmpty && s.all nameB
/-- The bytes ahead of a term's parts, how many parts, what is wrong. -/
def headP : List UInt8 → Nat × Nat × Nat
  | [] => (0, 0, 6)
  | b :: r =>
    if b = 100 then (1 + (rdt r 1024).2.1, 0, (rdt r 1024).2.2)
    else if b = 97 then (if (rdt r 32).2.2 = 0 ∧ nameOK (rdt r 32).1 = false then (0, 0, 7) else (1 + (rdt r 32).2.1, 0, (rdt r 32).2.2))
    else if b = 114 then (if (rdn r).2.2 = 0 ∧ 32 < (rdn r).1 then (0, 0, 5) else (1 + (rdn r).2.1, (rdn r).1, (rdn r).2.2))
    else if b = 104 then (1, 1, 0) else if b = 109 then (1, 2, 0) else if b = 115 then (1, 3, 0) else (0, 0, 7)
/-- Of so many terms, one behind the other. -/
def loopP (rd : List UInt8 → Nat × Nat) : Nat → List UInt8 → Nat × Nat
  | 0, _ => (0, 0)
  | k + 1, s => if (rd s).2 = 0 then (if (loopP rd k (s.drop (rd s).1)).2 = 0 then ((rd s).1 + (loopP rd k (s.drop (rd s).1)).1, 0) else (0, (loopP rd k (s.drop (rd s).1)).2)) else (0, (rd s).2)
/-- The term at the front that is no deeper than d. -/
def readP : Nat → List UInt8 → Nat × Nat
  | 0, _ => (0, 60)
  | d + 1, s => if (headP s).2.2 = 0 then (if (loopP (readP d) (headP s).2.1 (s.drop (headP s).1)).2 = 0 then ((headP s).1 + (loopP (readP d) (headP s).2.1 (s.drop (headP s).1)).1, 0) else (0, (loopP (readP d) (headP s).2.1 (s.drop (headP s).1)).2)) else (0, (headP s).2.2)
def frontP (s : List UInt8) : Nat × Nat := if (readP 16 s).2 = 0 then (if 16384 < (readP 16 s).1 then (0, 5) else readP 16 s) else (0, (readP 16 s).2)
def checkP (t : List UInt8) : Nat := if (frontP t).2 = 0 then (if (frontP t).1 = t.length then 0 else 7) else (frontP t).2

/-- Bytes that are a term's head, of so many parts, whatever stands behind them. -/
def HeadOK (h : List UInt8) (p : Nat) : Prop := ∀ rest, headP (h ++ rest) = (h.length, p, 0)
theorem HeadOK.pos {h : List UInt8} {p : Nat} (k : HeadOK h p) : h ≠ [] := by
  rintro rfl
  have := k []
  simp [headP] at this
theorem HeadOK.same {h h' r r' : List UInt8} {p p' : Nat} (k : HeadOK h p) (k' : HeadOK h' p') (e : h ++ r = h' ++ r') : h = h' ∧ p = p' ∧ r = r' := by
  have e1 := k r
  rw [e, k' r'] at e1
  have hl : h'.length = h.length := congrArg Prod.fst e1
  have hp : p' = p := congrArg (·.2.1) e1
  have hh := List.append_inj e hl.symm
  exact ⟨hh.1, hp.symm, hh.2⟩
theorem head_front {s : List UInt8} {n p : Nat} (h : headP s = (n, p, 0)) : n ≤ s.length ∧ HeadOK (s.take n) p := by
  cases s with
  | nil => simp [headP] at h
  | cons b r =>
    simp only [headP] at h
    split at h
    · rename_i hb
      subst hb
      obtain ⟨t, k, e, hr⟩ : ∃ t k e, rdt r 1024 = (t, k, e) := ⟨_, _, _, rfl⟩
      rw [hr] at h
      simp only [Prod.mk.injEq] at h
      obtain ⟨rfl, rfl, rfl⟩ := h
      obtain ⟨h1, h2, h3, h4⟩ := rdt_sound hr
      refine ⟨by simp; omega, fun rest => ?_⟩
      have e1 : (100 :: r).take (1 + k) = 100 :: txt t := by rw [h4, Nat.add_comm, List.take_succ_cons]
      have hk : (txt t).length = k := by rw [h4, List.length_take]; omega
      rw [e1, List.cons_append, headP, if_pos rfl, rdt_txt (by rw [two64]; omega) rest 1024 (by omega)]
      simp [Nat.add_comm]
    · split at h
      · rename_i hb0 hb
        subst hb
        obtain ⟨t, k, e, hr⟩ : ∃ t k e, rdt r 32 = (t, k, e) := ⟨_, _, _, rfl⟩
        rw [hr] at h
        split at h
        · simp at h
        · rename_i hno
          simp only [Prod.mk.injEq] at h
          obtain ⟨rfl, rfl, rfl⟩ := h
          obtain ⟨h1, h2, h3, h4⟩ := rdt_sound hr
          refine ⟨by simp; omega, fun rest => ?_⟩
          have e1 : (97 :: r).take (1 + k) = 97 :: txt t := by rw [h4, Nat.add_comm, List.take_succ_cons]
          have hk : (txt t).length = k := by rw [h4, List.length_take]; omega
          rw [e1, List.cons_append, headP, if_neg (by decide), if_pos rfl, rdt_txt (by rw [two64]; omega) rest 32 (by omega), if_neg hno]
          simp [Nat.add_comm]
      · split at h
        · rename_i hb0 hb1 hb
          subst hb
          obtain ⟨v, k, e, hr⟩ : ∃ v k e, rdn r = (v, k, e) := ⟨_, _, _, rfl⟩
          rw [hr] at h
          split at h
          · simp at h
          · rename_i hno
            simp only [Prod.mk.injEq] at h
            obtain ⟨rfl, rfl, rfl⟩ := h
            obtain ⟨h1, h2, h3, h4⟩ := rdn_sound hr
            refine ⟨by simp; omega, fun rest => ?_⟩
            have e1 : (114 :: r).take (1 + k) = 114 :: enc v := by rw [h3, Nat.add_comm, List.take_succ_cons]
            have hk : (enc v).length = k := by rw [h3, List.length_take]; omega
            rw [e1, List.cons_append, headP, if_neg (by decide), if_neg (by decide), if_pos rfl, rdn_enc h4 rest]
            rw [if_neg (by simpa using hno)]
            simp [Nat.add_comm]
        · split at h
          · rename_i hb
            subst hb
            simp only [Prod.mk.injEq] at h
            obtain ⟨rfl, rfl, _⟩ := h
            refine ⟨by simp, fun rest => ?_⟩
            rfl
          · split at h
            · rename_i hb
              subst hb
              simp only [Prod.mk.injEq] at h
              obtain ⟨rfl, rfl, _⟩ := h
              exact ⟨by simp, fun rest => rfl⟩
            · split at h
              · rename_i hb
                subst hb
                simp only [Prod.mk.injEq] at h
                obtain ⟨rfl, rfl, _⟩ := h
                exact ⟨by simp, fun rest => rfl⟩
              · simp at h

/-- A term: its head, its parts. -/
inductive Tm where
  | node (h : List UInt8) (l : List Tm) : Tm

mutual
def Tm.enc : Tm → List UInt8
  | .node h l => h ++ encs l
def encs : List Tm → List UInt8
  | [] => []
  | t :: l => t.enc ++ encs l
end
mutual
def Tm.deep : Tm → Nat
  | .node _ l => deeps l + 1
def deeps : List Tm → Nat
  | [] => 0
  | t :: l => max t.deep (deeps l)
end
mutual
def Tm.good : Tm → Prop
  | .node h l => HeadOK h l.length ∧ goods l
def goods : List Tm → Prop
  | [] => True
  | t :: l => t.good ∧ goods l
end
mutual
def Tm.places : Tm → List Tm
  | .node h l => .node h l :: placess l
def placess : List Tm → List Tm
  | [] => []
  | t :: l => t.places ++ placess l
end
theorem Tm.ind {P : Tm → Prop} (step : ∀ h l, (∀ t ∈ l, P t) → P (.node h l)) : ∀ t, P t := by
  intro t
  refine Tm.rec (motive_1 := P) (motive_2 := fun l => ∀ t ∈ l, P t) ?_ ?_ ?_ t
  · intro h l ih; exact step h l ih
  · intro t ht; cases ht
  · intro t l h1 h2 u hu
    rcases List.mem_cons.1 hu with rfl | hu
    · exact h1
    · exact h2 u hu
theorem goods_mem {l : List Tm} (h : goods l) : ∀ t ∈ l, t.good := by
  induction l with
  | nil => intro t ht; cases ht
  | cons u l ih =>
    intro t ht
    rcases List.mem_cons.1 ht with rfl | ht
    · exact h.1
    · exact ih h.2 t ht
theorem goods_of {l : List Tm} (h : ∀ t ∈ l, t.good) : goods l := by
  induction l with
  | nil => trivial
  | cons u l ih => exact ⟨h u (List.mem_cons_self ..), ih (fun t ht => h t (List.mem_cons_of_mem _ ht))⟩
theorem deeps_mem {l : List Tm} {t : Tm} (h : t ∈ l) : t.deep ≤ deeps l := by
  induction l with
  | nil => cases h
  | cons u l ih =>
    simp only [deeps]
    rcases List.mem_cons.1 h with rfl | h
    · omega
    · have := ih h; omega
theorem deeps_le {l : List Tm} {d : Nat} (h : ∀ t ∈ l, t.deep ≤ d) : deeps l ≤ d := by
  induction l with
  | nil => simp [deeps]
  | cons u l ih =>
    simp only [deeps]
    have := h u (List.mem_cons_self ..)
    have := ih (fun t ht => h t (List.mem_cons_of_mem _ ht))
    omega
theorem encs_flat (l : List Tm) : encs l = (l.map Tm.enc).flatten := by
  induction l with
  | nil => rfl
  | cons t l ih => simp [encs, ih]
theorem Tm.enc_node (h : List UInt8) (l : List Tm) : (Tm.node h l).enc = h ++ encs l := by simp [Tm.enc]

/-- What is a term's bytes is read, whatever stands behind it. -/
theorem read_enc : ∀ t : Tm, t.good → ∀ d, t.deep ≤ d → ∀ rest, readP d (t.enc ++ rest) = (t.enc.length, 0) := by
  refine Tm.ind ?_
  intro h l ih hg d hd rest
  simp only [Tm.good] at hg
  simp only [Tm.deep] at hd
  obtain ⟨d, rfl⟩ : ∃ e, d = e + 1 := ⟨d - 1, by omega⟩
  have loop : ∀ m : List Tm, (∀ t ∈ m, t ∈ l) → ∀ rest, loopP (readP d) m.length (encs m ++ rest) = ((encs m).length, 0) := by
    intro m
    induction m with
    | nil => intro _ rest; rfl
    | cons t m ihm =>
      intro hm rest
      have ht := hm t (List.mem_cons_self ..)
      have h1 := ih t ht (goods_mem hg.2 t ht) d (by have := deeps_mem ht; omega) (encs m ++ rest)
      have h2 := ihm (fun u hu => hm u (List.mem_cons_of_mem _ hu)) rest
      simp only [encs, List.length_cons, List.append_assoc]
      rw [loopP, h1]
      simp only [if_true, List.drop_left, h2, List.length_append]
  simp only [Tm.enc, List.append_assoc]
  rw [readP, hg.1]
  simp only [if_true, List.drop_left]
  rw [loop l (fun _ h => h) rest]
  simp

/-- What is read is a term's bytes. -/
theorem read_sound : ∀ (d : Nat) (s : List UInt8) (n : Nat), readP d s = (n, 0) → ∃ t : Tm, t.good ∧ t.deep ≤ d ∧ n = t.enc.length ∧ s = t.enc ++ s.drop n := by
  intro d
  induction d with
  | zero => intro s n h; simp [readP] at h
  | succ d ih =>
    intro s n h
    have loop : ∀ (k : Nat) (s : List UInt8) (n : Nat), loopP (readP d) k s = (n, 0) → ∃ l : List Tm, goods l ∧ l.length = k ∧ deeps l ≤ d ∧ n = (encs l).length ∧ s = encs l ++ s.drop n := by
      intro k
      induction k with
      | zero =>
        intro s n h
        simp only [loopP, Prod.mk.injEq] at h
        obtain ⟨rfl, _⟩ := h
        exact ⟨[], trivial, rfl, Nat.zero_le _, rfl, rfl⟩
      | succ k ihk =>
        intro s n h
        rw [loopP] at h
        split at h
        · rename_i h0
          split at h
          · rename_i h1
            simp only [Prod.mk.injEq, and_true] at h
            obtain ⟨t, g1, g2, g3, g4⟩ := ih s (readP d s).1 (Prod.ext rfl h0)
            obtain ⟨l, k1, k2, k3, k4, k5⟩ := ihk (s.drop (readP d s).1) (loopP (readP d) k (s.drop (readP d s).1)).1 (Prod.ext rfl h1)
            refine ⟨t :: l, ⟨g1, k1⟩, by simp [k2], by simp only [deeps]; omega, ?_, ?_⟩
            · simp only [encs, List.length_append]
              rw [← h, k4, g3]
            · simp only [encs, List.append_assoc]
              rw [← h, ← List.drop_drop, ← k5]; exact g4
          · rename_i h1
            simp only [Prod.mk.injEq] at h
            exact absurd h.2 h1
        · rename_i h0
          simp only [Prod.mk.injEq] at h
          exact absurd h.2 h0
    rw [readP] at h
    split at h
    · rename_i h0
      split at h
      · rename_i h1
        simp only [Prod.mk.injEq, and_true] at h
        obtain ⟨hn, hok⟩ := head_front (s := s) (n := (headP s).1) (p := (headP s).2.1) (by rw [← h0])
        obtain ⟨l, k1, k2, k3, k4, k5⟩ := loop (headP s).2.1 (s.drop (headP s).1) (loopP (readP d) (headP s).2.1 (s.drop (headP s).1)).1 (Prod.ext rfl h1)
        refine ⟨.node (s.take (headP s).1) l, ?_, ?_, ?_, ?_⟩
        · simp only [Tm.good]; exact ⟨by rw [k2]; exact hok, k1⟩
        · simp only [Tm.deep]; omega
        · simp only [Tm.enc, List.length_append, List.length_take]
          rw [← h, k4, Nat.min_eq_left hn]
        · simp only [Tm.enc, List.append_assoc]
          rw [← h, ← List.drop_drop, ← k5, List.take_append_drop]
      · rename_i h1
        simp only [Prod.mk.injEq] at h
        exact absurd h.2 h1
    · rename_i h0
      simp only [Prod.mk.injEq] at h
      exact absurd h.2 h0

/-- No term's bytes begin with another one's. -/
theorem enc_front : ∀ t : Tm, t.good → ∀ u : Tm, u.good → ∀ r r', t.enc ++ r = u.enc ++ r' → t = u ∧ r = r' := by
  refine Tm.ind ?_
  intro h l ih hg u hu r r' e
  obtain ⟨h', l'⟩ := u
  simp only [Tm.good] at hg hu
  simp only [Tm.enc, List.append_assoc] at e
  obtain ⟨rfl, hp, e⟩ := hg.1.same hu.1 e
  have loop : ∀ m m' : List Tm, (∀ t ∈ m, t ∈ l) → goods m' → m.length = m'.length → ∀ r r', encs m ++ r = encs m' ++ r' → m = m' ∧ r = r' := by
    intro m
    induction m with
    | nil =>
      intro m' _ _ hl r r' e
      cases m' with
      | nil => exact ⟨rfl, e⟩
      | cons => simp at hl
    | cons t m ihm =>
      intro m' hm hg' hl r r' e
      cases m' with
      | nil => simp at hl
      | cons t' m' =>
        simp only [encs, List.append_assoc] at e
        have ht := hm t (List.mem_cons_self ..)
        obtain ⟨rfl, e2⟩ := ih t ht (goods_mem hg.2 t ht) t' hg'.1 _ _ e
        obtain ⟨rfl, e3⟩ := ihm m' (fun u hu => hm u (List.mem_cons_of_mem _ hu)) hg'.2 (by simpa using hl) _ _ e2
        exact ⟨rfl, e3⟩
  obtain ⟨rfl, e4⟩ := loop l l' (fun _ h => h) hu.2 hp _ _ e
  exact ⟨rfl, e4⟩
theorem enc_tm_inj {t u : Tm} (ht : t.good) (hu : u.good) (e : t.enc = u.enc) : t = u := (enc_front t ht u hu [] [] (by simpa using e)).1
/-- A term that is too deep is not read. -/
theorem read_deep {t : Tm} (ht : t.good) {d : Nat} (hd : d < t.deep) (rest : List UInt8) : (readP d (t.enc ++ rest)).2 ≠ 0 := by
  intro h0
  obtain ⟨u, g1, g2, g3, g4⟩ := read_sound d (t.enc ++ rest) (readP d (t.enc ++ rest)).1 (Prod.ext rfl h0)
  obtain ⟨rfl, _⟩ := enc_front t ht u g1 _ _ g4
  omega

/-- A valid term. -/
def Tm.valid (t : Tm) : Prop := t.good ∧ t.deep ≤ 16 ∧ t.enc.length ≤ 16384
theorem front_enc {t : Tm} (h : t.valid) (rest : List UInt8) : frontP (t.enc ++ rest) = (t.enc.length, 0) := by
  have e := read_enc t h.1 16 h.2.1 rest
  unfold frontP
  rw [e, if_pos rfl, if_neg (by have := h.2.2; simp only; omega)]
theorem front_sound {s : List UInt8} {n : Nat} (h : frontP s = (n, 0)) : ∃ t : Tm, t.valid ∧ n = t.enc.length ∧ s = t.enc ++ s.drop n := by
  unfold frontP at h
  split at h
  · rename_i h0
    split at h
    · simp at h
    · rename_i h1
      obtain ⟨t, g1, g2, g3, g4⟩ := read_sound 16 s n h
      rw [h] at h1
      exact ⟨t, ⟨g1, g2, by simp only at h1; omega⟩, g3, g4⟩
  · rename_i h0
    simp only [Prod.mk.injEq] at h
    exact absurd h.2 h0
theorem check_enc {t : Tm} (h : t.valid) : checkP t.enc = 0 := by
  have e := front_enc h []
  rw [List.append_nil] at e
  unfold checkP
  rw [e]; simp
theorem check_iff {s : List UInt8} : checkP s = 0 ↔ ∃ t : Tm, t.valid ∧ t.enc = s := by
  constructor
  · intro h
    unfold checkP at h
    split at h
    · rename_i h0
      split at h
      · rename_i h1
        obtain ⟨t, g1, g2, g3⟩ := front_sound (s := s) (n := (frontP s).1) (Prod.ext rfl h0)
        refine ⟨t, g1, ?_⟩
        rw [h1] at g3
        simpa using g3.symm
      · exact absurd h (by decide)
    · rename_i h0
      exact absurd h h0
  · rintro ⟨t, h, rfl⟩
    exact check_enc h
/-- A valid term's bytes, and more: read as that term; cut: as none. -/
theorem check_more {t : Tm} (h : t.valid) (more : List UInt8) : checkP (t.enc ++ more) = 0 ↔ more = [] := by
  rw [check_iff]
  constructor
  · rintro ⟨u, hu, e⟩
    have := enc_front u hu.1 t h.1 [] more (by simpa using e)
    exact this.2.symm
  · rintro rfl
    exact ⟨t, h, by simp⟩
theorem check_cut {t : Tm} (h : t.valid) {k : Nat} (hk : k < t.enc.length) : checkP (t.enc.take k) ≠ 0 := by
  rw [Ne, check_iff]
  rintro ⟨u, hu, e⟩
  have e2 : u.enc ++ t.enc.drop k = t.enc ++ [] := by rw [e, List.take_append_drop, List.append_nil]
  obtain ⟨rfl, e3⟩ := enc_front u hu.1 t h.1 _ _ e2
  have := congrArg List.length e3
  simp at this
  omega
end Go.Proofs.YtiehhlolhhjgpaaGreatDoor.Pl

namespace Go.Proofs.YtiehhlolhhjgpaaGreatDoor.Pl

mutual
def Tm.swap : Tm → List UInt8 → Tm → Tm
  | .node h l, f, u => if h ++ encs l = f then u else .node h (swaps l f u)
def swaps : List Tm → List UInt8 → Tm → List Tm
  | [], _, _ => []
  | t :: l, f, u => t.swap f u :: swaps l f u
end
theorem swaps_map (l : List Tm) (f : List UInt8) (u : Tm) : swaps l f u = l.map fun t => t.swap f u := by
  induction l with
  | nil => simp [swaps]
  | cons t l ih => simp [swaps, ih]
theorem Tm.swap_node (h : List UInt8) (l : List Tm) (f : List UInt8) (u : Tm) : (Tm.node h l).swap f u = if (Tm.node h l).enc = f then u else .node h (l.map fun t => t.swap f u) := by
  by_cases e : (Tm.node h l).enc = f
  · rw [if_pos e, Tm.swap, if_pos (by rw [← Tm.enc_node]; exact e)]
  · rw [if_neg e, Tm.swap, if_neg (by rw [← Tm.enc_node]; exact e), swaps_map]
theorem placess_flat (l : List Tm) : placess l = l.flatMap Tm.places := by
  induction l with
  | nil => simp [placess]
  | cons t l ih => simp [placess, ih]
/-- Does a term with these bytes stand in t? -/
def Has (t : Tm) (f : List UInt8) : Prop := ∃ p ∈ t.places, p.enc = f
theorem has_node {h : List UInt8} {l : List Tm} {f : List UInt8} : Has (.node h l) f ↔ (Tm.node h l).enc = f ∨ ∃ p ∈ l, Has p f := by
  unfold Has
  simp only [Tm.places, placess_flat, List.mem_cons, List.mem_flatMap]
  constructor
  · rintro ⟨p, rfl | ⟨q, hq, hp⟩, e⟩
    · exact .inl e
    · exact .inr ⟨q, hq, p, hp, e⟩
  · rintro (e | ⟨q, hq, p, hp, e⟩)
    · exact ⟨_, .inl rfl, e⟩
    · exact ⟨p, .inr ⟨q, hq, hp⟩, e⟩
theorem has_self (t : Tm) : Has t t.enc := by obtain ⟨h, l⟩ := t; exact has_node.2 (.inl rfl)
theorem enc_mem {l : List Tm} {t : Tm} (h : t ∈ l) : t.enc.length ≤ (encs l).length := by
  induction l with
  | nil => cases h
  | cons u l ih =>
    simp only [encs, List.length_append]
    rcases List.mem_cons.1 h with rfl | h
    · omega
    · have := ih h; omega
theorem places_good : ∀ t : Tm, t.good → ∀ p ∈ t.places, p.good := by
  refine Tm.ind ?_
  intro h l ih hg p hp
  simp only [Tm.places, placess_flat, List.mem_cons, List.mem_flatMap] at hp
  rcases hp with rfl | ⟨q, hq, hp⟩
  · exact hg
  · simp only [Tm.good] at hg
    exact ih q hq (goods_mem hg.2 q hq) p hp
theorem places_deep : ∀ t : Tm, ∀ p ∈ t.places, p.deep ≤ t.deep := by
  refine Tm.ind ?_
  intro h l ih p hp
  simp only [Tm.places, placess_flat, List.mem_cons, List.mem_flatMap] at hp
  rcases hp with rfl | ⟨q, hq, hp⟩
  · exact Nat.le_refl _
  · have := ih q hq p hp
    have := deeps_mem hq
    simp only [Tm.deep]; omega
theorem places_len : ∀ t : Tm, ∀ p ∈ t.places, p.enc.length ≤ t.enc.length := by
  refine Tm.ind ?_
  intro h l ih p hp
  simp only [Tm.places, placess_flat, List.mem_cons, List.mem_flatMap] at hp
  rcases hp with rfl | ⟨q, hq, hp⟩
  · exact Nat.le_refl _
  · have := ih q hq p hp
    have := enc_mem hq
    simp only [Tm.enc, List.length_append]; omega
theorem places_valid {t : Tm} (h : t.valid) {p : Tm} (hp : p ∈ t.places) : p.valid :=
  ⟨places_good t h.1 p hp, Nat.le_trans (places_deep t p hp) h.2.1, Nat.le_trans (places_len t p hp) h.2.2⟩
theorem has_len {t : Tm} {f : List UInt8} (h : Has t f) : f.length ≤ t.enc.length := by
  obtain ⟨p, hp, rfl⟩ := h
  exact places_len t p hp
theorem head_len {h : List UInt8} {l : List Tm} (hg : (Tm.node h l).good) {p : Tm} (hp : p ∈ l) : p.enc.length < (Tm.node h l).enc.length := by
  simp only [Tm.good] at hg
  have h1 := List.length_pos_iff.2 hg.1.pos
  have h2 := enc_mem hp
  simp only [Tm.enc, List.length_append]; omega
theorem places_trans : ∀ t : Tm, ∀ p ∈ t.places, ∀ q ∈ p.places, q ∈ t.places := by
  refine Tm.ind ?_
  intro h l ih p hp q hq
  have hp' := hp
  simp only [Tm.places, placess_flat, List.mem_cons, List.mem_flatMap] at hp
  rcases hp with rfl | ⟨r, hr, hp⟩
  · exact hq
  · simp only [Tm.places, placess_flat, List.mem_cons, List.mem_flatMap]
    exact .inr ⟨r, hr, ih r hr p hp q hq⟩
theorem has_trans {t p : Tm} {f : List UInt8} (h : Has t p.enc) (ht : t.good) (hp : p.good) (k : Has p f) : Has t f := by
  obtain ⟨q, hq, e⟩ := h
  obtain rfl := enc_tm_inj (places_good t ht q hq) hp e
  obtain ⟨r, hr, e⟩ := k
  exact ⟨r, places_trans t q hq r hr, e⟩

theorem swap_good : ∀ t : Tm, t.good → ∀ (f : List UInt8) (u : Tm), u.good → (t.swap f u).good := by
  refine Tm.ind ?_
  intro h l ih hg f u hu
  rw [Tm.swap_node]
  split
  · exact hu
  · simp only [Tm.good] at hg ⊢
    refine ⟨by rw [List.length_map]; exact hg.1, goods_of ?_⟩
    intro t ht
    obtain ⟨q, hq, rfl⟩ := List.mem_map.1 ht
    exact ih q hq (goods_mem hg.2 q hq) f u hu
theorem swap_none : ∀ t : Tm, ∀ (f : List UInt8) (u : Tm), ¬ Has t f → t.swap f u = t := by
  refine Tm.ind ?_
  intro h l ih f u hn
  rw [has_node] at hn
  rw [Tm.swap_node, if_neg (fun e => hn (.inl e))]
  have : (l.map fun t => t.swap f u) = l := by
    conv => rhs; rw [← List.map_id l]
    exact List.map_congr_left fun t ht => ih t ht f u (fun hh => hn (.inr ⟨t, ht, hh⟩))
  rw [this]
theorem has_swap : ∀ t : Tm, ∀ (f : List UInt8) (u : Tm), Has t f → Has (t.swap f u) u.enc := by
  refine Tm.ind ?_
  intro h l ih f u hh
  rw [Tm.swap_node]
  split
  · exact has_self u
  · rename_i hne
    rcases has_node.1 hh with e | ⟨p, hp, hh⟩
    · exact absurd e hne
    · exact has_node.2 (.inr ⟨p.swap f u, List.mem_map.2 ⟨p, hp, rfl⟩, ih p hp f u hh⟩)
theorem swap_at {u F : Tm} : u.swap u.enc F = F := by
  obtain ⟨h, l⟩ := u
  rw [Tm.swap_node, if_pos rfl]
/-- A term in which something was swapped for u has not u's bytes itself, unless it was swapped whole, or u stood there. -/
theorem swap_not {h : List UInt8} {l : List Tm} {f : List UInt8} {u : Tm} (hg : (Tm.node h l).good) (hu : u.good) (hne : (Tm.node h l).enc ≠ f) (hn : ¬ Has (.node h l) u.enc) : (Tm.node h (l.map fun t => t.swap f u)).enc ≠ u.enc := by
  intro e
  have e2 : (Tm.node h l).swap f u = Tm.node h (l.map fun t => t.swap f u) := by rw [Tm.swap_node, if_neg hne]
  have hg2 := swap_good _ hg f u hu
  rw [e2] at hg2
  by_cases hh : Has (.node h l) f
  · rcases has_node.1 hh with e3 | ⟨p, hp, hp2⟩
    · exact hne e3
    · have h1 := has_len (has_swap p f u hp2)
      have h2 := head_len hg2 (List.mem_map.2 ⟨p, hp, rfl⟩)
      rw [e] at h2
      omega
  · have e3 := swap_none _ f u hh
    rw [e2] at e3
    rw [e3] at e
    exact hn (by rw [← e]; exact has_self _)
/-- Swapped, and back. -/
theorem swap_back : ∀ t : Tm, t.good → ∀ F u : Tm, F.good → u.good → ¬ Has t u.enc → (t.swap F.enc u).swap u.enc F = t := by
  refine Tm.ind ?_
  intro h l ih hg F u hF hu hn
  rw [Tm.swap_node]
  split
  · rename_i e
    rw [swap_at]
    exact (enc_tm_inj hg hF e).symm
  · rename_i hne
    rw [Tm.swap_node, if_neg (swap_not hg hu hne hn), List.map_map]
    have : (l.map ((fun t => t.swap u.enc F) ∘ fun t => t.swap F.enc u)) = l := by
      conv => rhs; rw [← List.map_id l]
      refine List.map_congr_left fun t ht => ?_
      simp only [Tm.good] at hg
      exact ih t ht (goods_mem hg.2 t ht) F u hF hu (fun hh => hn (has_node.2 (.inr ⟨t, ht, hh⟩)))
    rw [this]
/-- What was swapped stands there no more, unless what came has it. -/
theorem swap_gone : ∀ t : Tm, t.good → ∀ F u : Tm, F.good → u.good → ¬ Has t u.enc → ¬ Has u F.enc → ¬ Has (t.swap F.enc u) F.enc := by
  refine Tm.ind ?_
  intro h l ih hg F u hF hu hn hnu
  rw [Tm.swap_node]
  split
  · exact hnu
  · rename_i hne
    intro hh
    have hg' := hg
    simp only [Tm.good] at hg'
    rcases has_node.1 hh with e | ⟨p, hp, hp2⟩
    · have e2 : (Tm.node h l).swap F.enc u = Tm.node h (l.map fun t => t.swap F.enc u) := by rw [Tm.swap_node, if_neg hne]
      have hg2 := swap_good _ hg F.enc u hu
      rw [e2] at hg2
      by_cases h0 : Has (.node h l) F.enc
      · have h1 := has_swap _ F.enc u h0
        rw [e2] at h1
        have h3 := enc_tm_inj hg2 hF e
        rw [h3] at h1
        exact hn (has_trans h0 hg hF h1)
      · have e3 := swap_none _ F.enc u h0
        rw [e2] at e3
        rw [e3] at e
        exact hne e
    · obtain ⟨q, hq, rfl⟩ := List.mem_map.1 hp
      exact ih q hq (goods_mem hg'.2 q hq) F u hF hu (fun hh => hn (has_node.2 (.inr ⟨q, hq, hh⟩))) hnu hp2
/-- A term that stood there besides stands there still, where what was swapped came in for it. -/
theorem has_swap' {t : Tm} {f : List UInt8} {u : Tm} (h : Has t f) : Has (t.swap f u) u.enc := has_swap t f u h
end Go.Proofs.YtiehhlolhhjgpaaGreatDoor.Pl

namespace Go.Proofs.YtiehhlolhhjgpaaGreatDoor.Pl

theorem encs_front {m m' : List Tm} (hg : goods m) (hg' : goods m') (hl : m.length = m'.length) {r r' : List UInt8} (e : encs m ++ r = encs m' ++ r') : m = m' ∧ r = r' := by
  induction m generalizing m' with
  | nil =>
    cases m' with
    | nil => exact ⟨rfl, e⟩
    | cons => simp at hl
  | cons t m ih =>
    cases m' with
    | nil => simp at hl
    | cons t' m' =>
      simp only [encs, List.append_assoc] at e
      obtain ⟨rfl, e2⟩ := enc_front t hg.1 t' hg'.1 _ _ e
      obtain ⟨rfl, e3⟩ := ih hg.2 hg'.2 (by simpa using hl) e2
      exact ⟨rfl, e3⟩
/-- Which heads there are. -/
inductive Kd (h : List UInt8) (p : Nat) : Nat → Prop where
  | data (t : List UInt8) : h = 100 :: txt t → t.length ≤ 1024 → p = 0 → Kd h p 1
  | atom (t : List UInt8) : h = 97 :: txt t → t.length ≤ 32 → nameOK t = true → p = 0 → Kd h p 2
  | row (v : Nat) : h = 114 :: enc v → v ≤ 32 → p = v → Kd h p 3
  | hash : h = [104] → p = 1 → Kd h p 4
  | mac : h = [109] → p = 2 → Kd h p 5
  | seal_ : h = [115] → p = 3 → Kd h p 6
theorem head_kind {h : List UInt8} {p : Nat} (k : HeadOK h p) : ∃ c, Kd h p c := by
  have e := k []
  rw [List.append_nil] at e
  cases h with
  | nil => exact absurd rfl k.pos
  | cons b r =>
    simp only [headP] at e
    split at e
    · rename_i hb
      subst hb
      obtain ⟨t, n, f, hr⟩ : ∃ t n f, rdt r 1024 = (t, n, f) := ⟨_, _, _, rfl⟩
      rw [hr] at e
      simp only [Prod.mk.injEq, List.length_cons] at e
      obtain ⟨e1, rfl, rfl⟩ := e
      obtain ⟨h1, h2, h3, h4⟩ := rdt_sound hr
      refine ⟨1, .data t ?_ (by omega) rfl⟩
      rw [h4, List.take_of_length_le (by omega)]
    · split at e
      · rename_i hb
        subst hb
        obtain ⟨t, n, f, hr⟩ : ∃ t n f, rdt r 32 = (t, n, f) := ⟨_, _, _, rfl⟩
        rw [hr] at e
        split at e
        · simp at e
        · rename_i hno
          simp only [Prod.mk.injEq, List.length_cons] at e
          obtain ⟨e1, rfl, rfl⟩ := e
          obtain ⟨h1, h2, h3, h4⟩ := rdt_sound hr
          refine ⟨2, .atom t ?_ (by omega) ?_ rfl⟩
          · rw [h4, List.take_of_length_le (by omega)]
          · cases hn : nameOK t with
            | true => rfl
            | false => exact absurd ⟨rfl, hn⟩ hno
      · split at e
        · rename_i hb
          subst hb
          obtain ⟨v, n, f, hr⟩ : ∃ v n f, rdn r = (v, n, f) := ⟨_, _, _, rfl⟩
          rw [hr] at e
          split at e
          · simp at e
          · rename_i hno
            simp only [Prod.mk.injEq, List.length_cons] at e
            obtain ⟨e1, rfl, rfl⟩ := e
            obtain ⟨h1, h2, h3, h4⟩ := rdn_sound hr
            refine ⟨3, .row v ?_ (by simpa using hno) rfl⟩
            rw [h3, List.take_of_length_le (by omega)]
        · split at e
          · rename_i hb
            subst hb
            simp only [Prod.mk.injEq, List.length_cons] at e
            obtain ⟨e1, rfl, _⟩ := e
            exact ⟨4, .hash (by rw [List.length_eq_zero_iff.1 (show r.length = 0 by omega)]) rfl⟩
          · split at e
            · rename_i hb
              subst hb
              simp only [Prod.mk.injEq, List.length_cons] at e
              obtain ⟨e1, rfl, _⟩ := e
              exact ⟨5, .mac (by rw [List.length_eq_zero_iff.1 (show r.length = 0 by omega)]) rfl⟩
            · split at e
              · rename_i hb
                subst hb
                simp only [Prod.mk.injEq, List.length_cons] at e
                obtain ⟨e1, rfl, _⟩ := e
                exact ⟨6, .seal_ (by rw [List.length_eq_zero_iff.1 (show r.length = 0 by omega)]) rfl⟩
              · simp at e
theorem row_head {v : Nat} (h : v ≤ 32) : HeadOK (114 :: enc v) v := by
  intro rest
  rw [List.cons_append, headP, if_neg (by decide), if_neg (by decide), if_pos rfl, rdn_enc (by rw [two64]; omega) rest, if_neg (by simp only; omega)]
  simp [Nat.add_comm]
theorem data_head {t : List UInt8} (h : t.length ≤ 1024) : HeadOK (100 :: txt t) 0 := by
  intro rest
  rw [List.cons_append, headP, if_pos rfl, rdt_txt (by rw [two64]; omega) rest 1024 (by omega)]
  simp [Nat.add_comm]
theorem atom_head {t : List UInt8} (h : t.length ≤ 32) (hn : nameOK t = true) : HeadOK (97 :: txt t) 0 := by
  intro rest
  rw [List.cons_append, headP, if_neg (by decide), if_pos rfl, rdt_txt (by rw [two64]; omega) rest 32 (by omega), if_neg (by simp [hn])]
  simp [Nat.add_comm]
theorem hash_head : HeadOK [104] 1 := fun _ => rfl
theorem mac_head : HeadOK [109] 2 := fun _ => rfl
theorem seal_head : HeadOK [115] 3 := fun _ => rfl

/-- What letters and parts make, or why there is nothing. -/
def madeP (front : List UInt8) (l : List (List UInt8)) : List UInt8 × Nat :=
  if ∀ x ∈ l, checkP x = 0 then (if checkP (front ++ l.flatten) = 0 then (front ++ l.flatten, 0) else ([], 5)) else ([], 2)
def dataP (s : List UInt8) : List UInt8 × Nat := if 1024 < s.length then ([], 5) else (100 :: txt s, 0)
def atomP (s : List UInt8) : List UInt8 × Nat := if 32 < s.length then ([], 5) else if nameOK s = false then ([], 7) else (97 :: txt s, 0)
def rowP (l : List (List UInt8)) : List UInt8 × Nat := madeP (114 :: enc l.length) l

theorem check_len {s : List UInt8} (h : checkP s = 0) : s.length ≤ 16384 := by
  obtain ⟨t, ht, rfl⟩ := check_iff.1 h
  exact ht.2.2
/-- The trees of terms. -/
theorem trees {l : List (List UInt8)} (h : ∀ x ∈ l, checkP x = 0) : ∃ m : List Tm, (∀ t ∈ m, t.valid) ∧ m.map Tm.enc = l := by
  induction l with
  | nil => exact ⟨[], (fun t ht => by cases ht), rfl⟩
  | cons x l ih =>
    obtain ⟨m, h1, h2⟩ := ih (fun y hy => h y (List.mem_cons_of_mem _ hy))
    obtain ⟨t, ht, e⟩ := check_iff.1 (h x (List.mem_cons_self ..))
    refine ⟨t :: m, ?_, by simp [e, h2]⟩
    intro u hu
    rcases List.mem_cons.1 hu with rfl | hu
    · exact ht
    · exact h1 u hu
theorem node_valid_parts {h : List UInt8} {l : List Tm} (hv : (Tm.node h l).valid) : ∀ t ∈ l, t.valid := by
  intro t ht
  have hg := hv.1
  simp only [Tm.good] at hg
  exact places_valid hv (p := t) (by
    simp only [Tm.places, placess_flat, List.mem_cons, List.mem_flatMap]
    exact .inr ⟨t, ht, by obtain ⟨a, b⟩ := t; simp [Tm.places]⟩)
/-- What a valid term's parts make, behind its head, is it again. -/
theorem made_again {h : List UInt8} {l : List Tm} (hv : (Tm.node h l).valid) : madeP h (l.map Tm.enc) = ((Tm.node h l).enc, 0) := by
  unfold madeP
  rw [if_pos (by
    intro x hx
    obtain ⟨t, ht, rfl⟩ := List.mem_map.1 hx
    exact check_enc (node_valid_parts hv t ht))]
  have e : h ++ (l.map Tm.enc).flatten = (Tm.node h l).enc := by rw [← encs_flat, Tm.enc_node]
  rw [e, if_pos (check_enc hv)]
/-- What was made has just those parts. -/
theorem made_parts {front : List UInt8} {l : List (List UInt8)} (hh : HeadOK front l.length) {r : List UInt8} (h : madeP front l = (r, 0)) : ∃ m : List Tm, (Tm.node front m).valid ∧ (Tm.node front m).enc = r ∧ m.map Tm.enc = l := by
  unfold madeP at h
  split at h
  · rename_i h1
    split at h
    · rename_i h2
      simp only [Prod.mk.injEq, and_true] at h
      obtain ⟨m, hm, rfl⟩ := trees h1
      obtain ⟨t, ht, e⟩ := check_iff.1 h2
      have hg : (Tm.node front m).good := by
        simp only [Tm.good]
        exact ⟨by rw [List.length_map] at hh; exact hh, goods_of fun u hu => (hm u hu).1⟩
      have e2 : t.enc = (Tm.node front m).enc := by rw [e, ← encs_flat, Tm.enc_node]
      obtain rfl := enc_tm_inj ht.1 hg e2
      exact ⟨m, ht, by rw [← h, ← encs_flat, Tm.enc_node], rfl⟩
    · simp at h
  · simp at h
theorem row_parts {l : List (List UInt8)} (h8 : l.length < 256 ^ 8) {r : List UInt8} (h : rowP l = (r, 0)) : ∃ m : List Tm, (Tm.node (114 :: enc l.length) m).valid ∧ (Tm.node (114 :: enc l.length) m).enc = r ∧ m.map Tm.enc = l := by
  by_cases hl : l.length ≤ 32
  · exact made_parts (row_head hl) h
  · exfalso
    unfold rowP madeP at h
    split at h
    · split at h
      · rename_i h2
        obtain ⟨⟨h', l'⟩, ht, e⟩ := check_iff.1 h2
        have hg := ht.1
        simp only [Tm.good] at hg
        obtain ⟨c, hk⟩ := head_kind hg.1
        rw [Tm.enc_node] at e
        cases hk with
        | data t e1 _ _ => rw [e1] at e; simp at e
        | atom t e1 _ _ _ => rw [e1] at e; simp at e
        | hash e1 _ => rw [e1] at e; simp at e
        | mac e1 _ => rw [e1] at e; simp at e
        | seal_ e1 _ => rw [e1] at e; simp at e
        | row v e1 hv _ =>
          rw [e1] at e
          simp only [List.cons_append, List.cons.injEq, true_and] at e
          have r1 := rdn_enc (v := v) (by rw [two64]; omega) (encs l')
          rw [e, rdn_enc h8] at r1
          have := congrArg Prod.fst r1
          simp only at this
          omega
      · simp at h
    · simp at h
/- The tree of a term's bytes. -/
open Classical in
noncomputable def treeOf (s : List UInt8) : Option Tm := if h : ∃ t : Tm, t.valid ∧ t.enc = s then some (Classical.choose h) else none
theorem treeOf_enc {t : Tm} (h : t.valid) : treeOf t.enc = some t := by
  have hx : ∃ u : Tm, u.valid ∧ u.enc = t.enc := ⟨t, h, rfl⟩
  unfold treeOf
  rw [dif_pos hx]
  have := Classical.choose_spec hx
  rw [enc_tm_inj this.1.1 h.1 this.2]
theorem treeOf_none {s : List UInt8} (h : checkP s ≠ 0) : treeOf s = none := by
  unfold treeOf
  rw [dif_neg (fun k => h (check_iff.2 k))]
theorem treeOf_some {s : List UInt8} (h : checkP s = 0) : ∃ t : Tm, t.valid ∧ t.enc = s ∧ treeOf s = some t := by
  obtain ⟨t, ht, rfl⟩ := check_iff.1 h
  exact ⟨t, ht, rfl, treeOf_enc ht⟩
noncomputable def kindP (s : List UInt8) : Nat := if checkP s = 0 then (match s with | [] => 0 | b :: _ => if b = 100 then 1 else if b = 97 then 2 else if b = 114 then 3 else if b = 104 then 4 else if b = 109 then 5 else 6) else 0
noncomputable def textP (s : List UInt8) : List UInt8 × Bool := if checkP s = 0 ∧ (s.head? = some 100 ∨ s.head? = some 97) then ((rdt (s.drop 1) 1024).1, true) else ([], false)
noncomputable def partsP (s : List UInt8) : List (List UInt8) × Bool := match treeOf s with | some (.node _ l) => (l.map Tm.enc, true) | none => ([], false)
noncomputable def sizeP (s : List UInt8) : Nat := match treeOf s with | some t => t.places.length | none => 0
noncomputable def depthP (s : List UInt8) : Nat := match treeOf s with | some t => t.deep | none => 0
noncomputable def placesP (s : List UInt8) : List (List UInt8) := match treeOf s with | some t => t.places.map Tm.enc | none => []
def onceL (l : List (List UInt8)) : List (List UInt8) := l.foldl (fun out x => if x ∈ out then out else out ++ [x]) []
noncomputable def hasP (s f : List UInt8) : Bool := match treeOf s, treeOf f with | some _, some _ => decide (f ∈ placesP s) | _, _ => false
noncomputable def swapP (s f u : List UInt8) : List UInt8 × Nat := match treeOf s, treeOf f, treeOf u with
  | some t, some _, some v => if checkP (t.swap f v).enc = 0 then ((t.swap f v).enc, 0) else ([], 5)
  | _, _, _ => ([], 2)
theorem has_places {t : Tm} {f : List UInt8} : Has t f ↔ f ∈ t.places.map Tm.enc := by
  unfold Has
  rw [List.mem_map]
/-- The theorem of the stage, over plain bytes. -/
theorem back_plain {s f u : List UInt8} (h : (swapP s f u).2 = 0) (hf : hasP s f = true) (hu : hasP s u = false) :
    swapP (swapP s f u).1 u f = (s, 0) ∧ hasP (swapP s f u).1 u = true ∧ (hasP u f = true ∨ hasP (swapP s f u).1 f = false) := by
  unfold swapP at h
  cases hs : treeOf s with
  | none => rw [hs] at h; simp at h
  | some t =>
    cases hff : treeOf f with
    | none => rw [hs, hff] at h; simp at h
    | some F =>
      cases huu : treeOf u with
      | none => rw [hs, hff, huu] at h; simp at h
      | some U =>
        rw [hs, hff, huu] at h
        simp only at h
        split at h
        · rename_i hc
          have tv : ∀ {x : List UInt8} {y : Tm}, treeOf x = some y → y.valid ∧ y.enc = x := by
            intro x y e
            by_cases hx : checkP x = 0
            · obtain ⟨z, h1, h2, h3⟩ := treeOf_some hx
              rw [h3] at e
              obtain rfl := Option.some.inj e
              exact ⟨h1, h2⟩
            · rw [treeOf_none hx] at e; cases e
          obtain ⟨tv1, rfl⟩ := tv hs
          obtain ⟨Fv, rfl⟩ := tv hff
          obtain ⟨Uv, rfl⟩ := tv huu
          have e1 : swapP t.enc F.enc U.enc = ((t.swap F.enc U).enc, 0) := by unfold swapP; rw [hs, hff, huu]; simp only; rw [if_pos hc]
          rw [e1]
          simp only
          obtain ⟨S, hS, e2⟩ := check_iff.1 hc
          have hg := swap_good t tv1.1 F.enc U Uv.1
          obtain rfl := enc_tm_inj hS.1 hg e2
          have hS' := treeOf_enc hS
          have nu : ¬ Has t U.enc := by
            unfold hasP placesP at hu
            rw [hs, huu] at hu
            simp only [decide_eq_false_iff_not] at hu
            rw [has_places]; exact hu
          have hF : Has t F.enc := by
            unfold hasP placesP at hf
            rw [hs, hff] at hf
            simp only [decide_eq_true_eq] at hf
            rw [has_places]; exact hf
          have hb := swap_back t tv1.1 F U Fv.1 Uv.1 nu
          refine ⟨?_, ?_, ?_⟩
          · unfold swapP
            rw [hS', hff, huu]
            simp only
            rw [hb, if_pos (check_enc tv1)]
          · unfold hasP placesP
            rw [hS', huu]
            simp only [decide_eq_true_eq]
            exact has_places.1 (has_swap t F.enc U hF)
          · by_cases hUF : Has U F.enc
            · left
              unfold hasP placesP
              rw [huu, hff]
              simp only [decide_eq_true_eq]
              exact has_places.1 hUF
            · right
              unfold hasP placesP
              rw [hS', hff]
              simp only [decide_eq_false_iff_not]
              exact fun hh => swap_gone t tv1.1 F U Fv.1 Uv.1 nu hUF (has_places.2 hh)
        · simp at h
end Go.Proofs.YtiehhlolhhjgpaaGreatDoor.Pl

namespace Go.Proofs.YtiehhlolhhjgpaaGreatDoor.Pl

/-- The runes of s from pos on. -/
def runesF (s : ByteArray) : Nat → Nat → List Int
  | 0, _ => []
  | fuel + 1, pos => if pos < s.size then ((Utf8.decode s pos).1 : Int) :: runesF s fuel (pos + (Utf8.decode s pos).2) else []
def runes (s : ByteArray) : List Int := runesF s s.size 0

theorem width_pos (s : ByteArray) (pos : Nat) (h : pos < s.size) : 1 ≤ (Utf8.decode s pos).2 := by
  by_cases ha : (s[pos]'h).toNat < 128
  · rw [decode_ascii s pos h ha]
    exact Nat.le_refl _
  · exact (decode_high s pos h (by omega)).2
theorem runesF_end (s : ByteArray) (fuel pos : Nat) (h : ¬ pos < s.size) : runesF s fuel pos = [] := by
  cases fuel with
  | zero => rfl
  | succ f => simp [runesF, h]
theorem runesF_step (s : ByteArray) (fuel pos : Nat) (h : pos < s.size) : runesF s (fuel + 1) pos = ((Utf8.decode s pos).1 : Int) :: runesF s fuel (pos + (Utf8.decode s pos).2) := by
  simp [runesF, h]
theorem runesF_nonneg (s : ByteArray) (fuel pos : Nat) : ∀ r ∈ runesF s fuel pos, 0 ≤ r := by
  induction fuel generalizing pos with
  | zero => intro r h; cases h
  | succ f ih =>
    intro r h
    by_cases hp : pos < s.size
    · rw [runesF_step s f pos hp] at h
      rcases List.mem_cons.1 h with rfl | h
      · exact Int.natCast_nonneg _
      · exact ih _ r h
    · rw [runesF_end s _ pos hp] at h; cases h
theorem runesF_le (s : ByteArray) (fuel pos : Nat) : ∀ r ∈ runesF s fuel pos, r ≤ 2147483647 := by
  induction fuel generalizing pos with
  | zero => intro r h; cases h
  | succ f ih =>
    intro r h
    by_cases hp : pos < s.size
    · rw [runesF_step s f pos hp] at h
      rcases List.mem_cons.1 h with rfl | h
      · have := decode_le s pos; omega
      · exact ih _ r h
    · rw [runesF_end s _ pos hp] at h; cases h
theorem runesF_length (s : ByteArray) (fuel pos : Nat) : (runesF s fuel pos).length ≤ s.size - pos := by
  induction fuel generalizing pos with
  | zero => exact Nat.zero_le _
  | succ f ih =>
    by_cases hp : pos < s.size
    · rw [runesF_step s f pos hp, List.length_cons]
      have := ih (pos + (Utf8.decode s pos).2)
      have := width_pos s pos hp
      omega
    · rw [runesF_end s _ pos hp]; exact Nat.zero_le _
theorem runes_length (s : ByteArray) : (runes s).length ≤ s.size := runesF_length s s.size 0
theorem runes_nonneg (s : ByteArray) : ∀ r ∈ runes s, 0 ≤ r := runesF_nonneg s _ _

/-- A rune of one byte, or of two. -/
def Short (r : Int) : Prop := 0 ≤ r ∧ r < 2048
def encL (l : List Int) : List UInt8 := l.flatMap Lib.encodeRune
theorem encL_cons (r : Int) (l : List Int) : encL (r :: l) = Lib.encodeRune r ++ encL l := by simp [encL]
theorem encL_append (a b : List Int) : encL (a ++ b) = encL a ++ encL b := by simp [encL]
theorem enc_one {r : Int} (h : 0 ≤ r) (h1 : r < 128) : Lib.encodeRune r = [r.toNat.toUInt8] := by
  rw [Lib.encodeRune, Lib.encodeRuneZ_one h (by omega)]; rfl
theorem enc_two {r : Int} (h : 128 ≤ r) (h1 : r < 2048) : Lib.encodeRune r = [(192 + r / 64).toNat.toUInt8, (128 + r % 64).toNat.toUInt8] := by
  rw [Lib.encodeRune, Lib.encodeRuneZ_two h (by omega)]; rfl
theorem size_list (s : ByteArray) : s.data.toList.length = s.size := by rw [Array.length_toList]; rfl
theorem get_bang (s : ByteArray) (i : Nat) (h : i < s.size) : s.get! i = s.data.toList[i]'(by rw [size_list]; exact h) := by
  have h' : i < s.data.size := h
  show s.data[i]! = _
  rw [getElem!_pos s.data i h']
  exact (Array.getElem_toList _).symm
theorem drop_at (s : ByteArray) (i : Nat) (h : i < s.size) : s.data.toList.drop i = s.get! i :: s.data.toList.drop (i + 1) := by
  rw [get_bang s i h, List.drop_eq_getElem_cons]
theorem u8_eq {x : UInt8} {n : Int} (h : n = (x.toNat : Int)) : n.toNat.toUInt8 = x := by
  rw [h]
  simp
theorem decode_short (s : ByteArray) (pos : Nat) (h : pos < s.size) (hr : (Utf8.decode s pos).1 < 2048) :
    s.data.toList.drop pos = Lib.encodeRune ((Utf8.decode s pos).1 : Int) ++ s.data.toList.drop (pos + (Utf8.decode s pos).2) := by
  have hb : ∀ k, (s.get! (pos + k)).toNat < 256 := fun k => (s.get! (pos + k)).toNat_lt
  have b0 := hb 0
  have b1 := hb 1
  simp only [Utf8.decode] at hr ⊢
  split at hr
  · rename_i h0
    rw [if_pos h0]
    show _ = Lib.encodeRune ((s.get! (pos + 0)).toNat : Int) ++ s.data.toList.drop (pos + 1)
    rw [enc_one (by omega) (by omega), drop_at s pos h, u8_eq (x := s.get! (pos + 0)) rfl]
    rfl
  · rename_i h0
    rw [if_neg h0]
    split at hr
    · rename_i h1
      rw [if_pos h1]
      simp only [Bool.and_eq_true, beq_iff_eq, decide_eq_true_eq] at h1
      obtain ⟨h1, h2, h3⟩ := h1
      split at hr
      · rename_i h4
        rw [if_pos h4]
        have hp : pos + 1 < s.size := by omega
        show _ = Lib.encodeRune (((s.get! (pos + 0)).toNat % 32 * 64 + (s.get! (pos + 1)).toNat % 64 : Nat) : Int) ++ s.data.toList.drop (pos + 2)
        have h1' : (s.get! pos).toNat / 32 = 6 := h1
        rw [enc_two (by omega) (by omega), drop_at s pos h, drop_at s (pos + 1) hp]
        rw [u8_eq (x := s.get! pos) (by show _ = (((s.get! pos).toNat : Nat) : Int); have : (s.get! (pos + 0)) = s.get! pos := rfl; rw [this]; omega), u8_eq (x := s.get! (pos + 1)) (by omega)]
        rfl
      · exfalso; simp [Utf8.runeError] at hr
    · exfalso
      split at hr
      · split at hr
        · rename_i h4
          simp only [Bool.and_eq_true, decide_eq_true_eq] at h4
          have := h4.1
          have hr' := hr
          simp only at hr'
          omega
        · simp [Utf8.runeError] at hr
      · split at hr
        · split at hr
          · rename_i h4
            simp only [Bool.and_eq_true, decide_eq_true_eq] at h4
            have := h4.1
            have hr' := hr
            simp only at hr'
            omega
          · simp [Utf8.runeError] at hr
        · simp [Utf8.runeError] at hr
theorem runesF_enc (s : ByteArray) (fuel pos : Nat) (hf : s.size ≤ pos + fuel) (h : ∀ r ∈ runesF s fuel pos, Short r) : s.data.toList.drop pos = encL (runesF s fuel pos) := by
  induction fuel generalizing pos with
  | zero =>
    rw [List.drop_eq_nil_of_le (by rw [size_list]; exact hf)]
    rfl
  | succ f ih =>
    by_cases hp : pos < s.size
    · rw [runesF_step s f pos hp] at h ⊢
      have hw := width_pos s pos hp
      have h0 := (h _ (List.mem_cons_self ..)).2
      rw [encL_cons, decode_short s pos hp (by omega), ih _ (by omega) (fun r hr => h r (List.mem_cons_of_mem _ hr))]
    · rw [runesF_end s _ pos hp, List.drop_eq_nil_of_le (by rw [size_list]; omega)]
      rfl
/-- A text whose runes are all short is what they are encoded as. -/
theorem runes_enc (s : ByteArray) (h : ∀ r ∈ runes s, Short r) : s.data.toList = encL (runes s) := by
  have h := runesF_enc s s.size 0 (by omega) h
  rwa [List.drop_zero] at h

/-- Two rows of numbers, the lower one ahead. -/
def cmpZ : List Int → List Int → Int
  | [], [] => 0
  | [], _ :: _ => -1
  | _ :: _, [] => 1
  | x :: a, y :: b => if x < y then -1 else if y < x then 1 else cmpZ a b
theorem cmpB_append (p a b : List UInt8) : Lib.compareBytes (p ++ a) (p ++ b) = Lib.compareBytes a b := by
  induction p with
  | nil => rfl
  | cons x p ih => simp only [List.cons_append, Lib.compareBytes, UInt8.lt_irrefl, if_false]; exact ih
theorem u8_lt {x y : Int} (hx : 0 ≤ x ∧ x < 256) (hy : 0 ≤ y ∧ y < 256) : x.toNat.toUInt8 < y.toNat.toUInt8 ↔ x < y := by
  rw [UInt8.lt_iff_toNat_lt]
  simp only [Nat.toUInt8, UInt8.toNat_ofNat']
  omega
theorem cmpB_lt {a b : List UInt8} {x y : UInt8} (h : x < y) : Lib.compareBytes (x :: a) (y :: b) = -1 := by simp [Lib.compareBytes, h]
theorem cmpB_gt {a b : List UInt8} {x y : UInt8} (h : y < x) : Lib.compareBytes (x :: a) (y :: b) = 1 := by
  have : ¬ x < y := fun h' => UInt8.lt_irrefl _ (UInt8.lt_trans h h')
  simp [Lib.compareBytes, h, this]
theorem cmpB_enc_lt {x y : Int} (hx : Short x) (hy : Short y) (h : x < y) (a b : List UInt8) : Lib.compareBytes (Lib.encodeRune x ++ a) (Lib.encodeRune y ++ b) = -1 := by
  obtain ⟨x0, x1⟩ := hx
  obtain ⟨y0, y1⟩ := hy
  by_cases h1 : x < 128
  · rw [enc_one x0 h1]
    by_cases h2 : y < 128
    · rw [enc_one y0 h2]
      exact cmpB_lt ((u8_lt (by omega) (by omega)).2 h)
    · rw [enc_two (by omega) y1]
      exact cmpB_lt ((u8_lt (by omega) (by omega)).2 (by omega))
  · rw [enc_two (by omega) x1, enc_two (by omega) y1]
    by_cases h3 : x / 64 = y / 64
    · rw [h3]
      show Lib.compareBytes ([_] ++ (_ :: a)) ([_] ++ (_ :: b)) = -1
      rw [cmpB_append]
      exact cmpB_lt ((u8_lt (by omega) (by omega)).2 (by omega))
    · exact cmpB_lt ((u8_lt (by omega) (by omega)).2 (by omega))
theorem cmpB_swap (a b : List UInt8) : Lib.compareBytes b a = - Lib.compareBytes a b := by
  induction a generalizing b with
  | nil => cases b <;> rfl
  | cons x a ih =>
    cases b with
    | nil => rfl
    | cons y b =>
      by_cases h : x < y
      · rw [cmpB_lt h, cmpB_gt h]; rfl
      · by_cases h' : y < x
        · rw [cmpB_lt h', cmpB_gt h']
        · simp only [Lib.compareBytes, h, h', if_false]; exact ih b
theorem enc_ne (r : Int) : ∃ x l, Lib.encodeRune r = x :: l := by
  cases h : Lib.encodeRune r with
  | nil =>
    have := Lib.encodeRuneZ_length r
    have e := congrArg List.length h
    simp [Lib.encodeRune] at e
    simp [e] at this
  | cons x l => exact ⟨x, l, rfl⟩
/-- Short runes stand in the same order as their bytes. -/
theorem cmp_enc (a b : List Int) (ha : ∀ r ∈ a, Short r) (hb : ∀ r ∈ b, Short r) : Lib.compareBytes (encL a) (encL b) = cmpZ a b := by
  induction a generalizing b with
  | nil =>
    cases b with
    | nil => rfl
    | cons y b => rw [encL_cons]; obtain ⟨x, l, e⟩ := enc_ne y; rw [e]; rfl
  | cons x a ih =>
    cases b with
    | nil => rw [encL_cons]; obtain ⟨y, l, e⟩ := enc_ne x; rw [e]; rfl
    | cons y b =>
      have hx := ha x (List.mem_cons_self ..)
      have hy := hb y (List.mem_cons_self ..)
      rw [encL_cons, encL_cons]
      by_cases h : x < y
      · rw [cmpB_enc_lt hx hy h]; simp [cmpZ, h]
      · by_cases h' : y < x
        · rw [cmpB_swap, cmpB_enc_lt hy hx h']; simp [cmpZ, h, h']
        · obtain rfl : x = y := by omega
          rw [cmpB_append, ih b (fun r hr => ha r (List.mem_cons_of_mem _ hr)) (fun r hr => hb r (List.mem_cons_of_mem _ hr))]
          simp [cmpZ]
theorem cmpB_zero (a b : List UInt8) : Lib.compareBytes a b = 0 ↔ a = b := by
  induction a generalizing b with
  | nil => cases b <;> simp [Lib.compareBytes]
  | cons x a ih =>
    cases b with
    | nil => simp [Lib.compareBytes]
    | cons y b =>
      by_cases h : x < y
      · rw [cmpB_lt h]
        exact ⟨fun e => absurd e (by decide), fun e => by injection e with e1 _; rw [e1] at h; exact absurd h (UInt8.lt_irrefl _)⟩
      · by_cases h' : y < x
        · rw [cmpB_gt h']
          exact ⟨fun e => absurd e (by decide), fun e => by injection e with e1 _; rw [e1] at h'; exact absurd h' (UInt8.lt_irrefl _)⟩
        · have : x = y := UInt8.le_antisymm (UInt8.not_lt.1 h') (UInt8.not_lt.1 h)
          subst this
          simp only [Lib.compareBytes, h, if_false, List.cons.injEq, true_and]
          exact ih b
theorem cmpB_self (a : List UInt8) : Lib.compareBytes a a = 0 := (cmpB_zero a a).2 rfl
theorem cmpB_range (a b : List UInt8) : Lib.compareBytes a b = -1 ∨ Lib.compareBytes a b = 0 ∨ Lib.compareBytes a b = 1 := by
  induction a generalizing b with
  | nil => cases b <;> simp [Lib.compareBytes]
  | cons x a ih =>
    cases b with
    | nil => simp [Lib.compareBytes]
    | cons y b =>
      by_cases h : x < y
      · rw [cmpB_lt h]; simp
      · by_cases h' : y < x
        · rw [cmpB_gt h']; simp
        · simp only [Lib.compareBytes, h, h', if_false]; exact ih b
theorem cmpB_trans (a b c : List UInt8) (h : Lib.compareBytes a b = -1) (k : Lib.compareBytes b c = -1) : Lib.compareBytes a c = -1 := by
  induction a generalizing b c with
  | nil =>
    cases b with
    | nil => simp [Lib.compareBytes] at h
    | cons y b =>
      cases c with
      | nil => simp [Lib.compareBytes] at k
      | cons z c => rfl
  | cons x a ih =>
    cases b with
    | nil => simp [Lib.compareBytes] at h
    | cons y b =>
      cases c with
      | nil => simp [Lib.compareBytes] at k
      | cons z c =>
        by_cases h1 : x < y
        · by_cases k1 : y < z
          · exact cmpB_lt (UInt8.lt_trans h1 k1)
          · by_cases k2 : z < y
            · rw [cmpB_gt k2] at k; exact absurd k (by decide)
            · have : y = z := UInt8.le_antisymm (UInt8.not_lt.1 k2) (UInt8.not_lt.1 k1)
              subst this; exact cmpB_lt h1
        · by_cases h2 : y < x
          · rw [cmpB_gt h2] at h; exact absurd h (by decide)
          · have : x = y := UInt8.le_antisymm (UInt8.not_lt.1 h2) (UInt8.not_lt.1 h1)
            subst this
            by_cases k1 : x < z
            · exact cmpB_lt k1
            · by_cases k2 : z < x
              · rw [cmpB_gt k2] at k; exact absurd k (by decide)
              · have e : x = z := UInt8.le_antisymm (UInt8.not_lt.1 k2) (UInt8.not_lt.1 k1)
                subst e
                simp only [Lib.compareBytes, UInt8.lt_irrefl, if_false] at h k ⊢
                exact ih b c h k
theorem ba_ext {a b : ByteArray} (h : a.data.toList = b.data.toList) : a = b := ByteArray.ext (Array.ext' h)
end Go.Proofs.YtiehhlolhhjgpaaGreatDoor.Pl

namespace Go.Proofs.YtiehhlolhhjgpaaGreatDoor.Pl

/-- Plain characters. -/
def plainC (r : Int) : Bool := decide ((32 ≤ r ∧ r ≤ 126 ∧ r ≠ 34) ∨ (161 ≤ r ∧ r ≤ 687) ∨ (880 ≤ r ∧ r ≤ 1279))
def rn (x : List UInt8) : List Int := runes ⟨x.toArray⟩
def plainB (x : List UInt8) : Bool := (rn x).all plainC
theorem plainC_iff {r : Int} : plainC r = true ↔ (32 ≤ r ∧ r ≤ 126 ∧ r ≠ 34) ∨ (161 ≤ r ∧ r ≤ 687) ∨ (880 ≤ r ∧ r ≤ 1279) := by unfold plainC; exact decide_eq_true_iff
theorem plain_enc {x : List UInt8} (h : plainB x = true) : x = encL (rn x) := by
  have h1 := runes_enc ⟨x.toArray⟩ (fun r hr => by
    have := plainC_iff.1 (List.all_eq_true.1 h r hr)
    unfold Short; omega)
  exact h1
theorem u8_nat {n : Int} (h0 : 0 ≤ n) (h1 : n < 256) : (n.toNat.toUInt8.toNat : Int) = n := by
  have : n.toNat < 256 := by omega
  simp [Nat.mod_eq_of_lt this]; omega
theorem enc_bytes {r : Int} (h : plainC r = true) : ∀ b ∈ Lib.encodeRune r, b ≠ 34 ∧ 32 ≤ b.toNat := by
  rcases plainC_iff.1 h with ⟨h1, h2, h3⟩ | h | h
  · intro b hb
    rw [enc_one (by omega) (by omega), List.mem_singleton] at hb
    subst hb
    have e := u8_nat (n := r) (by omega) (by omega)
    refine ⟨fun e2 => ?_, by omega⟩
    rw [e2] at e
    have : ((34 : UInt8).toNat : Int) = 34 := rfl
    omega
  all_goals
    intro b hb
    rw [enc_two (by omega) (by omega)] at hb
    simp only [List.mem_cons, List.not_mem_nil, or_false] at hb
    rcases hb with rfl | rfl
    · have e := u8_nat (n := 192 + r / 64) (by omega) (by omega)
      refine ⟨fun e2 => ?_, by omega⟩
      rw [e2] at e
      have : ((34 : UInt8).toNat : Int) = 34 := rfl
      omega
    · have e := u8_nat (n := 128 + r % 64) (by omega) (by omega)
      refine ⟨fun e2 => ?_, by omega⟩
      rw [e2] at e
      have : ((34 : UInt8).toNat : Int) = 34 := rfl
      omega
theorem plain_bytes {x : List UInt8} (h : plainB x = true) : ∀ b ∈ x, b ≠ 34 := by
  intro b hb
  rw [plain_enc h] at hb
  unfold encL at hb
  obtain ⟨r, hr, hb⟩ := List.mem_flatMap.1 hb
  exact (enc_bytes (List.all_eq_true.1 h r hr) b hb).1
theorem plain_nil : plainB [] = true := rfl

/-- Digits to the base 16. -/
def hexD (n : Nat) : UInt8 := if n < 10 then (48 + n).toUInt8 else (87 + n).toUInt8
def hexL (x : List UInt8) : List UInt8 := x.flatMap fun b => [hexD (b.toNat / 16), hexD (b.toNat % 16)]
def hexB (b : UInt8) : Bool := decide ((48 ≤ b.toNat ∧ b.toNat ≤ 57) ∨ (97 ≤ b.toNat ∧ b.toNat ≤ 102))
def hexV (b : UInt8) : Nat := if 97 ≤ b.toNat then b.toNat - 87 else b.toNat - 48
def unhex : List UInt8 → List UInt8
  | a :: b :: r => (hexV a * 16 + hexV b).toUInt8 :: unhex r
  | _ => []
theorem nat_u8 {n : Nat} (h : n < 256) : n.toUInt8.toNat = n := by simp [Nat.mod_eq_of_lt h]
theorem hexD_nat {n : Nat} (h : n < 16) : (hexD n).toNat = if n < 10 then 48 + n else 87 + n := by
  unfold hexD
  split
  · exact nat_u8 (by omega)
  · exact nat_u8 (by omega)
theorem hexD_is {n : Nat} (h : n < 16) : hexB (hexD n) = true := by
  unfold hexB
  rw [decide_eq_true_iff, hexD_nat h]
  split <;> omega
theorem hexV_D {n : Nat} (h : n < 16) : hexV (hexD n) = n := by
  unfold hexV
  rw [hexD_nat h]
  split <;> split <;> omega
theorem hexB_iff {b : UInt8} : hexB b = true ↔ (48 ≤ b.toNat ∧ b.toNat ≤ 57) ∨ (97 ≤ b.toNat ∧ b.toNat ≤ 102) := by unfold hexB; exact decide_eq_true_iff
theorem hexV_lt {b : UInt8} (h : hexB b = true) : hexV b < 16 := by
  rw [hexB_iff] at h
  unfold hexV
  split <;> omega
theorem hexD_V {b : UInt8} (h : hexB b = true) : hexD (hexV b) = b := by
  apply UInt8.toNat_inj.1
  rw [hexD_nat (hexV_lt h)]
  rw [hexB_iff] at h
  unfold hexV
  split <;> split <;> omega
theorem hexL_cons (b : UInt8) (x : List UInt8) : hexL (b :: x) = hexD (b.toNat / 16) :: hexD (b.toNat % 16) :: hexL x := by simp [hexL]
theorem hexL_len (x : List UInt8) : (hexL x).length = 2 * x.length := by
  induction x with
  | nil => rfl
  | cons b x ih => rw [hexL_cons, List.length_cons, List.length_cons, ih, List.length_cons]; omega
theorem hexL_all (x : List UInt8) : ∀ b ∈ hexL x, hexB b = true := by
  induction x with
  | nil => intro b hb; cases hb
  | cons c x ih =>
    intro b hb
    have hc := c.toNat_lt
    rw [hexL_cons] at hb
    rcases List.mem_cons.1 hb with rfl | hb
    · exact hexD_is (by omega)
    · rcases List.mem_cons.1 hb with rfl | hb
      · exact hexD_is (by omega)
      · exact ih b hb
theorem unhex_hexL (x : List UInt8) : unhex (hexL x) = x := by
  induction x with
  | nil => rfl
  | cons b x ih =>
    have hb := b.toNat_lt
    rw [hexL_cons, unhex, ih, hexV_D (by omega), hexV_D (by omega)]
    congr 1
    apply UInt8.toNat_inj.1
    rw [nat_u8 (by omega)]
    omega
theorem hexL_unhex : ∀ l : List UInt8, l.length % 2 = 0 → (∀ b ∈ l, hexB b = true) → hexL (unhex l) = l
  | [], _, _ => rfl
  | [a], h, _ => by simp at h
  | a :: b :: r, h, k => by
    have ha := hexV_lt (k a (by simp))
    have hb := hexV_lt (k b (by simp))
    rw [unhex, hexL_cons, hexL_unhex r (by simp at h; omega) (fun c hc => k c (by simp [hc])), nat_u8 (by omega)]
    have e1 : (hexV a * 16 + hexV b) / 16 = hexV a := by omega
    have e2 : (hexV a * 16 + hexV b) % 16 = hexV b := by omega
    rw [e1, e2, hexD_V (k a (by simp)), hexD_V (k b (by simp))]
theorem unhex_len : ∀ l : List UInt8, l.length % 2 = 0 → 2 * (unhex l).length = l.length
  | [], _ => rfl
  | [a], h => by simp at h
  | a :: b :: r, h => by
    have := unhex_len r (by simp at h; omega)
    rw [unhex, List.length_cons, List.length_cons, List.length_cons]; omega

/-- A datum's line. -/
def datumL (x : List UInt8) : List UInt8 := if plainB x = true then 34 :: x ++ [34] else 120 :: hexL x
/-- The lines of parts, separated. -/
def sepL (ls : List (List UInt8)) : List UInt8 := ls.flatMap fun y => 44 :: 32 :: y
def joinL : List (List UInt8) → List UInt8
  | [] => []
  | x :: r => x ++ sepL r
/-- What stands round them. -/
def wrapL (h : List UInt8) (ls : List (List UInt8)) : List UInt8 :=
  if h.head? = some 100 then datumL (rdt (h.drop 1) 1024).1
  else if h.head? = some 97 then 36 :: (rdt (h.drop 1) 1024).1
  else if h.head? = some 104 then 104 :: 40 :: (joinL ls ++ [41])
  else if h.head? = some 109 then 109 :: 40 :: (joinL ls ++ [41])
  else if h.head? = some 115 then 115 :: 40 :: (joinL ls ++ [41])
  else 91 :: (joinL ls ++ [93])
mutual
/-- The line of a term that is so deep; what is deeper than most is two dots. -/
def lineT (most : Int) : Tm → Nat → List UInt8
  | .node h l, dep => if most < (dep : Int) then [46, 46] else wrapL h (linesT most l (dep + 1))
def linesT (most : Int) : List Tm → Nat → List (List UInt8)
  | [], _ => []
  | t :: l, dep => lineT most t dep :: linesT most l dep
end
mutual
/-- The whole line. -/
def lineW : Tm → List UInt8
  | .node h l => wrapL h (linesW l)
def linesW : List Tm → List (List UInt8)
  | [] => []
  | t :: l => lineW t :: linesW l
end
theorem linesT_map (most : Int) (l : List Tm) (dep : Nat) : linesT most l dep = l.map fun t => lineT most t dep := by
  induction l with
  | nil => rfl
  | cons t l ih => rw [linesT, ih, List.map_cons]
theorem linesW_map (l : List Tm) : linesW l = l.map lineW := by
  induction l with
  | nil => rfl
  | cons t l ih => rw [linesW, ih, List.map_cons]
theorem lineT_node (most : Int) (h : List UInt8) (l : List Tm) (dep : Nat) : lineT most (.node h l) dep = if most < (dep : Int) then [46, 46] else wrapL h (l.map fun t => lineT most t (dep + 1)) := by rw [lineT, linesT_map]
theorem lineW_node (h : List UInt8) (l : List Tm) : lineW (.node h l) = wrapL h (l.map lineW) := by rw [lineW, linesW_map]
/-- Nothing is too deep. -/
theorem lineT_whole (most : Nat) : ∀ T : Tm, ∀ dep : Nat, dep + T.deep ≤ most + 1 → lineT (most : Int) T dep = lineW T := by
  refine Tm.ind ?_
  intro h l ih dep hd
  simp only [Tm.deep] at hd
  rw [lineT_node, lineW_node, if_neg (by omega)]
  congr 1
  refine List.map_congr_left fun t ht => ih t ht (dep + 1) ?_
  have := deeps_mem ht
  omega

/- The line of each kind. -/
theorem wrap_data {x : List UInt8} (hx : x.length ≤ 1024) (ls : List (List UInt8)) : wrapL (100 :: txt x) ls = datumL x := by
  have hr := rdt_txt (t := x) (by rw [two64]; omega) [] 1024 (by omega)
  rw [List.append_nil] at hr
  unfold wrapL
  rw [if_pos (show (100 :: txt x).head? = some 100 from rfl)]
  show datumL (rdt (txt x) 1024).1 = _
  rw [hr]
theorem wrap_atom {x : List UInt8} (hx : x.length ≤ 1024) (ls : List (List UInt8)) : wrapL (97 :: txt x) ls = 36 :: x := by
  have hr := rdt_txt (t := x) (by rw [two64]; omega) [] 1024 (by omega)
  rw [List.append_nil] at hr
  unfold wrapL
  rw [if_neg (by simp), if_pos (show (97 :: txt x).head? = some 97 from rfl)]
  show 36 :: (rdt (txt x) 1024).1 = _
  rw [hr]
theorem wrap_row (v : Nat) (ls : List (List UInt8)) : wrapL (114 :: enc v) ls = 91 :: (joinL ls ++ [93]) := by unfold wrapL; simp
theorem wrap_hash (ls : List (List UInt8)) : wrapL [104] ls = 104 :: 40 :: (joinL ls ++ [41]) := by unfold wrapL; simp
theorem wrap_mac (ls : List (List UInt8)) : wrapL [109] ls = 109 :: 40 :: (joinL ls ++ [41]) := by unfold wrapL; simp
theorem wrap_seal (ls : List (List UInt8)) : wrapL [115] ls = 115 :: 40 :: (joinL ls ++ [41]) := by unfold wrapL; simp
theorem joinL_len_cons (x : List UInt8) (ls : List (List UInt8)) : (joinL (x :: ls)).length = x.length + (sepL ls).length := by rw [joinL, List.length_append]
theorem sepL_cons (x : List UInt8) (ls : List (List UInt8)) : sepL (x :: ls) = 44 :: 32 :: (x ++ sepL ls) := by simp [sepL]

/-- How long a line is at most. -/
theorem enc_two6 {t : Tm} (h : t.good) : 2 ≤ t.enc.length := by
  obtain ⟨hd, l⟩ := t
  simp only [Tm.good] at h
  obtain ⟨c, hk⟩ := head_kind h.1
  rw [Tm.enc_node, List.length_append]
  have hl : ∀ k, l.length = k + 1 → 1 ≤ (encs l).length := by
    intro k hk
    cases l with
    | nil => cases hk
    | cons t m =>
      have := enc_mem (l := t :: m) (t := t) (by simp)
      have h2 := h.2.1
      obtain ⟨hd', l'⟩ := t
      simp only [Tm.good] at h2
      have h3 := h2.1.pos
      rw [Tm.enc_node, List.length_append] at this
      have : 1 ≤ hd'.length := by cases hd' with | nil => exact absurd rfl h3 | cons => simp
      omega
  cases hk with
  | data x e _ _ => rw [e, List.length_cons, txt_len]; have := (enc_len x.length).1; omega
  | atom x e _ _ _ => rw [e, List.length_cons, txt_len]; have := (enc_len x.length).1; omega
  | row v e _ _ => rw [e, List.length_cons]; have := (enc_len v).1; omega
  | hash e e2 => rw [e]; have := hl 0 e2; simp; omega
  | mac e e2 => rw [e]; have := hl 1 e2; simp; omega
  | seal_ e e2 => rw [e]; have := hl 2 e2; simp; omega
theorem sepL_len (l : List Tm) (f : Tm → List UInt8) (h : ∀ t ∈ l, (f t).length + 4 ≤ 4 * t.enc.length) : (sepL (l.map f)).length + 2 * l.length ≤ 4 * (encs l).length := by
  induction l with
  | nil => simp [sepL, encs]
  | cons t l ih =>
    have h1 := h t (by simp)
    have h2 := ih (fun u hu => h u (by simp [hu]))
    rw [List.map_cons, sepL_cons, encs]
    simp only [List.length_cons, List.length_append]
    omega
theorem joinL_len (l : List Tm) (f : Tm → List UInt8) (h : ∀ t ∈ l, (f t).length + 4 ≤ 4 * t.enc.length) : (joinL (l.map f)).length + 2 * l.length + (if l.length = 0 then 0 else 2) ≤ 4 * (encs l).length := by
  cases l with
  | nil => simp [joinL, encs]
  | cons t l =>
    have h1 := h t (by simp)
    have h2 := sepL_len l f (fun u hu => h u (by simp [hu]))
    rw [List.map_cons, joinL, encs, if_neg (by simp)]
    simp only [List.length_cons, List.length_append]
    omega
theorem datumL_len (x : List UInt8) : (datumL x).length ≤ 2 * x.length + 2 := by
  unfold datumL
  split
  · simp; omega
  · rw [List.length_cons, hexL_len]; omega
theorem lineT_len (most : Int) : ∀ T : Tm, T.good → ∀ dep, (lineT most T dep).length + 4 ≤ 4 * T.enc.length := by
  refine Tm.ind ?_
  intro h l ih hg dep
  have h2 := enc_two6 hg
  simp only [Tm.good] at hg
  rw [lineT_node]
  split
  · simp; omega
  · have hj := joinL_len l (fun t => lineT most t (dep + 1)) (fun t ht => ih t ht (goods_mem hg.2 t ht) (dep + 1))
    obtain ⟨c, hk⟩ := head_kind hg.1
    rw [Tm.enc_node, List.length_append]
    cases hk with
    | data x e e1 _ =>
      rw [e, wrap_data e1, List.length_cons, txt_len]
      have := datumL_len x; have := (enc_len x.length).1; omega
    | atom x e e1 _ _ =>
      rw [e, wrap_atom (by omega), List.length_cons, List.length_cons, txt_len]
      have := (enc_len x.length).1; omega
    | row v e _ _ =>
      rw [e, wrap_row]
      have := (enc_len v).1
      simp only [List.length_cons, List.length_append, List.length_nil]; omega
    | hash e e2 => rw [if_neg (by omega)] at hj; rw [e, wrap_hash]; simp only [List.length_cons, List.length_append, List.length_nil]; omega
    | mac e e2 => rw [if_neg (by omega)] at hj; rw [e, wrap_mac]; simp only [List.length_cons, List.length_append, List.length_nil]; omega
    | seal_ e e2 => rw [if_neg (by omega)] at hj; rw [e, wrap_seal]; simp only [List.length_cons, List.length_append, List.length_nil]; omega
end Go.Proofs.YtiehhlolhhjgpaaGreatDoor.Pl

namespace Go.Proofs.YtiehhlolhhjgpaaGreatDoor.Pl

/-- How many of the first bytes are so. -/
def runL (p : UInt8 → Bool) (s : List UInt8) : Nat := (s.takeWhile p).length
theorem runL_le (p : UInt8 → Bool) (s : List UInt8) : runL p s ≤ s.length := by
  unfold runL
  exact (List.takeWhile_prefix p).length_le
theorem run_take (p : UInt8 → Bool) (s : List UInt8) : s.take (runL p s) = s.takeWhile p := by
  unfold runL
  exact (List.prefix_iff_eq_take.1 (List.takeWhile_prefix p)).symm
theorem run_all (p : UInt8 → Bool) (s : List UInt8) : ∀ b ∈ s.take (runL p s), p b = true := by
  rw [run_take]
  induction s with
  | nil => intro b hb; cases hb
  | cons c s ih =>
    intro b hb
    by_cases hc : p c = true
    · rw [List.takeWhile_cons_of_pos hc] at hb
      rcases List.mem_cons.1 hb with rfl | hb
      · exact hc
      · exact ih b hb
    · rw [List.takeWhile_cons_of_neg hc] at hb; cases hb
theorem run_app {p : UInt8 → Bool} {x rest : List UInt8} (hx : ∀ b ∈ x, p b = true) (hr : ∀ b, rest.head? = some b → p b = false) : (x ++ rest).takeWhile p = x := by
  induction x with
  | nil =>
    cases rest with
    | nil => rfl
    | cons b r => rw [List.nil_append, List.takeWhile_cons_of_neg (by rw [hr b rfl]; decide)]
  | cons c x ih =>
    rw [List.cons_append, List.takeWhile_cons_of_pos (hx c (by simp)), ih (fun b hb => hx b (by simp [hb]))]
theorem runL_app {p : UInt8 → Bool} {x rest : List UInt8} (hx : ∀ b ∈ x, p b = true) (hr : ∀ b, rest.head? = some b → p b = false) : runL p (x ++ rest) = x.length := by
  unfold runL; rw [run_app hx hr]

def notQ (b : UInt8) : Bool := decide (b ≠ 34)
def pAtom (s : List UInt8) : List UInt8 × Nat := ((atomP (s.take (runL nameB s))).1, runL nameB s)
def pBytes (s : List UInt8) : List UInt8 × Nat :=
  if runL hexB s % 2 ≠ 0 ∨ 2048 < runL hexB s then ([], 0)
  else if plainB (unhex (s.take (runL hexB s))) = true then ([], 0)
  else ((dataP (unhex (s.take (runL hexB s)))).1, runL hexB s)
def pQuoted (s : List UInt8) : List UInt8 × Nat :=
  if runL notQ s = s.length ∨ 1024 < runL notQ s ∨ plainB (s.take (runL notQ s)) = false then ([], 0)
  else ((dataP (s.take (runL notQ s))).1, runL notQ s + 1)
/-- The parts, up to a sign: k - 1 at most; is it the first? -/
def pParts (pp : List UInt8 → List UInt8 × Nat) (fin : UInt8) : Nat → Bool → List UInt8 → Option (List (List UInt8) × Nat)
  | 0, _, _ => none
  | k + 1, first, s =>
    if s.head? = some fin then some ([], 1)
    else if first = false ∧ s.take 2 ≠ [44, 32] then none
    else if (pp (s.drop (if first then 0 else 2))).1 = [] then none
    else match pParts pp fin k false (s.drop ((if first then 0 else 2) + (pp (s.drop (if first then 0 else 2))).2)) with
      | none => none
      | some (l, n) => some ((pp (s.drop (if first then 0 else 2))).1 :: l, (if first then 0 else 2) + (pp (s.drop (if first then 0 else 2))).2 + n)
/-- What letters and parts in brackets make. -/
def pMade (c : UInt8) (l : List (List UInt8)) : List UInt8 :=
  if c = 104 ∧ l.length = 1 then (madeP [104] l).1 else if c = 109 ∧ l.length = 2 then (madeP [109] l).1 else if c = 115 ∧ l.length = 3 then (madeP [115] l).1 else []
theorem pMade_hash {l : List (List UInt8)} (h : l.length = 1) : pMade 104 l = (madeP [104] l).1 := by unfold pMade; rw [if_pos ⟨rfl, h⟩]
theorem pMade_mac {l : List (List UInt8)} (h : l.length = 2) : pMade 109 l = (madeP [109] l).1 := by unfold pMade; rw [if_neg (fun k => absurd k.1 (by decide)), if_pos ⟨rfl, h⟩]
theorem pMade_seal {l : List (List UInt8)} (h : l.length = 3) : pMade 115 l = (madeP [115] l).1 := by unfold pMade; rw [if_neg (fun k => absurd k.1 (by decide)), if_neg (fun k => absurd k.1 (by decide)), if_pos ⟨rfl, h⟩]
/-- The term of a line that s begins with, and how many bytes that has; nothing: there is none. -/
def pParse : Nat → List UInt8 → List UInt8 × Nat
  | 0, _ => ([], 0)
  | _ + 1, [] => ([], 0)
  | d + 1, c :: r =>
    if c = 36 then ((pAtom r).1, (pAtom r).2 + 1)
    else if c = 120 then ((pBytes r).1, (pBytes r).2 + 1)
    else if c = 34 then ((pQuoted r).1, (pQuoted r).2 + 1)
    else if c = 91 then (match pParts (pParse d) 93 33 true r with | none => ([], 0) | some (l, k) => ((rowP l).1, k + 1))
    else if r.head? ≠ some 40 then ([], 0)
    else match pParts (pParse d) 41 33 true (r.drop 1) with | none => ([], 0) | some (l, k) => (pMade c l, k + 2)
def parseF (s : List UInt8) : List UInt8 × Nat := if (pParse 16 s).1 = [] ∨ (pParse 16 s).2 ≠ s.length then ([], 7) else ((pParse 16 s).1, 0)

/-- What may stand behind a line in a line. -/
def okRest (rest : List UInt8) : Prop := ∀ b, rest.head? = some b → nameB b = false ∧ hexB b = false
theorem okRest_sep (r : List UInt8) : okRest (44 :: r) := fun b h => by cases h; decide
theorem okRest_fin {fin : UInt8} (h : fin = 93 ∨ fin = 41) (r : List UInt8) : okRest (fin :: r) := fun b hb => by
  cases hb
  rcases h with rfl | rfl <;> decide
/-- Trees of data and atoms. -/
theorem data_valid {x : List UInt8} (h : x.length ≤ 1024) : (Tm.node (100 :: txt x) []).valid := by
  refine ⟨by simp only [Tm.good]; exact ⟨data_head h, trivial⟩, by simp [Tm.deep, deeps], ?_⟩
  rw [Tm.enc_node, List.length_append, List.length_cons, txt_len, encs]
  have := (enc_len x.length).2
  simp; omega
theorem atom_valid {x : List UInt8} (h : x.length ≤ 32) (hn : nameOK x = true) : (Tm.node (97 :: txt x) []).valid := by
  refine ⟨by simp only [Tm.good]; exact ⟨atom_head h hn, trivial⟩, by simp [Tm.deep, deeps], ?_⟩
  rw [Tm.enc_node, List.length_append, List.length_cons, txt_len, encs]
  have := (enc_len x.length).2
  simp; omega
theorem data_enc {x : List UInt8} : (Tm.node (100 :: txt x) []).enc = 100 :: txt x := by rw [Tm.enc_node, encs, List.append_nil]
theorem atom_enc {x : List UInt8} : (Tm.node (97 :: txt x) []).enc = 97 :: txt x := by rw [Tm.enc_node, encs, List.append_nil]
theorem dataP_ok {x : List UInt8} (h : x.length ≤ 1024) : dataP x = (100 :: txt x, 0) := by unfold dataP; rw [if_neg (by omega)]
theorem atomP_ok {x : List UInt8} (h : x.length ≤ 32) (hn : nameOK x = true) : atomP x = (97 :: txt x, 0) := by unfold atomP; rw [if_neg (by omega), if_neg (by rw [hn]; decide)]
theorem atomP_some {x : List UInt8} (h : (atomP x).1 ≠ []) : x.length ≤ 32 ∧ nameOK x = true := by
  unfold atomP at h
  split at h
  · exact absurd rfl h
  · rename_i h1
    split at h
    · exact absurd rfl h
    · rename_i h2
      exact ⟨by omega, by cases e : nameOK x with | true => rfl | false => exact absurd e h2⟩
theorem madeP_some {f : List UInt8} {l : List (List UInt8)} (h : (madeP f l).1 ≠ []) : madeP f l = ((madeP f l).1, 0) := by
  unfold madeP at h ⊢
  split at h
  · rename_i h1
    rw [if_pos h1]
    split at h
    · rename_i h2; rw [if_pos h2]
    · exact absurd rfl h
  · exact absurd rfl h

/-- The first sign of a line. -/
theorem lineW_head {T : Tm} (h : T.good) : ∃ c r, lineW T = c :: r ∧ c ≠ 93 ∧ c ≠ 41 := by
  obtain ⟨hd, l⟩ := T
  simp only [Tm.good] at h
  obtain ⟨c, hk⟩ := head_kind h.1
  rw [lineW_node]
  cases hk with
  | data x e e1 _ =>
    rw [e, wrap_data e1]
    unfold datumL
    split
    · exact ⟨34, _, rfl, by decide, by decide⟩
    · exact ⟨120, _, rfl, by decide, by decide⟩
  | atom x e e1 _ _ => rw [e, wrap_atom (by omega)]; exact ⟨36, _, rfl, by decide, by decide⟩
  | row v e _ _ => rw [e, wrap_row]; exact ⟨91, _, rfl, by decide, by decide⟩
  | hash e _ => rw [e, wrap_hash]; exact ⟨104, _, rfl, by decide, by decide⟩
  | mac e _ => rw [e, wrap_mac]; exact ⟨109, _, rfl, by decide, by decide⟩
  | seal_ e _ => rw [e, wrap_seal]; exact ⟨115, _, rfl, by decide, by decide⟩
theorem enc_nonempty {T : Tm} (h : T.good) : T.enc ≠ [] := fun e => by
  have := enc_two6 h
  rw [e] at this
  simp at this

/-- Parts that are read one by one are read. -/
theorem parts_rest {pp : List UInt8 → List UInt8 × Nat} {fin : UInt8} (hf : fin = 93 ∨ fin = 41) : ∀ (m : List Tm), (∀ t ∈ m, t.good ∧ ∀ rest, okRest rest → pp (lineW t ++ rest) = (t.enc, (lineW t).length)) → ∀ k, m.length < k → ∀ rest,
    pParts pp fin k false (sepL (m.map lineW) ++ fin :: rest) = some (m.map Tm.enc, (sepL (m.map lineW)).length + 1)
  | [], _, k, hk, rest => by
    obtain ⟨k, rfl⟩ : ∃ j, k = j + 1 := ⟨k - 1, by simp at hk; omega⟩
    simp [pParts, sepL]
  | t :: m, hp, k, hk, rest => by
    obtain ⟨k, rfl⟩ : ∃ j, k = j + 1 := ⟨k - 1, by simp at hk; omega⟩
    have ht := hp t (by simp)
    have ih := parts_rest hf m (fun u hu => hp u (by simp [hu])) k (by simp at hk; omega) rest
    have hok : okRest (sepL (m.map lineW) ++ fin :: rest) := by
      cases m with
      | nil => exact okRest_fin hf _
      | cons u m => rw [List.map_cons, sepL_cons]; exact okRest_sep _
    have h1 := ht.2 _ hok
    have e : sepL ((t :: m).map lineW) ++ fin :: rest = 44 :: 32 :: (lineW t ++ (sepL (m.map lineW) ++ fin :: rest)) := by
      rw [List.map_cons, sepL_cons]; simp
    have hne : (44 : UInt8) ≠ fin := by rcases hf with rfl | rfl <;> decide
    rw [e, pParts, if_neg (by simp [hne]), if_neg (by simp)]
    simp only [Bool.false_eq_true, if_false, List.drop_succ_cons, List.drop_zero]
    rw [h1, if_neg (enc_nonempty ht.1)]
    simp only
    have e2 : (44 :: 32 :: (lineW t ++ (sepL (m.map lineW) ++ fin :: rest))).drop (2 + (lineW t).length) = sepL (m.map lineW) ++ fin :: rest := by
      rw [Nat.add_comm, List.drop_succ_cons, List.drop_succ_cons, List.drop_left]
    rw [e2, ih]
    simp only [List.map_cons, sepL_cons, List.length_cons, List.length_append]
    congr 2
    omega
theorem parts_all {pp : List UInt8 → List UInt8 × Nat} {fin : UInt8} (hf : fin = 93 ∨ fin = 41) (m : List Tm) (hp : ∀ t ∈ m, t.good ∧ ∀ rest, okRest rest → pp (lineW t ++ rest) = (t.enc, (lineW t).length)) (k : Nat) (hk : m.length < k) (rest : List UInt8) :
    pParts pp fin k true (joinL (m.map lineW) ++ fin :: rest) = some (m.map Tm.enc, (joinL (m.map lineW)).length + 1) := by
  obtain ⟨k, rfl⟩ : ∃ j, k = j + 1 := ⟨k - 1, by omega⟩
  cases m with
  | nil => simp [pParts, joinL]
  | cons t m =>
    have ht := hp t (by simp)
    have ih := parts_rest hf m (fun u hu => hp u (by simp [hu])) k (by simp at hk; omega) rest
    have hok : okRest (sepL (m.map lineW) ++ fin :: rest) := by
      cases m with
      | nil => exact okRest_fin hf _
      | cons u m => rw [List.map_cons, sepL_cons]; exact okRest_sep _
    have h1 := ht.2 _ hok
    have e : joinL ((t :: m).map lineW) ++ fin :: rest = lineW t ++ (sepL (m.map lineW) ++ fin :: rest) := by
      rw [List.map_cons, joinL, List.append_assoc]
    obtain ⟨c, r, hc, n1, n2⟩ := lineW_head ht.1
    have hne : c ≠ fin := by rcases hf with rfl | rfl <;> assumption
    rw [e, pParts, if_neg (by rw [hc]; simp [hne]), if_neg (by simp)]
    simp only [if_true, List.drop_zero, Nat.zero_add]
    rw [h1, if_neg (enc_nonempty ht.1)]
    simp only
    rw [List.drop_left, ih]
    simp only [List.map_cons, joinL, List.length_append]
    congr 2
theorem node_deep {h : List UInt8} {l : List Tm} {d : Nat} (hd : (Tm.node h l).deep ≤ d + 1) : ∀ t ∈ l, t.deep ≤ d := fun t ht => by
  simp only [Tm.deep] at hd
  have := deeps_mem ht
  omega
/-- Each line is read, whatever stands behind it in a line. -/
theorem parse_line : ∀ T : Tm, T.valid → ∀ d, T.deep ≤ d → ∀ rest, okRest rest → pParse d (lineW T ++ rest) = (T.enc, (lineW T).length) := by
  refine Tm.ind ?_
  intro h l ih hv d hd rest hr
  obtain ⟨d, rfl⟩ : ∃ k, d = k + 1 := ⟨d - 1, by simp only [Tm.deep] at hd; omega⟩
  have hg := hv.1
  simp only [Tm.good] at hg
  have hdl := node_deep hd
  have hsub : ∀ t ∈ l, t.good ∧ ∀ rest, okRest rest → pParse d (lineW t ++ rest) = (t.enc, (lineW t).length) := fun t ht =>
    ⟨goods_mem hg.2 t ht, fun rest hr => ih t ht (node_valid_parts hv t ht) d (hdl t ht) rest hr⟩
  have hm := made_again hv
  obtain ⟨c, hk⟩ := head_kind hg.1
  rw [lineW_node]
  cases hk with
  | data x e e1 e2 =>
    obtain rfl : l = [] := List.length_eq_zero_iff.1 e2
    subst e
    rw [wrap_data e1, data_enc]
    unfold datumL
    split
    · rename_i hp
      have hx : ∀ b ∈ x, notQ b = true := fun b hb => by unfold notQ; exact decide_eq_true (plain_bytes hp b hb)
      have h1 : runL notQ (x ++ 34 :: rest) = x.length := runL_app hx (fun b hb => by cases hb; decide)
      have e3 : (34 :: x ++ [34] ++ rest : List UInt8) = 34 :: (x ++ 34 :: rest) := by simp
      rw [e3, pParse, if_neg (by decide), if_neg (by decide), if_pos rfl]
      unfold pQuoted
      rw [h1, List.take_left, if_neg (by rw [hp]; simp; omega), dataP_ok e1]
      simp
    · rename_i hp
      have h1 : runL hexB (hexL x ++ rest) = (hexL x).length := runL_app (hexL_all x) (fun b hb => (hr b hb).2)
      rw [List.cons_append, pParse, if_neg (by decide), if_pos rfl]
      unfold pBytes
      rw [h1, List.take_left, unhex_hexL, if_neg (by rw [hexL_len]; omega), if_neg hp, dataP_ok e1]
      rfl
  | atom x e e1 e4 e2 =>
    obtain rfl : l = [] := List.length_eq_zero_iff.1 e2
    subst e
    have hx : ∀ b ∈ x, nameB b = true := by
      unfold nameOK at e4
      rw [Bool.and_eq_true, List.all_eq_true] at e4
      exact e4.2
    have h1 : runL nameB (x ++ rest) = x.length := runL_app hx (fun b hb => (hr b hb).1)
    rw [wrap_atom (by omega), atom_enc, List.cons_append, pParse, if_pos rfl]
    unfold pAtom
    rw [h1, List.take_left, atomP_ok e1 e4]
    rfl
  | row v e e1 e2 =>
    have h1 := parts_all (fin := 93) (.inl rfl) l hsub 33 (by omega) rest
    subst e
    have hrow : rowP (l.map Tm.enc) = ((Tm.node (114 :: enc v) l).enc, 0) := by unfold rowP; rw [List.length_map, e2]; exact hm
    rw [wrap_row, List.cons_append, pParse, if_neg (by decide), if_neg (by decide), if_neg (by decide), if_pos rfl, List.append_assoc, List.singleton_append, h1]
    simp only [hrow, List.length_cons, List.length_append, List.length_nil]
  | hash e e2 =>
    have h1 := parts_all (fin := 41) (.inr rfl) l hsub 33 (by omega) rest
    subst e
    rw [wrap_hash, List.cons_append, pParse, if_neg (by decide), if_neg (by decide), if_neg (by decide), if_neg (by decide), if_neg (by simp), List.cons_append, List.drop_succ_cons, List.drop_zero, List.append_assoc, List.singleton_append, h1]
    simp only [pMade, List.length_map, e2, and_self, if_true, hm, List.length_cons, List.length_append, List.length_nil]
  | mac e e2 =>
    have h1 := parts_all (fin := 41) (.inr rfl) l hsub 33 (by omega) rest
    subst e
    rw [wrap_mac, List.cons_append, pParse, if_neg (by decide), if_neg (by decide), if_neg (by decide), if_neg (by decide), if_neg (by simp), List.cons_append, List.drop_succ_cons, List.drop_zero, List.append_assoc, List.singleton_append, h1]
    show (pMade 109 (l.map Tm.enc), (joinL (l.map lineW)).length + 1 + 2) = _
    rw [pMade_mac (by rw [List.length_map]; exact e2), hm]
    simp only [List.length_cons, List.length_append, List.length_nil]
  | seal_ e e2 =>
    have h1 := parts_all (fin := 41) (.inr rfl) l hsub 33 (by omega) rest
    subst e
    rw [wrap_seal, List.cons_append, pParse, if_neg (by decide), if_neg (by decide), if_neg (by decide), if_neg (by decide), if_neg (by simp), List.cons_append, List.drop_succ_cons, List.drop_zero, List.append_assoc, List.singleton_append, h1]
    show (pMade 115 (l.map Tm.enc), (joinL (l.map lineW)).length + 1 + 2) = _
    rw [pMade_seal (by rw [List.length_map]; exact e2), hm]
    simp only [List.length_cons, List.length_append, List.length_nil]
/-- Unlike terms have unlike lines. -/
theorem line_inj {T U : Tm} (hT : T.valid) (hU : U.valid) (e : lineW T = lineW U) : T = U := by
  have h0 : okRest [] := fun b hb => by cases hb
  have h1 := parse_line T hT 16 hT.2.1 [] h0
  have h2 := parse_line U hU 16 hU.2.1 [] h0
  rw [e, h2] at h1
  exact enc_tm_inj hT.1 hU.1 (Prod.mk.inj h1).1.symm
end Go.Proofs.YtiehhlolhhjgpaaGreatDoor.Pl

namespace Go.Proofs.YtiehhlolhhjgpaaGreatDoor.Pl

/-- What is read is the line of what is handed back. -/
def SoundP (pp : List UInt8 → List UInt8 × Nat) : Prop := ∀ s, (pp s).1 ≠ [] → ∃ T : Tm, T.valid ∧ T.enc = (pp s).1 ∧ (pp s).2 ≤ s.length ∧ s.take (pp s).2 = lineW T
theorem parts_sound {pp : List UInt8 → List UInt8 × Nat} (hp : SoundP pp) (fin : UInt8) : ∀ k first s l n, pParts pp fin k first s = some (l, n) →
    ∃ m : List Tm, (∀ t ∈ m, t.valid) ∧ m.map Tm.enc = l ∧ n ≤ s.length ∧ s.take n = (if first = true then joinL (m.map lineW) else sepL (m.map lineW)) ++ [fin]
  | 0, _, _, _, _, h => by simp [pParts] at h
  | k + 1, first, s, l, n, h => by
    rw [pParts] at h
    obtain ⟨z, hz⟩ : ∃ z, z = (if first = true then 0 else 2) := ⟨_, rfl⟩
    rw [← hz] at h
    by_cases h1 : s.head? = some fin
    · rw [if_pos h1] at h
      simp only [Option.some.injEq, Prod.mk.injEq] at h
      obtain ⟨rfl, rfl⟩ := h
      cases s with
      | nil => cases h1
      | cons c r =>
        simp at h1
        subst h1
        exact ⟨[], (fun t ht => by cases ht), rfl, by simp, by cases first <;> simp [joinL, sepL]⟩
    · rw [if_neg h1] at h
      by_cases h2 : first = false ∧ s.take 2 ≠ [44, 32]
      · rw [if_pos h2] at h; cases h
      · rw [if_neg h2] at h
        by_cases h3 : (pp (s.drop z)).1 = []
        · rw [if_pos h3] at h; cases h
        · rw [if_neg h3] at h
          obtain ⟨T, tv, te, tn, tl⟩ := hp (s.drop z) h3
          cases h4 : pParts pp fin k false (s.drop (z + (pp (s.drop z)).2)) with
          | none => rw [h4] at h; cases h
          | some ln =>
            obtain ⟨l', n'⟩ := ln
            rw [h4] at h
            simp only [Option.some.injEq, Prod.mk.injEq] at h
            obtain ⟨rfl, rfl⟩ := h
            obtain ⟨m, mv, me, mn, ml⟩ := parts_sound hp fin k false _ l' n' h4
            rw [List.length_drop] at mn tn
            have h44 : first = false → s.take 2 = [44, 32] := fun hf => Classical.byContradiction fun k => h2 ⟨hf, k⟩
            have hzl : z ≤ s.length := by
              cases first with
              | true => simp at hz; omega
              | false =>
                simp at hz
                have := congrArg List.length (h44 rfl)
                rw [List.length_take] at this
                simp at this; omega
            refine ⟨T :: m, ?_, by rw [List.map_cons, te, me], by omega, ?_⟩
            · intro t ht
              rcases List.mem_cons.1 ht with rfl | ht
              · exact tv
              · exact mv t ht
            · rw [List.take_add, List.take_add, tl, ml]
              cases first with
              | true =>
                simp at hz
                subst hz
                simp [joinL]
              | false =>
                simp at hz
                subst hz
                rw [h44 rfl]
                simp [sepL]
theorem tree_parts {h : List UInt8} {l : List (List UInt8)} {m : List Tm} (hm : m.map Tm.enc = l) (mv : ∀ t ∈ m, t.valid) {m' : List Tm} (hv : (Tm.node h m').valid) (hm' : m'.map Tm.enc = l) : m' = m := by
  have key : ∀ a b : List Tm, (∀ t ∈ a, t.valid) → (∀ t ∈ b, t.valid) → a.map Tm.enc = b.map Tm.enc → a = b := by
    intro a
    induction a with
    | nil => intro b _ _ e; cases b with | nil => rfl | cons => simp at e
    | cons x a ih =>
      intro b ha hb e
      cases b with
      | nil => simp at e
      | cons y b =>
        rw [List.map_cons, List.map_cons] at e
        obtain ⟨e1, e2⟩ := List.cons.inj e
        rw [enc_tm_inj (ha x (by simp)).1 (hb y (by simp)).1 e1, ih b (fun t ht => ha t (by simp [ht])) (fun t ht => hb t (by simp [ht])) e2]
  exact key m' m (node_valid_parts hv) mv (hm'.trans hm.symm)
theorem parse_sound : ∀ d, SoundP (pParse d) := by
  intro d
  induction d with
  | zero => intro s h; exact absurd rfl h
  | succ d ih =>
    intro s h
    cases s with
    | nil => exact absurd rfl h
    | cons c r =>
      rw [pParse] at h ⊢
      split at h
      · rename_i hc
        subst hc
        rw [if_pos rfl]
        obtain ⟨h1, h2⟩ := atomP_some (x := r.take (runL nameB r)) h
        refine ⟨_, atom_valid h1 h2, ?_, ?_, ?_⟩
        · rw [atom_enc]; unfold pAtom; simp only; rw [atomP_ok h1 h2]
        · have := runL_le nameB r; unfold pAtom; simp only [List.length_cons]; omega
        · rw [lineW_node, wrap_atom (by omega)]; unfold pAtom; simp only [List.take_succ_cons]
      · rename_i n36
        rw [if_neg n36]
        split at h
        · rename_i hc
          subst hc
          rw [if_pos rfl]
          unfold pBytes at h ⊢
          split at h
          · exact absurd rfl h
          · rename_i h1
            rw [if_neg h1]
            split at h
            · exact absurd rfl h
            · rename_i h2
              rw [if_neg h2]
              have hr := runL_le hexB r
              have hlen : (r.take (runL hexB r)).length = runL hexB r := by rw [List.length_take]; omega
              have hev : (r.take (runL hexB r)).length % 2 = 0 := by rw [hlen]; omega
              have hu := unhex_len _ hev
              have hx : (unhex (r.take (runL hexB r))).length ≤ 1024 := by omega
              refine ⟨_, data_valid hx, ?_, ?_, ?_⟩
              · rw [data_enc, dataP_ok hx]
              · simp only [List.length_cons]; omega
              · rw [lineW_node, wrap_data hx]
                unfold datumL
                rw [if_neg h2, hexL_unhex _ hev (run_all hexB r)]
                simp only [List.take_succ_cons]
        · rename_i n120
          rw [if_neg n120]
          split at h
          · rename_i hc
            subst hc
            rw [if_pos rfl]
            unfold pQuoted at h ⊢
            split at h
            · exact absurd rfl h
            · rename_i h1
              rw [if_neg h1]
              have hr := runL_le notQ r
              have hp : plainB (r.take (runL notQ r)) = true := by
                cases e : plainB (r.take (runL notQ r)) with
                | true => rfl
                | false => exact absurd (.inr (.inr e)) h1
              have hlt : runL notQ r < r.length := by
                have : runL notQ r ≠ r.length := fun e => h1 (.inl e)
                omega
              have hx : (r.take (runL notQ r)).length ≤ 1024 := by
                rw [List.length_take]
                have : ¬ 1024 < runL notQ r := fun e => h1 (.inr (.inl e))
                omega
              have hq : r[runL notQ r]? = some 34 := by
                have hd := List.takeWhile_append_dropWhile (p := notQ) (l := r)
                cases hdw : r.dropWhile notQ with
                | nil =>
                  rw [hdw, List.append_nil] at hd
                  have := congrArg List.length hd
                  unfold runL at hlt
                  omega
                | cons q r' =>
                  have hq0 : notQ q = false := by
                    have := List.head?_dropWhile_not notQ r
                    rw [hdw] at this
                    simpa using this
                  have hq1 : q = 34 := by
                    unfold notQ at hq0
                    simpa using hq0
                  rw [hdw, hq1] at hd
                  have hg : (r.takeWhile notQ ++ 34 :: r')[runL notQ r]? = some 34 := by
                    unfold runL
                    rw [List.getElem?_append_right (Nat.le_refl _)]
                    simp
                  rw [hd] at hg
                  exact hg
              refine ⟨_, data_valid hx, ?_, ?_, ?_⟩
              · rw [data_enc, dataP_ok hx]
              · simp only [List.length_cons]; omega
              · rw [lineW_node, wrap_data hx]
                unfold datumL
                rw [if_pos hp]
                simp only [List.take_succ_cons, List.cons_append]
                rw [List.take_add_one, hq]
                rfl
          · rename_i n34
            rw [if_neg n34]
            split at h
            · rename_i hc
              subst hc
              rw [if_pos rfl]
              cases hpp : pParts (pParse d) 93 33 true r with
              | none => rw [hpp] at h; exact absurd rfl h
              | some lk =>
                obtain ⟨l, k⟩ := lk
                rw [hpp] at h
                simp only at h ⊢
                obtain ⟨m, mv, me, mn, ml⟩ := parts_sound ih 93 33 true r l k hpp
                have hrow := madeP_some (f := 114 :: enc l.length) (l := l) h
                by_cases h8 : l.length < 256 ^ 8
                · obtain ⟨m', hv, he, hme⟩ := row_parts h8 (show rowP l = ((rowP l).1, 0) from hrow)
                  obtain rfl := tree_parts me mv hv hme
                  refine ⟨_, hv, he, by simp only [List.length_cons]; omega, ?_⟩
                  rw [lineW_node, wrap_row, List.take_succ_cons, ml, if_pos rfl]
                · exfalso
                  have hl := congrArg List.length me
                  rw [List.length_map] at hl
                  have hc := madeP_some (f := 114 :: enc l.length) (l := l) h
                  unfold madeP at hc
                  split at hc
                  · split at hc
                    · rename_i h5
                      have := check_len h5
                      rw [List.length_append, ← me, ← encs_flat] at this
                      have h6 : m.length ≤ (encs m).length := by
                        have : ∀ m : List Tm, (∀ t ∈ m, t.valid) → m.length ≤ (encs m).length := by
                          intro m
                          induction m with
                          | nil => intro _; simp
                          | cons t m ihm =>
                            intro hm
                            have h7 := enc_two6 (hm t (by simp)).1
                            have h8 := ihm (fun u hu => hm u (by simp [hu]))
                            rw [encs, List.length_append, List.length_cons]; omega
                        exact this m mv
                      omega
                    · simp at hc
                  · simp at hc
            · rename_i n91
              rw [if_neg n91]
              split at h
              · exact absurd rfl h
              · rename_i h40
                rw [if_neg h40]
                have hr40 : ∃ r', r = 40 :: r' := by
                  cases r with
                  | nil => simp at h40
                  | cons b r' => simp at h40; exact ⟨r', by rw [h40]⟩
                obtain ⟨r', rfl⟩ := hr40
                rw [List.drop_succ_cons, List.drop_zero] at h ⊢
                cases hpp : pParts (pParse d) 41 33 true r' with
                | none => rw [hpp] at h; exact absurd rfl h
                | some lk =>
                  obtain ⟨l, k⟩ := lk
                  rw [hpp] at h
                  simp only at h ⊢
                  obtain ⟨m, mv, me, mn, ml⟩ := parts_sound ih 41 33 true r' l k hpp
                  have hlm : l.length = m.length := by rw [← me, List.length_map]
                  have fin : ∀ (b : UInt8), HeadOK [b] l.length → c = b → (pMade c l) = (madeP [b] l).1 → wrapL [b] (m.map lineW) = b :: 40 :: (joinL (m.map lineW) ++ [41]) →
                      ∃ T : Tm, T.valid ∧ T.enc = pMade c l ∧ k + 2 ≤ (c :: 40 :: r').length ∧ (c :: 40 :: r').take (k + 2) = lineW T := by
                    intro b hh hcb hpm hw
                    subst hcb
                    rw [hpm] at h
                    obtain ⟨m', hv, he, hme⟩ := made_parts hh (madeP_some h)
                    obtain rfl := tree_parts me mv hv hme
                    refine ⟨_, hv, he.trans hpm.symm, by simp only [List.length_cons]; omega, ?_⟩
                    rw [lineW_node, hw, List.take_succ_cons, List.take_succ_cons, ml, if_pos rfl]
                  by_cases c4 : c = 104 ∧ l.length = 1
                  · exact fin 104 (by rw [c4.2]; exact hash_head) c4.1 (by rw [c4.1]; exact pMade_hash c4.2) (wrap_hash _)
                  · by_cases c5 : c = 109 ∧ l.length = 2
                    · exact fin 109 (by rw [c5.2]; exact mac_head) c5.1 (by rw [c5.1]; exact pMade_mac c5.2) (wrap_mac _)
                    · by_cases c6 : c = 115 ∧ l.length = 3
                      · exact fin 115 (by rw [c6.2]; exact seal_head) c6.1 (by rw [c6.1]; exact pMade_seal c6.2) (wrap_seal _)
                      · unfold pMade at h
                        rw [if_neg c4, if_neg c5, if_neg c6] at h
                        exact absurd rfl h
/-- Parse, as it is promised. -/
theorem parseF_line {T : Tm} (h : T.valid) : parseF (lineW T) = (T.enc, 0) := by
  have h1 := parse_line T h 16 h.2.1 [] (fun b hb => by cases hb)
  rw [List.append_nil] at h1
  unfold parseF
  rw [h1, if_neg (by rintro (k | k); exact enc_nonempty h.1 k; exact k rfl)]
theorem parseF_some {s : List UInt8} (h : (parseF s).2 = 0) : ∃ T : Tm, T.valid ∧ T.enc = (parseF s).1 ∧ lineW T = s := by
  unfold parseF at h ⊢
  split at h
  · exact absurd h (by decide)
  · rename_i h1
    rw [if_neg h1]
    have h2 : (pParse 16 s).1 ≠ [] := fun e => h1 (.inl e)
    have h3 : (pParse 16 s).2 = s.length := Classical.byContradiction fun e => h1 (.inr e)
    obtain ⟨T, tv, te, _, tl⟩ := parse_sound 16 s h2
    rw [h3, List.take_length] at tl
    exact ⟨T, tv, te, tl.symm⟩
theorem parseF_none {s : List UInt8} (h : (parseF s).2 ≠ 0) : parseF s = ([], 7) := by
  unfold parseF at h ⊢
  split
  · rfl
  · rename_i h1
    rw [if_neg h1] at h
    exact absurd rfl h
end Go.Proofs.YtiehhlolhhjgpaaGreatDoor.Pl

namespace Go.Proofs.YtiehhlolhhjgpaaGreatDoor.Pl

/-- What goes on: neither a comma nor a bracket that closes. -/
def goB (b : UInt8) : Bool := decide (b ≠ 44 ∧ b ≠ 93 ∧ b ≠ 41)
def okHead (r : List UInt8) : Prop := ∀ b, r.head? = some b → goB b = false
def nAtom (s : List UInt8) : Option (List UInt8 × List UInt8) :=
  if (atomP (s.take (runL goB s))).2 = 0 then some ((atomP (s.take (runL goB s))).1, s.drop (runL goB s)) else none
def nBytes (s : List UInt8) : Option (List UInt8 × List UInt8) :=
  if (s.take (runL goB s)).length % 2 = 0 ∧ (s.take (runL goB s)).all hexB = true ∧ plainB (unhex (s.take (runL goB s))) = false ∧ (dataP (unhex (s.take (runL goB s)))).2 = 0 then some ((dataP (unhex (s.take (runL goB s)))).1, s.drop (runL goB s)) else none
def nPlain (s : List UInt8) : Option (List UInt8 × List UInt8) :=
  if runL notQ s < s.length ∧ plainB (s.take (runL notQ s)) = true ∧ (dataP (s.take (runL notQ s))).2 = 0 then some ((dataP (s.take (runL notQ s))).1, s.drop (runL notQ s + 1)) else none
/-- Parts, k at most, and one at least, up to a sign. -/
def nRest (nn : List UInt8 → Option (List UInt8 × List UInt8)) (fin : UInt8) : Nat → List UInt8 → Option (List (List UInt8) × List UInt8)
  | 0, _ => none
  | k + 1, s => match nn s with
    | none => none
    | some (t, r) => if r.head? = some fin then some ([t], r.drop 1) else if r.take 2 = [44, 32] then (match nRest nn fin k (r.drop 2) with | none => none | some (l, q) => some (t :: l, q)) else none
def nParts (nn : List UInt8 → Option (List UInt8 × List UInt8)) (fin : UInt8) (s : List UInt8) : Option (List (List UInt8) × List UInt8) :=
  if s.head? = some fin then some ([], s.drop 1) else nRest nn fin 32 s
/-- What the letter before the brackets, and the parts, make. -/
def bMade (c : UInt8) (l : List (List UInt8)) : List UInt8 × Nat :=
  if c = 91 then rowP l else if c = 104 ∧ l.length = 1 then madeP [104] l else if c = 109 ∧ l.length = 2 then madeP [109] l else if c = 115 ∧ l.length = 3 then madeP [115] l else ([], 7)
def nMade (c : UInt8) (l : List (List UInt8)) (q : List UInt8) : Option (List UInt8 × List UInt8) := if (bMade c l).2 = 0 then some ((bMade c l).1, q) else none
def nMade2 (c : UInt8) : Option (List (List UInt8) × List UInt8) → Option (List UInt8 × List UInt8)
  | none => none
  | some (l, q) => nMade c l q
/-- The term whose line stands next, and what stands behind it. -/
def nxt : Nat → List UInt8 → Option (List UInt8 × List UInt8)
  | 0, _ => none
  | _ + 1, [] => none
  | d + 1, c :: r =>
    if c = 34 then nPlain r else if c = 120 then nBytes r else if c = 36 then nAtom r
    else if c = 91 then nMade2 91 (nParts (nxt d) 93 r)
    else if (c = 104 ∨ c = 109 ∨ c = 115) ∧ r.head? = some 40 then nMade2 c (nParts (nxt d) 41 (r.drop 1))
    else none
def parseN (s : List UInt8) : List UInt8 × Nat :=
  match nxt 16 s with
  | none => ([], 7)
  | some (t, r) => if r = [] then (t, 0) else ([], 7)

theorem runL_step (p : UInt8 → Bool) (s : List UInt8) (n : Nat) (h : n < s.length) (hr : n ≤ runL p s) : (p (s.getD n 0) = true → n + 1 ≤ runL p s) ∧ (p (s.getD n 0) = false → runL p s = n) := by
  induction s generalizing n with
  | nil => simp at h
  | cons c s ih =>
    by_cases hc : p c = true
    · have e : runL p (c :: s) = runL p s + 1 := by unfold runL; rw [List.takeWhile_cons_of_pos hc]; rfl
      cases n with
      | zero => exact ⟨fun _ => by omega, fun k => by simp [hc] at k⟩
      | succ n =>
        have := ih n (by simpa using h) (by omega)
        simp only [List.getD_cons_succ]
        exact ⟨fun k => by have := this.1 k; omega, fun k => by have := this.2 k; omega⟩
    · have e : runL p (c :: s) = 0 := by unfold runL; rw [List.takeWhile_cons_of_neg hc]; rfl
      obtain rfl : n = 0 := by omega
      exact ⟨fun k => absurd k hc, fun _ => e⟩
theorem run_head (p : UInt8 → Bool) (s : List UInt8) : ∀ b, (s.drop (runL p s)).head? = some b → p b = false := by
  induction s with
  | nil => intro b hb; simp at hb
  | cons c s ih =>
    intro b hb
    unfold runL at hb ih
    cases hc : p c with
    | true =>
      rw [List.takeWhile_cons_of_pos hc, List.length_cons, List.drop_succ_cons] at hb
      exact ih b hb
    | false =>
      rw [List.takeWhile_cons_of_neg (by rw [hc]; decide)] at hb
      cases hb; exact hc
/-- Two ways to go on, the one within the other: they come to the same where the longer one holds but what the shorter one lets by. -/
theorem run_wide {p q : UInt8 → Bool} {s : List UInt8} (h : ∀ b ∈ s.take (runL q s), p b = true) (hpq : ∀ b, p b = true → q b = true) : runL p s = runL q s := by
  have e : s = s.take (runL q s) ++ s.drop (runL q s) := (List.take_append_drop _ _).symm
  have hl : (s.take (runL q s)).length = runL q s := by rw [List.length_take]; have := runL_le q s; omega
  have hh := run_head q s
  generalize s.drop (runL q s) = r at *
  generalize s.take (runL q s) = x at *
  rw [← hl]
  rw [e]
  refine runL_app h fun b hb => ?_
  have := hh b hb
  cases hp : p b with
  | false => rfl
  | true => rw [hpq b hp] at this; cases this
theorem run_thin {p q : UInt8 → Bool} {s : List UInt8} (h : ∀ b, (s.drop (runL p s)).head? = some b → q b = false) (hpq : ∀ b, p b = true → q b = true) : runL q s = runL p s := by
  have e : s = s.take (runL p s) ++ s.drop (runL p s) := (List.take_append_drop _ _).symm
  have hl : (s.take (runL p s)).length = runL p s := by rw [List.length_take]; have := runL_le p s; omega
  have ha := run_all p s
  generalize s.drop (runL p s) = r at *
  generalize s.take (runL p s) = x at *
  rw [← hl]
  rw [e]
  exact runL_app (fun b hb => hpq b (ha b hb)) h
theorem goB_name {b : UInt8} (h : nameB b = true) : goB b = true := by
  unfold nameB at h
  unfold goB
  rw [decide_eq_true_iff] at h ⊢
  refine ⟨?_, ?_, ?_⟩ <;> (rintro rfl; revert h; decide)
theorem goB_hex {b : UInt8} (h : hexB b = true) : goB b = true := by
  unfold hexB at h
  unfold goB
  rw [decide_eq_true_iff] at h ⊢
  refine ⟨?_, ?_, ?_⟩ <;> (rintro rfl; revert h; decide)
theorem dataP_iff (x : List UInt8) : (dataP x).2 = 0 ↔ (dataP x).1 ≠ [] := by
  unfold dataP; split <;> simp
theorem atomP_iff (x : List UInt8) : (atomP x).2 = 0 ↔ (atomP x).1 ≠ [] := by
  unfold atomP; split
  · simp
  · split <;> simp
theorem madeP_iff {f : List UInt8} (hf : f ≠ []) (l : List (List UInt8)) : (madeP f l).2 = 0 ↔ (madeP f l).1 ≠ [] := by
  unfold madeP; split
  · split
    · simp [hf]
    · simp
  · simp
theorem rowP_iff (l : List (List UInt8)) : (rowP l).2 = 0 ↔ (rowP l).1 ≠ [] := madeP_iff (by simp) l
theorem nameOK_all {x : List UInt8} (h : nameOK x = true) : ∀ b ∈ x, nameB b = true := by
  unfold nameOK at h
  rw [Bool.and_eq_true] at h
  exact List.all_eq_true.1 h.2

/-- The program's reading beside the chapter's. -/
def RelN (pp : List UInt8 → List UInt8 × Nat) (nn : List UInt8 → Option (List UInt8 × List UInt8)) : Prop := ∀ s,
  (∀ t r, nn s = some (t, r) → (pp s).1 = t ∧ t ≠ [] ∧ r = s.drop (pp s).2) ∧ ((pp s).1 ≠ [] → okHead (s.drop (pp s).2) → nn s = some ((pp s).1, s.drop (pp s).2))

theorem atom_rel : RelN pAtom nAtom := by
  intro s
  constructor
  · intro t r h
    unfold nAtom at h
    split at h
    · rename_i h1
      rw [Option.some.injEq, Prod.mk.injEq] at h
      obtain ⟨rfl, rfl⟩ := h
      have h2 := (atomP_iff _).1 h1
      have e : runL nameB s = runL goB s := run_wide (nameOK_all (atomP_some h2).2) fun b hb => goB_name hb
      unfold pAtom
      rw [e]
      exact ⟨rfl, h2, rfl⟩
    · cases h
  · intro h1 h2
    unfold pAtom at h1 h2
    have e : runL goB s = runL nameB s := run_thin h2 fun b hb => goB_name hb
    unfold nAtom pAtom
    rw [e, if_pos ((atomP_iff _).2 h1)]
theorem bytes_rel : RelN pBytes nBytes := by
  intro s
  have hw : ∀ {x : List UInt8}, x.length % 2 = 0 → 2 * (unhex x).length = x.length := fun h => unhex_len _ h
  constructor
  · intro t r h
    unfold nBytes at h
    split at h
    · rename_i h1
      obtain ⟨h1, h2, h3, h4⟩ := h1
      rw [Option.some.injEq, Prod.mk.injEq] at h
      obtain ⟨rfl, rfl⟩ := h
      have e : runL hexB s = runL goB s := run_wide (List.all_eq_true.1 h2) fun b hb => goB_hex hb
      have hl : (s.take (runL goB s)).length = runL goB s := by rw [List.length_take]; have := runL_le goB s; omega
      have h5 := hw h1
      have h6 : (unhex (s.take (runL goB s))).length ≤ 1024 := by
        unfold dataP at h4
        split at h4
        · cases h4
        · omega
      unfold pBytes
      rw [e, if_neg (by omega), if_neg (by rw [h3]; decide)]
      exact ⟨rfl, (dataP_iff _).1 h4, rfl⟩
    · cases h
  · intro h1 h2
    unfold pBytes at h1 h2 ⊢
    split at h1
    · exact absurd rfl h1
    · rename_i n1
      rw [if_neg n1] at h2 ⊢
      split at h1
      · exact absurd rfl h1
      · rename_i n2
        rw [if_neg n2] at h2 ⊢
        have e : runL goB s = runL hexB s := run_thin h2 fun b hb => goB_hex hb
        have hl : (s.take (runL hexB s)).length = runL hexB s := by rw [List.length_take]; have := runL_le hexB s; omega
        unfold nBytes
        rw [e, if_pos ⟨by omega, List.all_eq_true.2 (run_all hexB s), by cases hp : plainB (unhex (s.take (runL hexB s))) with | false => rfl | true => exact absurd hp n2, (dataP_iff _).2 h1⟩]
theorem quoted_rel : RelN pQuoted nPlain := by
  intro s
  have hle := runL_le notQ s
  have hl : (s.take (runL notQ s)).length = runL notQ s := by rw [List.length_take]; omega
  constructor
  · intro t r h
    unfold nPlain at h
    split at h
    · rename_i h1
      obtain ⟨h1, h2, h3⟩ := h1
      rw [Option.some.injEq, Prod.mk.injEq] at h
      obtain ⟨rfl, rfl⟩ := h
      have h4 : runL notQ s ≤ 1024 := by
        unfold dataP at h3
        split at h3
        · cases h3
        · omega
      unfold pQuoted
      rw [if_neg (by rw [h2]; simp; omega)]
      exact ⟨rfl, (dataP_iff _).1 h3, rfl⟩
    · cases h
  · intro h1 h2
    unfold pQuoted at h1 h2 ⊢
    split at h1
    · exact absurd rfl h1
    · rename_i n1
      rw [if_neg n1] at h2 ⊢
      unfold nPlain
      rw [if_pos ⟨by omega, by cases hp : plainB (s.take (runL notQ s)) with | true => rfl | false => exact absurd (.inr (.inr hp)) n1, (dataP_iff _).2 h1⟩]
/-- Parts are read alike. -/
theorem rest_rel {pp : List UInt8 → List UInt8 × Nat} {nn : List UInt8 → Option (List UInt8 × List UInt8)} (h : RelN pp nn) {fin : UInt8} (hf : fin = 93 ∨ fin = 41) : ∀ k s,
    nRest nn fin k s = if (pp s).1 = [] then none else (pParts pp fin k false (s.drop (pp s).2)).map fun x => ((pp s).1 :: x.1, (s.drop (pp s).2).drop x.2)
  | 0, s => by rw [nRest, pParts]; split <;> rfl
  | k + 1, s => by
    have hs := h s
    rw [nRest]
    cases hn : nn s with
    | none =>
      simp only
      split
      · rfl
      · rename_i h1
        have hno : ¬ okHead (s.drop (pp s).2) := fun ho => by
          have := hs.2 h1 ho
          rw [hn] at this
          cases this
        have h3 : (s.drop (pp s).2).head? ≠ some fin := fun e => hno fun b hb => by
          rw [e, Option.some.injEq] at hb
          subst hb
          rcases hf with rfl | rfl <;> decide
        have h4 : (s.drop (pp s).2).take 2 ≠ [44, 32] := fun e => hno fun b hb => by
          cases hd : s.drop (pp s).2 with
          | nil => rw [hd] at e; cases e
          | cons c r =>
            rw [hd, List.take_succ_cons, List.cons.injEq] at e
            rw [hd] at hb
            cases hb
            rw [e.1]; decide
        rw [pParts, if_neg h3, if_pos ⟨rfl, h4⟩]
        rfl
    | some x =>
      obtain ⟨t, r⟩ := x
      obtain ⟨rfl, h1, rfl⟩ := hs.1 t r hn
      simp only
      rw [if_neg h1, pParts]
      split
      · rfl
      · split
        · rename_i h4
          rw [if_neg (show ¬ (false = false ∧ (s.drop (pp s).2).take 2 ≠ [44, 32]) from fun e => e.2 h4), rest_rel h hf k]
          simp only [Bool.false_eq_true, if_false]
          generalize s.drop (pp s).2 = X at *
          by_cases h5 : (pp (X.drop 2)).1 = []
          · rw [if_pos h5, if_pos h5]; rfl
          · rw [if_neg h5, if_neg h5, ← List.drop_drop]
            cases pParts pp fin k false ((X.drop 2).drop (pp (X.drop 2)).2) with
            | none => rfl
            | some y => simp only [Option.map_some, List.drop_drop]
        · rename_i h4
          rw [if_pos ⟨rfl, h4⟩]
          rfl
theorem parts_rel {pp : List UInt8 → List UInt8 × Nat} {nn : List UInt8 → Option (List UInt8 × List UInt8)} (h : RelN pp nn) {fin : UInt8} (hf : fin = 93 ∨ fin = 41) (s : List UInt8) :
    nParts nn fin s = (pParts pp fin 33 true s).map fun x => (x.1, s.drop x.2) := by
  unfold nParts
  rw [pParts]
  split
  · rfl
  · rw [if_neg (by simp), rest_rel h hf 32 s]
    simp only [if_true, List.drop_zero, Nat.zero_add]
    split
    · rfl
    · cases pParts pp fin 32 false (s.drop (pp s).2) with
      | none => rfl
      | some y => simp [List.drop_drop]
theorem pMade_b {c : UInt8} (hc : c = 104 ∨ c = 109 ∨ c = 115) (l : List (List UInt8)) : ((bMade c l).2 = 0 ↔ pMade c l ≠ []) ∧ ((bMade c l).2 = 0 → (bMade c l).1 = pMade c l) := by
  unfold bMade pMade
  rw [if_neg (show ¬ c = 91 by rcases hc with rfl | rfl | rfl <;> decide)]
  split
  · exact ⟨madeP_iff (by simp) l, fun _ => rfl⟩
  · split
    · exact ⟨madeP_iff (by simp) l, fun _ => rfl⟩
    · split
      · exact ⟨madeP_iff (by simp) l, fun _ => rfl⟩
      · exact ⟨⟨fun h => absurd h (by decide), fun h => absurd rfl h⟩, fun h => absurd h (by decide)⟩
theorem shift_rel {pp : List UInt8 → List UInt8 × Nat} {nn : List UInt8 → Option (List UInt8 × List UInt8)} (h : RelN pp nn) (c : UInt8) (r : List UInt8) :
    (∀ t q, nn r = some (t, q) → ((pp r).1, (pp r).2 + 1).1 = t ∧ t ≠ [] ∧ q = (c :: r).drop ((pp r).1, (pp r).2 + 1).2) ∧ (((pp r).1, (pp r).2 + 1).1 ≠ [] → okHead ((c :: r).drop ((pp r).1, (pp r).2 + 1).2) → nn r = some (((pp r).1, (pp r).2 + 1).1, (c :: r).drop ((pp r).1, (pp r).2 + 1).2)) := h r
theorem nxt_rel : ∀ d, RelN (pParse d) (nxt d) := by
  intro d
  induction d with
  | zero => intro s; exact ⟨(fun t r h => by cases h), fun h => absurd rfl h⟩
  | succ d ih =>
    intro s
    cases s with
    | nil => exact ⟨(fun t r h => by cases h), fun h => absurd rfl h⟩
    | cons c r =>
      have none_rel : ∀ z : List UInt8 × Nat, z.1 = [] → (∀ t q, (none : Option (List UInt8 × List UInt8)) = some (t, q) → z.1 = t ∧ t ≠ [] ∧ q = (c :: r).drop z.2) ∧ (z.1 ≠ [] → okHead ((c :: r).drop z.2) → none = some (z.1, (c :: r).drop z.2)) :=
        fun z hz => ⟨(fun t q h => by cases h), fun h => absurd hz h⟩
      by_cases h34 : c = 34
      · subst h34
        have hp : pParse (d + 1) (34 :: r) = ((pQuoted r).1, (pQuoted r).2 + 1) := by rw [pParse, if_neg (by decide), if_neg (by decide), if_pos rfl]
        have hn : nxt (d + 1) (34 :: r) = nPlain r := by rw [nxt, if_pos rfl]
        rw [hp, hn]
        exact shift_rel quoted_rel _ r
      by_cases h120 : c = 120
      · subst h120
        have hp : pParse (d + 1) (120 :: r) = ((pBytes r).1, (pBytes r).2 + 1) := by rw [pParse, if_neg (by decide), if_pos rfl]
        have hn : nxt (d + 1) (120 :: r) = nBytes r := by rw [nxt, if_neg (by decide), if_pos rfl]
        rw [hp, hn]
        exact shift_rel bytes_rel _ r
      by_cases h36 : c = 36
      · subst h36
        have hp : pParse (d + 1) (36 :: r) = ((pAtom r).1, (pAtom r).2 + 1) := by rw [pParse, if_pos rfl]
        have hn : nxt (d + 1) (36 :: r) = nAtom r := by rw [nxt, if_neg (by decide), if_neg (by decide), if_pos rfl]
        rw [hp, hn]
        exact shift_rel atom_rel _ r
      by_cases h91 : c = 91
      · subst h91
        have hp : pParse (d + 1) (91 :: r) = (match pParts (pParse d) 93 33 true r with | none => ([], 0) | some (l, k) => ((rowP l).1, k + 1)) := by rw [pParse, if_neg (by decide), if_neg (by decide), if_neg (by decide), if_pos rfl] <;> rfl
        have hn : nxt (d + 1) (91 :: r) = nMade2 91 (nParts (nxt d) 93 r) := by rw [nxt, if_neg (by decide), if_neg (by decide), if_neg (by decide), if_pos rfl]
        rw [hp, hn, parts_rel ih (.inl rfl)]
        cases pParts (pParse d) 93 33 true r with
        | none => exact none_rel _ rfl
        | some x =>
          obtain ⟨l, k⟩ := x
          simp only [Option.map_some, nMade2, nMade, bMade, if_true]
          constructor
          · intro t q h
            split at h
            · rename_i h1
              rw [Option.some.injEq, Prod.mk.injEq] at h
              obtain ⟨rfl, rfl⟩ := h
              exact ⟨rfl, (rowP_iff l).1 h1, rfl⟩
            · cases h
          · intro h1 _
            rw [if_pos ((rowP_iff l).2 h1)]
            rfl
      have hp : pParse (d + 1) (c :: r) = (if r.head? ≠ some 40 then ([], 0) else match pParts (pParse d) 41 33 true (r.drop 1) with | none => ([], 0) | some (l, k) => (pMade c l, k + 2)) := by rw [pParse, if_neg h36, if_neg h120, if_neg h34, if_neg h91] <;> rfl
      have hn : nxt (d + 1) (c :: r) = (if (c = 104 ∨ c = 109 ∨ c = 115) ∧ r.head? = some 40 then nMade2 c (nParts (nxt d) 41 (r.drop 1)) else none) := by rw [nxt, if_neg h34, if_neg h120, if_neg h36, if_neg h91]
      rw [hp, hn]
      clear hp hn
      by_cases h40 : r.head? = some 40
      · rw [if_neg (show ¬ r.head? ≠ some 40 from fun h => h h40)]
        by_cases hc : c = 104 ∨ c = 109 ∨ c = 115
        · rw [if_pos (show (c = 104 ∨ c = 109 ∨ c = 115) ∧ r.head? = some 40 from ⟨hc, h40⟩), parts_rel ih (.inr rfl)]
          cases pParts (pParse d) 41 33 true (r.drop 1) with
          | none => exact none_rel _ rfl
          | some x =>
            obtain ⟨l, k⟩ := x
            simp only [Option.map_some, nMade2, nMade]
            obtain ⟨m1, m2⟩ := pMade_b hc l
            have hd : (r.drop 1).drop k = (c :: r).drop (k + 2) := by rw [List.drop_drop, show k + 2 = (1 + k) + 1 by omega, List.drop_succ_cons]
            constructor
            · intro t q h
              split at h
              · rename_i h1
                rw [Option.some.injEq, Prod.mk.injEq] at h
                obtain ⟨rfl, rfl⟩ := h
                exact ⟨(m2 h1).symm, by rw [m2 h1]; exact m1.1 h1, hd⟩
              · cases h
            · intro h1 _
              rw [if_pos (m1.2 h1), m2 (m1.2 h1), hd]
        · rw [if_neg (show ¬ ((c = 104 ∨ c = 109 ∨ c = 115) ∧ r.head? = some 40) from fun h => hc h.1)]
          have hp : ∀ l, pMade c l = [] := fun l => by
            unfold pMade
            rw [if_neg (fun h => hc (.inl h.1)), if_neg (fun h => hc (.inr (.inl h.1))), if_neg (fun h => hc (.inr (.inr h.1)))]
          cases pParts (pParse d) 41 33 true (r.drop 1) with
          | none => exact none_rel _ rfl
          | some x => obtain ⟨l, k⟩ := x; exact none_rel _ (hp l)
      · rw [if_pos (show r.head? ≠ some 40 from h40), if_neg (show ¬ ((c = 104 ∨ c = 109 ∨ c = 115) ∧ r.head? = some 40) from fun h => h40 h.2)]
        exact none_rel _ rfl
/-- The program's answer is the chapter's. -/
theorem parseN_eq (s : List UInt8) : parseN s = parseF s := by
  have hr := nxt_rel 16 s
  unfold parseN parseF
  cases hn : nxt 16 s with
  | none =>
    simp only
    by_cases h : (pParse 16 s).1 = [] ∨ (pParse 16 s).2 ≠ s.length
    · rw [if_pos h]
    · rw [hn] at hr
      have h1 : (pParse 16 s).1 ≠ [] := fun e => h (.inl e)
      have h2 : (pParse 16 s).2 = s.length := by
        rcases Nat.decEq (pParse 16 s).2 s.length with e | e
        · exact absurd (.inr e) h
        · exact e
      have := hr.2 h1 (fun b hb => by rw [h2, List.drop_length] at hb; cases hb)
      cases this
  | some x =>
    obtain ⟨t, r⟩ := x
    obtain ⟨rfl, h1, rfl⟩ := hr.1 t r hn
    simp only
    obtain ⟨T, tv, te, tl, tx⟩ := parse_sound 16 s h1
    by_cases hd : s.drop (pParse 16 s).2 = []
    · rw [if_pos hd, if_neg]
      rintro (h | h)
      · exact h1 h
      · rw [List.drop_eq_nil_iff] at hd
        omega
    · rw [if_neg hd, if_pos]
      refine .inr fun h => hd ?_
      rw [h, List.drop_length]
end Go.Proofs.YtiehhlolhhjgpaaGreatDoor.Pl

namespace Go.Proofs.YtiehhlolhhjgpaaGreatDoor.Pl
open Go.RowKit

theorem below_step {a b c : World} (h : Below a.heap.size a b) (k : Below b.heap.size b c) : Below a.heap.size a c := h.trans (k.mono h.size)
theorem below_undrew {a b : World} (h : Below a.drew.heap.size a.drew b) : Below a.heap.size a b := ⟨h.os, h.tape, h.output, h.size, h.block⟩
theorem below_undrewN {a b : World} {n : Nat} (h : Below (a.drewN n).heap.size (a.drewN n) b) : Below a.heap.size a b := ⟨h.os, h.tape, h.output, h.size, h.block⟩
theorem below_drewN {B : Nat} {a w : World} (h : Below B a w) (n : Nat) : Below B a (w.drewN n) := ⟨h.os, h.tape, h.output, h.size, h.block⟩
theorem bcell {W w1 : World} (hb : Below W.heap.size W w1) : ∀ b o, b < W.heap.size → w1.cell? ⟨b, o, none⟩ = W.cell? ⟨b, o, none⟩ := fun b o h => hb.cell (p := ⟨b, o, none⟩) h
theorem ret_str {a b : ByteArray} (h : a = b) : Ending.returned (.string a) = .returned (.string b) := by rw [h]
theorem ret3 {a b : Int} {n m : Value} (h : a = b) : Ending.returned (.tuple #[.int .u64 a, n, m]) = .returned (.tuple #[.int .u64 b, n, m]) := by rw [h]
theorem ret3s {a b : ByteArray} {n m : Int} {k j : Int} (h : a = b) (h1 : n = m) (h2 : k = j) : Ending.returned (.tuple #[.string a, .int .i64 n, .int .i64 k]) = .returned (.tuple #[.string b, .int .i64 m, .int .i64 j]) := by rw [h, h1, h2]
theorem size_lit (l : List UInt8) : (ByteArray.mk l.toArray).size = l.length := by simp [ByteArray.size]
end Go.Proofs.YtiehhlolhhjgpaaGreatDoor.Pl

namespace Go.Proofs.YtiehhlolhhjgpaaGreatDoor.Pl

def unlisted (l : List Bool) : Nat := (l.map fun b => if b then 0 else 1).sum
theorem unlisted_set : ∀ (l : List Bool) (i : Nat), l.getD i true = false → unlisted (l.set i true) + 1 = unlisted l
  | [], i, h => by simp at h
  | b :: l, 0, h => by
    simp at h; subst h
    simp [unlisted]; omega
  | b :: l, i + 1, h => by
    have ih := unlisted_set l i (by simpa using h)
    simp only [unlisted, List.set_cons_succ, List.map_cons, List.sum_cons] at ih ⊢
    omega
theorem unlisted_zero : ∀ (l : List Bool) (i : Nat), unlisted l = 0 → l.getD i true = true
  | [], i, _ => by simp
  | b :: l, 0, h => by
    cases b with
    | true => rfl
    | false => simp [unlisted] at h
  | b :: l, i + 1, h => by
    have h' : unlisted l = 0 := by
      simp only [unlisted, List.map_cons, List.sum_cons] at h ⊢
      omega
    simpa using unlisted_zero l i h'

variable {F : Fence} {n : Nat} {P : Program} {ops : Array Oper} {Q : Exit → Act → World → Prop} {md : Region.Mode}

theorem getD_list (a : Array Bool) (i : Nat) (d : Bool) : a.getD i d = a.toList.getD i d := by
  rw [Array.getD_eq_getD_getElem?, List.getD_eq_getElem?_getD, Array.getElem?_toList]

/-- What holds whatever has come up serves every order. -/
theorem wpAnyIn_inv (I : Array Bool → Act → World → Prop)
    (hstep : ∀ listed a w i, I listed a w → i ∈ Region.ready md ops listed → wpOpIn F n P ops Q i (I (listed.setIfInBounds i true)) a w)
    (hdone : ∀ listed a w, I listed a w → Region.ready md ops listed = [] → Q .normal a w) :
    ∀ (fuel : Nat) (listed : Array Bool) (a : Act) (w : World), unlisted listed.toList ≤ fuel → I listed a w → wpAnyIn F n P md ops Q fuel listed a w
  | 0, listed, a, w, hf, hI => by
    have h0 : Region.ready md ops listed = [] := by
      rw [List.eq_nil_iff_forall_not_mem]
      intro i hi
      have h1 := (mem_ready.1 hi).1
      rw [getD_list, unlisted_zero _ _ (by omega)] at h1
      cases h1
    exact ⟨h0, hdone _ _ _ hI h0⟩
  | fuel + 1, listed, a, w, hf, hI => by
    refine ⟨fun h0 => hdone _ _ _ hI h0, fun i hi => ?_⟩
    refine wpOpIn_mono (fun a' w' h => wpAnyIn_inv I hstep hdone fuel _ a' w' ?_ h) (hstep _ _ _ _ hI hi)
    have h1 := (mem_ready.1 hi).1
    rw [getD_list] at h1
    have h2 := unlisted_set listed.toList i h1
    rw [Array.toList_setIfInBounds]
    omega

/-- Every operation waits for earlier ones alone. -/
def backB (ops : Array Oper) : Bool := (List.range ops.size).all fun i => match ops[i]? with | some o => o.after.all (fun e => decide (e.on < i)) | none => true
theorem backB_spec (h : backB ops = true) {i : Nat} {o : Oper} (ho : ops[i]? = some o) : ∀ e ∈ o.after, e.on < i := by
  intro e he
  unfold backB at h
  have h1 := List.all_eq_true.1 h i (List.mem_range.2 (Array.getElem?_eq_some_iff.1 ho).1)
  simp only [ho] at h1
  have h2 := Array.all_eq_true_iff_forall_mem.1 h1 e he
  simpa using h2
/-- Where nothing may come up any more, everything has. -/
theorem all_listed {listed : Array Bool} (hb : backB ops = true) (hs : listed.size = ops.size) (hr : Region.ready md ops listed = []) : ∀ (k i : Nat), i < k → i < ops.size → listed.getD i true = true
  | 0, _, h, _ => by omega
  | k + 1, i, hk, hi => by
    cases hl : listed.getD i true with
    | true => rfl
    | false =>
      have hm : i ∈ Region.ready md ops listed := by
        refine mem_ready.2 ⟨hl, ops[i], Array.getElem?_eq_getElem hi, fun e he _ => ?_⟩
        have hlt := backB_spec hb (Array.getElem?_eq_getElem hi) e he
        have h1 := all_listed hb hs hr k e.on (by omega) (by omega)
        rw [Array.getD_eq_getD_getElem?, Array.getElem?_eq_getElem (by omega)] at h1 ⊢
        exact h1
      rw [hr] at hm
      cases hm

theorem dep {i : Nat} {listed : Array Bool} {o : Oper} (hi : i ∈ Region.ready md ops listed) (ho : ops[i]? = some o) (e : Edge) (he : e ∈ o.after) (hb : Region.binds md e = true) : listed.getD e.on false = true := by
  obtain ⟨_, o', ho', hall⟩ := mem_ready.1 hi
  rw [ho] at ho'
  cases ho'
  exact hall e he hb

/-- One operation that is carried out, what follows behind a variable. -/
theorem wpOpIn_want {i : Nat} {o : Oper} {a : Act} {w : World} {I : Act → World → Prop} (ho : ops[i]? = some o) (hw : Region.wanted o (yielded ops a.tmps) = true)
    (h : ∀ K : Act → World → Prop, (∀ a w, I a w → K a w) → o.wpIn F n P a w K Q) : wpOpIn F n P ops Q i I a w := by
  unfold wpOpIn
  simp only [ho, hw, if_true]
  exact h I (fun _ _ h => h)

/-- An append that is known to go through. -/
theorem wpOpIn_append {i : Nat} {o : Oper} {a : Act} {w w' : World} {v u v' : Value} {I : Act → World → Prop} (ho : ops[i]? = some o) (hg : Region.wanted o (yielded ops a.tmps) = true) (s x : Operand) (t : TypeId)
    (hop : o.op = Op.call { callee := Callee.builtin Builtin.append, args := #[s, x], argTypes := #[t, t] }) (hs : a.eval s = v) (hx : a.eval x = u) (hrun : (Builtin.append_ #[t, t] o.type #[v, u]).run P w = .ok v' w')
    (h : I (a.put o.dst v') w') : wpOpIn F n P ops Q i I a w := by
  unfold wpOpIn
  simp only [ho, hg, if_true]
  unfold Oper.wpIn
  refine ⟨?_, ?_⟩
  · simp [Oper.about, hop, resolve, Target.leads, Sem.run_pure]
  · rw [Oper.semAt_plain F _ _ (by rw [hop]; intro c hc'; cases hc')]
    simp [execOp, hop, resolve, invoke, builtin, hs, hx, hrun, Result.andThen, Oper.uponIn]
    exact h

/-- The world by what has come up of four that change it, one behind the other. -/
def stW (U0 U1 U2 U3 U4 : World) (b1 b2 b3 b4 : Bool) : World := if b4 then U4 else if b3 then U3 else if b2 then U2 else if b1 then U1 else U0
end Go.Proofs.YtiehhlolhhjgpaaGreatDoor.Pl

namespace Go.Proofs.YtiehhlolhhjgpaaGreatDoor.Pl

/-- What is read of l, one text behind the other, up to the first that can't be read. -/
def seqP (m : Int) : Nat → List UInt8 → List (List UInt8 × Nat × Nat)
  | 0, _ => []
  | f + 1, l => rdt l m :: (if (rdt l m).2.2 = 0 then seqP m f (l.drop (rdt l m).2.1) else [])
/-- What a reader of k texts answers, behind acc that have at bytes. -/
def rdrow (m : Int) : Nat → List UInt8 → List (List UInt8) → Nat → List (List UInt8) × Nat × Nat
  | 0, _, acc, at' => (acc, at', 0)
  | k + 1, l, acc, at' => if (rdt l m).2.2 = 0 then rdrow m k (l.drop (rdt l m).2.1) (acc ++ [(rdt l m).1]) (at' + (rdt l m).2.1) else ([], 0, (rdt l m).2.2)

def sumN (xs : List (List UInt8 × Nat × Nat)) : Nat := (xs.map (·.2.1)).sum

theorem rdrow_exit (m : Int) : ∀ (pre : List (List UInt8 × Nat × Nat)) (f : Nat) (l : List UInt8) (acc : List (List UInt8)) (at' : Nat), pre <+: seqP m f l → (∀ x ∈ pre, x.2.2 = 0) →
    rdrow m pre.length l acc at' = (acc ++ pre.map (·.1), at' + sumN pre, 0)
  | [], _, _, _, _, _, _ => by simp [rdrow, sumN]
  | x :: pre, 0, l, acc, at', h, _ => by simp [seqP] at h
  | x :: pre, f + 1, l, acc, at', h, he => by
    rw [seqP, List.cons_prefix_cons] at h
    obtain ⟨hx, h⟩ := h
    have h0 := he x (by simp)
    subst hx
    rw [if_pos h0] at h
    have ih := rdrow_exit m pre f _ (acc ++ [(rdt l m).1]) (at' + (rdt l m).2.1) h (fun y hy => he y (by simp [hy]))
    simp only [List.length_cons, rdrow, if_pos h0]
    rw [ih]
    simp [sumN]; omega

theorem rdrow_ret (m : Int) : ∀ (q : List (List UInt8 × Nat × Nat)) (x : List UInt8 × Nat × Nat) (f : Nat) (l : List UInt8) (acc : List (List UInt8)) (at' k : Nat), q ++ [x] <+: seqP m f l → (∀ y ∈ q, y.2.2 = 0) → x.2.2 ≠ 0 → q.length < k →
    rdrow m k l acc at' = ([], 0, x.2.2)
  | [], x, 0, l, acc, at', k, h, _, _, _ => by simp [seqP] at h
  | [], x, f + 1, l, acc, at', k, h, _, hx, hk => by
    rw [seqP, List.nil_append, List.cons_prefix_cons] at h
    obtain ⟨k, rfl⟩ : ∃ j, k = j + 1 := ⟨k - 1, by simp at hk; omega⟩
    rw [rdrow, ← h.1, if_neg hx]
  | y :: q, x, 0, l, acc, at', k, h, _, _, _ => by simp [seqP] at h
  | y :: q, x, f + 1, l, acc, at', k, h, he, hx, hk => by
    rw [seqP, List.cons_append, List.cons_prefix_cons] at h
    obtain ⟨hy, h⟩ := h
    have h0 := he y (by simp)
    subst hy
    rw [if_pos h0] at h
    obtain ⟨k, rfl⟩ : ∃ j, k = j + 1 := ⟨k - 1, by simp at hk; omega⟩
    rw [rdrow, if_pos h0]
    exact rdrow_ret m q x f _ _ _ k h (fun z hz => he z (by simp [hz])) hx (by simpa using hk)

theorem rdt_nil (m : Int) : rdt [] m = ([], 0, 6) := by simp [rdt, rdn]
theorem rdt_step {l : List UInt8} {m : Int} (h : (rdt l m).2.2 = 0) : 1 ≤ (rdt l m).2.1 ∧ (rdt l m).2.1 ≤ l.length := by
  have e : rdt l m = ((rdt l m).1, (rdt l m).2.1, 0) := by rw [← h]
  obtain ⟨h1, h2, _⟩ := rdt_sound e
  exact ⟨h1, h2⟩
theorem rdt_size (l : List UInt8) (m : Int) : (rdt l m).2.1 ≤ l.length := by
  by_cases h : (rdt l m).2.2 = 0
  · exact (rdt_step h).2
  · have ⟨v, n, e, hr⟩ : ∃ v n e, rdn l = (v, n, e) := ⟨_, _, _, rfl⟩
    by_cases he : e = 0
    · subst he
      by_cases h1 : max m 0 < (v : Int)
      · rw [rdt_long hr h1]; simp
      · by_cases h2 : l.length - n < v
        · rw [rdt_end hr h1 h2]; simp
        · rw [rdt_ok hr h1 h2] at h; simp at h
    · rw [rdt_err hr he]; simp
/-- It ends: by one that can't be read. -/
theorem seqP_ends (m : Int) : ∀ (f : Nat) (l : List UInt8), l.length < f → ¬ ∀ x ∈ seqP m f l, x.2.2 = 0
  | 0, l, h, _ => by omega
  | f + 1, l, h, he => by
    rw [seqP] at he
    have h0 := he (rdt l m) (by simp)
    rw [if_pos h0] at he
    have hs := rdt_step h0
    exact seqP_ends m f (l.drop (rdt l m).2.1) (by simp; omega) (fun x hx => he x (by simp [hx]))
end Go.Proofs.YtiehhlolhhjgpaaGreatDoor.Pl
