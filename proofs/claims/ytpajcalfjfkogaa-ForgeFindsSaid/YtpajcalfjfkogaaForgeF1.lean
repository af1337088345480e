/- The encoding of numbers, texts and rows of texts as lists of bytes, and what holds of it; plain mathematics alone, no program. Texts as bytes, and what a reader of them answers; plain mathematics alone, no program. Terms as bytes, and as trees: what is read of bytes, that it is a tree's, and just one's; plain mathematics alone. What stands at a term's places; one term swapped for another, and back; plain mathematics alone. Which kinds of terms there are, what makes them, and what their parts make again; plain mathematics alone. What is known of what was seen, over trees; plain mathematics alone. What is known of the texts that were seen; plain mathematics alone. Texts in the order of their bytes, each once; plain mathematics alone. How a list of what is known grows, rule by rule, till nothing is new; plain mathematics alone. What the stage's theorem about seals comes down to; plain mathematics alone. Small facts that the walks share: worlds in which nothing old has turned, and endings. What octet.Num answers. -/
import GoSem.Op.String
import Derived.WalkKit
import Derived.Deep.Draws
import Derived.Test.YtpajcalfjfkogaaProg
import Derived.Outline
import Derived.Handy
import Derived.Lib.Hide
import Derived.Laws.IdiomStrings
namespace Go.Proofs.Ytpajcalfjfkogaa.Pl

/-- The digits of v to the base 256, the highest first, no more than f of them; of 0 none. -/
def dig : Nat → Nat → List UInt8
  | 0, _ => []
  | f + 1, v => if v = 0 then [] else dig f (v / 256) ++ [UInt8.ofNat (v % 256)]

/-- The encoding of a number. -/
def enc (v : Nat) : List UInt8 := if v < 248 then [UInt8.ofNat v] else UInt8.ofNat (247 + (dig 8 v).length) :: dig 8 v

/-- The number that digits are. -/
def val (l : List UInt8) : Nat := l.foldl (fun a b => a * 256 + b.toNat) 0

theorem val_nil : val [] = 0 := rfl
theorem val_snoc (l : List UInt8) (b : UInt8) : val (l ++ [b]) = val l * 256 + b.toNat := by simp [val, List.foldl_append]
theorem foldl_val (l : List UInt8) : ∀ a, l.foldl (fun a b => a * 256 + b.toNat) a = a * 256 ^ l.length + val l := by
  induction l with
  | nil => intro a; simp [val]
  | cons b r ih =>
    intro a
    have h1 := ih (a * 256 + b.toNat)
    have h2 := ih (0 * 256 + b.toNat)
    show r.foldl _ (a * 256 + b.toNat) = _
    have h3 : val (b :: r) = r.foldl (fun a b => a * 256 + b.toNat) (0 * 256 + b.toNat) := rfl
    rw [h1, h3, h2, List.length_cons, Nat.pow_succ]
    simp only [Nat.add_mul, Nat.zero_mul, Nat.zero_add]
    have : a * 256 * 256 ^ r.length = a * (256 ^ r.length * 256) := by rw [Nat.mul_assoc, Nat.mul_comm 256]
    omega
theorem val_cons (b : UInt8) (r : List UInt8) : val (b :: r) = b.toNat * 256 ^ r.length + val r := by
  have h := foldl_val r (0 * 256 + b.toNat)
  have h3 : val (b :: r) = r.foldl (fun a b => a * 256 + b.toNat) (0 * 256 + b.toNat) := rfl
  rw [h3, h]; simp
theorem val_lt (l : List UInt8) : val l < 256 ^ l.length := by
  induction l with
  | nil => simp [val]
  | cons b r ih =>
    rw [val_cons, List.length_cons, Nat.pow_succ]
    have hb : b.toNat < 256 := b.toNat_lt
    have : b.toNat * 256 ^ r.length + 256 ^ r.length ≤ 256 ^ r.length * 256 := by
      rw [← Nat.succ_mul, Nat.mul_comm]
      exact Nat.mul_le_mul_left _ hb
    omega

theorem dig_zero (f : Nat) : dig f 0 = [] := by cases f <;> simp [dig]
theorem dig_succ (f v : Nat) (h : v ≠ 0) : dig (f + 1) v = dig f (v / 256) ++ [UInt8.ofNat (v % 256)] := by simp [dig, h]

theorem val_dig (f : Nat) : ∀ v, v < 256 ^ f → val (dig f v) = v := by
  induction f with
  | zero => intro v h; have : v = 0 := by simpa using h
            subst this; rfl
  | succ f ih =>
    intro v h
    by_cases h0 : v = 0
    · subst h0; rw [dig_zero]; rfl
    · rw [dig_succ f v h0, val_snoc, ih (v / 256) (by rw [Nat.pow_succ] at h; omega)]
      have : (UInt8.ofNat (v % 256)).toNat = v % 256 := by simp
      omega

/-- Digits that do not begin with 0 are the digits of their number. -/
theorem dig_val (f : Nat) : ∀ l : List UInt8, l.length ≤ f → l.head? ≠ some 0 → dig f (val l) = l := by
  induction f with
  | zero => intro l h _; have : l = [] := List.eq_nil_of_length_eq_zero (by omega)
            subst this; rfl
  | succ f ih =>
    intro l hl hh
    rcases List.eq_nil_or_concat l with rfl | ⟨r, b, rfl⟩
    · rw [val_nil, dig_zero]
    · rw [List.concat_eq_append] at *
      have hb : b.toNat < 256 := b.toNat_lt
      have hv : val (r ++ [b]) ≠ 0 := by
        rw [val_snoc]
        intro h0
        cases r with
        | nil =>
          simp at hh
          apply hh
          have : b.toNat = 0 := by omega
          exact UInt8.toNat.inj (by simpa using this)
        | cons c r =>
          rw [val_cons] at h0
          simp at hh
          have h1 : 0 < 256 ^ r.length := Nat.pow_pos (by decide)
          have h2 : c.toNat * 256 ^ r.length = 0 := by omega
          have h3 : c.toNat = 0 := by
            rcases Nat.mul_eq_zero.1 h2 with h | h
            · exact h
            · omega
          exact hh (UInt8.toNat.inj (by simpa using h3))
      rw [dig_succ f _ hv, val_snoc]
      have e1 : (val r * 256 + b.toNat) / 256 = val r := by omega
      have e2 : (val r * 256 + b.toNat) % 256 = b.toNat := by omega
      rw [e1, e2, ih r (by simp at hl; omega) (by
        cases r with
        | nil => simp
        | cons c r => simpa using hh)]
      simp

theorem dig_length_le (f : Nat) : ∀ v, (dig f v).length ≤ f := by
  induction f with
  | zero => intro v; simp [dig]
  | succ f ih =>
    intro v
    by_cases h0 : v = 0
    · subst h0; rw [dig_zero]; simp
    · rw [dig_succ f v h0]; have := ih (v / 256); simp; omega

theorem dig_head (f : Nat) : ∀ v, v < 256 ^ f → (dig f v).head? ≠ some 0 := by
  induction f with
  | zero => intro v _; simp [dig]
  | succ f ih =>
    intro v h
    by_cases h0 : v = 0
    · subst h0; rw [dig_zero]; simp
    · rw [dig_succ f v h0]
      have h1 := ih (v / 256) (by rw [Nat.pow_succ] at h; omega)
      cases hd : dig f (v / 256) with
      | nil =>
        have h2 := val_dig f (v / 256) (by rw [Nat.pow_succ] at h; omega)
        rw [hd, val_nil] at h2
        simp
        intro h3
        have h4 : (UInt8.ofNat (v % 256)).toNat = v % 256 := by simp
        rw [h3] at h4
        simp at h4
        omega
      | cons c r => rw [hd] at h1; simpa using h1

theorem dig_pos (v : Nat) (h : v ≠ 0) : 0 < (dig 8 v).length := by
  rw [dig_succ 7 v h]; simp

theorem val_pos {l : List UInt8} (h : l.head? ≠ some 0) : 256 ^ l.length ≤ val l * 256 ∨ l = [] := by
  cases l with
  | nil => exact .inr rfl
  | cons c r =>
    left
    rw [val_cons, List.length_cons, Nat.pow_succ]
    have hc : c.toNat ≠ 0 := fun h0 => h (by simp; exact UInt8.toNat.inj (by simpa using h0))
    have : 1 * 256 ^ r.length ≤ c.toNat * 256 ^ r.length := Nat.mul_le_mul_right _ (by omega)
    omega

/-- Less, at a first difference. -/
def SLt (l m : List UInt8) : Prop := ∃ p a b r s, l = p ++ a :: r ∧ m = p ++ b :: s ∧ a < b
theorem SLt.append {l m : List UInt8} (h : SLt l m) (x y : List UInt8) : SLt (l ++ x) (m ++ y) := by
  obtain ⟨p, a, b, r, s, rfl, rfl, hab⟩ := h
  exact ⟨p, a, b, r ++ x, s ++ y, by simp, by simp, hab⟩
theorem SLt.cons {l m : List UInt8} (h : SLt l m) (c : UInt8) : SLt (c :: l) (c :: m) := by
  obtain ⟨p, a, b, r, s, rfl, rfl, hab⟩ := h
  exact ⟨c :: p, a, b, r, s, by simp, by simp, hab⟩
theorem SLt.less {l m : List UInt8} (h : SLt l m) : Op.bytesLess l m = true := by
  obtain ⟨p, a, b, r, s, rfl, rfl, hab⟩ := h
  induction p with
  | nil => simp [Op.bytesLess, hab]
  | cons c p ih => simp [Op.bytesLess, ih]
theorem SLt.more {l m : List UInt8} (h : SLt l m) : Op.bytesLess m l = false := by
  obtain ⟨p, a, b, r, s, rfl, rfl, hab⟩ := h
  induction p with
  | nil =>
    have h1 : ¬ b < a := fun h => absurd (UInt8.lt_trans h hab) (UInt8.lt_irrefl _)
    have h2 : b ≠ a := fun h => by subst h; exact UInt8.lt_irrefl _ hab
    simp [Op.bytesLess, h1, h2]
  | cons c p ih => 
    have h1 : ¬ c < c := UInt8.lt_irrefl _
    simp only [List.cons_append, Op.bytesLess, ih]
    simp [h1]
theorem SLt.ne {l m : List UInt8} (h : SLt l m) : l ≠ m := by
  intro e
  subst e
  have := h.less
  rw [h.more] at this
  cases this
theorem bytesLess_irrefl (l : List UInt8) : Op.bytesLess l l = false := by
  induction l with
  | nil => rfl
  | cons c p ih => simp only [Op.bytesLess, ih]; simp [UInt8.lt_irrefl c]

theorem enc_small {v : Nat} (h : v < 248) : enc v = [UInt8.ofNat v] := by simp [enc, h]
theorem enc_big {v : Nat} (h : ¬ v < 248) : enc v = UInt8.ofNat (247 + (dig 8 v).length) :: dig 8 v := by simp [enc, h]
theorem two64 : (256 : Nat) ^ 8 = 18446744073709551616 := by decide

theorem enc_len (v : Nat) : 1 ≤ (enc v).length ∧ (enc v).length ≤ 9 := by
  by_cases h : v < 248
  · rw [enc_small h]; simp
  · rw [enc_big h]; have := dig_length_le 8 v; simp; omega

/-- What a reader of a number answers: the number, how many bytes it has, what is wrong. -/
def rdn (l : List UInt8) : Nat × Nat × Nat :=
  match l with
  | [] => (0, 0, 6)
  | b :: r =>
    if b.toNat < 248 then (b.toNat, 1, 0)
    else if r.length < b.toNat - 247 then (0, 0, 6)
    else if r.headD 0 = 0 ∨ (b.toNat = 248 ∧ (r.headD 0).toNat < 248) then (0, 0, 7)
    else (val (r.take (b.toNat - 247)), 1 + (b.toNat - 247), 0)

theorem rdn_small (b : UInt8) (r : List UInt8) (h : b.toNat < 248) : rdn (b :: r) = (b.toNat, 1, 0) := by simp [rdn, h]
theorem rdn_end (b : UInt8) (r : List UInt8) (h : ¬ b.toNat < 248) (h2 : r.length < b.toNat - 247) : rdn (b :: r) = (0, 0, 6) := by simp [rdn, h, h2]
theorem rdn_form (b : UInt8) (r : List UInt8) (h : ¬ b.toNat < 248) (h2 : ¬ r.length < b.toNat - 247) (h3 : r.headD 0 = 0 ∨ (b.toNat = 248 ∧ (r.headD 0).toNat < 248)) : rdn (b :: r) = (0, 0, 7) := by
  simp only [rdn]; rw [if_neg h, if_neg h2, if_pos h3]
theorem rdn_ok (b : UInt8) (r : List UInt8) (h : ¬ b.toNat < 248) (h2 : ¬ r.length < b.toNat - 247) (h3 : ¬ (r.headD 0 = 0 ∨ (b.toNat = 248 ∧ (r.headD 0).toNat < 248))) :
    rdn (b :: r) = (val (r.take (b.toNat - 247)), 1 + (b.toNat - 247), 0) := by
  simp only [rdn]; rw [if_neg h, if_neg h2, if_neg h3]

/-- Of a number whose digits are read: what would be put is what was read, just if nothing is wrong with its form. -/
theorem enc_val {d : List UInt8} (hl : 1 ≤ d.length) (h8 : d.length ≤ 8) :
    enc (val d) = UInt8.ofNat (247 + d.length) :: d ↔ ¬ (d.headD 0 = 0 ∨ (d.length = 1 ∧ (d.headD 0).toNat < 248)) := by
  cases d with
  | nil => simp at hl
  | cons c r =>
    simp only [List.headD_cons]
    constructor
    · intro h hbad
      rcases hbad with hc | ⟨h1, hc⟩
      · by_cases hs : val (c :: r) < 248
        · rw [enc_small hs] at h; simp at h
        · rw [enc_big hs] at h
          have h2 : dig 8 (val (c :: r)) = c :: r := by injection h
          have h3 := dig_head 8 (val (c :: r)) (by
            have := val_lt (c :: r)
            exact Nat.lt_of_lt_of_le this (Nat.pow_le_pow_right (by decide) h8))
          rw [h2] at h3
          simp at h3
          exact h3 hc
      · have hr : r = [] := List.eq_nil_of_length_eq_zero (by simpa using h1)
        subst hr
        have hs : val [c] < 248 := by simpa [val] using hc
        rw [enc_small hs] at h; simp at h
    · intro h
      have hc : c ≠ 0 := fun e => h (.inl e)
      have hd : dig 8 (val (c :: r)) = c :: r := dig_val 8 _ h8 (by simpa using hc)
      have hb : ¬ val (c :: r) < 248 := by
        intro hs
        cases r with
        | nil => exact h (.inr ⟨rfl, by simpa [val] using hs⟩)
        | cons e r =>
          have := val_pos (l := c :: e :: r) (by simpa using hc)
          rcases this with h1 | h1
          · have h2 : (256 : Nat) ^ 2 ≤ 256 ^ (c :: e :: r).length := Nat.pow_le_pow_right (by decide) (by simp)
            omega
          · simp at h1
      rw [enc_big hb, hd]

theorem headD_take {r : List UInt8} {k : Nat} (h : 1 ≤ k) : (r.take k).headD 0 = r.headD 0 := by
  cases r with
  | nil => simp
  | cons c r =>
    obtain ⟨k, rfl⟩ : ∃ j, k = j + 1 := ⟨k - 1, by omega⟩
    simp

/-- What was put is read, whatever stands behind it. -/
theorem rdn_enc {v : Nat} (hv : v < 256 ^ 8) (s : List UInt8) : rdn (enc v ++ s) = (v, (enc v).length, 0) := by
  by_cases h : v < 248
  · rw [enc_small h]
    have : (UInt8.ofNat v).toNat = v := by simp; omega
    simp only [List.cons_append, List.nil_append]
    rw [rdn_small _ _ (by omega), this]; rfl
  · rw [enc_big h]
    have hl := dig_length_le 8 v
    have hp := dig_pos v (by omega)
    have hb : (UInt8.ofNat (247 + (dig 8 v).length)).toNat = 247 + (dig 8 v).length := by simp; omega
    have hh := dig_head 8 v hv
    have hd := val_dig 8 v hv
    have hk : (UInt8.ofNat (247 + (dig 8 v).length)).toNat - 247 = (dig 8 v).length := by omega
    have hhd : (dig 8 v ++ s).headD 0 = (dig 8 v).headD 0 := by
      cases hdd : dig 8 v with
      | nil => rw [hdd] at hp; simp at hp
      | cons c r => simp
    simp only [List.cons_append]
    rw [rdn_ok _ _ (by omega) (by simp; omega) ?_, hk, List.take_left' rfl, hd]
    · simp [Nat.add_comm]
    · rw [hhd]
      have hev := (enc_val (d := dig 8 v) hp hl).1 (by rw [hd, enc_big h])
      intro hx
      apply hev
      rcases hx with hx | ⟨hx, hy⟩
      · exact .inl hx
      · exact .inr ⟨by omega, hy⟩

/-- What is read is what would be put. -/
theorem rdn_sound {l : List UInt8} {v n : Nat} (h : rdn l = (v, n, 0)) : 1 ≤ n ∧ n ≤ l.length ∧ enc v = l.take n ∧ v < 256 ^ 8 := by
  cases l with
  | nil => simp [rdn] at h
  | cons b r =>
    have hb : b.toNat < 256 := b.toNat_lt
    by_cases h1 : b.toNat < 248
    · rw [rdn_small b r h1] at h
      simp only [Prod.mk.injEq, and_true] at h
      obtain ⟨rfl, rfl⟩ := h
      refine ⟨by omega, by simp, ?_, by omega⟩
      rw [enc_small h1]; simp
    · by_cases h2 : r.length < b.toNat - 247
      · rw [rdn_end b r h1 h2] at h; simp at h
      · by_cases h3 : r.headD 0 = 0 ∨ (b.toNat = 248 ∧ (r.headD 0).toNat < 248)
        · rw [rdn_form b r h1 h2 h3] at h; simp at h
        · rw [rdn_ok b r h1 h2 h3] at h
          simp only [Prod.mk.injEq, and_true] at h
          obtain ⟨rfl, rfl⟩ := h
          have hlen : (r.take (b.toNat - 247)).length = b.toNat - 247 := by simp; omega
          refine ⟨by omega, by simp; omega, ?_, ?_⟩
          · rw [Nat.add_comm 1, List.take_succ_cons]
            rw [(enc_val (d := r.take (b.toNat - 247)) (by omega) (by omega)).2 ?_]
            · have hbb : UInt8.ofNat (247 + (b.toNat - 247)) = b := by
                apply UInt8.toNat.inj
                simp; omega
              rw [hlen, hbb]
            · rw [headD_take (by omega), hlen]
              intro hx
              apply h3
              rcases hx with hx | ⟨hx, hy⟩
              · exact .inl hx
              · exact .inr ⟨by omega, hy⟩
          · have := val_lt (r.take (b.toNat - 247))
            exact Nat.lt_of_lt_of_le this (Nat.pow_le_pow_right (by decide) (by omega))

theorem rdn_err {l : List UInt8} {v n e : Nat} (h : rdn l = (v, n, e)) : e = 0 ∨ (v = 0 ∧ n = 0 ∧ (e = 6 ∨ e = 7)) := by
  cases l with
  | nil => simp [rdn] at h; omega
  | cons b r =>
    by_cases h1 : b.toNat < 248
    · rw [rdn_small b r h1] at h; simp at h; omega
    · by_cases h2 : r.length < b.toNat - 247
      · rw [rdn_end b r h1 h2] at h; simp at h; omega
      · by_cases h3 : r.headD 0 = 0 ∨ (b.toNat = 248 ∧ (r.headD 0).toNat < 248)
        · rw [rdn_form b r h1 h2 h3] at h; simp at h; omega
        · rw [rdn_ok b r h1 h2 h3] at h; simp at h; omega

/-- Just k digits of v, as numbers. -/
def dn : Nat → Nat → List Nat
  | 0, _ => []
  | k + 1, v => dn k (v / 256) ++ [v % 256]
theorem dig_dn (f : Nat) : ∀ k v, k ≤ f → v < 256 ^ k → (k = 0 ∨ 256 ^ k ≤ v * 256) → dig f v = (dn k v).map UInt8.ofNat := by
  induction f with
  | zero => intro k v hk _ _; obtain rfl : k = 0 := by omega
            rfl
  | succ f ih =>
    intro k v hk hi lo
    cases k with
    | zero => have : v = 0 := by simpa using hi
              subst this; rw [dig_zero]; rfl
    | succ k =>
      have hlo : 256 ^ (k + 1) ≤ v * 256 := by
        rcases lo with h | h
        · cases h
        · exact h
      rw [Nat.pow_succ] at hi hlo
      have hp : 0 < 256 ^ k := Nat.pow_pos (by decide)
      rw [dig_succ f v (by omega), ih k (v / 256) (by omega) (by omega) ?_]
      · simp [dn]
      · cases k with
        | zero => exact .inl rfl
        | succ k =>
          right
          clear hi hp ih lo
          rw [Nat.pow_succ] at hlo ⊢
          generalize 256 ^ k = q at hlo ⊢
          have h1 : q * 256 ≤ v := Nat.le_of_mul_le_mul_right hlo (by decide)
          have h2 : q ≤ v / 256 := (Nat.le_div_iff_mul_le (by decide)).2 h1
          exact Nat.mul_le_mul_right _ h2
theorem dn_length (k : Nat) : ∀ v, (dn k v).length = k := by
  induction k with
  | zero => intro v; rfl
  | succ k ih => intro v; simp [dn, ih]
theorem enc_dn {k v : Nat} (h8 : k ≤ 8) (hv : ¬ v < 248) (hi : v < 256 ^ k) (lo : 256 ^ k ≤ v * 256) : enc v = ((247 + k) :: dn k v).map UInt8.ofNat := by
  rw [enc_big hv, dig_dn 8 k v h8 hi (.inr lo), List.length_map, dn_length, List.map_cons]

end Go.Proofs.Ytpajcalfjfkogaa.Pl

namespace Go.Proofs.Ytpajcalfjfkogaa.Pl

/-- What a reader of a text of at most m bytes answers. -/
def rdt (l : List UInt8) (m : Int) : List UInt8 × Nat × Nat :=
  if (rdn l).2.2 ≠ 0 then ([], 0, (rdn l).2.2)
  else if max m 0 < ((rdn l).1 : Int) then ([], 0, 5)
  else if l.length - (rdn l).2.1 < (rdn l).1 then ([], 0, 6)
  else ((l.drop (rdn l).2.1).take (rdn l).1, (rdn l).2.1 + (rdn l).1, 0)
/-- The encoding of a text. -/
def txt (t : List UInt8) : List UInt8 := enc t.length ++ t

theorem rdt_err {l : List UInt8} {m : Int} {v n e : Nat} (h : rdn l = (v, n, e)) (he : e ≠ 0) : rdt l m = ([], 0, e) := by simp [rdt, h, he]
theorem rdt_long {l : List UInt8} {m : Int} {v n : Nat} (h : rdn l = (v, n, 0)) (h1 : max m 0 < (v : Int)) : rdt l m = ([], 0, 5) := by
  unfold rdt; rw [h]; rw [if_neg (by simp), if_pos h1]
theorem rdt_end {l : List UInt8} {m : Int} {v n : Nat} (h : rdn l = (v, n, 0)) (h1 : ¬ max m 0 < (v : Int)) (h2 : l.length - n < v) : rdt l m = ([], 0, 6) := by
  unfold rdt; rw [h]; rw [if_neg (by simp), if_neg h1, if_pos h2]
theorem rdt_ok {l : List UInt8} {m : Int} {v n : Nat} (h : rdn l = (v, n, 0)) (h1 : ¬ max m 0 < (v : Int)) (h2 : ¬ l.length - n < v) : rdt l m = ((l.drop n).take v, n + v, 0) := by
  unfold rdt; rw [h]; rw [if_neg (by simp), if_neg h1, if_neg h2]

theorem rdt_txt {t : List UInt8} (ht : t.length < 256 ^ 8) (s : List UInt8) (m : Int) (hm : (t.length : Int) ≤ m) : rdt (txt t ++ s) m = (t, (txt t).length, 0) := by
  have h := rdn_enc ht (t ++ s)
  have e : txt t ++ s = enc t.length ++ (t ++ s) := by simp [txt]
  rw [e, rdt_ok h (by omega) (by simp)]
  simp [txt]
theorem rdt_sound {l t : List UInt8} {m : Int} {n : Nat} (h : rdt l m = (t, n, 0)) : 1 ≤ n ∧ n ≤ l.length ∧ (t.length : Int) ≤ max m 0 ∧ txt t = l.take n := by
  have ⟨v, k, e, hr⟩ : ∃ v k e, rdn l = (v, k, e) := ⟨_, _, _, rfl⟩
  by_cases he : e = 0
  · subst he
    obtain ⟨k1, k2, k3, k4⟩ := rdn_sound hr
    by_cases h1 : max m 0 < (v : Int)
    · rw [rdt_long hr h1] at h; simp at h
    · by_cases h2 : l.length - k < v
      · rw [rdt_end hr h1 h2] at h; simp at h
      · rw [rdt_ok hr h1 h2] at h
        simp only [Prod.mk.injEq, and_true] at h
        obtain ⟨rfl, rfl⟩ := h
        have hl : ((l.drop k).take v).length = v := by simp; omega
        refine ⟨by omega, by omega, by rw [hl]; omega, ?_⟩
        rw [txt, hl, k3, List.take_add]
  · rw [rdt_err hr he] at h
    simp at h
    omega
theorem txt_len (t : List UInt8) : (txt t).length = (enc t.length).length + t.length := by simp [txt]
end Go.Proofs.Ytpajcalfjfkogaa.Pl

namespace Go.Proofs.Ytpajcalfjfkogaa.Pl

def nameB (b : UInt8) : Bool := decide ((97 ≤ b.toNat ∧ b.toNat ≤ 122) ∨ (48 ≤ b.toNat ∧ b.toNat ≤ 57) ∨ b.toNat = 47 ∨ b.toNat = 46 ∨ b.toNat = 45)
def nameOK (s : List UInt8) : Bool := !s.isEmpty && s.all nameB
/-- The bytes ahead of a term's parts, how many parts, what is wrong. -/
def headP : List UInt8 → Nat × Nat × Nat
  | [] => (0, 0, 6)
  | b :: r =>
    if b = 100 then (1 + (rdt r 1024).2.1, 0, (rdt r 1024).2.2)
    else if b = 97 then (if (rdt r 32).2.2 = 0 ∧ nameOK (rdt r 32).1 = false then (0, 0, 7) else (1 + (rdt r 32).2.1, 0, (rdt r 32).2.2))
    else if b = 114 then (if (rdn r).2.2 = 0 ∧ 32 < (rdn r).1 then (0, 0, 5) else (1 + (rdn r).2.1, (rdn r).1, (rdn r).2.2))
    else if b = 104 then (1, 1, 0) else if b = 109 then (1, 2, 0) else if b = 115 then (1, 3, 0) else (0, 0, 7)
/-- Of so many terms, one behind the other. -/
def loopP (rd : List UInt8 → Nat × Nat) : Nat → List UInt8 → Nat × Nat
  | 0, _ => (0, 0)
  | k + 1, s => if (rd s).2 = 0 then (if (loopP rd k (s.drop (rd s).1)).2 = 0 then ((rd s).1 + (loopP rd k (s.drop (rd s).1)).1, 0) else (0, (loopP rd k (s.drop (rd s).1)).2)) else (0, (rd s).2)
/-- The term at the front that is no deeper than d. -/
def readP : Nat → List UInt8 → Nat × Nat
  | 0, _ => (0, 60)
  | d + 1, s => if (headP s).2.2 = 0 then (if (loopP (readP d) (headP s).2.1 (s.drop (headP s).1)).2 = 0 then ((headP s).1 + (loopP (readP d) (headP s).2.1 (s.drop (headP s).1)).1, 0) else (0, (loopP (readP d) (headP s).2.1 (s.drop (headP s).1)).2)) else (0, (headP s).2.2)
def frontP (s : List UInt8) : Nat × Nat := if (readP 16 s).2 = 0 then (if 16384 < (readP 16 s).1 then (0, 5) else readP 16 s) else (0, (readP 16 s).2)
def checkP (t : List UInt8) : Nat := if (frontP t).2 = 0 then (if (frontP t).1 = t.length then 0 else 7) else (frontP t).2

/-- Bytes that are a term's head, of so many parts, whatever stands behind them. -/
def HeadOK (h : List UInt8) (p : Nat) : Prop := ∀ rest, headP (h ++ rest) = (h.length, p, 0)
theorem HeadOK.pos {h : List UInt8} {p : Nat} (k : HeadOK h p) : h ≠ [] := by
  rintro rfl
  have := k []
  simp [headP] at this
theorem HeadOK.same {h h' r r' : List UInt8} {p p' : Nat} (k : HeadOK h p) (k' : HeadOK h' p') (e : h ++ r = h' ++ r') : h = h' ∧ p = p' ∧ r = r' := by
  have e1 := k r
  rw [e, k' r'] at e1
  have hl : h'.length = h.length := congrArg Prod.fst e1
  have hp : p' = p := congrArg (·.2.1) e1
  have hh := List.append_inj e hl.symm
  exact ⟨hh.1, hp.symm, hh.2⟩
theorem head_front {s : List UInt8} {n p : Nat} (h : headP s = (n, p, 0)) : n ≤ s.length ∧ HeadOK (s.take n) p := by
  cases s with
  | nil => simp [headP] at h
  | cons b r =>
    simp only [headP] at h
    split at h
    · rename_i hb
      subst hb
      obtain ⟨t, k, e, hr⟩ : ∃ t k e, rdt r 1024 = (t, k, e) := ⟨_, _, _, rfl⟩
      rw [hr] at h
      simp only [Prod.mk.injEq] at h
      obtain ⟨rfl, rfl, rfl⟩ := h
      obtain ⟨h1, h2, h3, h4⟩ := rdt_sound hr
      refine ⟨by simp; omega, fun rest => ?_⟩
      have e1 : (100 :: r).take (1 + k) = 100 :: txt t := by rw [h4, Nat.add_comm, List.take_succ_cons]
      have hk : (txt t).length = k := by rw [h4, List.length_take]; omega
      rw [e1, List.cons_append, headP, if_pos rfl, rdt_txt (by rw [two64]; omega) rest 1024 (by omega)]
      simp [Nat.add_comm]
    · split at h
      · rename_i hb0 hb
        subst hb
        obtain ⟨t, k, e, hr⟩ : ∃ t k e, rdt r 32 = (t, k, e) := ⟨_, _, _, rfl⟩
        rw [hr] at h
        split at h
        · simp at h
        · rename_i hno
          simp only [Prod.mk.injEq] at h
          obtain ⟨rfl, rfl, rfl⟩ := h
          obtain ⟨h1, h2, h3, h4⟩ := rdt_sound hr
          refine ⟨by simp; omega, fun rest => ?_⟩
          have e1 : (97 :: r).take (1 + k) = 97 :: txt t := by rw [h4, Nat.add_comm, List.take_succ_cons]
          have hk : (txt t).length = k := by rw [h4, List.length_take]; omega
          rw [e1, List.cons_append, headP, if_neg (by decide), if_pos rfl, rdt_txt (by rw [two64]; omega) rest 32 (by omega), if_neg hno]
          simp [Nat.add_comm]
      · split at h
        · rename_i hb0 hb1 hb
          subst hb
          obtain ⟨v, k, e, hr⟩ : ∃ v k e, rdn r = (v, k, e) := ⟨_, _, _, rfl⟩
          rw [hr] at h
          split at h
          · simp at h
          · rename_i hno
            simp only [Prod.mk.injEq] at h
            obtain ⟨rfl, rfl, rfl⟩ := h
            obtain ⟨h1, h2, h3, h4⟩ := rdn_sound hr
            refine ⟨by simp; omega, fun rest => ?_⟩
            have e1 : (114 :: r).take (1 + k) = 114 :: enc v := by rw [h3, Nat.add_comm, List.take_succ_cons]
            have hk : (enc v).length = k := by rw [h3, List.length_take]; omega
            rw [e1, List.cons_append, headP, if_neg (by decide), if_neg (by decide), if_pos rfl, rdn_enc h4 rest]
            rw [if_neg (by simpa using hno)]
            simp [Nat.add_comm]
        · split at h
          · rename_i hb
            subst hb
            simp only [Prod.mk.injEq] at h
            obtain ⟨rfl, rfl, _⟩ := h
            refine ⟨by simp, fun rest => ?_⟩
            rfl
          · split at h
            · rename_i hb
              subst hb
              simp only [Prod.mk.injEq] at h
              obtain ⟨rfl, rfl, _⟩ := h
              exact ⟨by simp, fun rest => rfl⟩
            · split at h
              · rename_i hb
                subst hb
                simp only [Prod.mk.injEq] at h
                obtain ⟨rfl, rfl, _⟩ := h
                exact ⟨by simp, fun rest => rfl⟩
              · simp at h

/-- A term: its head, its parts. -/
inductive Tm where
  | node (h : List UInt8) (l : List Tm) : Tm

mutual
def Tm.enc : Tm → List UInt8
  | .node h l => h ++ encs l
def encs : List Tm → List UInt8
  | [] => []
  | t :: l => t.enc ++ encs l
end
mutual
def Tm.deep : Tm → Nat
  | .node _ l => deeps l + 1
def deeps : List Tm → Nat
  | [] => 0
  | t :: l => max t.deep (deeps l)
end
mutual
def Tm.good : Tm → Prop
  | .node h l => HeadOK h l.length ∧ goods l
def goods : List Tm → Prop
  | [] => True
  | t :: l => t.good ∧ goods l
end
mutual
def Tm.places : Tm → List Tm
  | .node h l => .node h l :: placess l
def placess : List Tm → List Tm
  | [] => []
  | t :: l => t.places ++ placess l
end
theorem Tm.ind {P : Tm → Prop} (step : ∀ h l, (∀ t ∈ l, P t) → P (.node h l)) : ∀ t, P t := by
  intro t
  refine Tm.rec (motive_1 := P) (motive_2 := fun l => ∀ t ∈ l, P t) ?_ ?_ ?_ t
  · intro h l ih; exact step h l ih
  · intro t ht; cases ht
  · intro t l h1 h2 u hu
    rcases List.mem_cons.1 hu with rfl | hu
    · exact h1
    · exact h2 u hu
theorem goods_mem {l : List Tm} (h : goods l) : ∀ t ∈ l, t.good := by
  induction l with
  | nil => intro t ht; cases ht
  | cons u l ih =>
    intro t ht
    rcases List.mem_cons.1 ht with rfl | ht
    · exact h.1
    · exact ih h.2 t ht
theorem goods_of {l : List Tm} (h : ∀ t ∈ l, t.good) : goods l := by
  induction l with
  | nil => trivial
  | cons u l ih => exact ⟨h u (List.mem_cons_self ..), ih (fun t ht => h t (List.mem_cons_of_mem _ ht))⟩
theorem deeps_mem {l : List Tm} {t : Tm} (h : t ∈ l) : t.deep ≤ deeps l := by
  induction l with
  | nil => cases h
  | cons u l ih =>
    simp only [deeps]
    rcases List.mem_cons.1 h with rfl | h
    · omega
    · have := ih h; omega
theorem encs_flat (l : List Tm) : encs l = (l.map Tm.enc).flatten := by
  induction l with
  | nil => rfl
  | cons t l ih => simp [encs, ih]
theorem Tm.enc_node (h : List UInt8) (l : List Tm) : (Tm.node h l).enc = h ++ encs l := by simp [Tm.enc]

/-- What is a term's bytes is read, whatever stands behind it. -/
theorem read_enc : ∀ t : Tm, t.good → ∀ d, t.deep ≤ d → ∀ rest, readP d (t.enc ++ rest) = (t.enc.length, 0) := by
  refine Tm.ind ?_
  intro h l ih hg d hd rest
  simp only [Tm.good] at hg
  simp only [Tm.deep] at hd
  obtain ⟨d, rfl⟩ : ∃ e, d = e + 1 := ⟨d - 1, by omega⟩
  have loop : ∀ m : List Tm, (∀ t ∈ m, t ∈ l) → ∀ rest, loopP (readP d) m.length (encs m ++ rest) = ((encs m).length, 0) := by
    intro m
    induction m with
    | nil => intro _ rest; rfl
    | cons t m ihm =>
      intro hm rest
      have ht := hm t (List.mem_cons_self ..)
      have h1 := ih t ht (goods_mem hg.2 t ht) d (by have := deeps_mem ht; omega) (encs m ++ rest)
      have h2 := ihm (fun u hu => hm u (List.mem_cons_of_mem _ hu)) rest
      simp only [encs, List.length_cons, List.append_assoc]
      rw [loopP, h1]
      simp only [if_true, List.drop_left, h2, List.length_append]
  simp only [Tm.enc, List.append_assoc]
  rw [readP, hg.1]
  simp only [if_true, List.drop_left]
  rw [loop l (fun _ h => h) rest]
  simp

/-- What is read is a term's bytes. -/
theorem read_sound : ∀ (d : Nat) (s : List UInt8) (n : Nat), readP d s = (n, 0) → ∃ t : Tm, t.good ∧ t.deep ≤ d ∧ n = t.enc.length ∧ s = t.enc ++ s.drop n := by
  intro d
  induction d with
  | zero => intro s n h; simp [readP] at h
  | succ d ih =>
    intro s n h
    have loop : ∀ (k : Nat) (s : List UInt8) (n : Nat), loopP (readP d) k s = (n, 0) → ∃ l : List Tm, goods l ∧ l.length = k ∧ deeps l ≤ d ∧ n = (encs l).length ∧ s = encs l ++ s.drop n := by
      intro k
      induction k with
      | zero =>
        intro s n h
        simp only [loopP, Prod.mk.injEq] at h
        obtain ⟨rfl, _⟩ := h
        exact ⟨[], trivial, rfl, Nat.zero_le _, rfl, rfl⟩
      | succ k ihk =>
        intro s n h
        rw [loopP] at h
        split at h
        · rename_i h0
          split at h
          · rename_i h1
            simp only [Prod.mk.injEq, and_true] at h
            obtain ⟨t, g1, g2, g3, g4⟩ := ih s (readP d s).1 (Prod.ext rfl h0)
            obtain ⟨l, k1, k2, k3, k4, k5⟩ := ihk (s.drop (readP d s).1) (loopP (readP d) k (s.drop (readP d s).1)).1 (Prod.ext rfl h1)
            refine ⟨t :: l, ⟨g1, k1⟩, by simp [k2], by simp only [deeps]; omega, ?_, ?_⟩
            · simp only [encs, List.length_append]
              rw [← h, k4, g3]
            · simp only [encs, List.append_assoc]
              rw [← h, ← List.drop_drop, ← k5]; exact g4
          · rename_i h1
            simp only [Prod.mk.injEq] at h
            exact absurd h.2 h1
        · rename_i h0
          simp only [Prod.mk.injEq] at h
          exact absurd h.2 h0
    rw [readP] at h
    split at h
    · rename_i h0
      split at h
      · rename_i h1
        simp only [Prod.mk.injEq, and_true] at h
        obtain ⟨hn, hok⟩ := head_front (s := s) (n := (headP s).1) (p := (headP s).2.1) (by rw [← h0])
        obtain ⟨l, k1, k2, k3, k4, k5⟩ := loop (headP s).2.1 (s.drop (headP s).1) (loopP (readP d) (headP s).2.1 (s.drop (headP s).1)).1 (Prod.ext rfl h1)
        refine ⟨.node (s.take (headP s).1) l, ?_, ?_, ?_, ?_⟩
        · simp only [Tm.good]; exact ⟨by rw [k2]; exact hok, k1⟩
        · simp only [Tm.deep]; omega
        · simp only [Tm.enc, List.length_append, List.length_take]
          rw [← h, k4, Nat.min_eq_left hn]
        · simp only [Tm.enc, List.append_assoc]
          rw [← h, ← List.drop_drop, ← k5, List.take_append_drop]
      · rename_i h1
        simp only [Prod.mk.injEq] at h
        exact absurd h.2 h1
    · rename_i h0
      simp only [Prod.mk.injEq] at h
      exact absurd h.2 h0

/-- No term's bytes begin with another one's. -/
theorem enc_front : ∀ t : Tm, t.good → ∀ u : Tm, u.good → ∀ r r', t.enc ++ r = u.enc ++ r' → t = u ∧ r = r' := by
  refine Tm.ind ?_
  intro h l ih hg u hu r r' e
  obtain ⟨h', l'⟩ := u
  simp only [Tm.good] at hg hu
  simp only [Tm.enc, List.append_assoc] at e
  obtain ⟨rfl, hp, e⟩ := hg.1.same hu.1 e
  have loop : ∀ m m' : List Tm, (∀ t ∈ m, t ∈ l) → goods m' → m.length = m'.length → ∀ r r', encs m ++ r = encs m' ++ r' → m = m' ∧ r = r' := by
    intro m
    induction m with
    | nil =>
      intro m' _ _ hl r r' e
      cases m' with
      | nil => exact ⟨rfl, e⟩
      | cons => simp at hl
    | cons t m ihm =>
      intro m' hm hg' hl r r' e
      cases m' with
      | nil => simp at hl
      | cons t' m' =>
        simp only [encs, List.append_assoc] at e
        have ht := hm t (List.mem_cons_self ..)
        obtain ⟨rfl, e2⟩ := ih t ht (goods_mem hg.2 t ht) t' hg'.1 _ _ e
        obtain ⟨rfl, e3⟩ := ihm m' (fun u hu => hm u (List.mem_cons_of_mem _ hu)) hg'.2 (by simpa using hl) _ _ e2
        exact ⟨rfl, e3⟩
  obtain ⟨rfl, e4⟩ := loop l l' (fun _ h => h) hu.2 hp _ _ e
  exact ⟨rfl, e4⟩
theorem enc_tm_inj {t u : Tm} (ht : t.good) (hu : u.good) (e : t.enc = u.enc) : t = u := (enc_front t ht u hu [] [] (by simpa using e)).1
/-- A valid term. -/
def Tm.valid (t : Tm) : Prop := t.good ∧ t.deep ≤ 16 ∧ t.enc.length ≤ 16384
theorem front_enc {t : Tm} (h : t.valid) (rest : List UInt8) : frontP (t.enc ++ rest) = (t.enc.length, 0) := by
  have e := read_enc t h.1 16 h.2.1 rest
  unfold frontP
  rw [e, if_pos rfl, if_neg (by have := h.2.2; simp only; omega)]
theorem front_sound {s : List UInt8} {n : Nat} (h : frontP s = (n, 0)) : ∃ t : Tm, t.valid ∧ n = t.enc.length ∧ s = t.enc ++ s.drop n := by
  unfold frontP at h
  split at h
  · rename_i h0
    split at h
    · simp at h
    · rename_i h1
      obtain ⟨t, g1, g2, g3, g4⟩ := read_sound 16 s n h
      rw [h] at h1
      exact ⟨t, ⟨g1, g2, by simp only at h1; omega⟩, g3, g4⟩
  · rename_i h0
    simp only [Prod.mk.injEq] at h
    exact absurd h.2 h0
theorem check_enc {t : Tm} (h : t.valid) : checkP t.enc = 0 := by
  have e := front_enc h []
  rw [List.append_nil] at e
  unfold checkP
  rw [e]; simp
theorem check_iff {s : List UInt8} : checkP s = 0 ↔ ∃ t : Tm, t.valid ∧ t.enc = s := by
  constructor
  · intro h
    unfold checkP at h
    split at h
    · rename_i h0
      split at h
      · rename_i h1
        obtain ⟨t, g1, g2, g3⟩ := front_sound (s := s) (n := (frontP s).1) (Prod.ext rfl h0)
        refine ⟨t, g1, ?_⟩
        rw [h1] at g3
        simpa using g3.symm
      · exact absurd h (by decide)
    · rename_i h0
      exact absurd h h0
  · rintro ⟨t, h, rfl⟩
    exact check_enc h
end Go.Proofs.Ytpajcalfjfkogaa.Pl

namespace Go.Proofs.Ytpajcalfjfkogaa.Pl

mutual
def Tm.swap : Tm → List UInt8 → Tm → Tm
  | .node h l, f, u => if h ++ encs l = f then u else .node h (swaps l f u)
def swaps : List Tm → List UInt8 → Tm → List Tm
  | [], _, _ => []
  | t :: l, f, u => t.swap f u :: swaps l f u
end
theorem swaps_map (l : List Tm) (f : List UInt8) (u : Tm) : swaps l f u = l.map fun t => t.swap f u := by
  induction l with
  | nil => simp [swaps]
  | cons t l ih => simp [swaps, ih]
theorem Tm.swap_node (h : List UInt8) (l : List Tm) (f : List UInt8) (u : Tm) : (Tm.node h l).swap f u = if (Tm.node h l).enc = f then u else .node h (l.map fun t => t.swap f u) := by
  by_cases e : (Tm.node h l).enc = f
  · rw [if_pos e, Tm.swap, if_pos (by rw [← Tm.enc_node]; exact e)]
  · rw [if_neg e, Tm.swap, if_neg (by rw [← Tm.enc_node]; exact e), swaps_map]
theorem placess_flat (l : List Tm) : placess l = l.flatMap Tm.places := by
  induction l with
  | nil => simp [placess]
  | cons t l ih => simp [placess, ih]
/-- Does a term with these bytes stand in t? -/
def Has (t : Tm) (f : List UInt8) : Prop := ∃ p ∈ t.places, p.enc = f
theorem has_node {h : List UInt8} {l : List Tm} {f : List UInt8} : Has (.node h l) f ↔ (Tm.node h l).enc = f ∨ ∃ p ∈ l, Has p f := by
  unfold Has
  simp only [Tm.places, placess_flat, List.mem_cons, List.mem_flatMap]
  constructor
  · rintro ⟨p, rfl | ⟨q, hq, hp⟩, e⟩
    · exact .inl e
    · exact .inr ⟨q, hq, p, hp, e⟩
  · rintro (e | ⟨q, hq, p, hp, e⟩)
    · exact ⟨_, .inl rfl, e⟩
    · exact ⟨p, .inr ⟨q, hq, hp⟩, e⟩
theorem has_self (t : Tm) : Has t t.enc := by obtain ⟨h, l⟩ := t; exact has_node.2 (.inl rfl)
theorem enc_mem {l : List Tm} {t : Tm} (h : t ∈ l) : t.enc.length ≤ (encs l).length := by
  induction l with
  | nil => cases h
  | cons u l ih =>
    simp only [encs, List.length_append]
    rcases List.mem_cons.1 h with rfl | h
    · omega
    · have := ih h; omega
theorem places_good : ∀ t : Tm, t.good → ∀ p ∈ t.places, p.good := by
  refine Tm.ind ?_
  intro h l ih hg p hp
  simp only [Tm.places, placess_flat, List.mem_cons, List.mem_flatMap] at hp
  rcases hp with rfl | ⟨q, hq, hp⟩
  · exact hg
  · simp only [Tm.good] at hg
    exact ih q hq (goods_mem hg.2 q hq) p hp
theorem places_deep : ∀ t : Tm, ∀ p ∈ t.places, p.deep ≤ t.deep := by
  refine Tm.ind ?_
  intro h l ih p hp
  simp only [Tm.places, placess_flat, List.mem_cons, List.mem_flatMap] at hp
  rcases hp with rfl | ⟨q, hq, hp⟩
  · exact Nat.le_refl _
  · have := ih q hq p hp
    have := deeps_mem hq
    simp only [Tm.deep]; omega
theorem places_len : ∀ t : Tm, ∀ p ∈ t.places, p.enc.length ≤ t.enc.length := by
  refine Tm.ind ?_
  intro h l ih p hp
  simp only [Tm.places, placess_flat, List.mem_cons, List.mem_flatMap] at hp
  rcases hp with rfl | ⟨q, hq, hp⟩
  · exact Nat.le_refl _
  · have := ih q hq p hp
    have := enc_mem hq
    simp only [Tm.enc, List.length_append]; omega
theorem places_valid {t : Tm} (h : t.valid) {p : Tm} (hp : p ∈ t.places) : p.valid :=
  ⟨places_good t h.1 p hp, Nat.le_trans (places_deep t p hp) h.2.1, Nat.le_trans (places_len t p hp) h.2.2⟩
theorem has_len {t : Tm} {f : List UInt8} (h : Has t f) : f.length ≤ t.enc.length := by
  obtain ⟨p, hp, rfl⟩ := h
  exact places_len t p hp
theorem head_len {h : List UInt8} {l : List Tm} (hg : (Tm.node h l).good) {p : Tm} (hp : p ∈ l) : p.enc.length < (Tm.node h l).enc.length := by
  simp only [Tm.good] at hg
  have h1 := List.length_pos_iff.2 hg.1.pos
  have h2 := enc_mem hp
  simp only [Tm.enc, List.length_append]; omega
theorem places_trans : ∀ t : Tm, ∀ p ∈ t.places, ∀ q ∈ p.places, q ∈ t.places := by
  refine Tm.ind ?_
  intro h l ih p hp q hq
  have hp' := hp
  simp only [Tm.places, placess_flat, List.mem_cons, List.mem_flatMap] at hp
  rcases hp with rfl | ⟨r, hr, hp⟩
  · exact hq
  · simp only [Tm.places, placess_flat, List.mem_cons, List.mem_flatMap]
    exact .inr ⟨r, hr, ih r hr p hp q hq⟩
theorem has_trans {t p : Tm} {f : List UInt8} (h : Has t p.enc) (ht : t.good) (hp : p.good) (k : Has p f) : Has t f := by
  obtain ⟨q, hq, e⟩ := h
  obtain rfl := enc_tm_inj (places_good t ht q hq) hp e
  obtain ⟨r, hr, e⟩ := k
  exact ⟨r, places_trans t q hq r hr, e⟩

theorem swap_good : ∀ t : Tm, t.good → ∀ (f : List UInt8) (u : Tm), u.good → (t.swap f u).good := by
  refine Tm.ind ?_
  intro h l ih hg f u hu
  rw [Tm.swap_node]
  split
  · exact hu
  · simp only [Tm.good] at hg ⊢
    refine ⟨by rw [List.length_map]; exact hg.1, goods_of ?_⟩
    intro t ht
    obtain ⟨q, hq, rfl⟩ := List.mem_map.1 ht
    exact ih q hq (goods_mem hg.2 q hq) f u hu
theorem swap_none : ∀ t : Tm, ∀ (f : List UInt8) (u : Tm), ¬ Has t f → t.swap f u = t := by
  refine Tm.ind ?_
  intro h l ih f u hn
  rw [has_node] at hn
  rw [Tm.swap_node, if_neg (fun e => hn (.inl e))]
  have : (l.map fun t => t.swap f u) = l := by
    conv => rhs; rw [← List.map_id l]
    exact List.map_congr_left fun t ht => ih t ht f u (fun hh => hn (.inr ⟨t, ht, hh⟩))
  rw [this]
theorem has_swap : ∀ t : Tm, ∀ (f : List UInt8) (u : Tm), Has t f → Has (t.swap f u) u.enc := by
  refine Tm.ind ?_
  intro h l ih f u hh
  rw [Tm.swap_node]
  split
  · exact has_self u
  · rename_i hne
    rcases has_node.1 hh with e | ⟨p, hp, hh⟩
    · exact absurd e hne
    · exact has_node.2 (.inr ⟨p.swap f u, List.mem_map.2 ⟨p, hp, rfl⟩, ih p hp f u hh⟩)
theorem swap_at {u F : Tm} : u.swap u.enc F = F := by
  obtain ⟨h, l⟩ := u
  rw [Tm.swap_node, if_pos rfl]
/-- A term in which something was swapped for u has not u's bytes itself, unless it was swapped whole, or u stood there. -/
theorem swap_not {h : List UInt8} {l : List Tm} {f : List UInt8} {u : Tm} (hg : (Tm.node h l).good) (hu : u.good) (hne : (Tm.node h l).enc ≠ f) (hn : ¬ Has (.node h l) u.enc) : (Tm.node h (l.map fun t => t.swap f u)).enc ≠ u.enc := by
  intro e
  have e2 : (Tm.node h l).swap f u = Tm.node h (l.map fun t => t.swap f u) := by rw [Tm.swap_node, if_neg hne]
  have hg2 := swap_good _ hg f u hu
  rw [e2] at hg2
  by_cases hh : Has (.node h l) f
  · rcases has_node.1 hh with e3 | ⟨p, hp, hp2⟩
    · exact hne e3
    · have h1 := has_len (has_swap p f u hp2)
      have h2 := head_len hg2 (List.mem_map.2 ⟨p, hp, rfl⟩)
      rw [e] at h2
      omega
  · have e3 := swap_none _ f u hh
    rw [e2] at e3
    rw [e3] at e
    exact hn (by rw [← e]; exact has_self _)
/-- Swapped, and back. -/
theorem swap_back : ∀ t : Tm, t.good → ∀ F u : Tm, F.good → u.good → ¬ Has t u.enc → (t.swap F.enc u).swap u.enc F = t := by
  refine Tm.ind ?_
  intro h l ih hg F u hF hu hn
  rw [Tm.swap_node]
  split
  · rename_i e
    rw [swap_at]
    exact (enc_tm_inj hg hF e).symm
  · rename_i hne
    rw [Tm.swap_node, if_neg (swap_not hg hu hne hn), List.map_map]
    have : (l.map ((fun t => t.swap u.enc F) ∘ fun t => t.swap F.enc u)) = l := by
      conv => rhs; rw [← List.map_id l]
      refine List.map_congr_left fun t ht => ?_
      simp only [Tm.good] at hg
      exact ih t ht (goods_mem hg.2 t ht) F u hF hu (fun hh => hn (has_node.2 (.inr ⟨t, ht, hh⟩)))
    rw [this]
/-- What was swapped stands there no more, unless what came has it. -/
theorem swap_gone : ∀ t : Tm, t.good → ∀ F u : Tm, F.good → u.good → ¬ Has t u.enc → ¬ Has u F.enc → ¬ Has (t.swap F.enc u) F.enc := by
  refine Tm.ind ?_
  intro h l ih hg F u hF hu hn hnu
  rw [Tm.swap_node]
  split
  · exact hnu
  · rename_i hne
    intro hh
    have hg' := hg
    simp only [Tm.good] at hg'
    rcases has_node.1 hh with e | ⟨p, hp, hp2⟩
    · have e2 : (Tm.node h l).swap F.enc u = Tm.node h (l.map fun t => t.swap F.enc u) := by rw [Tm.swap_node, if_neg hne]
      have hg2 := swap_good _ hg F.enc u hu
      rw [e2] at hg2
      by_cases h0 : Has (.node h l) F.enc
      · have h1 := has_swap _ F.enc u h0
        rw [e2] at h1
        have h3 := enc_tm_inj hg2 hF e
        rw [h3] at h1
        exact hn (has_trans h0 hg hF h1)
      · have e3 := swap_none _ F.enc u h0
        rw [e2] at e3
        rw [e3] at e
        exact hne e
    · obtain ⟨q, hq, rfl⟩ := List.mem_map.1 hp
      exact ih q hq (goods_mem hg'.2 q hq) F u hF hu (fun hh => hn (has_node.2 (.inr ⟨q, hq, hh⟩))) hnu hp2
end Go.Proofs.Ytpajcalfjfkogaa.Pl

namespace Go.Proofs.Ytpajcalfjfkogaa.Pl

/-- Which heads there are. -/
inductive Kd (h : List UInt8) (p : Nat) : Nat → Prop where
  | data (t : List UInt8) : h = 100 :: txt t → t.length ≤ 1024 → p = 0 → Kd h p 1
  | atom (t : List UInt8) : h = 97 :: txt t → t.length ≤ 32 → nameOK t = true → p = 0 → Kd h p 2
  | row (v : Nat) : h = 114 :: enc v → v ≤ 32 → p = v → Kd h p 3
  | hash : h = [104] → p = 1 → Kd h p 4
  | mac : h = [109] → p = 2 → Kd h p 5
  | seal_ : h = [115] → p = 3 → Kd h p 6
theorem head_kind {h : List UInt8} {p : Nat} (k : HeadOK h p) : ∃ c, Kd h p c := by
  have e := k []
  rw [List.append_nil] at e
  cases h with
  | nil => exact absurd rfl k.pos
  | cons b r =>
    simp only [headP] at e
    split at e
    · rename_i hb
      subst hb
      obtain ⟨t, n, f, hr⟩ : ∃ t n f, rdt r 1024 = (t, n, f) := ⟨_, _, _, rfl⟩
      rw [hr] at e
      simp only [Prod.mk.injEq, List.length_cons] at e
      obtain ⟨e1, rfl, rfl⟩ := e
      obtain ⟨h1, h2, h3, h4⟩ := rdt_sound hr
      refine ⟨1, .data t ?_ (by omega) rfl⟩
      rw [h4, List.take_of_length_le (by omega)]
    · split at e
      · rename_i hb
        subst hb
        obtain ⟨t, n, f, hr⟩ : ∃ t n f, rdt r 32 = (t, n, f) := ⟨_, _, _, rfl⟩
        rw [hr] at e
        split at e
        · simp at e
        · rename_i hno
          simp only [Prod.mk.injEq, List.length_cons] at e
          obtain ⟨e1, rfl, rfl⟩ := e
          obtain ⟨h1, h2, h3, h4⟩ := rdt_sound hr
          refine ⟨2, .atom t ?_ (by omega) ?_ rfl⟩
          · rw [h4, List.take_of_length_le (by omega)]
          · cases hn : nameOK t with
            | true => rfl
            | false => exact absurd ⟨rfl, hn⟩ hno
      · split at e
        · rename_i hb
          subst hb
          obtain ⟨v, n, f, hr⟩ : ∃ v n f, rdn r = (v, n, f) := ⟨_, _, _, rfl⟩
          rw [hr] at e
          split at e
          · simp at e
          · rename_i hno
            simp only [Prod.mk.injEq, List.length_cons] at e
            obtain ⟨e1, rfl, rfl⟩ := e
            obtain ⟨h1, h2, h3, h4⟩ := rdn_sound hr
            refine ⟨3, .row v ?_ (by simpa using hno) rfl⟩
            rw [h3, List.take_of_length_le (by omega)]
        · split at e
          · rename_i hb
            subst hb
            simp only [Prod.mk.injEq, List.length_cons] at e
            obtain ⟨e1, rfl, _⟩ := e
            exact ⟨4, .hash (by rw [List.length_eq_zero_iff.1 (show r.length = 0 by omega)]) rfl⟩
          · split at e
            · rename_i hb
              subst hb
              simp only [Prod.mk.injEq, List.length_cons] at e
              obtain ⟨e1, rfl, _⟩ := e
              exact ⟨5, .mac (by rw [List.length_eq_zero_iff.1 (show r.length = 0 by omega)]) rfl⟩
            · split at e
              · rename_i hb
                subst hb
                simp only [Prod.mk.injEq, List.length_cons] at e
                obtain ⟨e1, rfl, _⟩ := e
                exact ⟨6, .seal_ (by rw [List.length_eq_zero_iff.1 (show r.length = 0 by omega)]) rfl⟩
              · simp at e
theorem row_head {v : Nat} (h : v ≤ 32) : HeadOK (114 :: enc v) v := by
  intro rest
  rw [List.cons_append, headP, if_neg (by decide), if_neg (by decide), if_pos rfl, rdn_enc (by rw [two64]; omega) rest, if_neg (by simp only; omega)]
  simp [Nat.add_comm]
theorem data_head {t : List UInt8} (h : t.length ≤ 1024) : HeadOK (100 :: txt t) 0 := by
  intro rest
  rw [List.cons_append, headP, if_pos rfl, rdt_txt (by rw [two64]; omega) rest 1024 (by omega)]
  simp [Nat.add_comm]
theorem hash_head : HeadOK [104] 1 := fun _ => rfl
theorem mac_head : HeadOK [109] 2 := fun _ => rfl
theorem seal_head : HeadOK [115] 3 := fun _ => rfl

/-- What letters and parts make, or why there is nothing. -/
def madeP (front : List UInt8) (l : List (List UInt8)) : List UInt8 × Nat :=
  if ∀ x ∈ l, checkP x = 0 then (if checkP (front ++ l.flatten) = 0 then (front ++ l.flatten, 0) else ([], 5)) else ([], 2)
def dataP (s : List UInt8) : List UInt8 × Nat := if 1024 < s.length then ([], 5) else (100 :: txt s, 0)
def atomP (s : List UInt8) : List UInt8 × Nat := if 32 < s.length then ([], 5) else if nameOK s = false then ([], 7) else (97 :: txt s, 0)
def rowP (l : List (List UInt8)) : List UInt8 × Nat := madeP (114 :: enc l.length) l

theorem check_len {s : List UInt8} (h : checkP s = 0) : s.length ≤ 16384 := by
  obtain ⟨t, ht, rfl⟩ := check_iff.1 h
  exact ht.2.2
/-- The trees of terms. -/
theorem trees {l : List (List UInt8)} (h : ∀ x ∈ l, checkP x = 0) : ∃ m : List Tm, (∀ t ∈ m, t.valid) ∧ m.map Tm.enc = l := by
  induction l with
  | nil => exact ⟨[], (fun t ht => by cases ht), rfl⟩
  | cons x l ih =>
    obtain ⟨m, h1, h2⟩ := ih (fun y hy => h y (List.mem_cons_of_mem _ hy))
    obtain ⟨t, ht, e⟩ := check_iff.1 (h x (List.mem_cons_self ..))
    refine ⟨t :: m, ?_, by simp [e, h2]⟩
    intro u hu
    rcases List.mem_cons.1 hu with rfl | hu
    · exact ht
    · exact h1 u hu
theorem node_valid_parts {h : List UInt8} {l : List Tm} (hv : (Tm.node h l).valid) : ∀ t ∈ l, t.valid := by
  intro t ht
  have hg := hv.1
  simp only [Tm.good] at hg
  exact places_valid hv (p := t) (by
    simp only [Tm.places, placess_flat, List.mem_cons, List.mem_flatMap]
    exact .inr ⟨t, ht, by obtain ⟨a, b⟩ := t; simp [Tm.places]⟩)
/-- What a valid term's parts make, behind its head, is it again. -/
theorem made_again {h : List UInt8} {l : List Tm} (hv : (Tm.node h l).valid) : madeP h (l.map Tm.enc) = ((Tm.node h l).enc, 0) := by
  unfold madeP
  rw [if_pos (by
    intro x hx
    obtain ⟨t, ht, rfl⟩ := List.mem_map.1 hx
    exact check_enc (node_valid_parts hv t ht))]
  have e : h ++ (l.map Tm.enc).flatten = (Tm.node h l).enc := by rw [← encs_flat, Tm.enc_node]
  rw [e, if_pos (check_enc hv)]
/-- What was made has just those parts. -/
theorem made_parts {front : List UInt8} {l : List (List UInt8)} (hh : HeadOK front l.length) {r : List UInt8} (h : madeP front l = (r, 0)) : ∃ m : List Tm, (Tm.node front m).valid ∧ (Tm.node front m).enc = r ∧ m.map Tm.enc = l := by
  unfold madeP at h
  split at h
  · rename_i h1
    split at h
    · rename_i h2
      simp only [Prod.mk.injEq, and_true] at h
      obtain ⟨m, hm, rfl⟩ := trees h1
      obtain ⟨t, ht, e⟩ := check_iff.1 h2
      have hg : (Tm.node front m).good := by
        simp only [Tm.good]
        exact ⟨by rw [List.length_map] at hh; exact hh, goods_of fun u hu => (hm u hu).1⟩
      have e2 : t.enc = (Tm.node front m).enc := by rw [e, ← encs_flat, Tm.enc_node]
      obtain rfl := enc_tm_inj ht.1 hg e2
      exact ⟨m, ht, by rw [← h, ← encs_flat, Tm.enc_node], rfl⟩
    · simp at h
  · simp at h
theorem row_parts {l : List (List UInt8)} (h8 : l.length < 256 ^ 8) {r : List UInt8} (h : rowP l = (r, 0)) : ∃ m : List Tm, (Tm.node (114 :: enc l.length) m).valid ∧ (Tm.node (114 :: enc l.length) m).enc = r ∧ m.map Tm.enc = l := by
  by_cases hl : l.length ≤ 32
  · exact made_parts (row_head hl) h
  · exfalso
    unfold rowP madeP at h
    split at h
    · split at h
      · rename_i h2
        obtain ⟨⟨h', l'⟩, ht, e⟩ := check_iff.1 h2
        have hg := ht.1
        simp only [Tm.good] at hg
        obtain ⟨c, hk⟩ := head_kind hg.1
        rw [Tm.enc_node] at e
        cases hk with
        | data t e1 _ _ => rw [e1] at e; simp at e
        | atom t e1 _ _ _ => rw [e1] at e; simp at e
        | hash e1 _ => rw [e1] at e; simp at e
        | mac e1 _ => rw [e1] at e; simp at e
        | seal_ e1 _ => rw [e1] at e; simp at e
        | row v e1 hv _ =>
          rw [e1] at e
          simp only [List.cons_append, List.cons.injEq, true_and] at e
          have r1 := rdn_enc (v := v) (by rw [two64]; omega) (encs l')
          rw [e, rdn_enc h8] at r1
          have := congrArg Prod.fst r1
          simp only at this
          omega
      · simp at h
    · simp at h
/- The tree of a term's bytes. -/
open Classical in
noncomputable def treeOf (s : List UInt8) : Option Tm := if h : ∃ t : Tm, t.valid ∧ t.enc = s then some (Classical.choose h) else none
theorem treeOf_enc {t : Tm} (h : t.valid) : treeOf t.enc = some t := by
  have hx : ∃ u : Tm, u.valid ∧ u.enc = t.enc := ⟨t, h, rfl⟩
  unfold treeOf
  rw [dif_pos hx]
  have := Classical.choose_spec hx
  rw [enc_tm_inj this.1.1 h.1 this.2]
theorem treeOf_none {s : List UInt8} (h : checkP s ≠ 0) : treeOf s = none := by
  unfold treeOf
  rw [dif_neg (fun k => h (check_iff.2 k))]
theorem treeOf_some {s : List UInt8} (h : checkP s = 0) : ∃ t : Tm, t.valid ∧ t.enc = s ∧ treeOf s = some t := by
  obtain ⟨t, ht, rfl⟩ := check_iff.1 h
  exact ⟨t, ht, rfl, treeOf_enc ht⟩
noncomputable def kindP (s : List UInt8) : Nat := if checkP s = 0 then (match s with | [] => 0 | b :: _ => if b = 100 then 1 else if b = 97 then 2 else if b = 114 then 3 else if b = 104 then 4 else if b = 109 then 5 else 6) else 0
noncomputable def textP (s : List UInt8) : List UInt8 × Bool := if checkP s = 0 ∧ (s.head? = some 100 ∨ s.head? = some 97) then ((rdt (s.drop 1) 1024).1, true) else ([], false)
noncomputable def partsP (s : List UInt8) : List (List UInt8) × Bool := match treeOf s with | some (.node _ l) => (l.map Tm.enc, true) | none => ([], false)
noncomputable def placesP (s : List UInt8) : List (List UInt8) := match treeOf s with | some t => t.places.map Tm.enc | none => []
noncomputable def hasP (s f : List UInt8) : Bool := match treeOf s, treeOf f with | some _, some _ => decide (f ∈ placesP s) | _, _ => false
noncomputable def swapP (s f u : List UInt8) : List UInt8 × Nat := match treeOf s, treeOf f, treeOf u with
  | some t, some _, some v => if checkP (t.swap f v).enc = 0 then ((t.swap f v).enc, 0) else ([], 5)
  | _, _, _ => ([], 2)
theorem has_places {t : Tm} {f : List UInt8} : Has t f ↔ f ∈ t.places.map Tm.enc := by
  unfold Has
  rw [List.mem_map]
/-- The theorem of the stage, over plain bytes. -/
theorem back_plain {s f u : List UInt8} (h : (swapP s f u).2 = 0) (hf : hasP s f = true) (hu : hasP s u = false) :
    swapP (swapP s f u).1 u f = (s, 0) ∧ hasP (swapP s f u).1 u = true ∧ (hasP u f = true ∨ hasP (swapP s f u).1 f = false) := by
  unfold swapP at h
  cases hs : treeOf s with
  | none => rw [hs] at h; simp at h
  | some t =>
    cases hff : treeOf f with
    | none => rw [hs, hff] at h; simp at h
    | some F =>
      cases huu : treeOf u with
      | none => rw [hs, hff, huu] at h; simp at h
      | some U =>
        rw [hs, hff, huu] at h
        simp only at h
        split at h
        · rename_i hc
          have tv : ∀ {x : List UInt8} {y : Tm}, treeOf x = some y → y.valid ∧ y.enc = x := by
            intro x y e
            by_cases hx : checkP x = 0
            · obtain ⟨z, h1, h2, h3⟩ := treeOf_some hx
              rw [h3] at e
              obtain rfl := Option.some.inj e
              exact ⟨h1, h2⟩
            · rw [treeOf_none hx] at e; cases e
          obtain ⟨tv1, rfl⟩ := tv hs
          obtain ⟨Fv, rfl⟩ := tv hff
          obtain ⟨Uv, rfl⟩ := tv huu
          have e1 : swapP t.enc F.enc U.enc = ((t.swap F.enc U).enc, 0) := by unfold swapP; rw [hs, hff, huu]; simp only; rw [if_pos hc]
          rw [e1]
          simp only
          obtain ⟨S, hS, e2⟩ := check_iff.1 hc
          have hg := swap_good t tv1.1 F.enc U Uv.1
          obtain rfl := enc_tm_inj hS.1 hg e2
          have hS' := treeOf_enc hS
          have nu : ¬ Has t U.enc := by
            unfold hasP placesP at hu
            rw [hs, huu] at hu
            simp only [decide_eq_false_iff_not] at hu
            rw [has_places]; exact hu
          have hF : Has t F.enc := by
            unfold hasP placesP at hf
            rw [hs, hff] at hf
            simp only [decide_eq_true_eq] at hf
            rw [has_places]; exact hf
          have hb := swap_back t tv1.1 F U Fv.1 Uv.1 nu
          refine ⟨?_, ?_, ?_⟩
          · unfold swapP
            rw [hS', hff, huu]
            simp only
            rw [hb, if_pos (check_enc tv1)]
          · unfold hasP placesP
            rw [hS', huu]
            simp only [decide_eq_true_eq]
            exact has_places.1 (has_swap t F.enc U hF)
          · by_cases hUF : Has U F.enc
            · left
              unfold hasP placesP
              rw [huu, hff]
              simp only [decide_eq_true_eq]
              exact has_places.1 hUF
            · right
              unfold hasP placesP
              rw [hS', hff]
              simp only [decide_eq_false_iff_not]
              exact fun hh => swap_gone t tv1.1 F U Fv.1 Uv.1 nu hUF (has_places.2 hh)
        · simp at h
end Go.Proofs.Ytpajcalfjfkogaa.Pl

namespace Go.Proofs.Ytpajcalfjfkogaa.Pl

mutual
/-- What is told of a term that is known: itself, or what a row is made of; nothing of a datum. -/
def takeT : Tm → List Tm
  | .node h l => if h.head? = some 100 then [] else if h.head? = some 114 then takeTs l else [.node h l]
def takeTs : List Tm → List Tm
  | [] => []
  | t :: l => takeT t ++ takeTs l
end
mutual
/-- Whether a term can be made of those in L. -/
def can (L : Tm → Prop) : Tm → Prop
  | .node h l => h.head? = some 100 ∨ L (.node h l) ∨ (h.head? ≠ some 97 ∧ cans L l)
def cans (L : Tm → Prop) : List Tm → Prop
  | [] => True
  | t :: l => can L t ∧ cans L l
end
/-- A seal's key, its nonce, what is sealed. -/
abbrev sealT (k n x : Tm) : Tm := .node [115] [k, n, x]
/-- Whatever can be opened is open. -/
def Sat (L : Tm → Prop) : Prop := ∀ k n x, L (sealT k n x) → (∀ y ∈ takeT n, L y) ∧ (can L k → ∀ y ∈ takeT x, L y)
/-- What is known of those in S. -/
def Cl (S : Tm → Prop) (y : Tm) : Prop := ∀ L : Tm → Prop, Sat L → (∀ t, S t → ∀ z ∈ takeT t, L z) → L y

theorem mem_takeTs {y : Tm} : ∀ {l : List Tm}, y ∈ takeTs l ↔ ∃ t ∈ l, y ∈ takeT t
  | [] => by simp [takeTs]
  | t :: l => by rw [takeTs, List.mem_append, mem_takeTs]; simp
theorem cans_all {L : Tm → Prop} : ∀ {l : List Tm}, cans L l ↔ ∀ t ∈ l, can L t
  | [] => by simp [cans]
  | t :: l => by rw [cans, cans_all]; simp
theorem can_mono {L M : Tm → Prop} (h : ∀ y, L y → M y) : ∀ t, can L t → can M t := by
  refine Tm.ind fun hd l ih => ?_
  rw [can, can]
  rintro (h1 | h1 | ⟨h1, h2⟩)
  · exact .inl h1
  · exact .inr (.inl (h _ h1))
  · exact .inr (.inr ⟨h1, cans_all.2 fun t ht => ih t ht (cans_all.1 h2 t ht)⟩)
theorem can_same {L M : Tm → Prop} (h : ∀ y, L y ↔ M y) (t : Tm) : can L t ↔ can M t := ⟨can_mono (fun y => (h y).1) t, can_mono (fun y => (h y).2) t⟩
theorem cl_sat (S : Tm → Prop) : Sat (Cl S) := fun k n x hs => by
  constructor
  · exact fun y hy L hL hS => (hL k n x (hs L hL hS)).1 y hy
  · exact fun hk y hy L hL hS => (hL k n x (hs L hL hS)).2 (can_mono (fun z hz => hz L hL hS) k hk) y hy
theorem cl_take {S : Tm → Prop} {t : Tm} (h : S t) : ∀ z ∈ takeT t, Cl S z := fun z hz _ _ hS => hS t h z hz
theorem cl_least {S L : Tm → Prop} (hL : Sat L) (hS : ∀ t, S t → ∀ z ∈ takeT t, L z) : ∀ y, Cl S y → L y := fun _ hy => hy L hL hS
theorem cl_mono {S R : Tm → Prop} (h : ∀ t, S t → R t) : ∀ y, Cl S y → Cl R y := cl_least (cl_sat R) fun t ht => cl_take (h t ht)
theorem cl_same {S R : Tm → Prop} (h : ∀ t, S t ↔ R t) (y : Tm) : Cl S y ↔ Cl R y := ⟨cl_mono (fun t => (h t).1) y, cl_mono (fun t => (h t).2) y⟩
/-- What is known can be made. -/
theorem can_take {L : Tm → Prop} : ∀ t, (∀ z ∈ takeT t, L z) → can L t := by
  refine Tm.ind fun hd l ih h => ?_
  rw [can]
  by_cases h1 : hd.head? = some 100
  · exact .inl h1
  · by_cases h2 : hd.head? = some 114
    · refine .inr (.inr ⟨by rw [h2]; decide, cans_all.2 fun t ht => ih t ht fun z hz => h z ?_⟩)
      rw [takeT, if_neg h1, if_pos h2]
      exact mem_takeTs.2 ⟨t, ht, hz⟩
    · exact .inr (.inl (h _ (by rw [takeT, if_neg h1, if_neg h2]; exact List.mem_singleton.2 rfl)))
theorem take_kind : ∀ (t : Tm) (y : Tm), y ∈ takeT t → ∃ h l, y = .node h l ∧ h.head? ≠ some 100 ∧ h.head? ≠ some 114 := by
  refine Tm.ind fun hd l ih y hy => ?_
  rw [takeT] at hy
  split at hy
  · cases hy
  · split at hy
    · obtain ⟨t, ht, h⟩ := mem_takeTs.1 hy
      exact ih t ht y h
    · obtain rfl := List.mem_singleton.1 hy
      exact ⟨hd, l, rfl, by assumption, by assumption⟩
/-- A listed term tells itself. -/
theorem take_self {h : List UInt8} {l : List Tm} (h1 : h.head? ≠ some 100) (h2 : h.head? ≠ some 114) : takeT (.node h l) = [.node h l] := by
  rw [takeT, if_neg h1, if_neg h2]

mutual
/-- All that may come of a term. -/
def cand : Tm → List Tm
  | .node h l => if h.head? = some 100 then [] else if h.head? = some 114 then cands l else .node h l :: (if h = [115] then candt l else [])
def cands : List Tm → List Tm
  | [] => []
  | t :: l => cand t ++ cands l
def candt : List Tm → List Tm
  | [] => []
  | _ :: l => cands l
end
theorem mem_cands {y : Tm} : ∀ {l : List Tm}, y ∈ cands l ↔ ∃ t ∈ l, y ∈ cand t
  | [] => by simp [cands]
  | t :: l => by rw [cands, List.mem_append, mem_cands]; simp
theorem take_cand : ∀ (t : Tm) (y : Tm), y ∈ takeT t → y ∈ cand t := by
  refine Tm.ind fun hd l ih y hy => ?_
  rw [takeT] at hy
  rw [cand]
  split at hy
  · cases hy
  · rename_i h1
    rw [if_neg h1]
    split at hy
    · rename_i h2
      rw [if_pos h2]
      obtain ⟨t, ht, h⟩ := mem_takeTs.1 hy
      exact mem_cands.2 ⟨t, ht, ih t ht y h⟩
    · rename_i h2
      rw [if_neg h2]
      exact List.mem_cons.2 (.inl (List.mem_singleton.1 hy))
theorem cand_in : ∀ (t : Tm) (y : Tm), y ∈ cand t → ∀ z ∈ cand y, z ∈ cand t := by
  refine Tm.ind fun hd l ih y hy z hz => ?_
  rw [cand] at hy ⊢
  split at hy
  · cases hy
  · rename_i h1
    rw [if_neg h1]
    split at hy
    · rename_i h2
      rw [if_pos h2]
      obtain ⟨t, ht, h⟩ := mem_cands.1 hy
      exact mem_cands.2 ⟨t, ht, ih t ht y h z hz⟩
    · rename_i h2
      rw [if_neg h2]
      rcases List.mem_cons.1 hy with rfl | hy
      · rw [cand, if_neg h1, if_neg h2] at hz
        exact hz
      · split at hy
        · rename_i h3
          rw [if_pos h3]
          refine List.mem_cons.2 (.inr ?_)
          cases l with
          | nil => cases hy
          | cons k r =>
            rw [candt] at hy ⊢
            obtain ⟨t, ht, h⟩ := mem_cands.1 hy
            exact mem_cands.2 ⟨t, ht, ih t (List.mem_cons.2 (.inr ht)) y h z hz⟩
        · cases hy
/-- What is known stands among what may come. -/
theorem cl_cand {S : Tm → Prop} {y : Tm} (h : Cl S y) : ∃ t, S t ∧ y ∈ cand t := by
  refine h (fun y => ∃ t, S t ∧ y ∈ cand t) (fun k n x ⟨t, ht, hy⟩ => ?_) (fun t ht z hz => ⟨t, ht, take_cand t z hz⟩)
  have hc : cand (sealT k n x) = sealT k n x :: (cand n ++ (cand x ++ [])) := by
    rw [cand, if_neg (by decide), if_neg (by decide), if_pos rfl, candt, cands, cands, cands]
  have hin := cand_in t _ hy
  rw [hc] at hin
  exact ⟨fun z hz => ⟨t, ht, hin z (by simp [take_cand n z hz])⟩, fun _ z hz => ⟨t, ht, hin z (by simp [take_cand x z hz])⟩⟩
theorem cand_good : ∀ t : Tm, t.good → ∀ y ∈ cand t, y.good := by
  refine Tm.ind fun hd l ih hg y hy => ?_
  rw [cand] at hy
  split at hy
  · cases hy
  · split at hy
    · obtain ⟨t, ht, h⟩ := mem_cands.1 hy
      exact ih t ht (goods_mem hg.2 t ht) y h
    · rcases List.mem_cons.1 hy with rfl | hy
      · exact hg
      · split at hy
        · cases l with
          | nil => cases hy
          | cons k r =>
            rw [candt] at hy
            obtain ⟨t, ht, h⟩ := mem_cands.1 hy
            exact ih t (List.mem_cons.2 (.inr ht)) (goods_mem hg.2 t (List.mem_cons.2 (.inr ht))) y h
        · cases hy
theorem cand_valid : ∀ t : Tm, t.valid → ∀ y ∈ cand t, y.valid := by
  refine Tm.ind fun hd l ih hv y hy => ?_
  have hp := node_valid_parts hv
  rw [cand] at hy
  split at hy
  · cases hy
  · split at hy
    · obtain ⟨t, ht, h⟩ := mem_cands.1 hy
      exact ih t ht (hp t ht) y h
    · rcases List.mem_cons.1 hy with rfl | hy
      · exact hv
      · split at hy
        · cases l with
          | nil => cases hy
          | cons k r =>
            rw [candt] at hy
            obtain ⟨t, ht, h⟩ := mem_cands.1 hy
            exact ih t (List.mem_cons.2 (.inr ht)) (hp t (List.mem_cons.2 (.inr ht))) y h
        · cases hy

theorem txt_two (t : List UInt8) : 1 ≤ (txt t).length ∧ (t ≠ [] → 2 ≤ (txt t).length) := by
  have h1 := (enc_len t.length).1
  rw [txt_len]
  refine ⟨by omega, fun h => ?_⟩
  have : 0 < t.length := List.length_pos_iff.2 h
  omega
/-- A term has two bytes at least. -/
theorem two_bytes : ∀ t : Tm, t.good → 2 ≤ t.enc.length := by
  refine Tm.ind fun hd l ih hg => ?_
  rw [Tm.enc_node, List.length_append]
  obtain ⟨c, hk⟩ := head_kind hg.1
  have hl : ∀ n, l.length = n + 1 → 2 ≤ (encs l).length := by
    intro n hn
    cases l with
    | nil => cases hn
    | cons t r =>
      have := ih t (List.mem_cons.2 (.inl rfl)) (goods_mem hg.2 t (List.mem_cons.2 (.inl rfl)))
      rw [encs, List.length_append]
      omega
  rcases hk with ⟨t, rfl, _, _⟩ | ⟨t, rfl, _, _, _⟩ | ⟨v, rfl, _, _⟩ | ⟨rfl, h⟩ | ⟨rfl, h⟩ | ⟨rfl, h⟩
  · have := (txt_two t).1; simp only [List.length_cons]; omega
  · have := (txt_two t).1; simp only [List.length_cons]; omega
  · have := (enc_len v).1; simp only [List.length_cons]; omega
  · have := hl 0 h; simp only [List.length_cons]; omega
  · have := hl 1 h; simp only [List.length_cons]; omega
  · have := hl 2 h; simp only [List.length_cons]; omega
theorem cands_len : ∀ l : List Tm, (∀ t ∈ l, 3 * (cand t).length ≤ t.enc.length) → 3 * (cands l).length ≤ (encs l).length
  | [], _ => by simp [cands, encs]
  | t :: l, h => by
    have h1 := h t (List.mem_cons.2 (.inl rfl))
    have h2 := cands_len l fun u hu => h u (List.mem_cons.2 (.inr hu))
    rw [cands, encs, List.length_append, List.length_append]
    omega
/-- Each that may come takes three bytes at least. -/
theorem cand_len : ∀ t : Tm, t.good → 3 * (cand t).length ≤ t.enc.length := by
  refine Tm.ind fun hd l ih hg => ?_
  have ih' : ∀ t ∈ l, 3 * (cand t).length ≤ t.enc.length := fun t ht => ih t ht (goods_mem hg.2 t ht)
  obtain ⟨c, hk⟩ := head_kind hg.1
  rw [Tm.enc_node, List.length_append, cand]
  have one : ∀ n, l.length = n + 1 → 2 ≤ (encs l).length := by
    intro n hn
    cases l with
    | nil => cases hn
    | cons t r =>
      have := two_bytes t (goods_mem hg.2 t (List.mem_cons.2 (.inl rfl)))
      rw [encs, List.length_append]
      omega
  rcases hk with ⟨t, rfl, _, _⟩ | ⟨t, rfl, _, hn, _⟩ | ⟨v, rfl, _, _⟩ | ⟨rfl, h⟩ | ⟨rfl, h⟩ | ⟨rfl, h⟩
  · rw [if_pos (show (100 :: txt t).head? = some 100 from rfl)]; simp
  · rw [if_neg (by simp), if_neg (by simp), if_neg (by intro e; injection e with e; exact absurd e (by decide))]
    have ht : t ≠ [] := by
      intro e
      subst e
      exact absurd hn (by decide)
    have := (txt_two t).2 ht
    simp only [List.length_cons, List.length_nil]
    omega
  · rw [if_neg (by simp), if_pos (show (114 :: enc v).head? = some 114 from rfl)]
    have := cands_len l ih'
    omega
  · rw [if_neg (by decide), if_neg (by decide), if_neg (by decide)]
    have := one 0 h
    simp only [List.length_cons, List.length_nil]
    omega
  · rw [if_neg (by decide), if_neg (by decide), if_neg (by decide)]
    have := one 1 h
    simp only [List.length_cons, List.length_nil]
    omega
  · rw [if_neg (by decide), if_neg (by decide), if_pos rfl]
    cases l with
    | nil => cases h
    | cons k r =>
      have h1 := two_bytes k (goods_mem hg.2 k (List.mem_cons.2 (.inl rfl)))
      have h2 := cands_len r fun u hu => ih' u (List.mem_cons.2 (.inr hu))
      rw [candt, encs, List.length_append]
      simp only [List.length_cons, List.length_nil]
      omega
end Go.Proofs.Ytpajcalfjfkogaa.Pl

namespace Go.Proofs.Ytpajcalfjfkogaa.Pl

/-- The terms among those texts. -/
def SH (H : List (List UInt8)) (t : Tm) : Prop := t.valid ∧ t.enc ∈ H
def knownP (H : List (List UInt8)) (s : List UInt8) : Prop := ∃ y, Cl (SH H) y ∧ y.enc = s
def canP (H : List (List UInt8)) (s : List UInt8) : Prop := ∃ t : Tm, t.valid ∧ t.enc = s ∧ can (Cl (SH H)) t
theorem cl_valid {H : List (List UInt8)} {y : Tm} (h : Cl (SH H) y) : y.valid := by
  obtain ⟨t, ht, hy⟩ := cl_cand h
  exact cand_valid t ht.1 y hy
theorem known_cl {H : List (List UInt8)} {y : Tm} (hy : y.valid) : knownP H y.enc ↔ Cl (SH H) y := by
  constructor
  · rintro ⟨z, h1, h2⟩
    obtain rfl := enc_tm_inj (cl_valid h1).1 hy.1 h2
    exact h1
  · exact fun h => ⟨y, h, rfl⟩
theorem can_cl {H : List (List UInt8)} {t : Tm} (ht : t.valid) : canP H t.enc ↔ can (Cl (SH H)) t := by
  constructor
  · rintro ⟨z, h1, h2, h3⟩
    obtain rfl := enc_tm_inj h1.1 ht.1 h2
    exact h3
  · exact fun h => ⟨t, ht, rfl, h⟩
theorem can_check {H : List (List UInt8)} {s : List UInt8} (h : canP H s) : checkP s = 0 := by
  obtain ⟨t, h1, rfl, _⟩ := h
  exact check_enc h1
theorem known_check {H : List (List UInt8)} {s : List UInt8} (h : knownP H s) : checkP s = 0 := by
  obtain ⟨t, h1, rfl⟩ := h
  exact check_enc (cl_valid h1)
/-- What is known does not hang on the order. -/
theorem sh_same {H K : List (List UInt8)} (h : ∀ s, checkP s = 0 → (s ∈ H ↔ s ∈ K)) (t : Tm) : SH H t ↔ SH K t :=
  and_congr_right fun hv => h _ (check_enc hv)
theorem known_same {H K : List (List UInt8)} (h : ∀ s, checkP s = 0 → (s ∈ H ↔ s ∈ K)) (s : List UInt8) : knownP H s ↔ knownP K s :=
  exists_congr fun y => and_congr_left' (cl_same (sh_same h) y)
theorem canP_same {H K : List (List UInt8)} (h : ∀ s, checkP s = 0 → (s ∈ H ↔ s ∈ K)) (s : List UInt8) : canP H s ↔ canP K s :=
  exists_congr fun t => and_congr_right fun _ => and_congr_right fun _ => can_same (cl_same (sh_same h)) t
theorem known_mono {H K : List (List UInt8)} (h : ∀ s ∈ H, s ∈ K) {s : List UInt8} (k : knownP H s) : knownP K s := by
  obtain ⟨y, h1, h2⟩ := k
  exact ⟨y, cl_mono (fun t ht => ⟨ht.1, h _ ht.2⟩) y h1, h2⟩
theorem canP_mono {H K : List (List UInt8)} (h : ∀ s ∈ H, s ∈ K) {s : List UInt8} (k : canP H s) : canP K s := by
  obtain ⟨t, h1, h2, h3⟩ := k
  exact ⟨t, h1, h2, can_mono (cl_mono fun t ht => ⟨ht.1, h _ ht.2⟩) t h3⟩
/-- What is known, and what was seen, can be made. -/
theorem known_can {H : List (List UInt8)} {s : List UInt8} (h : knownP H s) : canP H s := by
  obtain ⟨y, h1, rfl⟩ := h
  refine ⟨y, cl_valid h1, rfl, ?_⟩
  obtain ⟨hd, l⟩ := y
  rw [can]
  exact .inr (.inl h1)
theorem seen_can {H : List (List UInt8)} {s : List UInt8} (h : s ∈ H) (hc : checkP s = 0) : canP H s := by
  obtain ⟨t, ht, rfl⟩ := check_iff.1 hc
  exact ⟨t, ht, rfl, can_take t (cl_take ⟨ht, h⟩)⟩

/-! ### How many -/
noncomputable def coverOf (s : List UInt8) : List (List UInt8) := match treeOf s with | some t => (cand t).map Tm.enc | none => []
noncomputable def coverP (H : List (List UInt8)) : List (List UInt8) := H.flatMap coverOf
theorem known_cover {H : List (List UInt8)} {s : List UInt8} (h : knownP H s) : s ∈ coverP H := by
  obtain ⟨y, h1, rfl⟩ := h
  obtain ⟨t, ht, hy⟩ := cl_cand h1
  refine List.mem_flatMap.2 ⟨t.enc, ht.2, ?_⟩
  unfold coverOf
  rw [treeOf_enc ht.1]
  exact List.mem_map_of_mem hy
theorem coverOf_len (s : List UInt8) : 3 * (coverOf s).length ≤ s.length := by
  unfold coverOf
  by_cases h : checkP s = 0
  · obtain ⟨t, ht, rfl⟩ := check_iff.1 h
    rw [treeOf_enc ht, List.length_map]
    exact cand_len t ht.1
  · rw [treeOf_none h]
    exact Nat.zero_le _
theorem cover_len : ∀ H : List (List UInt8), 3 * (coverP H).length ≤ (H.map List.length).sum
  | [] => Nat.le_refl _
  | s :: H => by
    have h1 := coverOf_len s
    have h2 := cover_len H
    unfold coverP at h2 ⊢
    rw [List.flatMap_cons, List.length_append, List.map_cons, List.sum_cons]
    omega
open Classical in
theorem nodup_ex {α : Type} (p : α → Prop) : ∀ C : List α, ∃ L : List α, L.Nodup ∧ L.length ≤ C.length ∧ ∀ s, s ∈ L ↔ s ∈ C ∧ p s
  | [] => ⟨[], List.nodup_nil, Nat.le_refl _, by simp⟩
  | c :: C => by
    obtain ⟨L, h1, h2, h3⟩ := nodup_ex p C
    by_cases h : c ∉ L ∧ p c
    · refine ⟨c :: L, List.nodup_cons.2 ⟨h.1, h1⟩, by simp; exact h2, fun s => ?_⟩
      rw [List.mem_cons, List.mem_cons, h3]
      constructor
      · rintro (rfl | ⟨h4, h5⟩)
        · exact ⟨.inl rfl, h.2⟩
        · exact ⟨.inr h4, h5⟩
      · rintro ⟨rfl | h4, h5⟩
        · exact .inl rfl
        · exact .inr ⟨h4, h5⟩
    · refine ⟨L, h1, by simp; omega, fun s => ?_⟩
      rw [h3, List.mem_cons]
      constructor
      · rintro ⟨h4, h5⟩
        exact ⟨.inr h4, h5⟩
      · rintro ⟨rfl | h4, h5⟩
        · have : s ∈ L := by
            apply Classical.byContradiction
            intro hn
            exact h ⟨hn, h5⟩
          exact (h3 s).1 this
        · exact ⟨h4, h5⟩
theorem nodup_len {α : Type} [DecidableEq α] : ∀ {L C : List α}, L.Nodup → (∀ s ∈ L, s ∈ C) → L.length ≤ C.length
  | [], _, _, _ => Nat.zero_le _
  | s :: L, C, hn, h => by
    have hs : s ∈ C := h s (List.mem_cons.2 (.inl rfl))
    have h2 := nodup_len (L := L) (C := C.erase s) (List.nodup_cons.1 hn).2 fun t ht =>
      (List.mem_erase_of_ne (fun e => (List.nodup_cons.1 hn).1 (by rw [← e]; exact ht))).2 (h t (List.mem_cons.2 (.inr ht)))
    rw [List.length_erase_of_mem hs] at h2
    have := List.length_pos_of_mem hs
    simp only [List.length_cons]
    omega
/-- A list of what is known, each once. -/
def IsK (H L : List (List UInt8)) : Prop := L.Nodup ∧ ∀ s, s ∈ L ↔ knownP H s
theorem isK_ex (H : List (List UInt8)) : ∃ L, IsK H L ∧ L.length ≤ (coverP H).length := by
  obtain ⟨L, h1, h2, h3⟩ := nodup_ex (knownP H) (coverP H)
  exact ⟨L, ⟨h1, fun s => (h3 s).trans ⟨fun h => h.2, fun h => ⟨known_cover h, h⟩⟩⟩, h2⟩
noncomputable def cntP (H : List (List UInt8)) : Nat := (Classical.choose (isK_ex H)).length
theorem cnt_eq {H L : List (List UInt8)} (h : IsK H L) : L.length = cntP H := by
  have k := (Classical.choose_spec (isK_ex H)).1
  refine Nat.le_antisymm (nodup_len h.1 fun s hs => (k.2 s).2 ((h.2 s).1 hs)) (nodup_len k.1 fun s hs => (h.2 s).2 ((k.2 s).1 hs))
theorem cnt_cover {H C : List (List UInt8)} (h : ∀ s, knownP H s → s ∈ C) : cntP H ≤ C.length := by
  have k := (Classical.choose_spec (isK_ex H)).1
  exact nodup_len k.1 fun s hs => h s ((k.2 s).1 hs)
theorem cnt_bytes (H : List (List UInt8)) : 3 * cntP H ≤ (H.map List.length).sum := by
  have h1 := cnt_cover (H := H) fun s hs => known_cover hs
  have h2 := cover_len H
  omega
theorem cnt_same {H K : List (List UInt8)} (h : ∀ s, checkP s = 0 → (s ∈ H ↔ s ∈ K)) : cntP H = cntP K := by
  obtain ⟨L, hL, _⟩ := isK_ex H
  rw [← cnt_eq hL]
  exact cnt_eq ⟨hL.1, fun s => (hL.2 s).trans (known_same h s)⟩
theorem isK_same {H K L : List (List UInt8)} (h : ∀ s, checkP s = 0 → (s ∈ H ↔ s ∈ K)) (k : IsK H L) : IsK K L := ⟨k.1, fun s => (k.2 s).trans (known_same h s)⟩

/-! ### Learning -/
/-- What Learn answers, and who has seen more behind it. -/
noncomputable def learnE (H : List (List UInt8)) (t : List UInt8) : Nat := if checkP t ≠ 0 then 2 else if 2048 < cntP (t :: H) then 4 else 0
noncomputable def learnH (H : List (List UInt8)) (t : List UInt8) : List (List UInt8) := if learnE H t = 0 then t :: H else H
theorem learn_ok {H : List (List UInt8)} {t : List UInt8} (h : checkP t = 0) (hc : cntP (t :: H) ≤ 2048) : learnE H t = 0 := by
  unfold learnE
  rw [if_neg (fun e => e h), if_neg (by omega)]
theorem learn_iff {H : List (List UInt8)} {t : List UInt8} (hc : cntP (t :: H) ≤ 2048) : learnE H t = 0 ↔ checkP t = 0 := by
  constructor
  · intro h
    unfold learnE at h
    split at h
    · cases h
    · rename_i h1
      exact Classical.byContradiction h1
  · exact fun h => learn_ok h hc
theorem learn_mono (H : List (List UInt8)) (t : List UInt8) : ∀ s ∈ H, s ∈ learnH H t := by
  intro s hs
  unfold learnH
  split
  · exact List.mem_cons.2 (.inr hs)
  · exact hs
/-- Who has seen more can make no less, also where there was no room. -/
noncomputable def learns (H : List (List UInt8)) (l : List (List UInt8)) : List (List UInt8) := l.foldl learnH H
theorem learns_mono : ∀ (l H : List (List UInt8)), ∀ s ∈ H, s ∈ learns H l
  | [], _, _, h => h
  | t :: l, H, s, h => learns_mono l (learnH H t) s (learn_mono H t s h)
theorem learns_snoc (H l : List (List UInt8)) (t : List UInt8) : learns H (l ++ [t]) = learnH (learns H l) t := by simp [learns]
/-- Where there is room for all, all that are terms have been seen. -/
theorem learns_all : ∀ (l H : List (List UInt8)), ((l ++ H).map List.length).sum ≤ 6000 → ∀ s, checkP s = 0 → (s ∈ learns H l ↔ s ∈ l ∨ s ∈ H)
  | [], _, _, s, _ => by simp [learns]
  | t :: l, H, hb, s, hs => by
    have hb1 : ((t :: H).map List.length).sum ≤ 6000 := by
      simp only [List.cons_append, List.map_cons, List.sum_cons, List.map_append, List.sum_append] at hb ⊢
      omega
    have hc := cnt_bytes (t :: H)
    show s ∈ learns (learnH H t) l ↔ _
    by_cases ht : checkP t = 0
    · have he : learnH H t = t :: H := by unfold learnH; rw [if_pos (learn_ok ht (by omega))]
      rw [he, learns_all l (t :: H) (by
        simp only [List.cons_append, List.map_cons, List.sum_cons, List.map_append, List.sum_append] at hb ⊢
        omega) s hs]
      simp only [List.mem_cons]
      constructor
      · rintro (h | rfl | h)
        · exact .inl (.inr h)
        · exact .inl (.inl rfl)
        · exact .inr h
      · rintro ((rfl | h) | h)
        · exact .inr (.inl rfl)
        · exact .inl h
        · exact .inr (.inr h)
    · have he : learnH H t = H := by
        unfold learnH
        rw [if_neg]
        intro e
        unfold learnE at e
        rw [if_pos ht] at e
        cases e
      rw [he, learns_all l H (by
        simp only [List.cons_append, List.map_cons, List.sum_cons, List.map_append, List.sum_append] at hb ⊢
        omega) s hs]
      simp only [List.mem_cons]
      constructor
      · rintro (h | h)
        · exact .inl (.inr h)
        · exact .inr h
      · rintro ((rfl | h) | h)
        · exact absurd hs ht
        · exact .inl h
        · exact .inr h
end Go.Proofs.Ytpajcalfjfkogaa.Pl

namespace Go.Proofs.Ytpajcalfjfkogaa.Pl

abbrev lessB (a b : List UInt8) : Bool := Op.bytesLess a b
theorem less_irrefl (a : List UInt8) : lessB a a = false := bytesLess_irrefl a
theorem less_trans : ∀ {a b c : List UInt8}, lessB a b = true → lessB b c = true → lessB a c = true
  | _, _, [], _, h => by simp [lessB, Op.bytesLess] at h
  | _, [], _ :: _, h, _ => by simp [lessB, Op.bytesLess] at h
  | [], _ :: _, _ :: _, _, _ => rfl
  | x :: a, y :: b, z :: c, h, k => by
    simp only [lessB, Op.bytesLess, Bool.or_eq_true, Bool.and_eq_true, decide_eq_true_eq, beq_iff_eq] at h k ⊢
    rcases h with h | ⟨rfl, h⟩
    · rcases k with k | ⟨rfl, _⟩
      · exact .inl (UInt8.lt_trans h k)
      · exact .inl h
    · rcases k with k | ⟨rfl, k⟩
      · exact .inl k
      · exact .inr ⟨rfl, less_trans h k⟩
theorem less_total : ∀ {a b : List UInt8}, a ≠ b → lessB a b = false → lessB b a = true
  | [], [], h, _ => absurd rfl h
  | _ :: _, [], _, _ => rfl
  | [], _ :: _, _, h => by simp [lessB, Op.bytesLess] at h
  | x :: a, y :: b, h, k => by
    simp only [lessB, Op.bytesLess, Bool.or_eq_false_iff, Bool.and_eq_false_imp, decide_eq_false_iff_not, beq_iff_eq] at k
    simp only [lessB, Op.bytesLess, Bool.or_eq_true, Bool.and_eq_true, decide_eq_true_eq, beq_iff_eq]
    by_cases e : x = y
    · subst e
      exact .inr ⟨rfl, less_total (fun e => h (by rw [e])) (k.2 rfl)⟩
    · left
      have h1 := k.1
      rw [UInt8.lt_iff_toNat_lt] at h1 ⊢
      have h2 : x.toNat ≠ y.toNat := fun e2 => e (UInt8.toNat_inj.1 e2)
      omega
theorem less_asymm {a b : List UInt8} (h : lessB a b = true) : lessB b a = false := by
  cases k : lessB b a with
  | false => rfl
  | true =>
    have := less_trans h k
    rw [less_irrefl] at this
    cases this
/-- In order, each once. -/
def Sorted (L : List (List UInt8)) : Prop := L.Pairwise fun a b => lessB a b = true
theorem sorted_nodup {L : List (List UInt8)} (h : Sorted L) : L.Nodup := List.Pairwise.imp (fun {a b} k e => by
  rw [e, less_irrefl] at k
  cases k) h
theorem sorted_uniq : ∀ {L M : List (List UInt8)}, Sorted L → Sorted M → (∀ s, s ∈ L ↔ s ∈ M) → L = M
  | [], [], _, _, _ => rfl
  | [], y :: M, _, _, h => by have := (h y).2 (List.mem_cons.2 (.inl rfl)); cases this
  | x :: L, [], _, _, h => by have := (h x).1 (List.mem_cons.2 (.inl rfl)); cases this
  | x :: L, y :: M, h1, h2, h => by
    have a1 := List.pairwise_cons.1 h1
    have a2 := List.pairwise_cons.1 h2
    have e : x = y := by
      rcases List.mem_cons.1 ((h x).1 (List.mem_cons.2 (.inl rfl))) with e | hx
      · exact e
      · rcases List.mem_cons.1 ((h y).2 (List.mem_cons.2 (.inl rfl))) with e | hy
        · exact e.symm
        · have k1 := a1.1 y hy
          have k2 := a2.1 x hx
          rw [less_asymm k1] at k2
          cases k2
    subst e
    rw [sorted_uniq a1.2 a2.2 fun s => ?_]
    constructor
    · intro hs
      rcases List.mem_cons.1 ((h s).1 (List.mem_cons.2 (.inr hs))) with e | hs2
      · have := a1.1 s hs
        rw [e, less_irrefl] at this
        cases this
      · exact hs2
    · intro hs
      rcases List.mem_cons.1 ((h s).2 (List.mem_cons.2 (.inr hs))) with e | hs2
      · have := a2.1 s hs
        rw [e, less_irrefl] at this
        cases this
      · exact hs2
/-- What is known, in order. -/
def SortK (H L : List (List UInt8)) : Prop := Sorted L ∧ ∀ s, s ∈ L ↔ knownP H s
theorem sortK_uniq {H L M : List (List UInt8)} (h : SortK H L) (k : SortK H M) : L = M := sorted_uniq h.1 k.1 fun s => (h.2 s).trans (k.2 s).symm
theorem sortK_isK {H L : List (List UInt8)} (h : SortK H L) : IsK H L := ⟨sorted_nodup h.1, h.2⟩
theorem sortK_same {H K L : List (List UInt8)} (h : ∀ s, checkP s = 0 → (s ∈ H ↔ s ∈ K)) (k : SortK H L) : SortK K L := ⟨k.1, fun s => (k.2 s).trans (known_same h s)⟩
/-- Where one goes in: behind those that are less. -/
def at10 (O : List (List UInt8)) (x : List UInt8) : Nat := (O.takeWhile fun o => lessB o x).length
def ins10 (O : List (List UInt8)) (x : List UInt8) : List (List UInt8) := O.take (at10 O x) ++ [x] ++ O.drop (at10 O x)
theorem at10_le (O : List (List UInt8)) (x : List UInt8) : at10 O x ≤ O.length := (List.takeWhile_prefix _).length_le
theorem at10_lt {O : List (List UInt8)} {x : List UInt8} {k : Nat} (hk : k < at10 O x) (h : k < O.length) : lessB O[k] x = true := by
  unfold at10 at hk
  have h1 : (O.takeWhile fun o => lessB o x)[k] = O[k] := by
    have := (List.takeWhile_prefix (fun o => lessB o x) (l := O)).getElem (i := k) hk
    exact this
  rw [← h1]
  exact List.all_takeWhile (p := fun o => lessB o x) (l := O) |> List.all_eq_true.1 |> fun f => f _ (List.getElem_mem hk)
theorem at10_stop : ∀ {O : List (List UInt8)} {x : List UInt8} {k : Nat}, (∀ j, (hj : j < O.length) → j < k → lessB O[j] x = true) → (hk : k < O.length) → lessB O[k] x = false → at10 O x = k
  | o :: O, x, 0, _, _, h0 => by
    simp only [List.getElem_cons_zero] at h0
    unfold at10
    rw [List.takeWhile_cons_of_neg (by rw [h0]; decide)]
    rfl
  | o :: O, x, k + 1, h, hk, h0 => by
    have ho : lessB o x = true := h 0 (by simp) (by omega)
    have ih := at10_stop (O := O) (x := x) (k := k) (fun j hj hjk => h (j + 1) (by simp; omega) (by omega)) (by simpa using hk) (by simpa using h0)
    unfold at10 at ih ⊢
    rw [List.takeWhile_cons_of_pos (p := fun o => lessB o x) ho, List.length_cons, ih]
theorem at10_end : ∀ {O : List (List UInt8)} {x : List UInt8}, (∀ j, (hj : j < O.length) → lessB O[j] x = true) → at10 O x = O.length
  | [], _, _ => rfl
  | o :: O, x, h => by
    have ho : lessB o x = true := h 0 (by simp)
    have ih := at10_end (O := O) (x := x) (fun j hj => h (j + 1) (by simp; omega))
    unfold at10 at ih ⊢
    rw [List.takeWhile_cons_of_pos (p := fun o => lessB o x) ho, List.length_cons, ih, List.length_cons]
theorem mem_ins10 {O : List (List UInt8)} {x u : List UInt8} : u ∈ ins10 O x ↔ u ∈ O ∨ u = x := by
  unfold ins10
  rw [List.mem_append, List.mem_append, List.mem_singleton]
  constructor
  · rintro ((h | h) | h)
    · exact .inl (List.mem_of_mem_take h)
    · exact .inr h
    · exact .inl (List.mem_of_mem_drop h)
  · rintro (h | h)
    · rw [← List.take_append_drop (at10 O x) O, List.mem_append] at h
      rcases h with h | h
      · exact .inl (.inl h)
      · exact .inr h
    · exact .inl (.inr h)
theorem ins10_len (O : List (List UInt8)) (x : List UInt8) : (ins10 O x).length = O.length + 1 := by
  have := at10_le O x
  unfold ins10
  simp only [List.length_append, List.length_take, List.length_drop, List.length_singleton]
  omega
theorem drop_less {O : List (List UInt8)} (hs : Sorted O) {x : List UInt8} (hx : x ∉ O) : ∀ u ∈ O.drop (at10 O x), lessB x u = true := by
  induction O with
  | nil => intro u hu; simp at hu
  | cons o O ih =>
    have h1 := List.pairwise_cons.1 hs
    have hxo : x ≠ o := fun e => hx (List.mem_cons.2 (.inl e))
    have hxO : x ∉ O := fun e => hx (List.mem_cons.2 (.inr e))
    cases ho : lessB o x with
    | true =>
      have : at10 (o :: O) x = at10 O x + 1 := by unfold at10; rw [List.takeWhile_cons_of_pos (p := fun o => lessB o x) ho, List.length_cons]
      rw [this, List.drop_succ_cons]
      exact ih h1.2 hxO
    | false =>
      have : at10 (o :: O) x = 0 := by unfold at10; rw [List.takeWhile_cons_of_neg (by rw [ho]; decide)]; rfl
      rw [this, List.drop_zero]
      have hxo2 := less_total (fun e => hxo e.symm) ho
      intro u hu
      rcases List.mem_cons.1 hu with rfl | hu
      · exact hxo2
      · exact less_trans hxo2 (h1.1 u hu)
theorem ins10_sorted {O : List (List UInt8)} (hs : Sorted O) {x : List UInt8} (hx : x ∉ O) : Sorted (ins10 O x) := by
  have hd := drop_less hs hx
  have ht : ∀ u ∈ O.take (at10 O x), lessB u x = true := by
    intro u hu
    obtain ⟨j, hj, rfl⟩ := List.getElem_of_mem hu
    rw [List.length_take] at hj
    rw [List.getElem_take]
    exact at10_lt (by omega) (by omega)
  unfold ins10 Sorted
  rw [List.append_assoc, List.pairwise_append]
  refine ⟨List.Pairwise.sublist (List.take_sublist _ _) hs, ?_, ?_⟩
  · rw [List.singleton_append, List.pairwise_cons]
    exact ⟨hd, List.Pairwise.sublist (List.drop_sublist _ _) hs⟩
  · intro a ha b hb
    rcases List.mem_append.1 hb with hb | hb
    · rw [List.mem_singleton.1 hb]; exact ht a ha
    · exact less_trans (ht a ha) (hd b hb)
def sort10 (L : List (List UInt8)) : List (List UInt8) := L.foldl ins10 []
theorem sort10_step (L : List (List UInt8)) (k : Nat) (hk : k < L.length) : sort10 (L.take (k + 1)) = ins10 (sort10 (L.take k)) L[k] := by
  unfold sort10
  rw [List.take_succ_eq_append_getElem hk, List.foldl_append]
  rfl
theorem mem_foldIns10 {u : List UInt8} : ∀ {L O : List (List UInt8)}, u ∈ L.foldl ins10 O ↔ u ∈ O ∨ u ∈ L
  | [], O => by simp
  | x :: L, O => by
    rw [List.foldl_cons, mem_foldIns10, mem_ins10, List.mem_cons]
    constructor
    · rintro ((h | h) | h)
      · exact .inl h
      · exact .inr (.inl h)
      · exact .inr (.inr h)
    · rintro (h | h | h)
      · exact .inl (.inl h)
      · exact .inl (.inr h)
      · exact .inr h
theorem foldIns10_sorted : ∀ {L O : List (List UInt8)}, Sorted O → L.Nodup → (∀ s ∈ L, s ∉ O) → Sorted (L.foldl ins10 O)
  | [], _, h, _, _ => h
  | x :: L, O, h, hn, hd => by
    have h1 := List.nodup_cons.1 hn
    rw [List.foldl_cons]
    refine foldIns10_sorted (L := L) (O := ins10 O x) (ins10_sorted h (hd x (List.mem_cons.2 (.inl rfl)))) h1.2 fun s hs e => ?_
    rcases mem_ins10.1 e with e | e
    · exact hd s (List.mem_cons.2 (.inr hs)) e
    · exact h1.1 (e ▸ hs)
theorem sort10_sortK {H L : List (List UInt8)} (h : IsK H L) : SortK H (sort10 L) :=
  ⟨foldIns10_sorted List.Pairwise.nil h.1 (fun _ _ e => by cases e), fun s => by
    rw [← h.2 s]
    unfold sort10
    rw [mem_foldIns10]
    simp⟩
theorem sort10_len (L : List (List UInt8)) : (sort10 L).length = L.length := by
  have : ∀ (L O : List (List UInt8)), (L.foldl ins10 O).length = O.length + L.length := by
    intro L
    induction L with
    | nil => intro O; rfl
    | cons x L ih =>
      intro O
      rw [List.foldl_cons, ih, ins10_len, List.length_cons]
      omega
  have := this L []
  simpa [sort10] using this
end Go.Proofs.Ytpajcalfjfkogaa.Pl

namespace Go.Proofs.Ytpajcalfjfkogaa.Pl

def insL (L : List (List UInt8)) (s : List UInt8) : List (List UInt8) := if s ∈ L then L else L ++ [s]
def takeL (L : List (List UInt8)) (T : Tm) : List (List UInt8) := (takeT T).foldl (fun L y => insL L y.enc) L
/-- Those in the list, as trees. -/
def LB (L : List (List UInt8)) (y : Tm) : Prop := y.valid ∧ y.enc ∈ L
open Classical in
noncomputable def openT (L : List (List UInt8)) (k n x : Tm) : List (List UInt8) := if can (LB (takeL L n)) k then takeL (takeL L n) x else takeL L n
noncomputable def openS (L : List (List UInt8)) (s : List UInt8) : List (List UInt8) := match treeOf s with
  | some (.node [115] [k, n, x]) => openT L k n x
  | _ => L
noncomputable def openL (L : List (List UInt8)) : List (List UInt8) := L.foldl openS L

theorem mem_insL {L : List (List UInt8)} {s u : List UInt8} : u ∈ insL L s ↔ u ∈ L ∨ u = s := by
  unfold insL
  split
  · rename_i h
    exact ⟨.inl, fun e => e.elim id fun e => e ▸ h⟩
  · simp
theorem ins_front (L : List (List UInt8)) (s : List UInt8) : L <+: insL L s := by
  unfold insL
  split
  · exact List.prefix_refl _
  · exact List.prefix_append _ _
theorem ins_nodup {L : List (List UInt8)} (h : L.Nodup) (s : List UInt8) : (insL L s).Nodup := by
  unfold insL
  split
  · exact h
  · rename_i hs
    rw [List.nodup_append]
    exact ⟨h, by simp, fun a ha b hb => by rw [List.mem_singleton.1 hb]; exact fun e => hs (e ▸ ha)⟩
theorem fold_front {α β : Type} (f : List α → β → List α) (hf : ∀ L s, L <+: f L s) : ∀ (l : List β) (L : List α), L <+: l.foldl f L
  | [], _ => List.prefix_refl _
  | s :: l, L => (hf L s).trans (fold_front f hf l (f L s))
theorem fold_keep {α β : Type} (f : List α → β → List α) (P : List α → Prop) (l : List β) (hf : ∀ L, P L → ∀ s ∈ l, P (f L s)) : ∀ L, P L → P (l.foldl f L) := by
  induction l with
  | nil => exact fun _ h => h
  | cons s l ih => exact fun L h => ih (fun L h u hu => hf L h u (List.mem_cons.2 (.inr hu))) _ (hf L h s (List.mem_cons.2 (.inl rfl)))
theorem take_front (L : List (List UInt8)) (T : Tm) : L <+: takeL L T := fold_front _ (fun L _ => ins_front L _) _ _
theorem take_nodup {L : List (List UInt8)} (h : L.Nodup) (T : Tm) : (takeL L T).Nodup := fold_keep (fun (L : List (List UInt8)) (y : Tm) => insL L y.enc) List.Nodup (takeT T) (fun _ h _ _ => ins_nodup h _) L h
theorem mem_foldIns {u : List UInt8} : ∀ {l : List Tm} {L : List (List UInt8)}, u ∈ l.foldl (fun L y => insL L y.enc) L ↔ u ∈ L ∨ ∃ y ∈ l, y.enc = u
  | [], L => by simp
  | y :: l, L => by
    rw [List.foldl_cons, mem_foldIns, mem_insL]
    simp only [List.mem_cons, exists_eq_or_imp]
    constructor
    · rintro ((h | rfl) | h)
      · exact .inl h
      · exact .inr (.inl rfl)
      · exact .inr (.inr h)
    · rintro (h | rfl | h)
      · exact .inl (.inl h)
      · exact .inl (.inr rfl)
      · exact .inr h
theorem mem_takeL {L : List (List UInt8)} {T : Tm} {u : List UInt8} : u ∈ takeL L T ↔ u ∈ L ∨ ∃ y ∈ takeT T, y.enc = u := mem_foldIns
/-- Of a datum nothing is told; of a row, what its parts tell; else itself. -/
theorem take_data {h : List UInt8} {l : List Tm} (k : h.head? = some 100) (L : List (List UInt8)) : takeL L (.node h l) = L := by
  unfold takeL
  rw [takeT, if_pos k]
  rfl
theorem foldl_takeTs : ∀ (l : List Tm) (L : List (List UInt8)), (takeTs l).foldl (fun L y => insL L y.enc) L = l.foldl takeL L
  | [], _ => rfl
  | t :: l, L => by rw [takeTs, List.foldl_append, foldl_takeTs]; rfl
theorem take_row {h : List UInt8} {l : List Tm} (k : h.head? = some 114) (L : List (List UInt8)) : takeL L (.node h l) = l.foldl takeL L := by
  unfold takeL
  rw [takeT, if_neg (by rw [k]; decide), if_pos k]
  exact foldl_takeTs l L
theorem take_else {h : List UInt8} {l : List Tm} (k1 : h.head? ≠ some 100) (k2 : h.head? ≠ some 114) (L : List (List UInt8)) : takeL L (.node h l) = insL L (Tm.node h l).enc := by
  unfold takeL
  rw [take_self k1 k2]
  rfl
theorem openT_front (L : List (List UInt8)) (k n x : Tm) : L <+: openT L k n x := by
  unfold openT
  split
  · exact (take_front L n).trans (take_front _ x)
  · exact take_front L n
theorem openS_front (L : List (List UInt8)) (s : List UInt8) : L <+: openS L s := by
  unfold openS
  split
  · exact openT_front _ _ _ _
  · exact List.prefix_refl _
theorem openL_front (L : List (List UInt8)) : L <+: openL L := fold_front _ openS_front _ _
theorem openS_nodup {L : List (List UInt8)} (h : L.Nodup) (s : List UInt8) : (openS L s).Nodup := by
  unfold openS
  split
  · unfold openT
    split
    · exact take_nodup (take_nodup h _) _
    · exact take_nodup h _
  · exact h
theorem openL_nodup {L : List (List UInt8)} (h : L.Nodup) : (openL L).Nodup := fold_keep openS List.Nodup L (fun _ h _ _ => openS_nodup h _) L h
theorem openS_seal {k n x : Tm} (hv : (sealT k n x).valid) (L : List (List UInt8)) : openS L (sealT k n x).enc = openT L k n x := by
  unfold openS
  rw [treeOf_enc hv]
  rfl
theorem openS_else {t : Tm} (hv : t.valid) (h : ∀ k n x, t ≠ sealT k n x) (L : List (List UInt8)) : openS L t.enc = L := by
  unfold openS
  rw [treeOf_enc hv]
  split
  · rename_i k n x e
    exact absurd (Option.some.inj e) (h k n x)
  · rfl
/-- Only what is known is told. -/
theorem take_sound {H : List (List UInt8)} {L : List (List UInt8)} (hL : ∀ s ∈ L, knownP H s) {T : Tm} (hT : ∀ y ∈ takeT T, Cl (SH H) y) : ∀ s ∈ takeL L T, knownP H s := by
  intro s hs
  rcases mem_takeL.1 hs with h | ⟨y, hy, rfl⟩
  · exact hL s h
  · exact ⟨y, hT y hy, rfl⟩
theorem lb_known {H L : List (List UInt8)} (hL : ∀ s ∈ L, knownP H s) : ∀ y, LB L y → Cl (SH H) y := fun _ hy => (known_cl hy.1).1 (hL _ hy.2)
theorem openS_sound {H L : List (List UInt8)} (hL : ∀ s ∈ L, knownP H s) {s : List UInt8} (hs : knownP H s) : ∀ u ∈ openS L s, knownP H u := by
  obtain ⟨y, hy, rfl⟩ := hs
  have hv := cl_valid hy
  by_cases h : ∃ k n x, y = sealT k n x
  · obtain ⟨k, n, x, rfl⟩ := h
    rw [openS_seal hv]
    have h1 := (cl_sat (SH H) k n x hy).1
    have h2 := (cl_sat (SH H) k n x hy).2
    have h3 := take_sound hL h1
    unfold openT
    split
    · rename_i hc
      exact take_sound h3 (h2 (can_mono (lb_known h3) k hc))
    · exact h3
  · rw [openS_else hv (fun k n x e => h ⟨k, n, x, e⟩)]
    exact hL
theorem openL_sound {H L : List (List UInt8)} (hL : ∀ s ∈ L, knownP H s) : ∀ u ∈ openL L, knownP H u :=
  fold_keep openS (fun K => ∀ u ∈ K, knownP H u) L (fun _ h s hs => openS_sound h (hL s hs)) L hL
/-- Where nothing is new, all that can be opened is open. -/
theorem front_eq {α : Type} {L M N : List α} (h1 : L <+: M) (h2 : M <+: N) (h3 : N.length = L.length) : M = L := by
  have a := h1.length_le
  have b := h2.length_le
  exact (List.IsPrefix.eq_of_length h1 (by omega)).symm
theorem fold_same {α β : Type} (f : List α → β → List α) (hf : ∀ L s, L <+: f L s) : ∀ (l : List β) (L : List α), (l.foldl f L).length = L.length → ∀ s ∈ l, f L s = L
  | [], _, _, _, hs => by cases hs
  | u :: l, L, h, s, hs => by
    have e : f L u = L := front_eq (hf L u) (fold_front f hf l (f L u)) h
    rcases List.mem_cons.1 hs with rfl | hs
    · exact e
    · refine fold_same f hf l L ?_ s hs
      rw [List.foldl_cons, e] at h
      exact h
theorem open_same {L : List (List UInt8)} (h : (openL L).length = L.length) : Sat (LB L) := fun k n x hs => by
  have e := fold_same openS openS_front L L h _ hs.2
  rw [openS_seal hs.1] at e
  have hp := node_valid_parts hs.1
  have e1 : takeL L n = L := by
    refine front_eq (take_front L n) (N := openT L k n x) ?_ (by rw [e])
    unfold openT
    split
    · exact take_front _ _
    · exact List.prefix_refl _
  have val : ∀ t ∈ [k, n, x], ∀ y ∈ takeT t, y.valid := fun t ht y hy => cand_valid t (hp t ht) y (take_cand t y hy)
  constructor
  · intro y hy
    refine ⟨val n (by simp) y hy, ?_⟩
    rw [← e1]
    exact mem_takeL.2 (.inr ⟨y, hy, rfl⟩)
  · intro hc y hy
    refine ⟨val x (by simp) y hy, ?_⟩
    have e2 : takeL L x = L := by
      unfold openT at e
      rw [e1, if_pos hc] at e
      exact e
    rw [← e2]
    exact mem_takeL.2 (.inr ⟨y, hy, rfl⟩)
theorem isK_sat {H L : List (List UInt8)} (h : IsK H L) : Sat (LB L) := by
  have e : ∀ y, LB L y ↔ Cl (SH H) y := fun y => ⟨fun k => (known_cl k.1).1 ((h.2 _).1 k.2), fun k => ⟨cl_valid k, (h.2 _).2 ⟨y, k, rfl⟩⟩⟩
  intro k n x hs
  have := cl_sat (SH H) k n x ((e _).1 hs)
  exact ⟨fun y hy => (e y).2 (this.1 y hy), fun hc y hy => (e y).2 (this.2 (can_mono (fun z hz => (e z).1 hz) k hc) y hy)⟩
theorem isK_can {H L : List (List UInt8)} (h : IsK H L) (t : Tm) : can (LB L) t ↔ can (Cl (SH H)) t :=
  can_same (fun y => ⟨fun k => (known_cl k.1).1 ((h.2 _).1 k.2), fun k => ⟨cl_valid k, (h.2 _).2 ⟨y, k, rfl⟩⟩⟩) t
/-- What holds while T is learnt by who knows the list L0 of H. -/
def Grows (H L0 : List (List UInt8)) (T : Tm) (L : List (List UInt8)) : Prop := L.Nodup ∧ (∀ s ∈ L, knownP (T.enc :: H) s) ∧ (∀ s ∈ L0, s ∈ L) ∧ ∀ y ∈ takeT T, y.enc ∈ L
theorem grows_take {H L0 : List (List UInt8)} {T : Tm} (hT : T.valid) (h : IsK H L0) : Grows H L0 T (takeL L0 T) :=
  ⟨take_nodup h.1 T, take_sound (fun s hs => known_mono (fun _ hu => List.mem_cons.2 (.inr hu)) ((h.2 s).1 hs)) (cl_take ⟨hT, List.mem_cons.2 (.inl rfl)⟩),
    fun _ hs => mem_takeL.2 (.inl hs), fun y hy => mem_takeL.2 (.inr ⟨y, hy, rfl⟩)⟩
theorem grows_open {H L0 L : List (List UInt8)} {T : Tm} (h : Grows H L0 T L) : Grows H L0 T (openL L) :=
  ⟨openL_nodup h.1, openL_sound h.2.1, fun s hs => (openL_front L).subset (h.2.2.1 s hs), fun y hy => (openL_front L).subset (h.2.2.2 y hy)⟩
theorem grows_end {H L0 L : List (List UInt8)} {T : Tm} (hT : T.valid) (h0 : IsK H L0) (h : Grows H L0 T L) (hs : Sat (LB L)) : IsK (T.enc :: H) L := by
  refine ⟨h.1, fun s => ⟨h.2.1 s, fun hk => ?_⟩⟩
  obtain ⟨y, hy, rfl⟩ := hk
  refine (cl_least hs (fun t ht z hz => ?_) y hy).2
  have hv : z.valid := cand_valid t ht.1 z (take_cand t z hz)
  refine ⟨hv, ?_⟩
  rcases List.mem_cons.1 ht.2 with e | ht2
  · obtain rfl := enc_tm_inj ht.1.1 hT.1 e
    exact h.2.2.2 z hz
  · exact h.2.2.1 _ ((h0.2 _).2 ⟨z, cl_take ⟨ht.1, ht2⟩ z hz, rfl⟩)
/-- At the start, where nothing of T was new. -/
theorem grows_start {H L0 : List (List UInt8)} {T : Tm} (h : IsK H L0) (e : (takeL L0 T).length = L0.length) : Sat (LB (takeL L0 T)) := by
  rw [front_eq (take_front L0 T) (List.prefix_refl _) e]
  exact isK_sat h
theorem grows_len {H L0 L : List (List UInt8)} {T : Tm} (h : Grows H L0 T L) : 3 * L.length ≤ ((T.enc :: H).map List.length).sum := by
  have h1 := nodup_len h.1 fun s hs => known_cover (h.2.1 s hs)
  have h2 := cover_len (T.enc :: H)
  omega
end Go.Proofs.Ytpajcalfjfkogaa.Pl

namespace Go.Proofs.Ytpajcalfjfkogaa.Pl

theorem mem_placess {y : Tm} : ∀ {l : List Tm}, y ∈ placess l ↔ ∃ t ∈ l, y ∈ t.places
  | [] => by simp [placess]
  | t :: l => by rw [placess, List.mem_append, mem_placess]; simp
theorem places_self : ∀ t : Tm, t ∈ t.places
  | .node h l => by rw [Tm.places]; exact List.mem_cons.2 (.inl rfl)
theorem places_part {h : List UInt8} {l : List Tm} {t : Tm} (ht : t ∈ l) : ∀ y ∈ t.places, y ∈ (Tm.node h l).places := fun y hy => by
  rw [Tm.places]
  exact List.mem_cons.2 (.inr (mem_placess.2 ⟨t, ht, hy⟩))
theorem take_places : ∀ (t y : Tm), y ∈ takeT t → ∀ z ∈ y.places, z ∈ t.places := by
  refine Tm.ind fun hd l ih y hy z hz => ?_
  rw [takeT] at hy
  split at hy
  · cases hy
  · split at hy
    · obtain ⟨t, ht, h⟩ := mem_takeTs.1 hy
      exact places_part ht z (ih t ht y h z hz)
    · obtain rfl := List.mem_singleton.1 hy
      exact hz
/-- Neither stands in it. -/
def cleanT (k s t : Tm) : Prop := k ∉ t.places ∧ s ∉ t.places
theorem clean_take {k s t : Tm} (h : cleanT k s t) : ∀ y ∈ takeT t, cleanT k s y := fun y hy =>
  ⟨fun e => h.1 (take_places t y hy k e), fun e => h.2 (take_places t y hy s e)⟩
theorem clean_part {k s : Tm} {hd : List UInt8} {l : List Tm} (h : cleanT k s (.node hd l)) {t : Tm} (ht : t ∈ l) : cleanT k s t :=
  ⟨fun e => h.1 (places_part ht k e), fun e => h.2 (places_part ht s e)⟩
/-- What may be known while neither can be made. -/
def LX (k s y : Tm) : Prop := cleanT k s y ∨ (∃ n x, y = sealT k n x ∧ cleanT k s n) ∨ (∃ a b, y = .node [109] [a, b]) ∨ ∃ a, y = .node [104] [a]
/-- An atom's tree. -/
def AtomT (k : Tm) : Prop := ∃ a, k = .node (97 :: a) []
theorem lx_not {k s : Tm} (hk : AtomT k) : (¬ can (LX k s) k) := by
  obtain ⟨a, rfl⟩ := hk
  rw [can]
  rintro (h | h | ⟨h, _⟩)
  · exact absurd h (by simp)
  · rcases h with h | ⟨n, x, h, _⟩ | ⟨u, v, h⟩ | ⟨u, h⟩
    · exact h.1 (places_self _)
    · cases h
    · cases h
    · cases h
  · exact h rfl
theorem lx_not2 {k s : Tm} (hs : AtomT s) : (¬ can (LX k s) s) := by
  obtain ⟨a, rfl⟩ := hs
  rw [can]
  rintro (h | h | ⟨h, _⟩)
  · exact absurd h (by simp)
  · rcases h with h | ⟨n, x, h, _⟩ | ⟨u, v, h⟩ | ⟨u, h⟩
    · exact h.2 (places_self _)
    · cases h
    · cases h
    · cases h
  · exact h rfl
theorem lx_sat {k s : Tm} (hk : AtomT k) : Sat (LX k s) := fun k' n x h => by
  rcases h with h | ⟨n', x', h, hn⟩ | ⟨u, v, h⟩ | ⟨u, h⟩
  · exact ⟨fun y hy => .inl (clean_take (clean_part h (by simp)) y hy), fun _ y hy => .inl (clean_take (clean_part h (by simp)) y hy)⟩
  · injection h with _ h
    injection h with h1 h
    injection h with h2 h
    subst h1 h2
    exact ⟨fun y hy => .inl (clean_take hn y hy), fun hc => absurd hc (lx_not hk)⟩
  · cases h
  · cases h
/-- Neither can be made, nor the row of both. -/
theorem hidden {k s : Tm} (hk : AtomT k) (hs : AtomT s) {S : Tm → Prop} (hS : ∀ t, S t → ∀ z ∈ takeT t, LX k s z) :
    ¬ can (Cl S) k ∧ ¬ can (Cl S) s ∧ ∀ h : List UInt8, h.head? = some 114 → ¬ can (Cl S) (.node h [k, s]) := by
  have hl := cl_least (lx_sat hk) hS
  have h1 : ¬ can (Cl S) k := fun e => lx_not hk (can_mono hl k e)
  refine ⟨h1, fun e => lx_not2 hs (can_mono hl s e), fun h hh e => ?_⟩
  rw [can] at e
  rcases e with e | e | ⟨_, e⟩
  · rw [hh] at e; cases e
  · rcases hl _ e with c | ⟨n, x, c, _⟩ | ⟨u, v, c⟩ | ⟨u, c⟩
    · exact c.1 (places_part (by simp) k (places_self k))
    · injection c with c; rw [c] at hh; cases hh
    · injection c with c; rw [c] at hh; cases hh
    · injection c with c; rw [c] at hh; cases hh
  · rw [cans] at e
    exact h1 e.1
/-- What is made of the key and the secret is so, where the rest is clean. -/
theorem made_lx {k s : Tm} {t : Tm} (h : cleanT k s t ∨ (∃ n x, t = sealT k n x ∧ cleanT k s n) ∨ (∃ a b, t = .node [109] [a, b]) ∨ (∃ a, t = .node [104] [a]) ∨
    (∃ hd u n x a, t = .node (114 :: hd) [u, sealT k n x, .node [104] [a]] ∧ cleanT k s u ∧ cleanT k s n)) : ∀ z ∈ takeT t, LX k s z := by
  rcases h with h | ⟨n, x, rfl, h⟩ | ⟨a, b, rfl⟩ | ⟨a, rfl⟩ | ⟨hd, u, n, x, a, rfl, h1, h2⟩
  · exact fun z hz => .inl (clean_take h z hz)
  · intro z hz
    rw [take_self (by decide) (by decide)] at hz
    obtain rfl := List.mem_singleton.1 hz
    exact .inr (.inl ⟨n, x, rfl, h⟩)
  · intro z hz
    rw [take_self (by decide) (by decide)] at hz
    obtain rfl := List.mem_singleton.1 hz
    exact .inr (.inr (.inl ⟨a, b, rfl⟩))
  · intro z hz
    rw [take_self (by decide) (by decide)] at hz
    obtain rfl := List.mem_singleton.1 hz
    exact .inr (.inr (.inr ⟨a, rfl⟩))
  · intro z hz
    rw [takeT, if_neg (by simp), if_pos (show (114 :: hd).head? = some 114 from rfl)] at hz
    obtain ⟨t, ht, hy⟩ := mem_takeTs.1 hz
    clear hz
    simp only [List.mem_cons, List.not_mem_nil, or_false] at ht
    rcases ht with rfl | rfl | rfl
    · exact .inl (clean_take h1 z hy)
    · rw [take_self (by decide) (by decide)] at hy
      obtain rfl := List.mem_singleton.1 hy
      exact .inr (.inl ⟨n, x, rfl, h2⟩)
    · rw [take_self (by decide) (by decide)] at hy
      obtain rfl := List.mem_singleton.1 hy
      exact .inr (.inr (.inr ⟨a, rfl⟩))
end Go.Proofs.Ytpajcalfjfkogaa.Pl

namespace Go.Proofs.Ytpajcalfjfkogaa.Pl
open Go.RowKit

theorem below_step {a b c : World} (h : Below a.heap.size a b) (k : Below b.heap.size b c) : Below a.heap.size a c := h.trans (k.mono h.size)
theorem below_undrew {a b : World} (h : Below a.drew.heap.size a.drew b) : Below a.heap.size a b := ⟨h.os, h.tape, h.output, h.size, h.block⟩
theorem below_drewN {B : Nat} {a w : World} (h : Below B a w) (n : Nat) : Below B a (w.drewN n) := ⟨h.os, h.tape, h.output, h.size, h.block⟩
theorem ret_str {a b : ByteArray} (h : a = b) : Ending.returned (.string a) = .returned (.string b) := by rw [h]
theorem ret3 {a b : Int} {n m : Value} (h : a = b) : Ending.returned (.tuple #[.int .u64 a, n, m]) = .returned (.tuple #[.int .u64 b, n, m]) := by rw [h]
theorem ret3s {a b : ByteArray} {n m : Int} {k j : Int} (h : a = b) (h1 : n = m) (h2 : k = j) : Ending.returned (.tuple #[.string a, .int .i64 n, .int .i64 k]) = .returned (.tuple #[.string b, .int .i64 m, .int .i64 j]) := by rw [h, h1, h2]
theorem size_lit (l : List UInt8) : (ByteArray.mk l.toArray).size = l.length := by simp [ByteArray.size]
end Go.Proofs.Ytpajcalfjfkogaa.Pl

namespace Go.Proofs.Ytpajcalfjfkogaa.Pl
open Go.RowKit

theorem conv_tail (w : World) (b off len cap : Nat) (l : List UInt8) (hl : l.length = len) (hc : ∀ j (hj : j < l.length), w.cell? ⟨b, off + j, none⟩ = some (.int .u8 (l[j].toNat : Int))) :
    (convert 108 9 (.slice (some ⟨b, off, none⟩) len cap)).run Try.prog w = .ok (.string ⟨l.toArray⟩) w := by
  subst hl
  exact run_convert_bytes_back w _ _ _ ⟨b, off, none⟩ cap l Try.underlying108 Try.underlying5 Try.underlying9 (fun j hj => by
    rw [show (⟨b, off, none⟩ : Addr).add j = ⟨b, off + j, none⟩ from by unfold Addr.add; split <;> simp_all]
    exact hc j hj)

theorem conv_lit (w : World) (C : Array Value) (t off len cap : Nat) (ns : List Nat) (h : ∀ n, n ∈ ns → n < 256) (hl : ns.length = len)
    (hC : C.toList.drop off = ns.map fun (n : Nat) => Value.int .u8 (n : Int)) :
    (convert 108 9 (.slice (some ⟨w.heap.size, off, none⟩) len cap)).run Try.prog (w.alloc (.cells C t)) = .ok (.string ⟨(ns.map UInt8.ofNat).toArray⟩) (w.alloc (.cells C t)) := by
  refine conv_tail _ _ _ _ _ (ns.map UInt8.ofNat) (by simpa using hl) ?_
  intro j hj
  rw [World.cell?_alloc_mark]
  have hj' : j < ns.length := by simpa using hj
  have h1 : (C.toList.drop off)[j]? = some (.int .u8 (ns[j] : Int)) := by rw [hC]; simp [hj']
  rw [List.getElem?_drop, Array.getElem?_toList] at h1
  rw [h1]
  have h2 := h ns[j] (List.getElem_mem hj')
  have h3 : ((ns.map UInt8.ofNat)[j]).toNat = ns[j] := by simp; omega
  rw [h3]

set_option maxRecDepth 100000 in
theorem num_any (v : Nat) (h8 : v < 256 ^ 8) (w : World) :
    Calls Try.prog 37 #[.int .u64 v] w fun e w' => e = .returned (.string ⟨(enc v).toArray⟩) ∧ Below w.heap.size w w' := by
  have h9 : v < 18446744073709551616 := by rw [two64] at h8; exact h8
  clear h8
  by_cases hv : v < 248
  · go_enter Try.func37, Try.ntmps37
    go_wp2
    rw [conv_lit w _ 107 8 1 1 [v] (by intro n hn; simp at hn; omega) rfl (by simp)]
    go_wp2
    go_ret
    refine ⟨?_, (Below.refl _ _).alloc (Nat.le_refl _) _⟩
    rw [enc_small hv]; rfl
  · go_enter Try.func37, Try.ntmps37
    go_wp2
    go_rounds 9
    · rw [conv_lit w _ 107 0 9 9 ((247 + 8) :: dn 8 v) (by intro n hn; simp [dn] at hn; omega) rfl (by simp [dn]; try omega)]
      go_wp2; go_ret
      refine ⟨?_, (Below.refl _ _).alloc (Nat.le_refl _) _⟩
      rw [enc_dn (k := 8) (by omega) hv (by simp; omega) (by simp; omega)]; rfl
    · rw [conv_lit w _ 107 1 8 8 ((247 + 7) :: dn 7 v) (by intro n hn; simp [dn] at hn; omega) rfl (by simp [dn]; try omega)]
      go_wp2; go_ret
      refine ⟨?_, (Below.refl _ _).alloc (Nat.le_refl _) _⟩
      rw [enc_dn (k := 7) (by omega) hv (by simp; omega) (by simp; omega)]; rfl
    · rw [conv_lit w _ 107 2 7 7 ((247 + 6) :: dn 6 v) (by intro n hn; simp [dn] at hn; omega) rfl (by simp [dn]; try omega)]
      go_wp2; go_ret
      refine ⟨?_, (Below.refl _ _).alloc (Nat.le_refl _) _⟩
      rw [enc_dn (k := 6) (by omega) hv (by simp; omega) (by simp; omega)]; rfl
    · rw [conv_lit w _ 107 3 6 6 ((247 + 5) :: dn 5 v) (by intro n hn; simp [dn] at hn; omega) rfl (by simp [dn]; try omega)]
      go_wp2; go_ret
      refine ⟨?_, (Below.refl _ _).alloc (Nat.le_refl _) _⟩
      rw [enc_dn (k := 5) (by omega) hv (by simp; omega) (by simp; omega)]; rfl
    · rw [conv_lit w _ 107 4 5 5 ((247 + 4) :: dn 4 v) (by intro n hn; simp [dn] at hn; omega) rfl (by simp [dn]; try omega)]
      go_wp2; go_ret
      refine ⟨?_, (Below.refl _ _).alloc (Nat.le_refl _) _⟩
      rw [enc_dn (k := 4) (by omega) hv (by simp; omega) (by simp; omega)]; rfl
    · rw [conv_lit w _ 107 5 4 4 ((247 + 3) :: dn 3 v) (by intro n hn; simp [dn] at hn; omega) rfl (by simp [dn]; try omega)]
      go_wp2; go_ret
      refine ⟨?_, (Below.refl _ _).alloc (Nat.le_refl _) _⟩
      rw [enc_dn (k := 3) (by omega) hv (by simp; omega) (by simp; omega)]; rfl
    · rw [conv_lit w _ 107 6 3 3 ((247 + 2) :: dn 2 v) (by intro n hn; simp [dn] at hn; omega) rfl (by simp [dn]; try omega)]
      go_wp2; go_ret
      refine ⟨?_, (Below.refl _ _).alloc (Nat.le_refl _) _⟩
      rw [enc_dn (k := 2) (by omega) hv (by simp; omega) (by simp; omega)]; rfl
    · rw [conv_lit w _ 107 7 2 2 ((247 + 1) :: dn 1 v) (by intro n hn; simp [dn] at hn; omega) rfl (by simp [dn]; try omega)]
      go_wp2; go_ret
      refine ⟨?_, (Below.refl _ _).alloc (Nat.le_refl _) _⟩
      rw [enc_dn (k := 1) (by omega) hv (by simp; omega) (by simp; omega)]; rfl
end Go.Proofs.Ytpajcalfjfkogaa.Pl
