/- The encoding of numbers, texts and rows of texts as lists of bytes, and what holds of it; plain mathematics alone, no program. Texts as bytes, and what a reader of them answers; plain mathematics alone, no program. Terms as bytes, and as trees: what is read of bytes, that it is a tree's, and just one's; plain mathematics alone. What stands at a term's places; one term swapped for another, and back; plain mathematics alone. Which kinds of terms there are, what makes them, and what their parts make again; plain mathematics alone. Small facts that the walks share: worlds in which nothing old has turned, and endings. A text's bytes, its places, its slices, as facts for the walk; what the document's name of layer 6 answers. What octet.Num answers. What octet.ReadNum answers. What the document's own Num and digits answer: the same encoding. Rows of texts read: what comes, text by text, and what a reader of count of them answers; plain mathematics alone. Which keys organisations share, over plain numbers and bytes; plain mathematics alone. -/
import GoSem.Op.String
import Derived.WalkKit
import Derived.Deep.Draws
import Derived.Test.YtbdlegjklfkdmaaGreatDoorProg
import Derived.Handy
import Derived.Lib.Hide
import Derived.Lib.Strings
import Derived.Laws.IdiomStrings
import Derived.WalkSpells
import Derived.Outline
import Derived.Deep.RegionWith
import Derived.WalkLawsBesides
namespace Go.Proofs.YtbdlegjklfkdmaaGreatDoor.Pl

/-- The digits of v to the base 256, the highest first, no more than f of them; of 0 none. -/
def dig : Nat → Nat → List UInt8
  | 0, _ => []
  | f + 1, v => if v = 0 then [] else dig f (v / 256) ++ [UInt8.ofNat (v % 256)]

/-- The encoding of a number. -/
def enc (v : Nat) : List UInt8 := if v < 248 then [UInt8.ofNat v] else UInt8.ofNat (247 + (dig 8 v).length) :: dig 8 v

/-- The number that digits are. -/
def val (l : List UInt8) : Nat := l.foldl (fun a b => a * 256 + b.toNat) 0

theorem val_nil : val [] = 0 := rfl
theorem val_snoc (l : List UInt8) (b : UInt8) : val (l ++ [b]) = val l * 256 + b.toNat := by simp [val, List.foldl_append]
theorem foldl_val (l : List UInt8) : ∀ a, l.foldl (fun a b => a * 256 + b.toNat) a = a * 256 ^ l.length + val l := by
  induction l with
  | nil => intro a; simp [val]
  | cons b r ih =>
    intro a
    have h1 := ih (a * 256 + b.toNat)
    have h2 := ih (0 * 256 + b.toNat)
    show r.foldl _ (a * 256 + b.toNat) = _
    have h3 : val (b :: r) = r.foldl (fun a b => a * 256 + b.toNat) (0 * 256 + b.toNat) := rfl
    rw [h1, h3, h2, List.length_cons, Nat.pow_succ]
    simp only [Nat.add_mul, Nat.zero_mul, Nat.zero_add]
    have : a * 256 * 256 ^ r.length = a * (256 ^ r.length * 256) := by rw [Nat.mul_assoc, Nat.mul_comm 256]
    omega
theorem val_cons (b : UInt8) (r : List UInt8) : val (b :: r) = b.toNat * 256 ^ r.length + val r := by
  have h := foldl_val r (0 * 256 + b.toNat)
  have h3 : val (b :: r) = r.foldl (fun a b => a * 256 + b.toNat) (0 * 256 + b.toNat) := rfl
  rw [h3, h]; simp
theorem val_lt (l : List UInt8) : val l < 256 ^ l.length := by
  induction l with
  | nil => simp [val]
  | cons b r ih =>
    rw [val_cons, List.length_cons, Nat.pow_succ]
    have hb : b.toNat < 256 := b.toNat_lt
    have : b.toNat * 256 ^ r.length + 256 ^ r.length ≤ 256 ^ r.length * 256 := by
      rw [← Nat.succ_mul, Nat.mul_comm]
      exact Nat.mul_le_mul_left _ hb
    omega

theorem dig_zero (f : Nat) : dig f 0 = [] := by cases f <;> simp [dig]
theorem dig_succ (f v : Nat) (h : v ≠ 0) : dig (f + 1) v = dig f (v / 256) ++ [UInt8.ofNat (v % 256)] := by simp [dig, h]

theorem val_dig (f : Nat) : ∀ v, v < 256 ^ f → val (dig f v) = v := by
  induction f with
  | zero => intro v h; have : v = 0 := by simpa using h
            subst this; rfl
  | succ f ih =>
    intro v h
    by_cases h0 : v = 0
    · subst h0; rw [dig_zero]; rfl
    · rw [dig_succ f v h0, val_snoc, ih (v / 256) (by rw [Nat.pow_succ] at h; omega)]
      have : (UInt8.ofNat (v % 256)).toNat = v % 256 := by simp
      omega

/-- Digits that do not begin with 0 are the digits of their number. -/
theorem dig_val (f : Nat) : ∀ l : List UInt8, l.length ≤ f → l.head? ≠ some 0 → dig f (val l) = l := by
  induction f with
  | zero => intro l h _; have : l = [] := List.eq_nil_of_length_eq_zero (by omega)
            subst this; rfl
  | succ f ih =>
    intro l hl hh
    rcases List.eq_nil_or_concat l with rfl | ⟨r, b, rfl⟩
    · rw [val_nil, dig_zero]
    · rw [List.concat_eq_append] at *
      have hb : b.toNat < 256 := b.toNat_lt
      have hv : val (r ++ [b]) ≠ 0 := by
        rw [val_snoc]
        intro h0
        cases r with
        | nil =>
          simp at hh
          apply hh
          have : b.toNat = 0 := by omega
          exact UInt8.toNat.inj (by simpa using this)
        | cons c r =>
          rw [val_cons] at h0
          simp at hh
          have h1 : 0 < 256 ^ r.length := Nat.pow_pos (by decide)
          have h2 : c.toNat * 256 ^ r.length = 0 := by omega
          have h3 : c.toNat = 0 := by
            rcases Nat.mul_eq_zero.1 h2 with h | h
            · exact h
            · omega
          exact hh (UInt8.toNat.inj (by simpa using h3))
      rw [dig_succ f _ hv, val_snoc]
      have e1 : (val r * 256 + b.toNat) / 256 = val r := by omega
      have e2 : (val r * 256 + b.toNat) % 256 = b.toNat := by omega
      rw [e1, e2, ih r (by simp at hl; omega) (by
        cases r with
        | nil => simp
        | cons c r => simpa using hh)]
      simp

theorem dig_length_le (f : Nat) : ∀ v, (dig f v).length ≤ f := by
  induction f with
  | zero => intro v; simp [dig]
  | succ f ih =>
    intro v
    by_cases h0 : v = 0
    · subst h0; rw [dig_zero]; simp
    · rw [dig_succ f v h0]; have := ih (v / 256); simp; omega

theorem dig_head (f : Nat) : ∀ v, v < 256 ^ f → (dig f v).head? ≠ some 0 := by
  induction f with
  | zero => intro v _; simp [dig]
  | succ f ih =>
    intro v h
    by_cases h0 : v = 0
    · subst h0; rw [dig_zero]; simp
    · rw [dig_succ f v h0]
      have h1 := ih (v / 256) (by rw [Nat.pow_succ] at h; omega)
      cases hd : dig f (v / 256) with
      | nil =>
        have h2 := val_dig f (v / 256) (by rw [Nat.pow_succ] at h; omega)
        rw [hd, val_nil] at h2
        simp
        intro h3
        have h4 : (UInt8.ofNat (v % 256)).toNat = v % 256 := by simp
        rw [h3] at h4
        simp at h4
        omega
      | cons c r => rw [hd] at h1; simpa using h1

theorem dig_pos (v : Nat) (h : v ≠ 0) : 0 < (dig 8 v).length := by
  rw [dig_succ 7 v h]; simp

theorem val_pos {l : List UInt8} (h : l.head? ≠ some 0) : 256 ^ l.length ≤ val l * 256 ∨ l = [] := by
  cases l with
  | nil => exact .inr rfl
  | cons c r =>
    left
    rw [val_cons, List.length_cons, Nat.pow_succ]
    have hc : c.toNat ≠ 0 := fun h0 => h (by simp; exact UInt8.toNat.inj (by simpa using h0))
    have : 1 * 256 ^ r.length ≤ c.toNat * 256 ^ r.length := Nat.mul_le_mul_right _ (by omega)
    omega

/-- Less, at a first difference. -/
def SLt (l m : List UInt8) : Prop := ∃ p a b r s, l = p ++ a :: r ∧ m = p ++ b :: s ∧ a < b
theorem SLt.append {l m : List UInt8} (h : SLt l m) (x y : List UInt8) : SLt (l ++ x) (m ++ y) := by
  obtain ⟨p, a, b, r, s, rfl, rfl, hab⟩ := h
  exact ⟨p, a, b, r ++ x, s ++ y, by simp, by simp, hab⟩
theorem SLt.cons {l m : List UInt8} (h : SLt l m) (c : UInt8) : SLt (c :: l) (c :: m) := by
  obtain ⟨p, a, b, r, s, rfl, rfl, hab⟩ := h
  exact ⟨c :: p, a, b, r, s, by simp, by simp, hab⟩
theorem SLt.less {l m : List UInt8} (h : SLt l m) : Op.bytesLess l m = true := by
  obtain ⟨p, a, b, r, s, rfl, rfl, hab⟩ := h
  induction p with
  | nil => simp [Op.bytesLess, hab]
  | cons c p ih => simp [Op.bytesLess, ih]
theorem SLt.more {l m : List UInt8} (h : SLt l m) : Op.bytesLess m l = false := by
  obtain ⟨p, a, b, r, s, rfl, rfl, hab⟩ := h
  induction p with
  | nil =>
    have h1 : ¬ b < a := fun h => absurd (UInt8.lt_trans h hab) (UInt8.lt_irrefl _)
    have h2 : b ≠ a := fun h => by subst h; exact UInt8.lt_irrefl _ hab
    simp [Op.bytesLess, h1, h2]
  | cons c p ih => 
    have h1 : ¬ c < c := UInt8.lt_irrefl _
    simp only [List.cons_append, Op.bytesLess, ih]
    simp [h1]
theorem SLt.ne {l m : List UInt8} (h : SLt l m) : l ≠ m := by
  intro e
  subst e
  have := h.less
  rw [h.more] at this
  cases this
theorem enc_small {v : Nat} (h : v < 248) : enc v = [UInt8.ofNat v] := by simp [enc, h]
theorem enc_big {v : Nat} (h : ¬ v < 248) : enc v = UInt8.ofNat (247 + (dig 8 v).length) :: dig 8 v := by simp [enc, h]
theorem two64 : (256 : Nat) ^ 8 = 18446744073709551616 := by decide

theorem enc_len (v : Nat) : 1 ≤ (enc v).length ∧ (enc v).length ≤ 9 := by
  by_cases h : v < 248
  · rw [enc_small h]; simp
  · rw [enc_big h]; have := dig_length_le 8 v; simp; omega

/-- What a reader of a number answers: the number, how many bytes it has, what is wrong. -/
def rdn (l : List UInt8) : Nat × Nat × Nat :=
  match l with
  | [] => (0, 0, 6)
  | b :: r =>
    if b.toNat < 248 then (b.toNat, 1, 0)
    else if r.length < b.toNat - 247 then (0, 0, 6)
    else if r.headD 0 = 0 ∨ (b.toNat = 248 ∧ (r.headD 0).toNat < 248) then (0, 0, 7)
    else (val (r.take (b.toNat - 247)), 1 + (b.toNat - 247), 0)

theorem rdn_small (b : UInt8) (r : List UInt8) (h : b.toNat < 248) : rdn (b :: r) = (b.toNat, 1, 0) := by simp [rdn, h]
theorem rdn_end (b : UInt8) (r : List UInt8) (h : ¬ b.toNat < 248) (h2 : r.length < b.toNat - 247) : rdn (b :: r) = (0, 0, 6) := by simp [rdn, h, h2]
theorem rdn_form (b : UInt8) (r : List UInt8) (h : ¬ b.toNat < 248) (h2 : ¬ r.length < b.toNat - 247) (h3 : r.headD 0 = 0 ∨ (b.toNat = 248 ∧ (r.headD 0).toNat < 248)) : rdn (b :: r) = (0, 0, 7) := by
  simp only [rdn]; rw [if_neg h, if_neg h2, if_pos h3]
theorem rdn_ok (b : UInt8) (r : List UInt8) (h : ¬ b.toNat < 248) (h2 : ¬ r.length < b.toNat - 247) (h3 : ¬ (r.headD 0 = 0 ∨ (b.toNat = 248 ∧ (r.headD 0).toNat < 248))) :
    rdn (b :: r) = (val (r.take (b.toNat - 247)), 1 + (b.toNat - 247), 0) := by
  simp only [rdn]; rw [if_neg h, if_neg h2, if_neg h3]

/-- Of a number whose digits are read: what would be put is what was read, just if nothing is wrong with its form. -/
theorem enc_val {d : List UInt8} (hl : 1 ≤ d.length) (h8 : d.length ≤ 8) :
    enc (val d) = UInt8.ofNat (247 + d.length) :: d ↔ ¬ (d.headD 0 = 0 ∨ (d.length = 1 ∧ (d.headD 0).toNat < 248)) := by
  cases d with
  | nil => simp at hl
  | cons c r =>
    simp only [List.headD_cons]
    constructor
    · intro h hbad
      rcases hbad with hc | ⟨h1, hc⟩
      · by_cases hs : val (c :: r) < 248
        · rw [enc_small hs] at h; simp at h
        · rw [enc_big hs] at h
          have h2 : dig 8 (val (c :: r)) = c :: r := by injection h
          have h3 := dig_head 8 (val (c :: r)) (by
            have := val_lt (c :: r)
            exact Nat.lt_of_lt_of_le this (Nat.pow_le_pow_right (by decide) h8))
          rw [h2] at h3
          simp at h3
          exact h3 hc
      · have hr : r = [] := List.eq_nil_of_length_eq_zero (by simpa using h1)
        subst hr
        have hs : val [c] < 248 := by simpa [val] using hc
        rw [enc_small hs] at h; simp at h
    · intro h
      have hc : c ≠ 0 := fun e => h (.inl e)
      have hd : dig 8 (val (c :: r)) = c :: r := dig_val 8 _ h8 (by simpa using hc)
      have hb : ¬ val (c :: r) < 248 := by
        intro hs
        cases r with
        | nil => exact h (.inr ⟨rfl, by simpa [val] using hs⟩)
        | cons e r =>
          have := val_pos (l := c :: e :: r) (by simpa using hc)
          rcases this with h1 | h1
          · have h2 : (256 : Nat) ^ 2 ≤ 256 ^ (c :: e :: r).length := Nat.pow_le_pow_right (by decide) (by simp)
            omega
          · simp at h1
      rw [enc_big hb, hd]

theorem headD_take {r : List UInt8} {k : Nat} (h : 1 ≤ k) : (r.take k).headD 0 = r.headD 0 := by
  cases r with
  | nil => simp
  | cons c r =>
    obtain ⟨k, rfl⟩ : ∃ j, k = j + 1 := ⟨k - 1, by omega⟩
    simp

/-- What was put is read, whatever stands behind it. -/
theorem rdn_enc {v : Nat} (hv : v < 256 ^ 8) (s : List UInt8) : rdn (enc v ++ s) = (v, (enc v).length, 0) := by
  by_cases h : v < 248
  · rw [enc_small h]
    have : (UInt8.ofNat v).toNat = v := by simp; omega
    simp only [List.cons_append, List.nil_append]
    rw [rdn_small _ _ (by omega), this]; rfl
  · rw [enc_big h]
    have hl := dig_length_le 8 v
    have hp := dig_pos v (by omega)
    have hb : (UInt8.ofNat (247 + (dig 8 v).length)).toNat = 247 + (dig 8 v).length := by simp; omega
    have hh := dig_head 8 v hv
    have hd := val_dig 8 v hv
    have hk : (UInt8.ofNat (247 + (dig 8 v).length)).toNat - 247 = (dig 8 v).length := by omega
    have hhd : (dig 8 v ++ s).headD 0 = (dig 8 v).headD 0 := by
      cases hdd : dig 8 v with
      | nil => rw [hdd] at hp; simp at hp
      | cons c r => simp
    simp only [List.cons_append]
    rw [rdn_ok _ _ (by omega) (by simp; omega) ?_, hk, List.take_left' rfl, hd]
    · simp [Nat.add_comm]
    · rw [hhd]
      have hev := (enc_val (d := dig 8 v) hp hl).1 (by rw [hd, enc_big h])
      intro hx
      apply hev
      rcases hx with hx | ⟨hx, hy⟩
      · exact .inl hx
      · exact .inr ⟨by omega, hy⟩

/-- What is read is what would be put. -/
theorem rdn_sound {l : List UInt8} {v n : Nat} (h : rdn l = (v, n, 0)) : 1 ≤ n ∧ n ≤ l.length ∧ enc v = l.take n ∧ v < 256 ^ 8 := by
  cases l with
  | nil => simp [rdn] at h
  | cons b r =>
    have hb : b.toNat < 256 := b.toNat_lt
    by_cases h1 : b.toNat < 248
    · rw [rdn_small b r h1] at h
      simp only [Prod.mk.injEq, and_true] at h
      obtain ⟨rfl, rfl⟩ := h
      refine ⟨by omega, by simp, ?_, by omega⟩
      rw [enc_small h1]; simp
    · by_cases h2 : r.length < b.toNat - 247
      · rw [rdn_end b r h1 h2] at h; simp at h
      · by_cases h3 : r.headD 0 = 0 ∨ (b.toNat = 248 ∧ (r.headD 0).toNat < 248)
        · rw [rdn_form b r h1 h2 h3] at h; simp at h
        · rw [rdn_ok b r h1 h2 h3] at h
          simp only [Prod.mk.injEq, and_true] at h
          obtain ⟨rfl, rfl⟩ := h
          have hlen : (r.take (b.toNat - 247)).length = b.toNat - 247 := by simp; omega
          refine ⟨by omega, by simp; omega, ?_, ?_⟩
          · rw [Nat.add_comm 1, List.take_succ_cons]
            rw [(enc_val (d := r.take (b.toNat - 247)) (by omega) (by omega)).2 ?_]
            · have hbb : UInt8.ofNat (247 + (b.toNat - 247)) = b := by
                apply UInt8.toNat.inj
                simp; omega
              rw [hlen, hbb]
            · rw [headD_take (by omega), hlen]
              intro hx
              apply h3
              rcases hx with hx | ⟨hx, hy⟩
              · exact .inl hx
              · exact .inr ⟨by omega, hy⟩
          · have := val_lt (r.take (b.toNat - 247))
            exact Nat.lt_of_lt_of_le this (Nat.pow_le_pow_right (by decide) (by omega))

theorem rdn_err {l : List UInt8} {v n e : Nat} (h : rdn l = (v, n, e)) : e = 0 ∨ (v = 0 ∧ n = 0 ∧ (e = 6 ∨ e = 7)) := by
  cases l with
  | nil => simp [rdn] at h; omega
  | cons b r =>
    by_cases h1 : b.toNat < 248
    · rw [rdn_small b r h1] at h; simp at h; omega
    · by_cases h2 : r.length < b.toNat - 247
      · rw [rdn_end b r h1 h2] at h; simp at h; omega
      · by_cases h3 : r.headD 0 = 0 ∨ (b.toNat = 248 ∧ (r.headD 0).toNat < 248)
        · rw [rdn_form b r h1 h2 h3] at h; simp at h; omega
        · rw [rdn_ok b r h1 h2 h3] at h; simp at h; omega

/-- Just k digits of v, as numbers. -/
def dn : Nat → Nat → List Nat
  | 0, _ => []
  | k + 1, v => dn k (v / 256) ++ [v % 256]
theorem dig_dn (f : Nat) : ∀ k v, k ≤ f → v < 256 ^ k → (k = 0 ∨ 256 ^ k ≤ v * 256) → dig f v = (dn k v).map UInt8.ofNat := by
  induction f with
  | zero => intro k v hk _ _; obtain rfl : k = 0 := by omega
            rfl
  | succ f ih =>
    intro k v hk hi lo
    cases k with
    | zero => have : v = 0 := by simpa using hi
              subst this; rw [dig_zero]; rfl
    | succ k =>
      have hlo : 256 ^ (k + 1) ≤ v * 256 := by
        rcases lo with h | h
        · cases h
        · exact h
      rw [Nat.pow_succ] at hi hlo
      have hp : 0 < 256 ^ k := Nat.pow_pos (by decide)
      rw [dig_succ f v (by omega), ih k (v / 256) (by omega) (by omega) ?_]
      · simp [dn]
      · cases k with
        | zero => exact .inl rfl
        | succ k =>
          right
          clear hi hp ih lo
          rw [Nat.pow_succ] at hlo ⊢
          generalize 256 ^ k = q at hlo ⊢
          have h1 : q * 256 ≤ v := Nat.le_of_mul_le_mul_right hlo (by decide)
          have h2 : q ≤ v / 256 := (Nat.le_div_iff_mul_le (by decide)).2 h1
          exact Nat.mul_le_mul_right _ h2
theorem dn_length (k : Nat) : ∀ v, (dn k v).length = k := by
  induction k with
  | zero => intro v; rfl
  | succ k ih => intro v; simp [dn, ih]
theorem enc_dn {k v : Nat} (h8 : k ≤ 8) (hv : ¬ v < 248) (hi : v < 256 ^ k) (lo : 256 ^ k ≤ v * 256) : enc v = ((247 + k) :: dn k v).map UInt8.ofNat := by
  rw [enc_big hv, dig_dn 8 k v h8 hi (.inr lo), List.length_map, dn_length, List.map_cons]

end Go.Proofs.YtbdlegjklfkdmaaGreatDoor.Pl

namespace Go.Proofs.YtbdlegjklfkdmaaGreatDoor.Pl

/-- What a reader of a text of at most m bytes answers. -/
def rdt (l : List UInt8) (m : Int) : List UInt8 × Nat × Nat :=
  if (rdn l).2.2 ≠ 0 then ([], 0, (rdn l).2.2)
  else if max m 0 < ((rdn l).1 : Int) then ([], 0, 5)
  else if l.length - (rdn l).2.1 < (rdn l).1 then ([], 0, 6)
  else ((l.drop (rdn l).2.1).take (rdn l).1, (rdn l).2.1 + (rdn l).1, 0)
/-- The encoding of a text. -/
def txt (t : List UInt8) : List UInt8 := enc t.length ++ t

theorem rdt_err {l : List UInt8} {m : Int} {v n e : Nat} (h : rdn l = (v, n, e)) (he : e ≠ 0) : rdt l m = ([], 0, e) := by simp [rdt, h, he]
theorem rdt_long {l : List UInt8} {m : Int} {v n : Nat} (h : rdn l = (v, n, 0)) (h1 : max m 0 < (v : Int)) : rdt l m = ([], 0, 5) := by
  unfold rdt; rw [h]; rw [if_neg (by simp), if_pos h1]
theorem rdt_end {l : List UInt8} {m : Int} {v n : Nat} (h : rdn l = (v, n, 0)) (h1 : ¬ max m 0 < (v : Int)) (h2 : l.length - n < v) : rdt l m = ([], 0, 6) := by
  unfold rdt; rw [h]; rw [if_neg (by simp), if_neg h1, if_pos h2]
theorem rdt_ok {l : List UInt8} {m : Int} {v n : Nat} (h : rdn l = (v, n, 0)) (h1 : ¬ max m 0 < (v : Int)) (h2 : ¬ l.length - n < v) : rdt l m = ((l.drop n).take v, n + v, 0) := by
  unfold rdt; rw [h]; rw [if_neg (by simp), if_neg h1, if_neg h2]

theorem rdt_txt {t : List UInt8} (ht : t.length < 256 ^ 8) (s : List UInt8) (m : Int) (hm : (t.length : Int) ≤ m) : rdt (txt t ++ s) m = (t, (txt t).length, 0) := by
  have h := rdn_enc ht (t ++ s)
  have e : txt t ++ s = enc t.length ++ (t ++ s) := by simp [txt]
  rw [e, rdt_ok h (by omega) (by simp)]
  simp [txt]
theorem rdt_sound {l t : List UInt8} {m : Int} {n : Nat} (h : rdt l m = (t, n, 0)) : 1 ≤ n ∧ n ≤ l.length ∧ (t.length : Int) ≤ max m 0 ∧ txt t = l.take n := by
  have ⟨v, k, e, hr⟩ : ∃ v k e, rdn l = (v, k, e) := ⟨_, _, _, rfl⟩
  by_cases he : e = 0
  · subst he
    obtain ⟨k1, k2, k3, k4⟩ := rdn_sound hr
    by_cases h1 : max m 0 < (v : Int)
    · rw [rdt_long hr h1] at h; simp at h
    · by_cases h2 : l.length - k < v
      · rw [rdt_end hr h1 h2] at h; simp at h
      · rw [rdt_ok hr h1 h2] at h
        simp only [Prod.mk.injEq, and_true] at h
        obtain ⟨rfl, rfl⟩ := h
        have hl : ((l.drop k).take v).length = v := by simp; omega
        refine ⟨by omega, by omega, by rw [hl]; omega, ?_⟩
        rw [txt, hl, k3, List.take_add]
  · rw [rdt_err hr he] at h
    simp at h
    omega
theorem txt_len (t : List UInt8) : (txt t).length = (enc t.length).length + t.length := by simp [txt]
end Go.Proofs.YtbdlegjklfkdmaaGreatDoor.Pl

namespace Go.Proofs.YtbdlegjklfkdmaaGreatDoor.Pl

def nameB (b : UInt8) : Bool := decide ((97 ≤ b.toNat ∧ b.toNat ≤ 122) ∨ (48 ≤ b.toNat ∧ b.toNat ≤ 57) ∨ b.toNat = 47 ∨ b.toNat = 46 ∨ b.toNat = 45)
def nameOK (s : List UInt8) : Bool := !s.isEmpty && s.all nameB
/-- The bytes ahead of a term's parts, how many parts, what is wrong. -/
def headP : List UInt8 → Nat × Nat × Nat
  | [] => (0, 0, 6)
  | b :: r =>
    if b = 100 then (1 + (rdt r 1024).2.1, 0, (rdt r 1024).2.2)
    else if b = 97 then (if (rdt r 32).2.2 = 0 ∧ nameOK (rdt r 32).1 = false then (0, 0, 7) else (1 + (rdt r 32).2.1, 0, (rdt r 32).2.2))
    else if b = 114 then (if (rdn r).2.2 = 0 ∧ 32 < (rdn r).1 then (0, 0, 5) else (1 + (rdn r).2.1, (rdn r).1, (rdn r).2.2))
    else if b = 104 then (1, 1, 0) else if b = 109 then (1, 2, 0) else if b = 115 then (1, 3, 0) else (0, 0, 7)
/-- Of so many terms, one behind the other. -/
def loopP (rd : List UInt8 → Nat × Nat) : Nat → List UInt8 → Nat × Nat
  | 0, _ => (0, 0)
  | k + 1, s => if (rd s).2 = 0 then (if (loopP rd k (s.drop (rd s).1)).2 = 0 then ((rd s).1 + (loopP rd k (s.drop (rd s).1)).1, 0) else (0, (loopP rd k (s.drop (rd s).1)).2)) else (0, (rd s).2)
/-- The term at the front that is no deeper than d. -/
def readP : Nat → List UInt8 → Nat × Nat
  | 0, _ => (0, 60)
  | d + 1, s => if (headP s).2.2 = 0 then (if (loopP (readP d) (headP s).2.1 (s.drop (headP s).1)).2 = 0 then ((headP s).1 + (loopP (readP d) (headP s).2.1 (s.drop (headP s).1)).1, 0) else (0, (loopP (readP d) (headP s).2.1 (s.drop (headP s).1)).2)) else (0, (headP s).2.2)
def frontP (s : List UInt8) : Nat × Nat := if (readP 16 s).2 = 0 then (if 16384 < (readP 16 s).1 then (0, 5) else readP 16 s) else (0, (readP 16 s).2)
def checkP (t : List UInt8) : Nat := if (frontP t).2 = 0 then (if (frontP t).1 = t.length then 0 else 7) else (frontP t).2

/-- Bytes that are a term's head, of so many parts, whatever stands behind them. -/
def HeadOK (h : List UInt8) (p : Nat) : Prop := ∀ rest, headP (h ++ rest) = (h.length, p, 0)
theorem HeadOK.pos {h : List UInt8} {p : Nat} (k : HeadOK h p) : h ≠ [] := by
  rintro rfl
  have := k []
  simp [headP] at this
theorem HeadOK.same {h h' r r' : List UInt8} {p p' : Nat} (k : HeadOK h p) (k' : HeadOK h' p') (e : h ++ r = h' ++ r') : h = h' ∧ p = p' ∧ r = r' := by
  have e1 := k r
  rw [e, k' r'] at e1
  have hl : h'.length = h.length := congrArg Prod.fst e1
  have hp : p' = p := congrArg (·.2.1) e1
  have hh := List.append_inj e hl.symm
  exact ⟨hh.1, hp.symm, hh.2⟩
theorem head_front {s : List UInt8} {n p : Nat} (h : headP s = (n, p, 0)) : n ≤ s.length ∧ HeadOK (s.take n) p := by
  cases s with
  | nil => simp [headP] at h
  | cons b r =>
    simp only [headP] at h
    split at h
    · rename_i hb
      subst hb
      obtain ⟨t, k, e, hr⟩ : ∃ t k e, rdt r 1024 = (t, k, e) := ⟨_, _, _, rfl⟩
      rw [hr] at h
      simp only [Prod.mk.injEq] at h
      obtain ⟨rfl, rfl, rfl⟩ := h
      obtain ⟨h1, h2, h3, h4⟩ := rdt_sound hr
      refine ⟨by simp; omega, fun rest => ?_⟩
      have e1 : (100 :: r).take (1 + k) = 100 :: txt t := by rw [h4, Nat.add_comm, List.take_succ_cons]
      have hk : (txt t).length = k := by rw [h4, List.length_take]; omega
      rw [e1, List.cons_append, headP, if_pos rfl, rdt_txt (by rw [two64]; omega) rest 1024 (by omega)]
      simp [Nat.add_comm]
    · split at h
      · rename_i hb0 hb
        subst hb
        obtain ⟨t, k, e, hr⟩ : ∃ t k e, rdt r 32 = (t, k, e) := ⟨_, _, _, rfl⟩
        rw [hr] at h
        split at h
        · simp at h
        · rename_i hno
          simp only [Prod.mk.injEq] at h
          obtain ⟨rfl, rfl, rfl⟩ := h
          obtain ⟨h1, h2, h3, h4⟩ := rdt_sound hr
          refine ⟨by simp; omega, fun rest => ?_⟩
          have e1 : (97 :: r).take (1 + k) = 97 :: txt t := by rw [h4, Nat.add_comm, List.take_succ_cons]
          have hk : (txt t).length = k := by rw [h4, List.length_take]; omega
          rw [e1, List.cons_append, headP, if_neg (by decide), if_pos rfl, rdt_txt (by rw [two64]; omega) rest 32 (by omega), if_neg hno]
          simp [Nat.add_comm]
      · split at h
        · rename_i hb0 hb1 hb
          subst hb
          obtain ⟨v, k, e, hr⟩ : ∃ v k e, rdn r = (v, k, e) := ⟨_, _, _, rfl⟩
          rw [hr] at h
          split at h
          · simp at h
          · rename_i hno
            simp only [Prod.mk.injEq] at h
            obtain ⟨rfl, rfl, rfl⟩ := h
            obtain ⟨h1, h2, h3, h4⟩ := rdn_sound hr
            refine ⟨by simp; omega, fun rest => ?_⟩
            have e1 : (114 :: r).take (1 + k) = 114 :: enc v := by rw [h3, Nat.add_comm, List.take_succ_cons]
            have hk : (enc v).length = k := by rw [h3, List.length_take]; omega
            rw [e1, List.cons_append, headP, if_neg (by decide), if_neg (by decide), if_pos rfl, rdn_enc h4 rest]
            rw [if_neg (by simpa using hno)]
            simp [Nat.add_comm]
        · split at h
          · rename_i hb
            subst hb
            simp only [Prod.mk.injEq] at h
            obtain ⟨rfl, rfl, _⟩ := h
            refine ⟨by simp, fun rest => ?_⟩
            rfl
          · split at h
            · rename_i hb
              subst hb
              simp only [Prod.mk.injEq] at h
              obtain ⟨rfl, rfl, _⟩ := h
              exact ⟨by simp, fun rest => rfl⟩
            · split at h
              · rename_i hb
                subst hb
                simp only [Prod.mk.injEq] at h
                obtain ⟨rfl, rfl, _⟩ := h
                exact ⟨by simp, fun rest => rfl⟩
              · simp at h

/-- A term: its head, its parts. -/
inductive Tm where
  | node (h : List UInt8) (l : List Tm) : Tm

mutual
def Tm.enc : Tm → List UInt8
  | .node h l => h ++ encs l
def encs : List Tm → List UInt8
  | [] => []
  | t :: l => t.enc ++ encs l
end
mutual
def Tm.deep : Tm → Nat
  | .node _ l => deeps l + 1
def deeps : List Tm → Nat
  | [] => 0
  | t :: l => max t.deep (deeps l)
end
mutual
def Tm.good : Tm → Prop
  | .node h l => HeadOK h l.length ∧ goods l
def goods : List Tm → Prop
  | [] => True
  | t :: l => t.good ∧ goods l
end
mutual
def Tm.places : Tm → List Tm
  | .node h l => .node h l :: placess l
def placess : List Tm → List Tm
  | [] => []
  | t :: l => t.places ++ placess l
end
theorem Tm.ind {P : Tm → Prop} (step : ∀ h l, (∀ t ∈ l, P t) → P (.node h l)) : ∀ t, P t := by
  intro t
  refine Tm.rec (motive_1 := P) (motive_2 := fun l => ∀ t ∈ l, P t) ?_ ?_ ?_ t
  · intro h l ih; exact step h l ih
  · intro t ht; cases ht
  · intro t l h1 h2 u hu
    rcases List.mem_cons.1 hu with rfl | hu
    · exact h1
    · exact h2 u hu
theorem goods_mem {l : List Tm} (h : goods l) : ∀ t ∈ l, t.good := by
  induction l with
  | nil => intro t ht; cases ht
  | cons u l ih =>
    intro t ht
    rcases List.mem_cons.1 ht with rfl | ht
    · exact h.1
    · exact ih h.2 t ht
theorem goods_of {l : List Tm} (h : ∀ t ∈ l, t.good) : goods l := by
  induction l with
  | nil => trivial
  | cons u l ih => exact ⟨h u (List.mem_cons_self ..), ih (fun t ht => h t (List.mem_cons_of_mem _ ht))⟩
theorem deeps_mem {l : List Tm} {t : Tm} (h : t ∈ l) : t.deep ≤ deeps l := by
  induction l with
  | nil => cases h
  | cons u l ih =>
    simp only [deeps]
    rcases List.mem_cons.1 h with rfl | h
    · omega
    · have := ih h; omega
theorem encs_flat (l : List Tm) : encs l = (l.map Tm.enc).flatten := by
  induction l with
  | nil => rfl
  | cons t l ih => simp [encs, ih]
theorem Tm.enc_node (h : List UInt8) (l : List Tm) : (Tm.node h l).enc = h ++ encs l := by simp [Tm.enc]

/-- What is a term's bytes is read, whatever stands behind it. -/
theorem read_enc : ∀ t : Tm, t.good → ∀ d, t.deep ≤ d → ∀ rest, readP d (t.enc ++ rest) = (t.enc.length, 0) := by
  refine Tm.ind ?_
  intro h l ih hg d hd rest
  simp only [Tm.good] at hg
  simp only [Tm.deep] at hd
  obtain ⟨d, rfl⟩ : ∃ e, d = e + 1 := ⟨d - 1, by omega⟩
  have loop : ∀ m : List Tm, (∀ t ∈ m, t ∈ l) → ∀ rest, loopP (readP d) m.length (encs m ++ rest) = ((encs m).length, 0) := by
    intro m
    induction m with
    | nil => intro _ rest; rfl
    | cons t m ihm =>
      intro hm rest
      have ht := hm t (List.mem_cons_self ..)
      have h1 := ih t ht (goods_mem hg.2 t ht) d (by have := deeps_mem ht; omega) (encs m ++ rest)
      have h2 := ihm (fun u hu => hm u (List.mem_cons_of_mem _ hu)) rest
      simp only [encs, List.length_cons, List.append_assoc]
      rw [loopP, h1]
      simp only [if_true, List.drop_left, h2, List.length_append]
  simp only [Tm.enc, List.append_assoc]
  rw [readP, hg.1]
  simp only [if_true, List.drop_left]
  rw [loop l (fun _ h => h) rest]
  simp

/-- What is read is a term's bytes. -/
theorem read_sound : ∀ (d : Nat) (s : List UInt8) (n : Nat), readP d s = (n, 0) → ∃ t : Tm, t.good ∧ t.deep ≤ d ∧ n = t.enc.length ∧ s = t.enc ++ s.drop n := by
  intro d
  induction d with
  | zero => intro s n h; simp [readP] at h
  | succ d ih =>
    intro s n h
    have loop : ∀ (k : Nat) (s : List UInt8) (n : Nat), loopP (readP d) k s = (n, 0) → ∃ l : List Tm, goods l ∧ l.length = k ∧ deeps l ≤ d ∧ n = (encs l).length ∧ s = encs l ++ s.drop n := by
      intro k
      induction k with
      | zero =>
        intro s n h
        simp only [loopP, Prod.mk.injEq] at h
        obtain ⟨rfl, _⟩ := h
        exact ⟨[], trivial, rfl, Nat.zero_le _, rfl, rfl⟩
      | succ k ihk =>
        intro s n h
        rw [loopP] at h
        split at h
        · rename_i h0
          split at h
          · rename_i h1
            simp only [Prod.mk.injEq, and_true] at h
            obtain ⟨t, g1, g2, g3, g4⟩ := ih s (readP d s).1 (Prod.ext rfl h0)
            obtain ⟨l, k1, k2, k3, k4, k5⟩ := ihk (s.drop (readP d s).1) (loopP (readP d) k (s.drop (readP d s).1)).1 (Prod.ext rfl h1)
            refine ⟨t :: l, ⟨g1, k1⟩, by simp [k2], by simp only [deeps]; omega, ?_, ?_⟩
            · simp only [encs, List.length_append]
              rw [← h, k4, g3]
            · simp only [encs, List.append_assoc]
              rw [← h, ← List.drop_drop, ← k5]; exact g4
          · rename_i h1
            simp only [Prod.mk.injEq] at h
            exact absurd h.2 h1
        · rename_i h0
          simp only [Prod.mk.injEq] at h
          exact absurd h.2 h0
    rw [readP] at h
    split at h
    · rename_i h0
      split at h
      · rename_i h1
        simp only [Prod.mk.injEq, and_true] at h
        obtain ⟨hn, hok⟩ := head_front (s := s) (n := (headP s).1) (p := (headP s).2.1) (by rw [← h0])
        obtain ⟨l, k1, k2, k3, k4, k5⟩ := loop (headP s).2.1 (s.drop (headP s).1) (loopP (readP d) (headP s).2.1 (s.drop (headP s).1)).1 (Prod.ext rfl h1)
        refine ⟨.node (s.take (headP s).1) l, ?_, ?_, ?_, ?_⟩
        · simp only [Tm.good]; exact ⟨by rw [k2]; exact hok, k1⟩
        · simp only [Tm.deep]; omega
        · simp only [Tm.enc, List.length_append, List.length_take]
          rw [← h, k4, Nat.min_eq_left hn]
        · simp only [Tm.enc, List.append_assoc]
          rw [← h, ← List.drop_drop, ← k5, List.take_append_drop]
      · rename_i h1
        simp only [Prod.mk.injEq] at h
        exact absurd h.2 h1
    · rename_i h0
      simp only [Prod.mk.injEq] at h
      exact absurd h.2 h0

/-- No term's bytes begin with another one's. -/
theorem enc_front : ∀ t : Tm, t.good → ∀ u : Tm, u.good → ∀ r r', t.enc ++ r = u.enc ++ r' → t = u ∧ r = r' := by
  refine Tm.ind ?_
  intro h l ih hg u hu r r' e
  obtain ⟨h', l'⟩ := u
  simp only [Tm.good] at hg hu
  simp only [Tm.enc, List.append_assoc] at e
  obtain ⟨rfl, hp, e⟩ := hg.1.same hu.1 e
  have loop : ∀ m m' : List Tm, (∀ t ∈ m, t ∈ l) → goods m' → m.length = m'.length → ∀ r r', encs m ++ r = encs m' ++ r' → m = m' ∧ r = r' := by
    intro m
    induction m with
    | nil =>
      intro m' _ _ hl r r' e
      cases m' with
      | nil => exact ⟨rfl, e⟩
      | cons => simp at hl
    | cons t m ihm =>
      intro m' hm hg' hl r r' e
      cases m' with
      | nil => simp at hl
      | cons t' m' =>
        simp only [encs, List.append_assoc] at e
        have ht := hm t (List.mem_cons_self ..)
        obtain ⟨rfl, e2⟩ := ih t ht (goods_mem hg.2 t ht) t' hg'.1 _ _ e
        obtain ⟨rfl, e3⟩ := ihm m' (fun u hu => hm u (List.mem_cons_of_mem _ hu)) hg'.2 (by simpa using hl) _ _ e2
        exact ⟨rfl, e3⟩
  obtain ⟨rfl, e4⟩ := loop l l' (fun _ h => h) hu.2 hp _ _ e
  exact ⟨rfl, e4⟩
theorem enc_tm_inj {t u : Tm} (ht : t.good) (hu : u.good) (e : t.enc = u.enc) : t = u := (enc_front t ht u hu [] [] (by simpa using e)).1
/-- A valid term. -/
def Tm.valid (t : Tm) : Prop := t.good ∧ t.deep ≤ 16 ∧ t.enc.length ≤ 16384
theorem front_enc {t : Tm} (h : t.valid) (rest : List UInt8) : frontP (t.enc ++ rest) = (t.enc.length, 0) := by
  have e := read_enc t h.1 16 h.2.1 rest
  unfold frontP
  rw [e, if_pos rfl, if_neg (by have := h.2.2; simp only; omega)]
theorem front_sound {s : List UInt8} {n : Nat} (h : frontP s = (n, 0)) : ∃ t : Tm, t.valid ∧ n = t.enc.length ∧ s = t.enc ++ s.drop n := by
  unfold frontP at h
  split at h
  · rename_i h0
    split at h
    · simp at h
    · rename_i h1
      obtain ⟨t, g1, g2, g3, g4⟩ := read_sound 16 s n h
      rw [h] at h1
      exact ⟨t, ⟨g1, g2, by simp only at h1; omega⟩, g3, g4⟩
  · rename_i h0
    simp only [Prod.mk.injEq] at h
    exact absurd h.2 h0
theorem check_enc {t : Tm} (h : t.valid) : checkP t.enc = 0 := by
  have e := front_enc h []
  rw [List.append_nil] at e
  unfold checkP
  rw [e]; simp
theorem check_iff {s : List UInt8} : checkP s = 0 ↔ ∃ t : Tm, t.valid ∧ t.enc = s := by
  constructor
  · intro h
    unfold checkP at h
    split at h
    · rename_i h0
      split at h
      · rename_i h1
        obtain ⟨t, g1, g2, g3⟩ := front_sound (s := s) (n := (frontP s).1) (Prod.ext rfl h0)
        refine ⟨t, g1, ?_⟩
        rw [h1] at g3
        simpa using g3.symm
      · exact absurd h (by decide)
    · rename_i h0
      exact absurd h h0
  · rintro ⟨t, h, rfl⟩
    exact check_enc h
end Go.Proofs.YtbdlegjklfkdmaaGreatDoor.Pl

namespace Go.Proofs.YtbdlegjklfkdmaaGreatDoor.Pl

theorem placess_flat (l : List Tm) : placess l = l.flatMap Tm.places := by
  induction l with
  | nil => simp [placess]
  | cons t l ih => simp [placess, ih]
theorem enc_mem {l : List Tm} {t : Tm} (h : t ∈ l) : t.enc.length ≤ (encs l).length := by
  induction l with
  | nil => cases h
  | cons u l ih =>
    simp only [encs, List.length_append]
    rcases List.mem_cons.1 h with rfl | h
    · omega
    · have := ih h; omega
theorem places_good : ∀ t : Tm, t.good → ∀ p ∈ t.places, p.good := by
  refine Tm.ind ?_
  intro h l ih hg p hp
  simp only [Tm.places, placess_flat, List.mem_cons, List.mem_flatMap] at hp
  rcases hp with rfl | ⟨q, hq, hp⟩
  · exact hg
  · simp only [Tm.good] at hg
    exact ih q hq (goods_mem hg.2 q hq) p hp
theorem places_deep : ∀ t : Tm, ∀ p ∈ t.places, p.deep ≤ t.deep := by
  refine Tm.ind ?_
  intro h l ih p hp
  simp only [Tm.places, placess_flat, List.mem_cons, List.mem_flatMap] at hp
  rcases hp with rfl | ⟨q, hq, hp⟩
  · exact Nat.le_refl _
  · have := ih q hq p hp
    have := deeps_mem hq
    simp only [Tm.deep]; omega
theorem places_len : ∀ t : Tm, ∀ p ∈ t.places, p.enc.length ≤ t.enc.length := by
  refine Tm.ind ?_
  intro h l ih p hp
  simp only [Tm.places, placess_flat, List.mem_cons, List.mem_flatMap] at hp
  rcases hp with rfl | ⟨q, hq, hp⟩
  · exact Nat.le_refl _
  · have := ih q hq p hp
    have := enc_mem hq
    simp only [Tm.enc, List.length_append]; omega
theorem places_valid {t : Tm} (h : t.valid) {p : Tm} (hp : p ∈ t.places) : p.valid :=
  ⟨places_good t h.1 p hp, Nat.le_trans (places_deep t p hp) h.2.1, Nat.le_trans (places_len t p hp) h.2.2⟩
end Go.Proofs.YtbdlegjklfkdmaaGreatDoor.Pl

namespace Go.Proofs.YtbdlegjklfkdmaaGreatDoor.Pl

/-- Which heads there are. -/
inductive Kd (h : List UInt8) (p : Nat) : Nat → Prop where
  | data (t : List UInt8) : h = 100 :: txt t → t.length ≤ 1024 → p = 0 → Kd h p 1
  | atom (t : List UInt8) : h = 97 :: txt t → t.length ≤ 32 → nameOK t = true → p = 0 → Kd h p 2
  | row (v : Nat) : h = 114 :: enc v → v ≤ 32 → p = v → Kd h p 3
  | hash : h = [104] → p = 1 → Kd h p 4
  | mac : h = [109] → p = 2 → Kd h p 5
  | seal_ : h = [115] → p = 3 → Kd h p 6
theorem head_kind {h : List UInt8} {p : Nat} (k : HeadOK h p) : ∃ c, Kd h p c := by
  have e := k []
  rw [List.append_nil] at e
  cases h with
  | nil => exact absurd rfl k.pos
  | cons b r =>
    simp only [headP] at e
    split at e
    · rename_i hb
      subst hb
      obtain ⟨t, n, f, hr⟩ : ∃ t n f, rdt r 1024 = (t, n, f) := ⟨_, _, _, rfl⟩
      rw [hr] at e
      simp only [Prod.mk.injEq, List.length_cons] at e
      obtain ⟨e1, rfl, rfl⟩ := e
      obtain ⟨h1, h2, h3, h4⟩ := rdt_sound hr
      refine ⟨1, .data t ?_ (by omega) rfl⟩
      rw [h4, List.take_of_length_le (by omega)]
    · split at e
      · rename_i hb
        subst hb
        obtain ⟨t, n, f, hr⟩ : ∃ t n f, rdt r 32 = (t, n, f) := ⟨_, _, _, rfl⟩
        rw [hr] at e
        split at e
        · simp at e
        · rename_i hno
          simp only [Prod.mk.injEq, List.length_cons] at e
          obtain ⟨e1, rfl, rfl⟩ := e
          obtain ⟨h1, h2, h3, h4⟩ := rdt_sound hr
          refine ⟨2, .atom t ?_ (by omega) ?_ rfl⟩
          · rw [h4, List.take_of_length_le (by omega)]
          · cases hn : nameOK t with
            | true => rfl
            | false => exact absurd ⟨rfl, hn⟩ hno
      · split at e
        · rename_i hb
          subst hb
          obtain ⟨v, n, f, hr⟩ : ∃ v n f, rdn r = (v, n, f) := ⟨_, _, _, rfl⟩
          rw [hr] at e
          split at e
          · simp at e
          · rename_i hno
            simp only [Prod.mk.injEq, List.length_cons] at e
            obtain ⟨e1, rfl, rfl⟩ := e
            obtain ⟨h1, h2, h3, h4⟩ := rdn_sound hr
            refine ⟨3, .row v ?_ (by simpa using hno) rfl⟩
            rw [h3, List.take_of_length_le (by omega)]
        · split at e
          · rename_i hb
            subst hb
            simp only [Prod.mk.injEq, List.length_cons] at e
            obtain ⟨e1, rfl, _⟩ := e
            exact ⟨4, .hash (by rw [List.length_eq_zero_iff.1 (show r.length = 0 by omega)]) rfl⟩
          · split at e
            · rename_i hb
              subst hb
              simp only [Prod.mk.injEq, List.length_cons] at e
              obtain ⟨e1, rfl, _⟩ := e
              exact ⟨5, .mac (by rw [List.length_eq_zero_iff.1 (show r.length = 0 by omega)]) rfl⟩
            · split at e
              · rename_i hb
                subst hb
                simp only [Prod.mk.injEq, List.length_cons] at e
                obtain ⟨e1, rfl, _⟩ := e
                exact ⟨6, .seal_ (by rw [List.length_eq_zero_iff.1 (show r.length = 0 by omega)]) rfl⟩
              · simp at e
theorem row_head {v : Nat} (h : v ≤ 32) : HeadOK (114 :: enc v) v := by
  intro rest
  rw [List.cons_append, headP, if_neg (by decide), if_neg (by decide), if_pos rfl, rdn_enc (by rw [two64]; omega) rest, if_neg (by simp only; omega)]
  simp [Nat.add_comm]
theorem data_head {t : List UInt8} (h : t.length ≤ 1024) : HeadOK (100 :: txt t) 0 := by
  intro rest
  rw [List.cons_append, headP, if_pos rfl, rdt_txt (by rw [two64]; omega) rest 1024 (by omega)]
  simp [Nat.add_comm]
/-- What letters and parts make, or why there is nothing. -/
def madeP (front : List UInt8) (l : List (List UInt8)) : List UInt8 × Nat :=
  if ∀ x ∈ l, checkP x = 0 then (if checkP (front ++ l.flatten) = 0 then (front ++ l.flatten, 0) else ([], 5)) else ([], 2)
def dataP (s : List UInt8) : List UInt8 × Nat := if 1024 < s.length then ([], 5) else (100 :: txt s, 0)
def atomP (s : List UInt8) : List UInt8 × Nat := if 32 < s.length then ([], 5) else if nameOK s = false then ([], 7) else (97 :: txt s, 0)
def rowP (l : List (List UInt8)) : List UInt8 × Nat := madeP (114 :: enc l.length) l

theorem check_len {s : List UInt8} (h : checkP s = 0) : s.length ≤ 16384 := by
  obtain ⟨t, ht, rfl⟩ := check_iff.1 h
  exact ht.2.2
/-- The trees of terms. -/
theorem trees {l : List (List UInt8)} (h : ∀ x ∈ l, checkP x = 0) : ∃ m : List Tm, (∀ t ∈ m, t.valid) ∧ m.map Tm.enc = l := by
  induction l with
  | nil => exact ⟨[], (fun t ht => by cases ht), rfl⟩
  | cons x l ih =>
    obtain ⟨m, h1, h2⟩ := ih (fun y hy => h y (List.mem_cons_of_mem _ hy))
    obtain ⟨t, ht, e⟩ := check_iff.1 (h x (List.mem_cons_self ..))
    refine ⟨t :: m, ?_, by simp [e, h2]⟩
    intro u hu
    rcases List.mem_cons.1 hu with rfl | hu
    · exact ht
    · exact h1 u hu
theorem node_valid_parts {h : List UInt8} {l : List Tm} (hv : (Tm.node h l).valid) : ∀ t ∈ l, t.valid := by
  intro t ht
  have hg := hv.1
  simp only [Tm.good] at hg
  exact places_valid hv (p := t) (by
    simp only [Tm.places, placess_flat, List.mem_cons, List.mem_flatMap]
    exact .inr ⟨t, ht, by obtain ⟨a, b⟩ := t; simp [Tm.places]⟩)
/-- What a valid term's parts make, behind its head, is it again. -/
theorem made_again {h : List UInt8} {l : List Tm} (hv : (Tm.node h l).valid) : madeP h (l.map Tm.enc) = ((Tm.node h l).enc, 0) := by
  unfold madeP
  rw [if_pos (by
    intro x hx
    obtain ⟨t, ht, rfl⟩ := List.mem_map.1 hx
    exact check_enc (node_valid_parts hv t ht))]
  have e : h ++ (l.map Tm.enc).flatten = (Tm.node h l).enc := by rw [← encs_flat, Tm.enc_node]
  rw [e, if_pos (check_enc hv)]
/-- What was made has just those parts. -/
theorem made_parts {front : List UInt8} {l : List (List UInt8)} (hh : HeadOK front l.length) {r : List UInt8} (h : madeP front l = (r, 0)) : ∃ m : List Tm, (Tm.node front m).valid ∧ (Tm.node front m).enc = r ∧ m.map Tm.enc = l := by
  unfold madeP at h
  split at h
  · rename_i h1
    split at h
    · rename_i h2
      simp only [Prod.mk.injEq, and_true] at h
      obtain ⟨m, hm, rfl⟩ := trees h1
      obtain ⟨t, ht, e⟩ := check_iff.1 h2
      have hg : (Tm.node front m).good := by
        simp only [Tm.good]
        exact ⟨by rw [List.length_map] at hh; exact hh, goods_of fun u hu => (hm u hu).1⟩
      have e2 : t.enc = (Tm.node front m).enc := by rw [e, ← encs_flat, Tm.enc_node]
      obtain rfl := enc_tm_inj ht.1 hg e2
      exact ⟨m, ht, by rw [← h, ← encs_flat, Tm.enc_node], rfl⟩
    · simp at h
  · simp at h
theorem row_parts {l : List (List UInt8)} (h8 : l.length < 256 ^ 8) {r : List UInt8} (h : rowP l = (r, 0)) : ∃ m : List Tm, (Tm.node (114 :: enc l.length) m).valid ∧ (Tm.node (114 :: enc l.length) m).enc = r ∧ m.map Tm.enc = l := by
  by_cases hl : l.length ≤ 32
  · exact made_parts (row_head hl) h
  · exfalso
    unfold rowP madeP at h
    split at h
    · split at h
      · rename_i h2
        obtain ⟨⟨h', l'⟩, ht, e⟩ := check_iff.1 h2
        have hg := ht.1
        simp only [Tm.good] at hg
        obtain ⟨c, hk⟩ := head_kind hg.1
        rw [Tm.enc_node] at e
        cases hk with
        | data t e1 _ _ => rw [e1] at e; simp at e
        | atom t e1 _ _ _ => rw [e1] at e; simp at e
        | hash e1 _ => rw [e1] at e; simp at e
        | mac e1 _ => rw [e1] at e; simp at e
        | seal_ e1 _ => rw [e1] at e; simp at e
        | row v e1 hv _ =>
          rw [e1] at e
          simp only [List.cons_append, List.cons.injEq, true_and] at e
          have r1 := rdn_enc (v := v) (by rw [two64]; omega) (encs l')
          rw [e, rdn_enc h8] at r1
          have := congrArg Prod.fst r1
          simp only at this
          omega
      · simp at h
    · simp at h
/- The tree of a term's bytes. -/
open Classical in
noncomputable def treeOf (s : List UInt8) : Option Tm := if h : ∃ t : Tm, t.valid ∧ t.enc = s then some (Classical.choose h) else none
theorem treeOf_enc {t : Tm} (h : t.valid) : treeOf t.enc = some t := by
  have hx : ∃ u : Tm, u.valid ∧ u.enc = t.enc := ⟨t, h, rfl⟩
  unfold treeOf
  rw [dif_pos hx]
  have := Classical.choose_spec hx
  rw [enc_tm_inj this.1.1 h.1 this.2]
theorem treeOf_none {s : List UInt8} (h : checkP s ≠ 0) : treeOf s = none := by
  unfold treeOf
  rw [dif_neg (fun k => h (check_iff.2 k))]
theorem treeOf_some {s : List UInt8} (h : checkP s = 0) : ∃ t : Tm, t.valid ∧ t.enc = s ∧ treeOf s = some t := by
  obtain ⟨t, ht, rfl⟩ := check_iff.1 h
  exact ⟨t, ht, rfl, treeOf_enc ht⟩
noncomputable def kindP (s : List UInt8) : Nat := if checkP s = 0 then (match s with | [] => 0 | b :: _ => if b = 100 then 1 else if b = 97 then 2 else if b = 114 then 3 else if b = 104 then 4 else if b = 109 then 5 else 6) else 0
noncomputable def textP (s : List UInt8) : List UInt8 × Bool := if checkP s = 0 ∧ (s.head? = some 100 ∨ s.head? = some 97) then ((rdt (s.drop 1) 1024).1, true) else ([], false)
noncomputable def partsP (s : List UInt8) : List (List UInt8) × Bool := match treeOf s with | some (.node _ l) => (l.map Tm.enc, true) | none => ([], false)
end Go.Proofs.YtbdlegjklfkdmaaGreatDoor.Pl

namespace Go.Proofs.YtbdlegjklfkdmaaGreatDoor.Pl
open Go.RowKit

theorem below_step {a b c : World} (h : Below a.heap.size a b) (k : Below b.heap.size b c) : Below a.heap.size a c := h.trans (k.mono h.size)
theorem below_undrew {a b : World} (h : Below a.drew.heap.size a.drew b) : Below a.heap.size a b := ⟨h.os, h.tape, h.output, h.size, h.block⟩
theorem below_drewN {B : Nat} {a w : World} (h : Below B a w) (n : Nat) : Below B a (w.drewN n) := ⟨h.os, h.tape, h.output, h.size, h.block⟩
theorem ret_str {a b : ByteArray} (h : a = b) : Ending.returned (.string a) = .returned (.string b) := by rw [h]
theorem ret3 {a b : Int} {n m : Value} (h : a = b) : Ending.returned (.tuple #[.int .u64 a, n, m]) = .returned (.tuple #[.int .u64 b, n, m]) := by rw [h]
theorem ret3s {a b : ByteArray} {n m : Int} {k j : Int} (h : a = b) (h1 : n = m) (h2 : k = j) : Ending.returned (.tuple #[.string a, .int .i64 n, .int .i64 k]) = .returned (.tuple #[.string b, .int .i64 m, .int .i64 j]) := by rw [h, h1, h2]
theorem size_lit (l : List UInt8) : (ByteArray.mk l.toArray).size = l.length := by simp [ByteArray.size]
end Go.Proofs.YtbdlegjklfkdmaaGreatDoor.Pl

namespace Go.Proofs.YtbdlegjklfkdmaaGreatDoor.Pl
open Go.RowKit

/-- A text's bytes. -/
def bl (s : ByteArray) : List UInt8 := s.data.toList
theorem bl_length (s : ByteArray) : (bl s).length = s.size := by unfold bl; rw [Array.length_toList]; rfl
theorem bl_mk (l : List UInt8) : bl ⟨l.toArray⟩ = l := rfl
theorem bl_inj {a b : ByteArray} (h : bl a = bl b) : a = b := ByteArray.ext (Array.ext' h)
theorem bl_eq (s : ByteArray) : s = ⟨(bl s).toArray⟩ := bl_inj rfl
theorem tstr_index (s : ByteArray) (k : Nat) (c : UInt8) (hk : k < s.size) (hc : c = (bl s).getD k 0) (V : World) : (Instr.index 9 (.string s) (.int .i64 (k : Int))).run Tryz.prog V = .ok (.int .u8 (c.toNat : Int)) V := by
  rw [run_index_string V 9 s .i64 k Tryz.underlying9, dif_pos ⟨by omega, by omega⟩, hc]
  congr 2
  have hk' : k < s.data.toList.length := by simpa using hk
  simp only [bl, List.getD_eq_getElem?_getD, List.getElem?_eq_getElem hk', Option.getD_some, Int.toNat_natCast]
  rfl
theorem tslice_from (x : ByteArray) (m : Nat) (h : m ≤ x.size) (V : World) : (Instr.sliceAt 9 (.string x) (some (.int .i64 (m : Int))) none none).run Tryz.prog V = .ok (.string (x.extract m x.size)) V := by
  have h0 : (0 : Int) ≤ (m : Int) := by omega
  have h1 : (m : Int) ≤ (x.size : Int) := by omega
  go_simp
theorem tslice_mid (x : ByteArray) (a b : Nat) (h : a ≤ b) (h2 : b ≤ x.size) (V : World) : (Instr.sliceAt 9 (.string x) (some (.int .i64 (a : Int))) (some (.int .i64 (b : Int))) none).run Tryz.prog V = .ok (.string (x.extract a b)) V := by
  have h0 : (0 : Int) ≤ (a : Int) := by omega
  have h1 : (a : Int) ≤ (b : Int) := by omega
  have h3 : (b : Int) ≤ (x.size : Int) := by omega
  go_simp
theorem bl_extract (x : ByteArray) (a b : Nat) : bl (x.extract a b) = ((bl x).take b).drop a := by
  unfold bl
  rw [Lib.extract_data, List.take_drop]
  by_cases h : a ≤ b
  · rw [show a + (b - a) = b by omega]
  · have : (x.data.toList.take (a + (b - a))).drop a = [] := List.drop_eq_nil_of_le (by simp; omega)
    rw [this]
    exact (List.drop_eq_nil_of_le (by simp; omega)).symm
theorem bl_from (x : ByteArray) (m : Nat) : bl (x.extract m x.size) = (bl x).drop m := by
  rw [bl_extract, List.take_of_length_le (by rw [bl_length]; exact Nat.le_refl _)]
theorem size_bl (s : ByteArray) : s.size = (bl s).length := (bl_length s).symm
theorem bl_nil {s : ByteArray} (h : s.size = 0) : bl s = [] := List.length_eq_zero_iff.1 (by rw [bl_length]; exact h)
theorem bl_cons {s : ByteArray} (h : 0 < s.size) : bl s = (bl s).getD 0 0 :: (bl s).drop 1 := by
  have hl : 0 < (bl s).length := by rw [bl_length]; exact h
  cases e : bl s with
  | nil => rw [e] at hl; simp at hl
  | cons b r => rfl
theorem nameOK_iff (l : List UInt8) : nameOK l = true ↔ l ≠ [] ∧ ∀ j, j < l.length → nameB (l.getD j 0) = true := by
  unfold nameOK
  rw [Bool.and_eq_true, List.all_eq_true]
  constructor
  · rintro ⟨h, k⟩
    refine ⟨fun e => by rw [e] at h; simp at h, fun j hj => k _ ?_⟩
    rw [List.getD_eq_getElem?_getD, List.getElem?_eq_getElem hj]; exact List.getElem_mem hj
  · rintro ⟨h, k⟩
    refine ⟨by cases l with | nil => exact absurd rfl h | cons => rfl, fun x hx => ?_⟩
    obtain ⟨j, hj, rfl⟩ := List.getElem_of_mem hx
    have := k j hj
    simpa [List.getD_eq_getElem?_getD, hj] using this
theorem str6_ne {a b : ByteArray} (h : a ≠ b) : (a.toList == b.toList) = false ∧ (a.toList != b.toList) = true := by
  have h' : a.toList ≠ b.toList := fun e => h (by
    rw [Lib.toList_data, Lib.toList_data] at e
    exact ByteArray.ext (Array.ext' e))
  exact ⟨beq_eq_false_iff_ne.2 h', bne_iff_ne.2 h'⟩
theorem ret6_bool {a b : Bool} (h : a = b) : Ending.returned (.bool a) = .returned (.bool b) := by rw [h]
set_option maxHeartbeats 2000000 in
set_option maxRecDepth 100000 in
theorem rname_any (s : ByteArray) (hs : s.size ≤ 281474976710656) (w : World) :
    Calls Tryz.prog 142 #[.string s] w fun e w' => e = .returned (.bool (nameOK (bl s))) ∧ Below w.heap.size w w' := by
  obtain ⟨z, hz⟩ : ∃ z, z = nameOK (bl s) := ⟨_, rfl⟩
  rw [← hz]
  by_cases h0 : s.size = 0
  · have HZ : Hid (z = false) := Lib.hid (by rw [hz, bl_nil h0]; rfl)
    obtain rfl : s = ⟨#[]⟩ := bl_inj (bl_nil h0)
    clear hz h0 hs
    go_enter Tryz.func142, Tryz.ntmps142
    go_wp2_with fail
    refine wp_loop_rounds 1 ?_; rw [rounds_succ]; go_wp2_with fail
    go_ret
    exact ⟨ret6_bool HZ.out.symm, Below.refl _ _⟩
  · have hne : s ≠ ⟨#[]⟩ := fun e => h0 (by rw [e]; rfl)
    obtain ⟨g1, g2⟩ := str6_ne hne
    have g3 : s.toList.isEmpty = false := by
      rw [Lib.toList_data, List.isEmpty_eq_false_iff]
      intro e
      exact h0 (by rw [size_bl]; unfold bl; rw [e]; rfl)
    have HB : Hid (∀ k, k < s.size → nameB ((bl s).getD k 0) = false → z = false) := Lib.hid (fun k hk hb => by
      rw [hz]
      cases e : nameOK (bl s) with
      | false => rfl
      | true => rw [((nameOK_iff _).1 e).2 k (by rw [bl_length]; exact hk)] at hb; exact absurd hb (by decide))
    have HE : Hid ((∀ j, j < s.size → nameB ((bl s).getD j 0) = true) → z = true) := Lib.hid (fun h => by
      rw [hz, nameOK_iff]
      refine ⟨fun e => h0 (by rw [size_bl, e]; rfl), fun j hj => h j (by rw [bl_length] at hj; exact hj)⟩)
    clear hz h0 hne
    go_enter Tryz.func142, Tryz.ntmps142
    go_wp2_with fail
    go_loopw [3] (fun i wr => ∃ k : Nat, i = .int .i64 k ∧ k ≤ s.size ∧ Hid (∀ j, j < k → nameB ((bl s).getD j 0) = true) ∧ Hid (Below w.heap.size w wr)) (fun i _ => s.size - (intOf i).toNat)
    case atStart => exact ⟨0, rfl, Nat.zero_le _, Lib.hid (fun j hj => absurd hj (Nat.not_lt_zero j)), Lib.hid (Below.refl _ _)⟩
    case round =>
      obtain ⟨k, rfl, hks, hch, hbw⟩ := hrel
      by_cases hk : k < s.size
      · obtain ⟨c, ec⟩ : ∃ c : UInt8, c = (bl s).getD k 0 := ⟨_, rfl⟩
        have i1 : ∀ V : World, (Instr.index 9 (.string s) (.int .i64 (k : Int))).run Tryz.prog V = .ok (.int .u8 (c.toNat : Int)) V := tstr_index s k c hk ec
        have HBK : Hid (nameB c = false → z = false) := Lib.hid (by rw [ec]; exact HB.out k hk)
        have HNX : Hid (nameB c = true → ∀ j, j < k + 1 → nameB ((bl s).getD j 0) = true) := Lib.hid (fun h j hj => by
          by_cases e : j = k
          · rw [e, ← ec]; exact h
          · exact hch.out j (by omega))
        obtain ⟨n, hn⟩ : ∃ n, n = c.toNat := ⟨_, rfl⟩
        have HY : Hid (((97 ≤ n ∧ n ≤ 122) ∨ (48 ≤ n ∧ n ≤ 57) ∨ n = 47 ∨ n = 46 ∨ n = 45) → nameB c = true) := Lib.hid (fun h => by unfold nameB; rw [← hn]; exact decide_eq_true h)
        have HW : Hid (¬ ((97 ≤ n ∧ n ≤ 122) ∨ (48 ≤ n ∧ n ≤ 57) ∨ n = 47 ∨ n = 46 ∨ n = 45) → nameB c = false) := Lib.hid (fun h => by unfold nameB; rw [← hn]; exact decide_eq_false h)
        rw [← hn] at i1
        clear ec hn
        have hcs : n < 45 ∨ n = 45 ∨ n = 46 ∨ n = 47 ∨ (48 ≤ n ∧ n ≤ 57) ∨ (57 < n ∧ n < 97) ∨ (97 ≤ n ∧ n ≤ 122) ∨ 122 < n := by omega
        have ef : ∀ m : Nat, n ≠ m → ((n : Int) == (m : Int)) = false := fun m h => by rw [beq_eq_false_iff_ne]; omega
        rcases hcs with h | h | h | h | ⟨h, h'⟩ | ⟨h, h'⟩ | ⟨h, h'⟩ | h
        · have HX := Lib.hid (HBK.out (HW.out (by omega)))
          have q1 : ((n : Int) == 47) = false := ef 47 (by omega)
          have q2 : ((n : Int) == 46) = false := ef 46 (by omega)
          have q3 : ((n : Int) == 45) = false := ef 45 (by omega)
          clear ef
          go_wp2_with fail
          go_ret
          exact ⟨ret6_bool HX.out.symm, hbw.out⟩
        · subst h
          have HX := Lib.hid (HNX.out (HY.out (by omega)))
          clear ef
          go_wp2_with fail
          go_roundw
          case rel => exact ⟨k + 1, by go_num, by omega, HX, hbw⟩
          case measure => simp [intOf]; omega
        · subst h
          have HX := Lib.hid (HNX.out (HY.out (by omega)))
          clear ef
          go_wp2_with fail
          go_roundw
          case rel => exact ⟨k + 1, by go_num, by omega, HX, hbw⟩
          case measure => simp [intOf]; omega
        · subst h
          have HX := Lib.hid (HNX.out (HY.out (by omega)))
          clear ef
          go_wp2_with fail
          go_roundw
          case rel => exact ⟨k + 1, by go_num, by omega, HX, hbw⟩
          case measure => simp [intOf]; omega
        · have HX := Lib.hid (HNX.out (HY.out (by omega)))
          clear ef
          go_wp2_with fail
          go_roundw
          case rel => exact ⟨k + 1, by go_num, by omega, HX, hbw⟩
          case measure => simp [intOf]; omega
        · have HX := Lib.hid (HBK.out (HW.out (by omega)))
          have q1 : ((n : Int) == 47) = false := ef 47 (by omega)
          have q2 : ((n : Int) == 46) = false := ef 46 (by omega)
          have q3 : ((n : Int) == 45) = false := ef 45 (by omega)
          have q4 : decide ((n : Int) ≤ 57) = false := decide_eq_false (by omega)
          clear ef
          go_wp2_with fail
          go_ret
          exact ⟨ret6_bool HX.out.symm, hbw.out⟩
        · have HX := Lib.hid (HNX.out (HY.out (by omega)))
          clear ef
          go_wp2_with fail
          go_roundw
          case rel => exact ⟨k + 1, by go_num, by omega, HX, hbw⟩
          case measure => simp [intOf]; omega
        · have HX := Lib.hid (HBK.out (HW.out (by omega)))
          have q1 : ((n : Int) == 47) = false := ef 47 (by omega)
          have q2 : ((n : Int) == 46) = false := ef 46 (by omega)
          have q3 : ((n : Int) == 45) = false := ef 45 (by omega)
          have q4 : decide ((n : Int) ≤ 57) = false := decide_eq_false (by omega)
          have q5 : decide ((n : Int) ≤ 122) = false := decide_eq_false (by omega)
          clear ef
          go_wp2_with fail
          go_ret
          exact ⟨ret6_bool HX.out.symm, hbw.out⟩
      · obtain rfl : k = s.size := by omega
        have HQ := Lib.hid (HE.out hch.out)
        clear hk hks
        go_wp2_with fail
        go_ret
        exact ⟨ret6_bool HQ.out.symm, hbw.out⟩
end Go.Proofs.YtbdlegjklfkdmaaGreatDoor.Pl

namespace Go.Proofs.YtbdlegjklfkdmaaGreatDoor.Pl
open Go.RowKit

theorem conv_tail (w : World) (b off len cap : Nat) (l : List UInt8) (hl : l.length = len) (hc : ∀ j (hj : j < l.length), w.cell? ⟨b, off + j, none⟩ = some (.int .u8 (l[j].toNat : Int))) :
    (convert 121 9 (.slice (some ⟨b, off, none⟩) len cap)).run Tryz.prog w = .ok (.string ⟨l.toArray⟩) w := by
  subst hl
  exact run_convert_bytes_back w _ _ _ ⟨b, off, none⟩ cap l Tryz.underlying121 Tryz.underlying5 Tryz.underlying9 (fun j hj => by
    rw [show (⟨b, off, none⟩ : Addr).add j = ⟨b, off + j, none⟩ from by unfold Addr.add; split <;> simp_all]
    exact hc j hj)

theorem conv_lit (w : World) (C : Array Value) (t off len cap : Nat) (ns : List Nat) (h : ∀ n, n ∈ ns → n < 256) (hl : ns.length = len)
    (hC : C.toList.drop off = ns.map fun (n : Nat) => Value.int .u8 (n : Int)) :
    (convert 121 9 (.slice (some ⟨w.heap.size, off, none⟩) len cap)).run Tryz.prog (w.alloc (.cells C t)) = .ok (.string ⟨(ns.map UInt8.ofNat).toArray⟩) (w.alloc (.cells C t)) := by
  refine conv_tail _ _ _ _ _ (ns.map UInt8.ofNat) (by simpa using hl) ?_
  intro j hj
  rw [World.cell?_alloc_mark]
  have hj' : j < ns.length := by simpa using hj
  have h1 : (C.toList.drop off)[j]? = some (.int .u8 (ns[j] : Int)) := by rw [hC]; simp [hj']
  rw [List.getElem?_drop, Array.getElem?_toList] at h1
  rw [h1]
  have h2 := h ns[j] (List.getElem_mem hj')
  have h3 : ((ns.map UInt8.ofNat)[j]).toNat = ns[j] := by simp; omega
  rw [h3]

set_option maxRecDepth 100000 in
theorem num_any (v : Nat) (h8 : v < 256 ^ 8) (w : World) :
    Calls Tryz.prog 74 #[.int .u64 v] w fun e w' => e = .returned (.string ⟨(enc v).toArray⟩) ∧ Below w.heap.size w w' := by
  have h9 : v < 18446744073709551616 := by rw [two64] at h8; exact h8
  clear h8
  by_cases hv : v < 248
  · go_enter Tryz.func74, Tryz.ntmps74
    go_wp2
    rw [conv_lit w _ 140 8 1 1 [v] (by intro n hn; simp at hn; omega) rfl (by simp)]
    go_wp2
    go_ret
    refine ⟨?_, (Below.refl _ _).alloc (Nat.le_refl _) _⟩
    rw [enc_small hv]; rfl
  · go_enter Tryz.func74, Tryz.ntmps74
    go_wp2
    go_rounds 9
    · rw [conv_lit w _ 140 0 9 9 ((247 + 8) :: dn 8 v) (by intro n hn; simp [dn] at hn; omega) rfl (by simp [dn]; try omega)]
      go_wp2; go_ret
      refine ⟨?_, (Below.refl _ _).alloc (Nat.le_refl _) _⟩
      rw [enc_dn (k := 8) (by omega) hv (by simp; omega) (by simp; omega)]; rfl
    · rw [conv_lit w _ 140 1 8 8 ((247 + 7) :: dn 7 v) (by intro n hn; simp [dn] at hn; omega) rfl (by simp [dn]; try omega)]
      go_wp2; go_ret
      refine ⟨?_, (Below.refl _ _).alloc (Nat.le_refl _) _⟩
      rw [enc_dn (k := 7) (by omega) hv (by simp; omega) (by simp; omega)]; rfl
    · rw [conv_lit w _ 140 2 7 7 ((247 + 6) :: dn 6 v) (by intro n hn; simp [dn] at hn; omega) rfl (by simp [dn]; try omega)]
      go_wp2; go_ret
      refine ⟨?_, (Below.refl _ _).alloc (Nat.le_refl _) _⟩
      rw [enc_dn (k := 6) (by omega) hv (by simp; omega) (by simp; omega)]; rfl
    · rw [conv_lit w _ 140 3 6 6 ((247 + 5) :: dn 5 v) (by intro n hn; simp [dn] at hn; omega) rfl (by simp [dn]; try omega)]
      go_wp2; go_ret
      refine ⟨?_, (Below.refl _ _).alloc (Nat.le_refl _) _⟩
      rw [enc_dn (k := 5) (by omega) hv (by simp; omega) (by simp; omega)]; rfl
    · rw [conv_lit w _ 140 4 5 5 ((247 + 4) :: dn 4 v) (by intro n hn; simp [dn] at hn; omega) rfl (by simp [dn]; try omega)]
      go_wp2; go_ret
      refine ⟨?_, (Below.refl _ _).alloc (Nat.le_refl _) _⟩
      rw [enc_dn (k := 4) (by omega) hv (by simp; omega) (by simp; omega)]; rfl
    · rw [conv_lit w _ 140 5 4 4 ((247 + 3) :: dn 3 v) (by intro n hn; simp [dn] at hn; omega) rfl (by simp [dn]; try omega)]
      go_wp2; go_ret
      refine ⟨?_, (Below.refl _ _).alloc (Nat.le_refl _) _⟩
      rw [enc_dn (k := 3) (by omega) hv (by simp; omega) (by simp; omega)]; rfl
    · rw [conv_lit w _ 140 6 3 3 ((247 + 2) :: dn 2 v) (by intro n hn; simp [dn] at hn; omega) rfl (by simp [dn]; try omega)]
      go_wp2; go_ret
      refine ⟨?_, (Below.refl _ _).alloc (Nat.le_refl _) _⟩
      rw [enc_dn (k := 2) (by omega) hv (by simp; omega) (by simp; omega)]; rfl
    · rw [conv_lit w _ 140 7 2 2 ((247 + 1) :: dn 1 v) (by intro n hn; simp [dn] at hn; omega) rfl (by simp [dn]; try omega)]
      go_wp2; go_ret
      refine ⟨?_, (Below.refl _ _).alloc (Nat.le_refl _) _⟩
      rw [enc_dn (k := 1) (by omega) hv (by simp; omega) (by simp; omega)]; rfl
end Go.Proofs.YtbdlegjklfkdmaaGreatDoor.Pl

namespace Go.Proofs.YtbdlegjklfkdmaaGreatDoor.Pl
open Go.RowKit

theorem isEmpty_no {s : ByteArray} (h0 : 0 < s.size) : s.toList.isEmpty = false := by
  rw [ByteArray.toList_eq]
  have : s.data.toList.length = s.size := by simp
  cases hd : s.data.toList with
  | nil => rw [hd] at this; simp at this; omega
  | cons a r => rfl

set_option maxRecDepth 100000 in
theorem readnum_nil (w : World) :
    Calls Tryz.prog 87 #[.string ⟨#[]⟩] w fun e w' => e = .returned (.tuple #[.int .u64 0, .int .i64 0, .int .i64 6]) ∧ w = w' := by
  go_enter Tryz.func87, Tryz.ntmps87
  go_wp2
  go_ret3
  exact ⟨rfl, rfl⟩
set_option maxRecDepth 100000 in
theorem readnum_small (s : ByteArray) (h0 : 0 < s.size) (hb : s[0].toNat < 248) (w : World) :
    Calls Tryz.prog 87 #[.string s] w fun e w' => e = .returned (.tuple #[.int .u64 s[0].toNat, .int .i64 1, .int .i64 0]) ∧ w = w' := by
  have hne : s.toList.isEmpty = false := isEmpty_no h0
  go_enter Tryz.func87, Tryz.ntmps87
  go_wp2
  go_ret3
  exact ⟨rfl, rfl⟩
set_option maxRecDepth 100000 in
theorem readnum_end (s : ByteArray) (h0 : 0 < s.size) (hb : 248 ≤ s[0].toNat) (hb2 : s[0].toNat < 256) (hk : s.size - 1 < s[0].toNat - 247) (w : World) :
    Calls Tryz.prog 87 #[.string s] w fun e w' => e = .returned (.tuple #[.int .u64 0, .int .i64 0, .int .i64 6]) ∧ w = w' := by
  have hne : s.toList.isEmpty = false := isEmpty_no h0
  go_enter Tryz.func87, Tryz.ntmps87
  go_wp2
  go_ret3
  exact ⟨rfl, rfl⟩
set_option maxRecDepth 100000 in
theorem readnum_zero (s d : ByteArray) (hd : s.extract 1 s.size = d) (h0 : 0 < s.size) (hb : 248 ≤ s[0].toNat) (hb2 : s[0].toNat < 256) (hk : s[0].toNat - 247 ≤ d.size) (h1 : 0 < d.size) (hz : d[0].toNat = 0) (w : World) :
    Calls Tryz.prog 87 #[.string s] w fun e w' => e = .returned (.tuple #[.int .u64 0, .int .i64 0, .int .i64 7]) ∧ w = w' := by
  have hne : s.toList.isEmpty = false := isEmpty_no h0
  have hz' : ((d[0].toNat : Int) == 0) = true := by rw [hz]; rfl
  clear hz
  go_enter Tryz.func87, Tryz.ntmps87
  go_wp2
  go_ret3
  exact ⟨rfl, rfl⟩
set_option maxRecDepth 100000 in
theorem readnum_one (s d : ByteArray) (hd : s.extract 1 s.size = d) (h0 : 0 < s.size) (hb : s[0].toNat = 248) (h1 : 0 < d.size) (hz : d[0].toNat ≠ 0) (hz2 : d[0].toNat < 248) (w : World) :
    Calls Tryz.prog 87 #[.string s] w fun e w' => e = .returned (.tuple #[.int .u64 0, .int .i64 0, .int .i64 7]) ∧ w = w' := by
  have hne : s.toList.isEmpty = false := isEmpty_no h0
  have hz' : ((d[0].toNat : Int) == 0) = false := by rw [beq_eq_false_iff_ne]; omega
  clear hz
  go_enter Tryz.func87, Tryz.ntmps87
  go_wp2
  go_ret3
  exact ⟨rfl, rfl⟩
/-- A number of fewer than eight digits, and one digit more. -/
theorem or_digit (V : Nat) (b : UInt8) (hV : V < 256 ^ 7) : bits .or .u64 (IntKind.u64.wrap ((V : Int) * 256)) (IntKind.u64.wrap (b.toNat : Int)) = ((V * 256 + b.toNat : Nat) : Int) := by
  have hb : b.toNat < 256 := b.toNat_lt
  have h7 : V < 72057594037927936 := hV
  have e1 : IntKind.u64.wrap ((V : Int) * 256) = ((V * 256 : Nat) : Int) := by rw [IntWalk.u64_in _ (by omega)]; omega
  have e2 : IntKind.u64.wrap (b.toNat : Int) = (b.toNat : Int) := IntWalk.u64_in _ (by omega)
  rw [e1, e2, bits_or_u64_nat _ _ (by omega) (by omega)]
  have h := Nat.two_pow_add_eq_or_of_lt (i := 8) (b := b.toNat) (by omega) V
  have h2 : 2 ^ 8 * V = V * 256 := by omega
  rw [h2] at h
  rw [← h]
theorem val_take (l : List UInt8) (j : Nat) (h : j < l.length) : val (l.take (j + 1)) = val (l.take j) * 256 + l[j].toNat := by
  rw [List.take_succ_eq_append_getElem h, val_snoc]
theorem or_zero64 (b : UInt8) : bits .or .u64 0 (IntKind.u64.wrap (b.toNat : Int)) = (b.toNat : Int) := by
  have h := or_digit 0 b (by decide)
  have e : IntKind.u64.wrap (((0 : Nat) : Int) * 256) = 0 := by rw [IntWalk.u64_in _ (by omega)]; omega
  rw [e] at h
  rw [h]; simp
set_option maxRecDepth 100000 in
theorem readnum_ok1 (s d : ByteArray) (hd : s.extract 1 s.size = d) (h0 : 0 < s.size) (hb : s[0].toNat = 248) (h1 : 0 < d.size) (hz2 : 248 ≤ d[0].toNat) (w : World) :
    Calls Tryz.prog 87 #[.string s] w fun e w' => e = .returned (.tuple #[.int .u64 d[0].toNat, .int .i64 2, .int .i64 0]) ∧ w = w' := by
  have hne : s.toList.isEmpty = false := isEmpty_no h0
  have hz' : ((d[0].toNat : Int) == 0) = false := by rw [beq_eq_false_iff_ne]; omega
  go_enter Tryz.func87, Tryz.ntmps87
  go_wp2
  go_rounds 2
  go_ret3
  exact ⟨ret3 (or_zero64 _), rfl⟩
set_option maxRecDepth 100000 in
theorem readnum_okk (s d : ByteArray) (k : Nat) (hd : s.extract 1 s.size = d) (h0 : 0 < s.size) (hb : s[0].toNat = 247 + k) (hk2 : 2 ≤ k) (hk8 : k ≤ 8) (h1 : k ≤ d.size) (h1' : 0 < d.size) (hz : d[0].toNat ≠ 0) (w : World) :
    Calls Tryz.prog 87 #[.string s] w fun e w' => e = .returned (.tuple #[.int .u64 (val (d.data.toList.take k)), .int .i64 (1 + k), .int .i64 0]) ∧ w = w' := by
  have hne : s.toList.isEmpty = false := isEmpty_no h0
  have hz' : ((d[0].toNat : Int) == 0) = false := by rw [beq_eq_false_iff_ne]; omega
  have hk1 : ((k : Int) == 1) = false := by rw [beq_eq_false_iff_ne]; omega
  have hk7 : (247 + (k : Int) - 247) = k := by omega
  have hd1 : decide (d.size < k) = false := by simp; omega
  have hd2 : decide (247 + (k : Int) < 248) = false := by simp; omega
  clear hz
  go_enter Tryz.func87, Tryz.ntmps87
  go_wp2
  go_loop [2, 39] (fun v i => ∃ j : Nat, j ≤ k ∧ i = .int .i64 j ∧ v = .int .u64 (val (d.data.toList.take j))) (fun _ i => k - (intOf i).toNat)
  case atStart => exact ⟨0, Nat.zero_le _, rfl, rfl⟩
  case round =>
    obtain ⟨j, hj, rfl, rfl⟩ := hrel
    have HS : Hid (∀ h : j < d.size, val (d.data.toList.take (j + 1)) = val (d.data.toList.take j) * 256 + d[j].toNat) := fun h => val_take d.data.toList j (by simpa using h)
    have HV : Hid (j < k → val (d.data.toList.take j) < 256 ^ 7) := fun h => by
      have h2 := val_lt (d.data.toList.take j)
      exact Nat.lt_of_lt_of_le h2 (Nat.pow_le_pow_right (by decide) (by simp; omega))
    clear hz' hk1 hk7 hne hd1 hd2
    go_wp2
    · have hlt : j < k := by assumption
      go_round
      case rel => exact ⟨j + 1, by omega, by go_num, by rw [HS.out (by omega), ← or_digit _ _ (HV.out hlt)]⟩
      case measure => simp [intOf]; omega
    · obtain rfl : j = k := by omega
      go_ret3
      exact ⟨rfl, rfl⟩
/-- ReadNum, whatever it is given. -/
theorem readnum_any (s : ByteArray) (hs : s.size ≤ 9223372036854775807) (w : World) :
    Calls Tryz.prog 87 #[.string s] w fun e w' => e = .returned (.tuple #[.int .u64 (rdn s.data.toList).1, .int .i64 (rdn s.data.toList).2.1, .int .i64 (rdn s.data.toList).2.2]) ∧ w = w' := by
  by_cases h0 : 0 < s.size
  · have hd : ∃ d, s.extract 1 s.size = d := ⟨_, rfl⟩
    obtain ⟨d, hd⟩ := hd
    have hdd : d.data.toList = s.data.toList.drop 1 := by
      rw [← hd]
      have := Lib.extract_data s 1 s.size
      rw [this]
      exact List.take_of_length_le (by simp)
    have hds : d.size = s.size - 1 := by
      have : d.data.toList.length = s.size - 1 := by rw [hdd]; simp
      simpa using this
    have hlist : s.data.toList = s[0] :: d.data.toList := by
      rw [hdd]
      have h1 : s.data.toList.length = s.size := by simp
      cases hl : s.data.toList with
      | nil => rw [hl] at h1; simp at h1; omega
      | cons a r =>
        have : s[0] = a := by
          have h2 : s.data.toList[0]'(by omega) = a := by simp [hl]
          exact h2
        simp [this]
    have hhd : ∀ h : 0 < d.size, d.data.toList.headD 0 = d[0] := by
      intro h
      have h1 : d.data.toList.length = d.size := by simp
      cases hl : d.data.toList with
      | nil => rw [hl] at h1; simp at h1; omega
      | cons a r =>
        have h2 : d.data.toList[0]'(by omega) = a := by simp [hl]
        exact h2.symm
    have hb2 : s[0].toNat < 256 := s[0].toNat_lt
    have hdl : d.data.toList.length = d.size := by simp
    rw [hlist]
    by_cases hb : s[0].toNat < 248
    · rw [rdn_small _ _ hb]
      exact readnum_small s h0 hb w
    · by_cases hk : d.size < s[0].toNat - 247
      · rw [rdn_end _ _ hb (by omega)]
        exact readnum_end s h0 (by omega) hb2 (by omega) w
      · have h1 : 0 < d.size := by omega
        have hh := hhd h1
        by_cases hz : d[0].toNat = 0
        · rw [rdn_form _ _ hb (by omega) (.inl (by rw [hh]; exact UInt8.toNat.inj (by simpa using hz)))]
          exact readnum_zero s d hd h0 (by omega) hb2 (by omega) h1 hz w
        · have hz' : ¬ d.data.toList.headD 0 = 0 := fun e => hz (by rw [← hh, e]; rfl)
          by_cases hone : s[0].toNat = 248
          · by_cases hz2 : d[0].toNat < 248
            · rw [rdn_form _ _ hb (by omega) (.inr ⟨hone, by rw [hh]; exact hz2⟩)]
              exact readnum_one s d hd h0 hone h1 hz hz2 w
            · rw [rdn_ok _ _ hb (by omega) (by
                intro h
                rcases h with h | ⟨_, h⟩
                · exact hz' h
                · rw [hh] at h; exact hz2 h), hone]
              have e1 : val (d.data.toList.take (248 - 247)) = d[0].toNat := by
                rw [← hh]
                cases hl : d.data.toList with
                | nil => rw [hl] at hdl; simp at hdl; omega
                | cons a r => simp [val]
              rw [e1]
              exact readnum_ok1 s d hd h0 hone h1 (by omega) w
          · have ⟨k, hk2⟩ : ∃ k, s[0].toNat = 247 + k := ⟨s[0].toNat - 247, by omega⟩
            rw [rdn_ok _ _ hb (by omega) (by
                intro h
                rcases h with h | ⟨h, _⟩
                · exact hz' h
                · exact hone h), hk2, Nat.add_sub_cancel_left]
            exact readnum_okk s d k hd h0 hk2 (by omega) (by omega) (by omega) h1 hz w
  · have : s = ⟨#[]⟩ := by
      cases s with
      | mk a =>
        have h2 : a.size = 0 := by simpa [ByteArray.size] using h0
        rw [Array.eq_empty_of_size_eq_zero h2]
    subst this
    exact readnum_nil w
end Go.Proofs.YtbdlegjklfkdmaaGreatDoor.Pl

namespace Go.Proofs.YtbdlegjklfkdmaaGreatDoor.Pl
open Go.RowKit

theorem conv_at (W : World) (b : Nat) (x : Int) (h : W.cell? ⟨b, 0, none⟩ = some (.int .u8 x)) :
    (convert 121 9 (.slice (some ⟨b, 0, none⟩) 1 1)).run Tryz.prog W = .ok (.string ⟨#[UInt8.ofNat x.toNat]⟩) W := by
  rw [run_convert_bytes_string W _ _ _ (some ⟨b, 0, none⟩) 1 1 Tryz.underlying121 Tryz.underlying5 Tryz.underlying9]
  have hl := run_loadCells_list (P := Tryz.prog) W ⟨b, 0, none⟩ ([x].map (Value.int .u8)) (fun j v hj => by
    have hj' := (List.getElem?_eq_some_iff.1 hj).1
    obtain rfl : j = 0 := by simp at hj'; omega
    simp at hj
    rw [← hj]
    exact h)
  rw [run_bytesToString W ⟨b, 0, none⟩ 1 1 [x] hl]
  rfl
theorem conv_new (W : World) (x : Int) (T : TypeId) :
    (convert 121 9 (.slice (some ⟨W.heap.size, 0, none⟩) 1 1)).run Tryz.prog (W.alloc (.cells #[.int .u8 x] T)) = .ok (.string ⟨#[UInt8.ofNat x.toNat]⟩) (W.alloc (.cells #[.int .u8 x] T)) :=
  conv_at _ _ x (by rw [World.cell?_alloc_mark]; rfl)
theorem conv_newd (W : World) (x : Int) (T : TypeId) :
    (convert 121 9 (.slice (some ⟨W.heap.size, 0, none⟩) 1 1)).run Tryz.prog (W.alloc (.cells #[.int .u8 x] T)).drew = .ok (.string ⟨#[UInt8.ofNat x.toNat]⟩) (W.alloc (.cells #[.int .u8 x] T)).drew :=
  conv_at _ _ x (by rw [show (W.alloc (.cells #[.int .u8 x] T)).drew.cell? ⟨W.heap.size, 0, none⟩ = (W.alloc (.cells #[.int .u8 x] T)).cell? ⟨W.heap.size, 0, none⟩ from rfl, World.cell?_alloc_mark]; rfl)
attribute [local go_sem] conv_new conv_newd
theorem conv_kept {a w1 : World} (hb : Below a.heap.size a w1) (x : Int) : ∀ b, a.cell? ⟨b, 0, none⟩ = some (.int .u8 x) →
    (convert 121 9 (.slice (some ⟨b, 0, none⟩) 1 1)).run Tryz.prog w1 = .ok (.string ⟨#[UInt8.ofNat x.toNat]⟩) w1 :=
  fun b h => conv_at w1 b x ((hb.cell (p := ⟨b, 0, none⟩) (World.block_lt_of_cell? _ _ h)).trans h)



set_option maxRecDepth 100000 in
theorem digits_any (f : Nat) : ∀ (v : Nat) (w : World), v < 256 ^ f → f ≤ 8 →
    Calls Tryz.prog 113 #[.int .u64 v] w fun e w' => e = .returned (.string ⟨(dig f v).toArray⟩) ∧ Below w.heap.size w w' := by
  induction f with
  | zero =>
    intro v w hv _
    obtain rfl : v = 0 := by simpa using hv
    go_enter Tryz.func113, Tryz.ntmps113
    go_wp2_with fail
    go_ret
    exact ⟨rfl, Below.refl _ _⟩
  | succ f ih =>
    intro v w hv hf
    by_cases h0 : v = 0
    · subst h0
      go_enter Tryz.func113, Tryz.ntmps113
      go_wp2_with fail
      go_ret
      exact ⟨rfl, Below.refl _ _⟩
    · have hz : ((v : Int) == 0) = false := by rw [beq_eq_false_iff_ne]; omega
      have h9 : v < 18446744073709551616 := by rw [← two64]; exact Nat.lt_of_lt_of_le hv (Nat.pow_le_pow_right (by decide) hf)
      have hl := dig_length_le f (v / 256)
      have ih' : ∀ W, Calls Tryz.prog 113 #[.int .u64 ((v : Int) / 256)] W fun e w' => e = .returned (.string ⟨(dig f (v / 256)).toArray⟩) ∧ Below W.heap.size W w' := fun W => by
        have h := ih (v / 256) W (by rw [Nat.pow_succ] at hv; omega) (by omega)
        have e : ((v / 256 : Nat) : Int) = (v : Int) / 256 := by omega
        rw [e] at h
        exact h
      have IH := Lib.hid ih'
      have HD := Lib.hid (dig_succ f v h0)
      clear ih ih' hv h0
      go_enter Tryz.func113, Tryz.ntmps113
      go_wp2_with fail

      have hw1 : IntKind.u64.wrap ((v : Int) / 256) = (v : Int) / 256 := IntWalk.u64_in _ (by omega)
      have hw2 : IntKind.u64.wrap ((v : Int) % 256) = (v : Int) % 256 := IntWalk.u64_in _ (by omega)
      have hw4 : (v : Int).tmod 256 = (v : Int) % 256 := Int.tmod_eq_emod_of_nonneg (by omega)
      have hw3 : IntKind.u8.wrap ((v : Int) % 256) = (v : Int) % 256 := IntWalk.u8_in _ (by omega)
      go_region_with (go_at_call 113; refine (IH.out _).mono ?_; rintro e w1 ⟨rfl, hb⟩; have hcv := conv_kept hb ((v : Int) % 256))
      all_goals go_wp2_with fail
      all_goals go_ret
      all_goals refine ⟨ret_str (by rw [HD.out]; exact ByteArray.mk_append_mk _ _), ?_⟩
      · exact (below_undrew hb).alloc (below_undrew hb).size _
      · exact below_step ((Below.refl _ _).alloc (Nat.le_refl _) _) (below_undrew hb)
      · exact below_step ((Below.refl _ _).alloc (Nat.le_refl _) _) (below_undrew hb)

set_option maxRecDepth 100000 in
theorem refnum_any (v : Nat) (h8 : v < 256 ^ 8) (w : World) :
    Calls Tryz.prog 78 #[.int .u64 v] w fun e w' => e = .returned (.string ⟨(enc v).toArray⟩) ∧ Below w.heap.size w w' := by
  by_cases hv : v < 248
  · go_enter Tryz.func78, Tryz.ntmps78
    go_wp2_with fail
    go_ret
    exact ⟨ret_str (by rw [enc_small hv]), (Below.refl _ _).alloc (Nat.le_refl _) _⟩
  · have hl := dig_length_le 8 v
    have HD := Lib.hid (fun W => digits_any 8 v W h8 (Nat.le_refl _))
    have HE := Lib.hid (enc_big hv)
    clear h8
    go_enter Tryz.func78, Tryz.ntmps78
    go_wp2_with fail
    refine (HD.out _).mono ?_; rintro e w1 ⟨rfl, hb⟩
    go_wp2_with fail
    go_ret
    refine ⟨ret_str ?_, hb.alloc hb.size _⟩
    rw [HE.out, ByteArray.mk_append_mk, UInt8.ofNat_add]
    rfl
end Go.Proofs.YtbdlegjklfkdmaaGreatDoor.Pl

namespace Go.Proofs.YtbdlegjklfkdmaaGreatDoor.Pl

theorem rdt_step {l : List UInt8} {m : Int} (h : (rdt l m).2.2 = 0) : 1 ≤ (rdt l m).2.1 ∧ (rdt l m).2.1 ≤ l.length := by
  have e : rdt l m = ((rdt l m).1, (rdt l m).2.1, 0) := by rw [← h]
  obtain ⟨h1, h2, _⟩ := rdt_sound e
  exact ⟨h1, h2⟩
theorem rdt_size (l : List UInt8) (m : Int) : (rdt l m).2.1 ≤ l.length := by
  by_cases h : (rdt l m).2.2 = 0
  · exact (rdt_step h).2
  · have ⟨v, n, e, hr⟩ : ∃ v n e, rdn l = (v, n, e) := ⟨_, _, _, rfl⟩
    by_cases he : e = 0
    · subst he
      by_cases h1 : max m 0 < (v : Int)
      · rw [rdt_long hr h1]; simp
      · by_cases h2 : l.length - n < v
        · rw [rdt_end hr h1 h2]; simp
        · rw [rdt_ok hr h1 h2] at h; simp at h
    · rw [rdt_err hr he]; simp
end Go.Proofs.YtbdlegjklfkdmaaGreatDoor.Pl

namespace Go.Proofs.YtbdlegjklfkdmaaGreatDoor.Pl

/-- An organisation. -/
def inO (a : Int) : Prop := 0 ≤ a ∧ a < 8
instance (a : Int) : Decidable (inO a) := inferInstanceAs (Decidable (_ ∧ _))
/-- The name of a key of two: its letter, the lower number, the higher one. -/
def nm (c : UInt8) (x y : Nat) : List UInt8 := [c, 47, UInt8.ofNat (48 + min x y), 47, UInt8.ofNat (48 + max x y)]
def nameK (c : UInt8) (a b : Int) : List UInt8 × Nat := if inO a ∧ inO b then (nm c a.toNat b.toNat, 0) else ([], 2)
end Go.Proofs.YtbdlegjklfkdmaaGreatDoor.Pl
