/- The encoding of numbers, texts and rows of texts as lists of bytes, and what holds of it; plain mathematics alone, no program. Texts as bytes, and what a reader of them answers; plain mathematics alone, no program. Terms as bytes, and as trees: what is read of bytes, that it is a tree's, and just one's; plain mathematics alone. What stands at a term's places; one term swapped for another, and back; plain mathematics alone. Which kinds of terms there are, what makes them, and what their parts make again; plain mathematics alone. What a suite makes of texts, what it opens and what images are, over plain bytes, whatever its sums and seals are; plain mathematics alone. What the stage's theorems about suites come down to: images of keys, what was sealed is opened, with no other key, unlike results of unlike texts; plain mathematics alone. Rows of numbers as the cells of an array. Small facts that the walks share: worlds in which nothing old has turned, and endings. What a law's statement asks behind its walk: the one result is true, and each argument reads as it did, where below the heap's old size nothing has turned. Whatever the parameters' types are. -/
import GoSem.Op.String
import Derived.WalkKit
import Derived.Deep.WholeRow
import Derived.Deep.Draws
import Derived.Test.YtedidoeoomijjaaDoorProg
import Derived.ProofKit
import Derived.OpenShut
import Derived.Carry
import Derived.ChangeOld
namespace Go.Proofs.YtedidoeoomijjaaDoor.Pl

/-- The digits of v to the base 256, the highest first, no more than f of them; of 0 none. -/
def dig : Nat → Nat → List UInt8
  | 0, _ => []
  | f + 1, v => if v = 0 then [] else dig f (v / 256) ++ [UInt8.ofNat (v % 256)]

/-- The encoding of a number. -/
def enc (v : Nat) : List UInt8 := if v < 248 then [UInt8.ofNat v] else UInt8.ofNat (247 + (dig 8 v).length) :: dig 8 v

/-- The number that digits are. -/
def val (l : List UInt8) : Nat := l.foldl (fun a b => a * 256 + b.toNat) 0

theorem val_nil : val [] = 0 := rfl
theorem val_snoc (l : List UInt8) (b : UInt8) : val (l ++ [b]) = val l * 256 + b.toNat := by simp [val, List.foldl_append]
theorem foldl_val (l : List UInt8) : ∀ a, l.foldl (fun a b => a * 256 + b.toNat) a = a * 256 ^ l.length + val l := by
  induction l with
  | nil => intro a; simp [val]
  | cons b r ih =>
    intro a
    have h1 := ih (a * 256 + b.toNat)
    have h2 := ih (0 * 256 + b.toNat)
    show r.foldl _ (a * 256 + b.toNat) = _
    have h3 : val (b :: r) = r.foldl (fun a b => a * 256 + b.toNat) (0 * 256 + b.toNat) := rfl
    rw [h1, h3, h2, List.length_cons, Nat.pow_succ]
    simp only [Nat.add_mul, Nat.zero_mul, Nat.zero_add]
    have : a * 256 * 256 ^ r.length = a * (256 ^ r.length * 256) := by rw [Nat.mul_assoc, Nat.mul_comm 256]
    omega
theorem val_cons (b : UInt8) (r : List UInt8) : val (b :: r) = b.toNat * 256 ^ r.length + val r := by
  have h := foldl_val r (0 * 256 + b.toNat)
  have h3 : val (b :: r) = r.foldl (fun a b => a * 256 + b.toNat) (0 * 256 + b.toNat) := rfl
  rw [h3, h]; simp
theorem val_lt (l : List UInt8) : val l < 256 ^ l.length := by
  induction l with
  | nil => simp [val]
  | cons b r ih =>
    rw [val_cons, List.length_cons, Nat.pow_succ]
    have hb : b.toNat < 256 := b.toNat_lt
    have : b.toNat * 256 ^ r.length + 256 ^ r.length ≤ 256 ^ r.length * 256 := by
      rw [← Nat.succ_mul, Nat.mul_comm]
      exact Nat.mul_le_mul_left _ hb
    omega

theorem dig_zero (f : Nat) : dig f 0 = [] := by cases f <;> simp [dig]
theorem dig_succ (f v : Nat) (h : v ≠ 0) : dig (f + 1) v = dig f (v / 256) ++ [UInt8.ofNat (v % 256)] := by simp [dig, h]

theorem val_dig (f : Nat) : ∀ v, v < 256 ^ f → val (dig f v) = v := by
  induction f with
  | zero => intro v h; have : v = 0 := by simpa using h
            subst this; rfl
  | succ f ih =>
    intro v h
    by_cases h0 : v = 0
    · subst h0; rw [dig_zero]; rfl
    · rw [dig_succ f v h0, val_snoc, ih (v / 256) (by rw [Nat.pow_succ] at h; omega)]
      have : (UInt8.ofNat (v % 256)).toNat = v % 256 := by simp
      omega

/-- Digits that do not begin with 0 are the digits of their number. -/
theorem dig_val (f : Nat) : ∀ l : List UInt8, l.length ≤ f → l.head? ≠ some 0 → dig f (val l) = l := by
  induction f with
  | zero => intro l h _; have : l = [] := List.eq_nil_of_length_eq_zero (by omega)
            subst this; rfl
  | succ f ih =>
    intro l hl hh
    rcases List.eq_nil_or_concat l with rfl | ⟨r, b, rfl⟩
    · rw [val_nil, dig_zero]
    · rw [List.concat_eq_append] at *
      have hb : b.toNat < 256 := b.toNat_lt
      have hv : val (r ++ [b]) ≠ 0 := by
        rw [val_snoc]
        intro h0
        cases r with
        | nil =>
          simp at hh
          apply hh
          have : b.toNat = 0 := by omega
          exact UInt8.toNat.inj (by simpa using this)
        | cons c r =>
          rw [val_cons] at h0
          simp at hh
          have h1 : 0 < 256 ^ r.length := Nat.pow_pos (by decide)
          have h2 : c.toNat * 256 ^ r.length = 0 := by omega
          have h3 : c.toNat = 0 := by
            rcases Nat.mul_eq_zero.1 h2 with h | h
            · exact h
            · omega
          exact hh (UInt8.toNat.inj (by simpa using h3))
      rw [dig_succ f _ hv, val_snoc]
      have e1 : (val r * 256 + b.toNat) / 256 = val r := by omega
      have e2 : (val r * 256 + b.toNat) % 256 = b.toNat := by omega
      rw [e1, e2, ih r (by simp at hl; omega) (by
        cases r with
        | nil => simp
        | cons c r => simpa using hh)]
      simp

theorem dig_length_le (f : Nat) : ∀ v, (dig f v).length ≤ f := by
  induction f with
  | zero => intro v; simp [dig]
  | succ f ih =>
    intro v
    by_cases h0 : v = 0
    · subst h0; rw [dig_zero]; simp
    · rw [dig_succ f v h0]; have := ih (v / 256); simp; omega

theorem dig_head (f : Nat) : ∀ v, v < 256 ^ f → (dig f v).head? ≠ some 0 := by
  induction f with
  | zero => intro v _; simp [dig]
  | succ f ih =>
    intro v h
    by_cases h0 : v = 0
    · subst h0; rw [dig_zero]; simp
    · rw [dig_succ f v h0]
      have h1 := ih (v / 256) (by rw [Nat.pow_succ] at h; omega)
      cases hd : dig f (v / 256) with
      | nil =>
        have h2 := val_dig f (v / 256) (by rw [Nat.pow_succ] at h; omega)
        rw [hd, val_nil] at h2
        simp
        intro h3
        have h4 : (UInt8.ofNat (v % 256)).toNat = v % 256 := by simp
        rw [h3] at h4
        simp at h4
        omega
      | cons c r => rw [hd] at h1; simpa using h1

theorem dig_pos (v : Nat) (h : v ≠ 0) : 0 < (dig 8 v).length := by
  rw [dig_succ 7 v h]; simp

theorem val_pos {l : List UInt8} (h : l.head? ≠ some 0) : 256 ^ l.length ≤ val l * 256 ∨ l = [] := by
  cases l with
  | nil => exact .inr rfl
  | cons c r =>
    left
    rw [val_cons, List.length_cons, Nat.pow_succ]
    have hc : c.toNat ≠ 0 := fun h0 => h (by simp; exact UInt8.toNat.inj (by simpa using h0))
    have : 1 * 256 ^ r.length ≤ c.toNat * 256 ^ r.length := Nat.mul_le_mul_right _ (by omega)
    omega

/-- Less, at a first difference. -/
def SLt (l m : List UInt8) : Prop := ∃ p a b r s, l = p ++ a :: r ∧ m = p ++ b :: s ∧ a < b
theorem SLt.append {l m : List UInt8} (h : SLt l m) (x y : List UInt8) : SLt (l ++ x) (m ++ y) := by
  obtain ⟨p, a, b, r, s, rfl, rfl, hab⟩ := h
  exact ⟨p, a, b, r ++ x, s ++ y, by simp, by simp, hab⟩
theorem SLt.cons {l m : List UInt8} (h : SLt l m) (c : UInt8) : SLt (c :: l) (c :: m) := by
  obtain ⟨p, a, b, r, s, rfl, rfl, hab⟩ := h
  exact ⟨c :: p, a, b, r, s, by simp, by simp, hab⟩
theorem SLt.less {l m : List UInt8} (h : SLt l m) : Op.bytesLess l m = true := by
  obtain ⟨p, a, b, r, s, rfl, rfl, hab⟩ := h
  induction p with
  | nil => simp [Op.bytesLess, hab]
  | cons c p ih => simp [Op.bytesLess, ih]
theorem SLt.more {l m : List UInt8} (h : SLt l m) : Op.bytesLess m l = false := by
  obtain ⟨p, a, b, r, s, rfl, rfl, hab⟩ := h
  induction p with
  | nil =>
    have h1 : ¬ b < a := fun h => absurd (UInt8.lt_trans h hab) (UInt8.lt_irrefl _)
    have h2 : b ≠ a := fun h => by subst h; exact UInt8.lt_irrefl _ hab
    simp [Op.bytesLess, h1, h2]
  | cons c p ih => 
    have h1 : ¬ c < c := UInt8.lt_irrefl _
    simp only [List.cons_append, Op.bytesLess, ih]
    simp [h1]
theorem SLt.ne {l m : List UInt8} (h : SLt l m) : l ≠ m := by
  intro e
  subst e
  have := h.less
  rw [h.more] at this
  cases this
theorem SLt.not_prefix {l m : List UInt8} (h : SLt l m) : ∀ k, m.take k ≠ l := by
  obtain ⟨p, a, b, r, s, rfl, rfl, hab⟩ := h
  intro k hk
  have h1 : ((p ++ b :: s).take k)[p.length]? = some a := by rw [hk]; simp
  rw [List.getElem?_take] at h1
  split at h1
  · simp at h1; subst h1; exact UInt8.lt_irrefl _ hab
  · cases h1
theorem SLt.not_prefix' {l m : List UInt8} (h : SLt l m) : ∀ k, l.take k ≠ m := by
  obtain ⟨p, a, b, r, s, rfl, rfl, hab⟩ := h
  intro k hk
  have h1 : ((p ++ a :: r).take k)[p.length]? = some b := by rw [hk]; simp
  rw [List.getElem?_take] at h1
  split at h1
  · simp at h1; subst h1; exact UInt8.lt_irrefl _ hab
  · cases h1
theorem bytesLess_irrefl (l : List UInt8) : Op.bytesLess l l = false := by
  induction l with
  | nil => rfl
  | cons c p ih => simp only [Op.bytesLess, ih]; simp [UInt8.lt_irrefl c]

theorem slt_of_val : ∀ l m : List UInt8, l.length = m.length → val l < val m → SLt l m := by
  intro l
  induction l with
  | nil =>
    intro m h1 h2
    have : m = [] := List.eq_nil_of_length_eq_zero (by simpa using h1.symm)
    subst this; exact absurd h2 (Nat.lt_irrefl _)
  | cons a r ih =>
    intro m h1 h2
    cases m with
    | nil => simp at h1
    | cons b s =>
      have hl : r.length = s.length := by simpa using h1
      rw [val_cons, val_cons, ← hl] at h2
      have v1 := val_lt r
      have v2 := val_lt s
      rw [← hl] at v2
      by_cases hab : a = b
      · subst hab
        exact (ih s hl (by omega)).cons a
      · by_cases hlt : a < b
        · exact ⟨[], a, b, r, s, rfl, rfl, hlt⟩
        · exfalso
          have h3 : b.toNat < a.toNat := by
            rcases Nat.lt_trichotomy a.toNat b.toNat with h | h | h
            · exact absurd (UInt8.lt_iff_toNat_lt.2 h) hlt
            · exact absurd (UInt8.toNat.inj h) hab
            · exact h
          have h4 : (b.toNat + 1) * 256 ^ r.length ≤ a.toNat * 256 ^ r.length := Nat.mul_le_mul_right _ h3
          rw [Nat.succ_mul] at h4
          omega

theorem enc_small {v : Nat} (h : v < 248) : enc v = [UInt8.ofNat v] := by simp [enc, h]
theorem enc_big {v : Nat} (h : ¬ v < 248) : enc v = UInt8.ofNat (247 + (dig 8 v).length) :: dig 8 v := by simp [enc, h]
theorem two64 : (256 : Nat) ^ 8 = 18446744073709551616 := by decide

/-- Numbers in their order have encodings in theirs. -/
theorem enc_slt {v w : Nat} (h : v < w) (hw : w < 256 ^ 8) : SLt (enc v) (enc w) := by
  have hv : v < 256 ^ 8 := by omega
  by_cases h1 : w < 248
  · rw [enc_small h1, enc_small (by omega : v < 248)]
    refine ⟨[], _, _, [], [], rfl, rfl, ?_⟩
    rw [UInt8.lt_iff_toNat_lt]; simp; omega
  · rw [enc_big h1]
    have lw := dig_length_le 8 w
    have pw := dig_pos w (by omega)
    by_cases h2 : v < 248
    · rw [enc_small h2]
      refine ⟨[], _, _, [], _, rfl, rfl, ?_⟩
      rw [UInt8.lt_iff_toNat_lt]; simp; omega
    · rw [enc_big h2]
      have lv := dig_length_le 8 v
      have ev := val_dig 8 v hv
      have ew := val_dig 8 w hw
      rcases Nat.lt_trichotomy (dig 8 v).length (dig 8 w).length with hl | hl | hl
      · refine ⟨[], _, _, _, _, rfl, rfl, ?_⟩
        rw [UInt8.lt_iff_toNat_lt]; simp; omega
      · rw [hl]
        exact (slt_of_val _ _ hl (by omega)).cons _
      · exfalso
        have b1 := val_lt (dig 8 w)
        rcases val_pos (dig_head 8 v hv) with b2 | b2
        · rw [ev] at b2
          rw [ew] at b1
          have b3 : (256 : Nat) ^ ((dig 8 w).length + 1) ≤ 256 ^ (dig 8 v).length := Nat.pow_le_pow_right (by decide) hl
          rw [Nat.pow_succ] at b3
          omega
        · rw [b2] at hl; simp at hl

theorem enc_inj {v w : Nat} (hv : v < 256 ^ 8) (hw : w < 256 ^ 8) (h : enc v = enc w) : v = w := by
  rcases Nat.lt_trichotomy v w with h1 | h1 | h1
  · exact absurd h (enc_slt h1 hw).ne
  · exact h1
  · exact absurd h.symm (enc_slt h1 hv).ne

theorem enc_len (v : Nat) : 1 ≤ (enc v).length ∧ (enc v).length ≤ 9 := by
  by_cases h : v < 248
  · rw [enc_small h]; simp
  · rw [enc_big h]; have := dig_length_le 8 v; simp; omega

/-- What a reader of a number answers: the number, how many bytes it has, what is wrong. -/
def rdn (l : List UInt8) : Nat × Nat × Nat :=
  match l with
  | [] => (0, 0, 6)
  | b :: r =>
    if b.toNat < 248 then (b.toNat, 1, 0)
    else if r.length < b.toNat - 247 then (0, 0, 6)
    else if r.headD 0 = 0 ∨ (b.toNat = 248 ∧ (r.headD 0).toNat < 248) then (0, 0, 7)
    else (val (r.take (b.toNat - 247)), 1 + (b.toNat - 247), 0)

theorem rdn_small (b : UInt8) (r : List UInt8) (h : b.toNat < 248) : rdn (b :: r) = (b.toNat, 1, 0) := by simp [rdn, h]
theorem rdn_end (b : UInt8) (r : List UInt8) (h : ¬ b.toNat < 248) (h2 : r.length < b.toNat - 247) : rdn (b :: r) = (0, 0, 6) := by simp [rdn, h, h2]
theorem rdn_form (b : UInt8) (r : List UInt8) (h : ¬ b.toNat < 248) (h2 : ¬ r.length < b.toNat - 247) (h3 : r.headD 0 = 0 ∨ (b.toNat = 248 ∧ (r.headD 0).toNat < 248)) : rdn (b :: r) = (0, 0, 7) := by
  simp only [rdn]; rw [if_neg h, if_neg h2, if_pos h3]
theorem rdn_ok (b : UInt8) (r : List UInt8) (h : ¬ b.toNat < 248) (h2 : ¬ r.length < b.toNat - 247) (h3 : ¬ (r.headD 0 = 0 ∨ (b.toNat = 248 ∧ (r.headD 0).toNat < 248))) :
    rdn (b :: r) = (val (r.take (b.toNat - 247)), 1 + (b.toNat - 247), 0) := by
  simp only [rdn]; rw [if_neg h, if_neg h2, if_neg h3]

/-- Of a number whose digits are read: what would be put is what was read, just if nothing is wrong with its form. -/
theorem enc_val {d : List UInt8} (hl : 1 ≤ d.length) (h8 : d.length ≤ 8) :
    enc (val d) = UInt8.ofNat (247 + d.length) :: d ↔ ¬ (d.headD 0 = 0 ∨ (d.length = 1 ∧ (d.headD 0).toNat < 248)) := by
  cases d with
  | nil => simp at hl
  | cons c r =>
    simp only [List.headD_cons]
    constructor
    · intro h hbad
      rcases hbad with hc | ⟨h1, hc⟩
      · by_cases hs : val (c :: r) < 248
        · rw [enc_small hs] at h; simp at h
        · rw [enc_big hs] at h
          have h2 : dig 8 (val (c :: r)) = c :: r := by injection h
          have h3 := dig_head 8 (val (c :: r)) (by
            have := val_lt (c :: r)
            exact Nat.lt_of_lt_of_le this (Nat.pow_le_pow_right (by decide) h8))
          rw [h2] at h3
          simp at h3
          exact h3 hc
      · have hr : r = [] := List.eq_nil_of_length_eq_zero (by simpa using h1)
        subst hr
        have hs : val [c] < 248 := by simpa [val] using hc
        rw [enc_small hs] at h; simp at h
    · intro h
      have hc : c ≠ 0 := fun e => h (.inl e)
      have hd : dig 8 (val (c :: r)) = c :: r := dig_val 8 _ h8 (by simpa using hc)
      have hb : ¬ val (c :: r) < 248 := by
        intro hs
        cases r with
        | nil => exact h (.inr ⟨rfl, by simpa [val] using hs⟩)
        | cons e r =>
          have := val_pos (l := c :: e :: r) (by simpa using hc)
          rcases this with h1 | h1
          · have h2 : (256 : Nat) ^ 2 ≤ 256 ^ (c :: e :: r).length := Nat.pow_le_pow_right (by decide) (by simp)
            omega
          · simp at h1
      rw [enc_big hb, hd]

theorem headD_take {r : List UInt8} {k : Nat} (h : 1 ≤ k) : (r.take k).headD 0 = r.headD 0 := by
  cases r with
  | nil => simp
  | cons c r =>
    obtain ⟨k, rfl⟩ : ∃ j, k = j + 1 := ⟨k - 1, by omega⟩
    simp

/-- What was put is read, whatever stands behind it. -/
theorem rdn_enc {v : Nat} (hv : v < 256 ^ 8) (s : List UInt8) : rdn (enc v ++ s) = (v, (enc v).length, 0) := by
  by_cases h : v < 248
  · rw [enc_small h]
    have : (UInt8.ofNat v).toNat = v := by simp; omega
    simp only [List.cons_append, List.nil_append]
    rw [rdn_small _ _ (by omega), this]; rfl
  · rw [enc_big h]
    have hl := dig_length_le 8 v
    have hp := dig_pos v (by omega)
    have hb : (UInt8.ofNat (247 + (dig 8 v).length)).toNat = 247 + (dig 8 v).length := by simp; omega
    have hh := dig_head 8 v hv
    have hd := val_dig 8 v hv
    have hk : (UInt8.ofNat (247 + (dig 8 v).length)).toNat - 247 = (dig 8 v).length := by omega
    have hhd : (dig 8 v ++ s).headD 0 = (dig 8 v).headD 0 := by
      cases hdd : dig 8 v with
      | nil => rw [hdd] at hp; simp at hp
      | cons c r => simp
    simp only [List.cons_append]
    rw [rdn_ok _ _ (by omega) (by simp; omega) ?_, hk, List.take_left' rfl, hd]
    · simp [Nat.add_comm]
    · rw [hhd]
      have hev := (enc_val (d := dig 8 v) hp hl).1 (by rw [hd, enc_big h])
      intro hx
      apply hev
      rcases hx with hx | ⟨hx, hy⟩
      · exact .inl hx
      · exact .inr ⟨by omega, hy⟩

/-- What is read is what would be put. -/
theorem rdn_sound {l : List UInt8} {v n : Nat} (h : rdn l = (v, n, 0)) : 1 ≤ n ∧ n ≤ l.length ∧ enc v = l.take n ∧ v < 256 ^ 8 := by
  cases l with
  | nil => simp [rdn] at h
  | cons b r =>
    have hb : b.toNat < 256 := b.toNat_lt
    by_cases h1 : b.toNat < 248
    · rw [rdn_small b r h1] at h
      simp only [Prod.mk.injEq, and_true] at h
      obtain ⟨rfl, rfl⟩ := h
      refine ⟨by omega, by simp, ?_, by omega⟩
      rw [enc_small h1]; simp
    · by_cases h2 : r.length < b.toNat - 247
      · rw [rdn_end b r h1 h2] at h; simp at h
      · by_cases h3 : r.headD 0 = 0 ∨ (b.toNat = 248 ∧ (r.headD 0).toNat < 248)
        · rw [rdn_form b r h1 h2 h3] at h; simp at h
        · rw [rdn_ok b r h1 h2 h3] at h
          simp only [Prod.mk.injEq, and_true] at h
          obtain ⟨rfl, rfl⟩ := h
          have hlen : (r.take (b.toNat - 247)).length = b.toNat - 247 := by simp; omega
          refine ⟨by omega, by simp; omega, ?_, ?_⟩
          · rw [Nat.add_comm 1, List.take_succ_cons]
            rw [(enc_val (d := r.take (b.toNat - 247)) (by omega) (by omega)).2 ?_]
            · have hbb : UInt8.ofNat (247 + (b.toNat - 247)) = b := by
                apply UInt8.toNat.inj
                simp; omega
              rw [hlen, hbb]
            · rw [headD_take (by omega), hlen]
              intro hx
              apply h3
              rcases hx with hx | ⟨hx, hy⟩
              · exact .inl hx
              · exact .inr ⟨by omega, hy⟩
          · have := val_lt (r.take (b.toNat - 247))
            exact Nat.lt_of_lt_of_le this (Nat.pow_le_pow_right (by decide) (by omega))

theorem rdn_err {l : List UInt8} {v n e : Nat} (h : rdn l = (v, n, e)) : e = 0 ∨ (v = 0 ∧ n = 0 ∧ (e = 6 ∨ e = 7)) := by
  cases l with
  | nil => simp [rdn] at h; omega
  | cons b r =>
    by_cases h1 : b.toNat < 248
    · rw [rdn_small b r h1] at h; simp at h; omega
    · by_cases h2 : r.length < b.toNat - 247
      · rw [rdn_end b r h1 h2] at h; simp at h; omega
      · by_cases h3 : r.headD 0 = 0 ∨ (b.toNat = 248 ∧ (r.headD 0).toNat < 248)
        · rw [rdn_form b r h1 h2 h3] at h; simp at h; omega
        · rw [rdn_ok b r h1 h2 h3] at h; simp at h; omega

/-- Just k digits of v, as numbers. -/
def dn : Nat → Nat → List Nat
  | 0, _ => []
  | k + 1, v => dn k (v / 256) ++ [v % 256]
theorem dig_dn (f : Nat) : ∀ k v, k ≤ f → v < 256 ^ k → (k = 0 ∨ 256 ^ k ≤ v * 256) → dig f v = (dn k v).map UInt8.ofNat := by
  induction f with
  | zero => intro k v hk _ _; obtain rfl : k = 0 := by omega
            rfl
  | succ f ih =>
    intro k v hk hi lo
    cases k with
    | zero => have : v = 0 := by simpa using hi
              subst this; rw [dig_zero]; rfl
    | succ k =>
      have hlo : 256 ^ (k + 1) ≤ v * 256 := by
        rcases lo with h | h
        · cases h
        · exact h
      rw [Nat.pow_succ] at hi hlo
      have hp : 0 < 256 ^ k := Nat.pow_pos (by decide)
      rw [dig_succ f v (by omega), ih k (v / 256) (by omega) (by omega) ?_]
      · simp [dn]
      · cases k with
        | zero => exact .inl rfl
        | succ k =>
          right
          clear hi hp ih lo
          rw [Nat.pow_succ] at hlo ⊢
          generalize 256 ^ k = q at hlo ⊢
          have h1 : q * 256 ≤ v := Nat.le_of_mul_le_mul_right hlo (by decide)
          have h2 : q ≤ v / 256 := (Nat.le_div_iff_mul_le (by decide)).2 h1
          exact Nat.mul_le_mul_right _ h2
theorem dn_length (k : Nat) : ∀ v, (dn k v).length = k := by
  induction k with
  | zero => intro v; rfl
  | succ k ih => intro v; simp [dn, ih]
theorem enc_dn {k v : Nat} (h8 : k ≤ 8) (hv : ¬ v < 248) (hi : v < 256 ^ k) (lo : 256 ^ k ≤ v * 256) : enc v = ((247 + k) :: dn k v).map UInt8.ofNat := by
  rw [enc_big hv, dig_dn 8 k v h8 hi (.inr lo), List.length_map, dn_length, List.map_cons]

end Go.Proofs.YtedidoeoomijjaaDoor.Pl

namespace Go.Proofs.YtedidoeoomijjaaDoor.Pl

/-- What a reader of a text of at most m bytes answers. -/
def rdt (l : List UInt8) (m : Int) : List UInt8 × Nat × Nat :=
  if (rdn l).2.2 ≠ 0 then ([], 0, (rdn l).2.2)
  else if max m 0 < ((rdn l).1 : Int) then ([], 0, 5)
  else if l.length - (rdn l).2.1 < (rdn l).1 then ([], 0, 6)
  else ((l.drop (rdn l).2.1).take (rdn l).1, (rdn l).2.1 + (rdn l).1, 0)
/-- The encoding of a text. -/
def txt (t : List UInt8) : List UInt8 := enc t.length ++ t

theorem rdt_err {l : List UInt8} {m : Int} {v n e : Nat} (h : rdn l = (v, n, e)) (he : e ≠ 0) : rdt l m = ([], 0, e) := by simp [rdt, h, he]
theorem rdt_long {l : List UInt8} {m : Int} {v n : Nat} (h : rdn l = (v, n, 0)) (h1 : max m 0 < (v : Int)) : rdt l m = ([], 0, 5) := by
  unfold rdt; rw [h]; rw [if_neg (by simp), if_pos h1]
theorem rdt_end {l : List UInt8} {m : Int} {v n : Nat} (h : rdn l = (v, n, 0)) (h1 : ¬ max m 0 < (v : Int)) (h2 : l.length - n < v) : rdt l m = ([], 0, 6) := by
  unfold rdt; rw [h]; rw [if_neg (by simp), if_neg h1, if_pos h2]
theorem rdt_ok {l : List UInt8} {m : Int} {v n : Nat} (h : rdn l = (v, n, 0)) (h1 : ¬ max m 0 < (v : Int)) (h2 : ¬ l.length - n < v) : rdt l m = ((l.drop n).take v, n + v, 0) := by
  unfold rdt; rw [h]; rw [if_neg (by simp), if_neg h1, if_neg h2]

theorem rdt_txt {t : List UInt8} (ht : t.length < 256 ^ 8) (s : List UInt8) (m : Int) (hm : (t.length : Int) ≤ m) : rdt (txt t ++ s) m = (t, (txt t).length, 0) := by
  have h := rdn_enc ht (t ++ s)
  have e : txt t ++ s = enc t.length ++ (t ++ s) := by simp [txt]
  rw [e, rdt_ok h (by omega) (by simp)]
  simp [txt]
theorem rdt_sound {l t : List UInt8} {m : Int} {n : Nat} (h : rdt l m = (t, n, 0)) : 1 ≤ n ∧ n ≤ l.length ∧ (t.length : Int) ≤ max m 0 ∧ txt t = l.take n := by
  have ⟨v, k, e, hr⟩ : ∃ v k e, rdn l = (v, k, e) := ⟨_, _, _, rfl⟩
  by_cases he : e = 0
  · subst he
    obtain ⟨k1, k2, k3, k4⟩ := rdn_sound hr
    by_cases h1 : max m 0 < (v : Int)
    · rw [rdt_long hr h1] at h; simp at h
    · by_cases h2 : l.length - k < v
      · rw [rdt_end hr h1 h2] at h; simp at h
      · rw [rdt_ok hr h1 h2] at h
        simp only [Prod.mk.injEq, and_true] at h
        obtain ⟨rfl, rfl⟩ := h
        have hl : ((l.drop k).take v).length = v := by simp; omega
        refine ⟨by omega, by omega, by rw [hl]; omega, ?_⟩
        rw [txt, hl, k3, List.take_add]
  · rw [rdt_err hr he] at h
    simp at h
    omega
theorem txt_len (t : List UInt8) : (txt t).length = (enc t.length).length + t.length := by simp [txt]
end Go.Proofs.YtedidoeoomijjaaDoor.Pl

namespace Go.Proofs.YtedidoeoomijjaaDoor.Pl

def nameB (b : UInt8) : Bool := decide ((97 ≤ b.toNat ∧ b.toNat ≤ 122) ∨ (48 ≤ b.toNat ∧ b.toNat ≤ 57) ∨ b.toNat = 47 ∨ b.toNat = 46 ∨ b.toNat = 45)
def nameOK (s : List UInt8) : Bool := !s.isEmpty && s.all nameB
/-- The bytes ahead of a term's parts, how many parts, what is wrong. -/
def headP : List UInt8 → Nat × Nat × Nat
  | [] => (0, 0, 6)
  | b :: r =>
    if b = 100 then (1 + (rdt r 1024).2.1, 0, (rdt r 1024).2.2)
    else if b = 97 then (if (rdt r 32).2.2 = 0 ∧ nameOK (rdt r 32).1 = false then (0, 0, 7) else (1 + (rdt r 32).2.1, 0, (rdt r 32).2.2))
    else if b = 114 then (if (rdn r).2.2 = 0 ∧ 32 < (rdn r).1 then (0, 0, 5) else (1 + (rdn r).2.1, (rdn r).1, (rdn r).2.2))
    else if b = 104 then (1, 1, 0) else if b = 109 then (1, 2, 0) else if b = 115 then (1, 3, 0) else (0, 0, 7)
/-- Of so many terms, one behind the other. -/
def loopP (rd : List UInt8 → Nat × Nat) : Nat → List UInt8 → Nat × Nat
  | 0, _ => (0, 0)
  | k + 1, s => if (rd s).2 = 0 then (if (loopP rd k (s.drop (rd s).1)).2 = 0 then ((rd s).1 + (loopP rd k (s.drop (rd s).1)).1, 0) else (0, (loopP rd k (s.drop (rd s).1)).2)) else (0, (rd s).2)
/-- The term at the front that is no deeper than d. -/
def readP : Nat → List UInt8 → Nat × Nat
  | 0, _ => (0, 60)
  | d + 1, s => if (headP s).2.2 = 0 then (if (loopP (readP d) (headP s).2.1 (s.drop (headP s).1)).2 = 0 then ((headP s).1 + (loopP (readP d) (headP s).2.1 (s.drop (headP s).1)).1, 0) else (0, (loopP (readP d) (headP s).2.1 (s.drop (headP s).1)).2)) else (0, (headP s).2.2)
def frontP (s : List UInt8) : Nat × Nat := if (readP 16 s).2 = 0 then (if 16384 < (readP 16 s).1 then (0, 5) else readP 16 s) else (0, (readP 16 s).2)
def checkP (t : List UInt8) : Nat := if (frontP t).2 = 0 then (if (frontP t).1 = t.length then 0 else 7) else (frontP t).2

/-- Bytes that are a term's head, of so many parts, whatever stands behind them. -/
def HeadOK (h : List UInt8) (p : Nat) : Prop := ∀ rest, headP (h ++ rest) = (h.length, p, 0)
theorem HeadOK.pos {h : List UInt8} {p : Nat} (k : HeadOK h p) : h ≠ [] := by
  rintro rfl
  have := k []
  simp [headP] at this
theorem HeadOK.same {h h' r r' : List UInt8} {p p' : Nat} (k : HeadOK h p) (k' : HeadOK h' p') (e : h ++ r = h' ++ r') : h = h' ∧ p = p' ∧ r = r' := by
  have e1 := k r
  rw [e, k' r'] at e1
  have hl : h'.length = h.length := congrArg Prod.fst e1
  have hp : p' = p := congrArg (·.2.1) e1
  have hh := List.append_inj e hl.symm
  exact ⟨hh.1, hp.symm, hh.2⟩
theorem head_front {s : List UInt8} {n p : Nat} (h : headP s = (n, p, 0)) : n ≤ s.length ∧ HeadOK (s.take n) p := by
  cases s with
  | nil => simp [headP] at h
  | cons b r =>
    simp only [headP] at h
    split at h
    · rename_i hb
      subst hb
      obtain ⟨t, k, e, hr⟩ : ∃ t k e, rdt r 1024 = (t, k, e) := ⟨_, _, _, rfl⟩
      rw [hr] at h
      simp only [Prod.mk.injEq] at h
      obtain ⟨rfl, rfl, rfl⟩ := h
      obtain ⟨h1, h2, h3, h4⟩ := rdt_sound hr
      refine ⟨by simp; omega, fun rest => ?_⟩
      have e1 : (100 :: r).take (1 + k) = 100 :: txt t := by rw [h4, Nat.add_comm, List.take_succ_cons]
      have hk : (txt t).length = k := by rw [h4, List.length_take]; omega
      rw [e1, List.cons_append, headP, if_pos rfl, rdt_txt (by rw [two64]; omega) rest 1024 (by omega)]
      simp [Nat.add_comm]
    · split at h
      · rename_i hb0 hb
        subst hb
        obtain ⟨t, k, e, hr⟩ : ∃ t k e, rdt r 32 = (t, k, e) := ⟨_, _, _, rfl⟩
        rw [hr] at h
        split at h
        · simp at h
        · rename_i hno
          simp only [Prod.mk.injEq] at h
          obtain ⟨rfl, rfl, rfl⟩ := h
          obtain ⟨h1, h2, h3, h4⟩ := rdt_sound hr
          refine ⟨by simp; omega, fun rest => ?_⟩
          have e1 : (97 :: r).take (1 + k) = 97 :: txt t := by rw [h4, Nat.add_comm, List.take_succ_cons]
          have hk : (txt t).length = k := by rw [h4, List.length_take]; omega
          rw [e1, List.cons_append, headP, if_neg (by decide), if_pos rfl, rdt_txt (by rw [two64]; omega) rest 32 (by omega), if_neg hno]
          simp [Nat.add_comm]
      · split at h
        · rename_i hb0 hb1 hb
          subst hb
          obtain ⟨v, k, e, hr⟩ : ∃ v k e, rdn r = (v, k, e) := ⟨_, _, _, rfl⟩
          rw [hr] at h
          split at h
          · simp at h
          · rename_i hno
            simp only [Prod.mk.injEq] at h
            obtain ⟨rfl, rfl, rfl⟩ := h
            obtain ⟨h1, h2, h3, h4⟩ := rdn_sound hr
            refine ⟨by simp; omega, fun rest => ?_⟩
            have e1 : (114 :: r).take (1 + k) = 114 :: enc v := by rw [h3, Nat.add_comm, List.take_succ_cons]
            have hk : (enc v).length = k := by rw [h3, List.length_take]; omega
            rw [e1, List.cons_append, headP, if_neg (by decide), if_neg (by decide), if_pos rfl, rdn_enc h4 rest]
            rw [if_neg (by simpa using hno)]
            simp [Nat.add_comm]
        · split at h
          · rename_i hb
            subst hb
            simp only [Prod.mk.injEq] at h
            obtain ⟨rfl, rfl, _⟩ := h
            refine ⟨by simp, fun rest => ?_⟩
            rfl
          · split at h
            · rename_i hb
              subst hb
              simp only [Prod.mk.injEq] at h
              obtain ⟨rfl, rfl, _⟩ := h
              exact ⟨by simp, fun rest => rfl⟩
            · split at h
              · rename_i hb
                subst hb
                simp only [Prod.mk.injEq] at h
                obtain ⟨rfl, rfl, _⟩ := h
                exact ⟨by simp, fun rest => rfl⟩
              · simp at h

/-- A term: its head, its parts. -/
inductive Tm where
  | node (h : List UInt8) (l : List Tm) : Tm

mutual
def Tm.enc : Tm → List UInt8
  | .node h l => h ++ encs l
def encs : List Tm → List UInt8
  | [] => []
  | t :: l => t.enc ++ encs l
end
mutual
def Tm.deep : Tm → Nat
  | .node _ l => deeps l + 1
def deeps : List Tm → Nat
  | [] => 0
  | t :: l => max t.deep (deeps l)
end
mutual
def Tm.good : Tm → Prop
  | .node h l => HeadOK h l.length ∧ goods l
def goods : List Tm → Prop
  | [] => True
  | t :: l => t.good ∧ goods l
end
mutual
def Tm.places : Tm → List Tm
  | .node h l => .node h l :: placess l
def placess : List Tm → List Tm
  | [] => []
  | t :: l => t.places ++ placess l
end
theorem Tm.ind {P : Tm → Prop} (step : ∀ h l, (∀ t ∈ l, P t) → P (.node h l)) : ∀ t, P t := by
  intro t
  refine Tm.rec (motive_1 := P) (motive_2 := fun l => ∀ t ∈ l, P t) ?_ ?_ ?_ t
  · intro h l ih; exact step h l ih
  · intro t ht; cases ht
  · intro t l h1 h2 u hu
    rcases List.mem_cons.1 hu with rfl | hu
    · exact h1
    · exact h2 u hu
theorem goods_mem {l : List Tm} (h : goods l) : ∀ t ∈ l, t.good := by
  induction l with
  | nil => intro t ht; cases ht
  | cons u l ih =>
    intro t ht
    rcases List.mem_cons.1 ht with rfl | ht
    · exact h.1
    · exact ih h.2 t ht
theorem goods_of {l : List Tm} (h : ∀ t ∈ l, t.good) : goods l := by
  induction l with
  | nil => trivial
  | cons u l ih => exact ⟨h u (List.mem_cons_self ..), ih (fun t ht => h t (List.mem_cons_of_mem _ ht))⟩
theorem deeps_mem {l : List Tm} {t : Tm} (h : t ∈ l) : t.deep ≤ deeps l := by
  induction l with
  | nil => cases h
  | cons u l ih =>
    simp only [deeps]
    rcases List.mem_cons.1 h with rfl | h
    · omega
    · have := ih h; omega
theorem deeps_le {l : List Tm} {d : Nat} (h : ∀ t ∈ l, t.deep ≤ d) : deeps l ≤ d := by
  induction l with
  | nil => simp [deeps]
  | cons u l ih =>
    simp only [deeps]
    have := h u (List.mem_cons_self ..)
    have := ih (fun t ht => h t (List.mem_cons_of_mem _ ht))
    omega
theorem encs_flat (l : List Tm) : encs l = (l.map Tm.enc).flatten := by
  induction l with
  | nil => rfl
  | cons t l ih => simp [encs, ih]
theorem Tm.enc_node (h : List UInt8) (l : List Tm) : (Tm.node h l).enc = h ++ encs l := by simp [Tm.enc]

/-- What is a term's bytes is read, whatever stands behind it. -/
theorem read_enc : ∀ t : Tm, t.good → ∀ d, t.deep ≤ d → ∀ rest, readP d (t.enc ++ rest) = (t.enc.length, 0) := by
  refine Tm.ind ?_
  intro h l ih hg d hd rest
  simp only [Tm.good] at hg
  simp only [Tm.deep] at hd
  obtain ⟨d, rfl⟩ : ∃ e, d = e + 1 := ⟨d - 1, by omega⟩
  have loop : ∀ m : List Tm, (∀ t ∈ m, t ∈ l) → ∀ rest, loopP (readP d) m.length (encs m ++ rest) = ((encs m).length, 0) := by
    intro m
    induction m with
    | nil => intro _ rest; rfl
    | cons t m ihm =>
      intro hm rest
      have ht := hm t (List.mem_cons_self ..)
      have h1 := ih t ht (goods_mem hg.2 t ht) d (by have := deeps_mem ht; omega) (encs m ++ rest)
      have h2 := ihm (fun u hu => hm u (List.mem_cons_of_mem _ hu)) rest
      simp only [encs, List.length_cons, List.append_assoc]
      rw [loopP, h1]
      simp only [if_true, List.drop_left, h2, List.length_append]
  simp only [Tm.enc, List.append_assoc]
  rw [readP, hg.1]
  simp only [if_true, List.drop_left]
  rw [loop l (fun _ h => h) rest]
  simp

/-- What is read is a term's bytes. -/
theorem read_sound : ∀ (d : Nat) (s : List UInt8) (n : Nat), readP d s = (n, 0) → ∃ t : Tm, t.good ∧ t.deep ≤ d ∧ n = t.enc.length ∧ s = t.enc ++ s.drop n := by
  intro d
  induction d with
  | zero => intro s n h; simp [readP] at h
  | succ d ih =>
    intro s n h
    have loop : ∀ (k : Nat) (s : List UInt8) (n : Nat), loopP (readP d) k s = (n, 0) → ∃ l : List Tm, goods l ∧ l.length = k ∧ deeps l ≤ d ∧ n = (encs l).length ∧ s = encs l ++ s.drop n := by
      intro k
      induction k with
      | zero =>
        intro s n h
        simp only [loopP, Prod.mk.injEq] at h
        obtain ⟨rfl, _⟩ := h
        exact ⟨[], trivial, rfl, Nat.zero_le _, rfl, rfl⟩
      | succ k ihk =>
        intro s n h
        rw [loopP] at h
        split at h
        · rename_i h0
          split at h
          · rename_i h1
            simp only [Prod.mk.injEq, and_true] at h
            obtain ⟨t, g1, g2, g3, g4⟩ := ih s (readP d s).1 (Prod.ext rfl h0)
            obtain ⟨l, k1, k2, k3, k4, k5⟩ := ihk (s.drop (readP d s).1) (loopP (readP d) k (s.drop (readP d s).1)).1 (Prod.ext rfl h1)
            refine ⟨t :: l, ⟨g1, k1⟩, by simp [k2], by simp only [deeps]; omega, ?_, ?_⟩
            · simp only [encs, List.length_append]
              rw [← h, k4, g3]
            · simp only [encs, List.append_assoc]
              rw [← h, ← List.drop_drop, ← k5]; exact g4
          · rename_i h1
            simp only [Prod.mk.injEq] at h
            exact absurd h.2 h1
        · rename_i h0
          simp only [Prod.mk.injEq] at h
          exact absurd h.2 h0
    rw [readP] at h
    split at h
    · rename_i h0
      split at h
      · rename_i h1
        simp only [Prod.mk.injEq, and_true] at h
        obtain ⟨hn, hok⟩ := head_front (s := s) (n := (headP s).1) (p := (headP s).2.1) (by rw [← h0])
        obtain ⟨l, k1, k2, k3, k4, k5⟩ := loop (headP s).2.1 (s.drop (headP s).1) (loopP (readP d) (headP s).2.1 (s.drop (headP s).1)).1 (Prod.ext rfl h1)
        refine ⟨.node (s.take (headP s).1) l, ?_, ?_, ?_, ?_⟩
        · simp only [Tm.good]; exact ⟨by rw [k2]; exact hok, k1⟩
        · simp only [Tm.deep]; omega
        · simp only [Tm.enc, List.length_append, List.length_take]
          rw [← h, k4, Nat.min_eq_left hn]
        · simp only [Tm.enc, List.append_assoc]
          rw [← h, ← List.drop_drop, ← k5, List.take_append_drop]
      · rename_i h1
        simp only [Prod.mk.injEq] at h
        exact absurd h.2 h1
    · rename_i h0
      simp only [Prod.mk.injEq] at h
      exact absurd h.2 h0

/-- No term's bytes begin with another one's. -/
theorem enc_front : ∀ t : Tm, t.good → ∀ u : Tm, u.good → ∀ r r', t.enc ++ r = u.enc ++ r' → t = u ∧ r = r' := by
  refine Tm.ind ?_
  intro h l ih hg u hu r r' e
  obtain ⟨h', l'⟩ := u
  simp only [Tm.good] at hg hu
  simp only [Tm.enc, List.append_assoc] at e
  obtain ⟨rfl, hp, e⟩ := hg.1.same hu.1 e
  have loop : ∀ m m' : List Tm, (∀ t ∈ m, t ∈ l) → goods m' → m.length = m'.length → ∀ r r', encs m ++ r = encs m' ++ r' → m = m' ∧ r = r' := by
    intro m
    induction m with
    | nil =>
      intro m' _ _ hl r r' e
      cases m' with
      | nil => exact ⟨rfl, e⟩
      | cons => simp at hl
    | cons t m ihm =>
      intro m' hm hg' hl r r' e
      cases m' with
      | nil => simp at hl
      | cons t' m' =>
        simp only [encs, List.append_assoc] at e
        have ht := hm t (List.mem_cons_self ..)
        obtain ⟨rfl, e2⟩ := ih t ht (goods_mem hg.2 t ht) t' hg'.1 _ _ e
        obtain ⟨rfl, e3⟩ := ihm m' (fun u hu => hm u (List.mem_cons_of_mem _ hu)) hg'.2 (by simpa using hl) _ _ e2
        exact ⟨rfl, e3⟩
  obtain ⟨rfl, e4⟩ := loop l l' (fun _ h => h) hu.2 hp _ _ e
  exact ⟨rfl, e4⟩
theorem enc_tm_inj {t u : Tm} (ht : t.good) (hu : u.good) (e : t.enc = u.enc) : t = u := (enc_front t ht u hu [] [] (by simpa using e)).1
/-- A term that is too deep is not read. -/
theorem read_deep {t : Tm} (ht : t.good) {d : Nat} (hd : d < t.deep) (rest : List UInt8) : (readP d (t.enc ++ rest)).2 ≠ 0 := by
  intro h0
  obtain ⟨u, g1, g2, g3, g4⟩ := read_sound d (t.enc ++ rest) (readP d (t.enc ++ rest)).1 (Prod.ext rfl h0)
  obtain ⟨rfl, _⟩ := enc_front t ht u g1 _ _ g4
  omega

/-- A valid term. -/
def Tm.valid (t : Tm) : Prop := t.good ∧ t.deep ≤ 16 ∧ t.enc.length ≤ 16384
theorem front_enc {t : Tm} (h : t.valid) (rest : List UInt8) : frontP (t.enc ++ rest) = (t.enc.length, 0) := by
  have e := read_enc t h.1 16 h.2.1 rest
  unfold frontP
  rw [e, if_pos rfl, if_neg (by have := h.2.2; simp only; omega)]
theorem front_sound {s : List UInt8} {n : Nat} (h : frontP s = (n, 0)) : ∃ t : Tm, t.valid ∧ n = t.enc.length ∧ s = t.enc ++ s.drop n := by
  unfold frontP at h
  split at h
  · rename_i h0
    split at h
    · simp at h
    · rename_i h1
      obtain ⟨t, g1, g2, g3, g4⟩ := read_sound 16 s n h
      rw [h] at h1
      exact ⟨t, ⟨g1, g2, by simp only at h1; omega⟩, g3, g4⟩
  · rename_i h0
    simp only [Prod.mk.injEq] at h
    exact absurd h.2 h0
theorem check_enc {t : Tm} (h : t.valid) : checkP t.enc = 0 := by
  have e := front_enc h []
  rw [List.append_nil] at e
  unfold checkP
  rw [e]; simp
theorem check_iff {s : List UInt8} : checkP s = 0 ↔ ∃ t : Tm, t.valid ∧ t.enc = s := by
  constructor
  · intro h
    unfold checkP at h
    split at h
    · rename_i h0
      split at h
      · rename_i h1
        obtain ⟨t, g1, g2, g3⟩ := front_sound (s := s) (n := (frontP s).1) (Prod.ext rfl h0)
        refine ⟨t, g1, ?_⟩
        rw [h1] at g3
        simpa using g3.symm
      · exact absurd h (by decide)
    · rename_i h0
      exact absurd h h0
  · rintro ⟨t, h, rfl⟩
    exact check_enc h
/-- A valid term's bytes, and more: read as that term; cut: as none. -/
theorem check_more {t : Tm} (h : t.valid) (more : List UInt8) : checkP (t.enc ++ more) = 0 ↔ more = [] := by
  rw [check_iff]
  constructor
  · rintro ⟨u, hu, e⟩
    have := enc_front u hu.1 t h.1 [] more (by simpa using e)
    exact this.2.symm
  · rintro rfl
    exact ⟨t, h, by simp⟩
theorem check_cut {t : Tm} (h : t.valid) {k : Nat} (hk : k < t.enc.length) : checkP (t.enc.take k) ≠ 0 := by
  rw [Ne, check_iff]
  rintro ⟨u, hu, e⟩
  have e2 : u.enc ++ t.enc.drop k = t.enc ++ [] := by rw [e, List.take_append_drop, List.append_nil]
  obtain ⟨rfl, e3⟩ := enc_front u hu.1 t h.1 _ _ e2
  have := congrArg List.length e3
  simp at this
  omega
end Go.Proofs.YtedidoeoomijjaaDoor.Pl

namespace Go.Proofs.YtedidoeoomijjaaDoor.Pl

mutual
def Tm.swap : Tm → List UInt8 → Tm → Tm
  | .node h l, f, u => if h ++ encs l = f then u else .node h (swaps l f u)
def swaps : List Tm → List UInt8 → Tm → List Tm
  | [], _, _ => []
  | t :: l, f, u => t.swap f u :: swaps l f u
end
theorem swaps_map (l : List Tm) (f : List UInt8) (u : Tm) : swaps l f u = l.map fun t => t.swap f u := by
  induction l with
  | nil => simp [swaps]
  | cons t l ih => simp [swaps, ih]
theorem Tm.swap_node (h : List UInt8) (l : List Tm) (f : List UInt8) (u : Tm) : (Tm.node h l).swap f u = if (Tm.node h l).enc = f then u else .node h (l.map fun t => t.swap f u) := by
  by_cases e : (Tm.node h l).enc = f
  · rw [if_pos e, Tm.swap, if_pos (by rw [← Tm.enc_node]; exact e)]
  · rw [if_neg e, Tm.swap, if_neg (by rw [← Tm.enc_node]; exact e), swaps_map]
theorem placess_flat (l : List Tm) : placess l = l.flatMap Tm.places := by
  induction l with
  | nil => simp [placess]
  | cons t l ih => simp [placess, ih]
/-- Does a term with these bytes stand in t? -/
def Has (t : Tm) (f : List UInt8) : Prop := ∃ p ∈ t.places, p.enc = f
theorem has_node {h : List UInt8} {l : List Tm} {f : List UInt8} : Has (.node h l) f ↔ (Tm.node h l).enc = f ∨ ∃ p ∈ l, Has p f := by
  unfold Has
  simp only [Tm.places, placess_flat, List.mem_cons, List.mem_flatMap]
  constructor
  · rintro ⟨p, rfl | ⟨q, hq, hp⟩, e⟩
    · exact .inl e
    · exact .inr ⟨q, hq, p, hp, e⟩
  · rintro (e | ⟨q, hq, p, hp, e⟩)
    · exact ⟨_, .inl rfl, e⟩
    · exact ⟨p, .inr ⟨q, hq, hp⟩, e⟩
theorem has_self (t : Tm) : Has t t.enc := by obtain ⟨h, l⟩ := t; exact has_node.2 (.inl rfl)
theorem enc_mem {l : List Tm} {t : Tm} (h : t ∈ l) : t.enc.length ≤ (encs l).length := by
  induction l with
  | nil => cases h
  | cons u l ih =>
    simp only [encs, List.length_append]
    rcases List.mem_cons.1 h with rfl | h
    · omega
    · have := ih h; omega
theorem places_good : ∀ t : Tm, t.good → ∀ p ∈ t.places, p.good := by
  refine Tm.ind ?_
  intro h l ih hg p hp
  simp only [Tm.places, placess_flat, List.mem_cons, List.mem_flatMap] at hp
  rcases hp with rfl | ⟨q, hq, hp⟩
  · exact hg
  · simp only [Tm.good] at hg
    exact ih q hq (goods_mem hg.2 q hq) p hp
theorem places_deep : ∀ t : Tm, ∀ p ∈ t.places, p.deep ≤ t.deep := by
  refine Tm.ind ?_
  intro h l ih p hp
  simp only [Tm.places, placess_flat, List.mem_cons, List.mem_flatMap] at hp
  rcases hp with rfl | ⟨q, hq, hp⟩
  · exact Nat.le_refl _
  · have := ih q hq p hp
    have := deeps_mem hq
    simp only [Tm.deep]; omega
theorem places_len : ∀ t : Tm, ∀ p ∈ t.places, p.enc.length ≤ t.enc.length := by
  refine Tm.ind ?_
  intro h l ih p hp
  simp only [Tm.places, placess_flat, List.mem_cons, List.mem_flatMap] at hp
  rcases hp with rfl | ⟨q, hq, hp⟩
  · exact Nat.le_refl _
  · have := ih q hq p hp
    have := enc_mem hq
    simp only [Tm.enc, List.length_append]; omega
theorem places_valid {t : Tm} (h : t.valid) {p : Tm} (hp : p ∈ t.places) : p.valid :=
  ⟨places_good t h.1 p hp, Nat.le_trans (places_deep t p hp) h.2.1, Nat.le_trans (places_len t p hp) h.2.2⟩
theorem has_len {t : Tm} {f : List UInt8} (h : Has t f) : f.length ≤ t.enc.length := by
  obtain ⟨p, hp, rfl⟩ := h
  exact places_len t p hp
theorem head_len {h : List UInt8} {l : List Tm} (hg : (Tm.node h l).good) {p : Tm} (hp : p ∈ l) : p.enc.length < (Tm.node h l).enc.length := by
  simp only [Tm.good] at hg
  have h1 := List.length_pos_iff.2 hg.1.pos
  have h2 := enc_mem hp
  simp only [Tm.enc, List.length_append]; omega
theorem places_trans : ∀ t : Tm, ∀ p ∈ t.places, ∀ q ∈ p.places, q ∈ t.places := by
  refine Tm.ind ?_
  intro h l ih p hp q hq
  have hp' := hp
  simp only [Tm.places, placess_flat, List.mem_cons, List.mem_flatMap] at hp
  rcases hp with rfl | ⟨r, hr, hp⟩
  · exact hq
  · simp only [Tm.places, placess_flat, List.mem_cons, List.mem_flatMap]
    exact .inr ⟨r, hr, ih r hr p hp q hq⟩
theorem has_trans {t p : Tm} {f : List UInt8} (h : Has t p.enc) (ht : t.good) (hp : p.good) (k : Has p f) : Has t f := by
  obtain ⟨q, hq, e⟩ := h
  obtain rfl := enc_tm_inj (places_good t ht q hq) hp e
  obtain ⟨r, hr, e⟩ := k
  exact ⟨r, places_trans t q hq r hr, e⟩

theorem swap_good : ∀ t : Tm, t.good → ∀ (f : List UInt8) (u : Tm), u.good → (t.swap f u).good := by
  refine Tm.ind ?_
  intro h l ih hg f u hu
  rw [Tm.swap_node]
  split
  · exact hu
  · simp only [Tm.good] at hg ⊢
    refine ⟨by rw [List.length_map]; exact hg.1, goods_of ?_⟩
    intro t ht
    obtain ⟨q, hq, rfl⟩ := List.mem_map.1 ht
    exact ih q hq (goods_mem hg.2 q hq) f u hu
theorem swap_none : ∀ t : Tm, ∀ (f : List UInt8) (u : Tm), ¬ Has t f → t.swap f u = t := by
  refine Tm.ind ?_
  intro h l ih f u hn
  rw [has_node] at hn
  rw [Tm.swap_node, if_neg (fun e => hn (.inl e))]
  have : (l.map fun t => t.swap f u) = l := by
    conv => rhs; rw [← List.map_id l]
    exact List.map_congr_left fun t ht => ih t ht f u (fun hh => hn (.inr ⟨t, ht, hh⟩))
  rw [this]
theorem has_swap : ∀ t : Tm, ∀ (f : List UInt8) (u : Tm), Has t f → Has (t.swap f u) u.enc := by
  refine Tm.ind ?_
  intro h l ih f u hh
  rw [Tm.swap_node]
  split
  · exact has_self u
  · rename_i hne
    rcases has_node.1 hh with e | ⟨p, hp, hh⟩
    · exact absurd e hne
    · exact has_node.2 (.inr ⟨p.swap f u, List.mem_map.2 ⟨p, hp, rfl⟩, ih p hp f u hh⟩)
theorem swap_at {u F : Tm} : u.swap u.enc F = F := by
  obtain ⟨h, l⟩ := u
  rw [Tm.swap_node, if_pos rfl]
/-- A term in which something was swapped for u has not u's bytes itself, unless it was swapped whole, or u stood there. -/
theorem swap_not {h : List UInt8} {l : List Tm} {f : List UInt8} {u : Tm} (hg : (Tm.node h l).good) (hu : u.good) (hne : (Tm.node h l).enc ≠ f) (hn : ¬ Has (.node h l) u.enc) : (Tm.node h (l.map fun t => t.swap f u)).enc ≠ u.enc := by
  intro e
  have e2 : (Tm.node h l).swap f u = Tm.node h (l.map fun t => t.swap f u) := by rw [Tm.swap_node, if_neg hne]
  have hg2 := swap_good _ hg f u hu
  rw [e2] at hg2
  by_cases hh : Has (.node h l) f
  · rcases has_node.1 hh with e3 | ⟨p, hp, hp2⟩
    · exact hne e3
    · have h1 := has_len (has_swap p f u hp2)
      have h2 := head_len hg2 (List.mem_map.2 ⟨p, hp, rfl⟩)
      rw [e] at h2
      omega
  · have e3 := swap_none _ f u hh
    rw [e2] at e3
    rw [e3] at e
    exact hn (by rw [← e]; exact has_self _)
/-- Swapped, and back. -/
theorem swap_back : ∀ t : Tm, t.good → ∀ F u : Tm, F.good → u.good → ¬ Has t u.enc → (t.swap F.enc u).swap u.enc F = t := by
  refine Tm.ind ?_
  intro h l ih hg F u hF hu hn
  rw [Tm.swap_node]
  split
  · rename_i e
    rw [swap_at]
    exact (enc_tm_inj hg hF e).symm
  · rename_i hne
    rw [Tm.swap_node, if_neg (swap_not hg hu hne hn), List.map_map]
    have : (l.map ((fun t => t.swap u.enc F) ∘ fun t => t.swap F.enc u)) = l := by
      conv => rhs; rw [← List.map_id l]
      refine List.map_congr_left fun t ht => ?_
      simp only [Tm.good] at hg
      exact ih t ht (goods_mem hg.2 t ht) F u hF hu (fun hh => hn (has_node.2 (.inr ⟨t, ht, hh⟩)))
    rw [this]
/-- What was swapped stands there no more, unless what came has it. -/
theorem swap_gone : ∀ t : Tm, t.good → ∀ F u : Tm, F.good → u.good → ¬ Has t u.enc → ¬ Has u F.enc → ¬ Has (t.swap F.enc u) F.enc := by
  refine Tm.ind ?_
  intro h l ih hg F u hF hu hn hnu
  rw [Tm.swap_node]
  split
  · exact hnu
  · rename_i hne
    intro hh
    have hg' := hg
    simp only [Tm.good] at hg'
    rcases has_node.1 hh with e | ⟨p, hp, hp2⟩
    · have e2 : (Tm.node h l).swap F.enc u = Tm.node h (l.map fun t => t.swap F.enc u) := by rw [Tm.swap_node, if_neg hne]
      have hg2 := swap_good _ hg F.enc u hu
      rw [e2] at hg2
      by_cases h0 : Has (.node h l) F.enc
      · have h1 := has_swap _ F.enc u h0
        rw [e2] at h1
        have h3 := enc_tm_inj hg2 hF e
        rw [h3] at h1
        exact hn (has_trans h0 hg hF h1)
      · have e3 := swap_none _ F.enc u h0
        rw [e2] at e3
        rw [e3] at e
        exact hne e
    · obtain ⟨q, hq, rfl⟩ := List.mem_map.1 hp
      exact ih q hq (goods_mem hg'.2 q hq) F u hF hu (fun hh => hn (has_node.2 (.inr ⟨q, hq, hh⟩))) hnu hp2
/-- A term that stood there besides stands there still, where what was swapped came in for it. -/
theorem has_swap' {t : Tm} {f : List UInt8} {u : Tm} (h : Has t f) : Has (t.swap f u) u.enc := has_swap t f u h
end Go.Proofs.YtedidoeoomijjaaDoor.Pl

namespace Go.Proofs.YtedidoeoomijjaaDoor.Pl

theorem encs_front {m m' : List Tm} (hg : goods m) (hg' : goods m') (hl : m.length = m'.length) {r r' : List UInt8} (e : encs m ++ r = encs m' ++ r') : m = m' ∧ r = r' := by
  induction m generalizing m' with
  | nil =>
    cases m' with
    | nil => exact ⟨rfl, e⟩
    | cons => simp at hl
  | cons t m ih =>
    cases m' with
    | nil => simp at hl
    | cons t' m' =>
      simp only [encs, List.append_assoc] at e
      obtain ⟨rfl, e2⟩ := enc_front t hg.1 t' hg'.1 _ _ e
      obtain ⟨rfl, e3⟩ := ih hg.2 hg'.2 (by simpa using hl) e2
      exact ⟨rfl, e3⟩
/-- Which heads there are. -/
inductive Kd (h : List UInt8) (p : Nat) : Nat → Prop where
  | data (t : List UInt8) : h = 100 :: txt t → t.length ≤ 1024 → p = 0 → Kd h p 1
  | atom (t : List UInt8) : h = 97 :: txt t → t.length ≤ 32 → nameOK t = true → p = 0 → Kd h p 2
  | row (v : Nat) : h = 114 :: enc v → v ≤ 32 → p = v → Kd h p 3
  | hash : h = [104] → p = 1 → Kd h p 4
  | mac : h = [109] → p = 2 → Kd h p 5
  | seal_ : h = [115] → p = 3 → Kd h p 6
theorem head_kind {h : List UInt8} {p : Nat} (k : HeadOK h p) : ∃ c, Kd h p c := by
  have e := k []
  rw [List.append_nil] at e
  cases h with
  | nil => exact absurd rfl k.pos
  | cons b r =>
    simp only [headP] at e
    split at e
    · rename_i hb
      subst hb
      obtain ⟨t, n, f, hr⟩ : ∃ t n f, rdt r 1024 = (t, n, f) := ⟨_, _, _, rfl⟩
      rw [hr] at e
      simp only [Prod.mk.injEq, List.length_cons] at e
      obtain ⟨e1, rfl, rfl⟩ := e
      obtain ⟨h1, h2, h3, h4⟩ := rdt_sound hr
      refine ⟨1, .data t ?_ (by omega) rfl⟩
      rw [h4, List.take_of_length_le (by omega)]
    · split at e
      · rename_i hb
        subst hb
        obtain ⟨t, n, f, hr⟩ : ∃ t n f, rdt r 32 = (t, n, f) := ⟨_, _, _, rfl⟩
        rw [hr] at e
        split at e
        · simp at e
        · rename_i hno
          simp only [Prod.mk.injEq, List.length_cons] at e
          obtain ⟨e1, rfl, rfl⟩ := e
          obtain ⟨h1, h2, h3, h4⟩ := rdt_sound hr
          refine ⟨2, .atom t ?_ (by omega) ?_ rfl⟩
          · rw [h4, List.take_of_length_le (by omega)]
          · cases hn : nameOK t with
            | true => rfl
            | false => exact absurd ⟨rfl, hn⟩ hno
      · split at e
        · rename_i hb
          subst hb
          obtain ⟨v, n, f, hr⟩ : ∃ v n f, rdn r = (v, n, f) := ⟨_, _, _, rfl⟩
          rw [hr] at e
          split at e
          · simp at e
          · rename_i hno
            simp only [Prod.mk.injEq, List.length_cons] at e
            obtain ⟨e1, rfl, rfl⟩ := e
            obtain ⟨h1, h2, h3, h4⟩ := rdn_sound hr
            refine ⟨3, .row v ?_ (by simpa using hno) rfl⟩
            rw [h3, List.take_of_length_le (by omega)]
        · split at e
          · rename_i hb
            subst hb
            simp only [Prod.mk.injEq, List.length_cons] at e
            obtain ⟨e1, rfl, _⟩ := e
            exact ⟨4, .hash (by rw [List.length_eq_zero_iff.1 (show r.length = 0 by omega)]) rfl⟩
          · split at e
            · rename_i hb
              subst hb
              simp only [Prod.mk.injEq, List.length_cons] at e
              obtain ⟨e1, rfl, _⟩ := e
              exact ⟨5, .mac (by rw [List.length_eq_zero_iff.1 (show r.length = 0 by omega)]) rfl⟩
            · split at e
              · rename_i hb
                subst hb
                simp only [Prod.mk.injEq, List.length_cons] at e
                obtain ⟨e1, rfl, _⟩ := e
                exact ⟨6, .seal_ (by rw [List.length_eq_zero_iff.1 (show r.length = 0 by omega)]) rfl⟩
              · simp at e
theorem row_head {v : Nat} (h : v ≤ 32) : HeadOK (114 :: enc v) v := by
  intro rest
  rw [List.cons_append, headP, if_neg (by decide), if_neg (by decide), if_pos rfl, rdn_enc (by rw [two64]; omega) rest, if_neg (by simp only; omega)]
  simp [Nat.add_comm]
theorem data_head {t : List UInt8} (h : t.length ≤ 1024) : HeadOK (100 :: txt t) 0 := by
  intro rest
  rw [List.cons_append, headP, if_pos rfl, rdt_txt (by rw [two64]; omega) rest 1024 (by omega)]
  simp [Nat.add_comm]
theorem atom_head {t : List UInt8} (h : t.length ≤ 32) (hn : nameOK t = true) : HeadOK (97 :: txt t) 0 := by
  intro rest
  rw [List.cons_append, headP, if_neg (by decide), if_pos rfl, rdt_txt (by rw [two64]; omega) rest 32 (by omega), if_neg (by simp [hn])]
  simp [Nat.add_comm]
theorem hash_head : HeadOK [104] 1 := fun _ => rfl
theorem mac_head : HeadOK [109] 2 := fun _ => rfl
theorem seal_head : HeadOK [115] 3 := fun _ => rfl

/-- What letters and parts make, or why there is nothing. -/
def madeP (front : List UInt8) (l : List (List UInt8)) : List UInt8 × Nat :=
  if ∀ x ∈ l, checkP x = 0 then (if checkP (front ++ l.flatten) = 0 then (front ++ l.flatten, 0) else ([], 5)) else ([], 2)
def dataP (s : List UInt8) : List UInt8 × Nat := if 1024 < s.length then ([], 5) else (100 :: txt s, 0)
def atomP (s : List UInt8) : List UInt8 × Nat := if 32 < s.length then ([], 5) else if nameOK s = false then ([], 7) else (97 :: txt s, 0)
def rowP (l : List (List UInt8)) : List UInt8 × Nat := madeP (114 :: enc l.length) l

theorem check_len {s : List UInt8} (h : checkP s = 0) : s.length ≤ 16384 := by
  obtain ⟨t, ht, rfl⟩ := check_iff.1 h
  exact ht.2.2
/-- The trees of terms. -/
theorem trees {l : List (List UInt8)} (h : ∀ x ∈ l, checkP x = 0) : ∃ m : List Tm, (∀ t ∈ m, t.valid) ∧ m.map Tm.enc = l := by
  induction l with
  | nil => exact ⟨[], (fun t ht => by cases ht), rfl⟩
  | cons x l ih =>
    obtain ⟨m, h1, h2⟩ := ih (fun y hy => h y (List.mem_cons_of_mem _ hy))
    obtain ⟨t, ht, e⟩ := check_iff.1 (h x (List.mem_cons_self ..))
    refine ⟨t :: m, ?_, by simp [e, h2]⟩
    intro u hu
    rcases List.mem_cons.1 hu with rfl | hu
    · exact ht
    · exact h1 u hu
theorem node_valid_parts {h : List UInt8} {l : List Tm} (hv : (Tm.node h l).valid) : ∀ t ∈ l, t.valid := by
  intro t ht
  have hg := hv.1
  simp only [Tm.good] at hg
  exact places_valid hv (p := t) (by
    simp only [Tm.places, placess_flat, List.mem_cons, List.mem_flatMap]
    exact .inr ⟨t, ht, by obtain ⟨a, b⟩ := t; simp [Tm.places]⟩)
/-- What a valid term's parts make, behind its head, is it again. -/
theorem made_again {h : List UInt8} {l : List Tm} (hv : (Tm.node h l).valid) : madeP h (l.map Tm.enc) = ((Tm.node h l).enc, 0) := by
  unfold madeP
  rw [if_pos (by
    intro x hx
    obtain ⟨t, ht, rfl⟩ := List.mem_map.1 hx
    exact check_enc (node_valid_parts hv t ht))]
  have e : h ++ (l.map Tm.enc).flatten = (Tm.node h l).enc := by rw [← encs_flat, Tm.enc_node]
  rw [e, if_pos (check_enc hv)]
/-- What was made has just those parts. -/
theorem made_parts {front : List UInt8} {l : List (List UInt8)} (hh : HeadOK front l.length) {r : List UInt8} (h : madeP front l = (r, 0)) : ∃ m : List Tm, (Tm.node front m).valid ∧ (Tm.node front m).enc = r ∧ m.map Tm.enc = l := by
  unfold madeP at h
  split at h
  · rename_i h1
    split at h
    · rename_i h2
      simp only [Prod.mk.injEq, and_true] at h
      obtain ⟨m, hm, rfl⟩ := trees h1
      obtain ⟨t, ht, e⟩ := check_iff.1 h2
      have hg : (Tm.node front m).good := by
        simp only [Tm.good]
        exact ⟨by rw [List.length_map] at hh; exact hh, goods_of fun u hu => (hm u hu).1⟩
      have e2 : t.enc = (Tm.node front m).enc := by rw [e, ← encs_flat, Tm.enc_node]
      obtain rfl := enc_tm_inj ht.1 hg e2
      exact ⟨m, ht, by rw [← h, ← encs_flat, Tm.enc_node], rfl⟩
    · simp at h
  · simp at h
theorem row_parts {l : List (List UInt8)} (h8 : l.length < 256 ^ 8) {r : List UInt8} (h : rowP l = (r, 0)) : ∃ m : List Tm, (Tm.node (114 :: enc l.length) m).valid ∧ (Tm.node (114 :: enc l.length) m).enc = r ∧ m.map Tm.enc = l := by
  by_cases hl : l.length ≤ 32
  · exact made_parts (row_head hl) h
  · exfalso
    unfold rowP madeP at h
    split at h
    · split at h
      · rename_i h2
        obtain ⟨⟨h', l'⟩, ht, e⟩ := check_iff.1 h2
        have hg := ht.1
        simp only [Tm.good] at hg
        obtain ⟨c, hk⟩ := head_kind hg.1
        rw [Tm.enc_node] at e
        cases hk with
        | data t e1 _ _ => rw [e1] at e; simp at e
        | atom t e1 _ _ _ => rw [e1] at e; simp at e
        | hash e1 _ => rw [e1] at e; simp at e
        | mac e1 _ => rw [e1] at e; simp at e
        | seal_ e1 _ => rw [e1] at e; simp at e
        | row v e1 hv _ =>
          rw [e1] at e
          simp only [List.cons_append, List.cons.injEq, true_and] at e
          have r1 := rdn_enc (v := v) (by rw [two64]; omega) (encs l')
          rw [e, rdn_enc h8] at r1
          have := congrArg Prod.fst r1
          simp only at this
          omega
      · simp at h
    · simp at h
/- The tree of a term's bytes. -/
open Classical in
noncomputable def treeOf (s : List UInt8) : Option Tm := if h : ∃ t : Tm, t.valid ∧ t.enc = s then some (Classical.choose h) else none
theorem treeOf_enc {t : Tm} (h : t.valid) : treeOf t.enc = some t := by
  have hx : ∃ u : Tm, u.valid ∧ u.enc = t.enc := ⟨t, h, rfl⟩
  unfold treeOf
  rw [dif_pos hx]
  have := Classical.choose_spec hx
  rw [enc_tm_inj this.1.1 h.1 this.2]
theorem treeOf_none {s : List UInt8} (h : checkP s ≠ 0) : treeOf s = none := by
  unfold treeOf
  rw [dif_neg (fun k => h (check_iff.2 k))]
theorem treeOf_some {s : List UInt8} (h : checkP s = 0) : ∃ t : Tm, t.valid ∧ t.enc = s ∧ treeOf s = some t := by
  obtain ⟨t, ht, rfl⟩ := check_iff.1 h
  exact ⟨t, ht, rfl, treeOf_enc ht⟩
noncomputable def kindP (s : List UInt8) : Nat := if checkP s = 0 then (match s with | [] => 0 | b :: _ => if b = 100 then 1 else if b = 97 then 2 else if b = 114 then 3 else if b = 104 then 4 else if b = 109 then 5 else 6) else 0
noncomputable def textP (s : List UInt8) : List UInt8 × Bool := if checkP s = 0 ∧ (s.head? = some 100 ∨ s.head? = some 97) then ((rdt (s.drop 1) 1024).1, true) else ([], false)
noncomputable def partsP (s : List UInt8) : List (List UInt8) × Bool := match treeOf s with | some (.node _ l) => (l.map Tm.enc, true) | none => ([], false)
noncomputable def sizeP (s : List UInt8) : Nat := match treeOf s with | some t => t.places.length | none => 0
noncomputable def depthP (s : List UInt8) : Nat := match treeOf s with | some t => t.deep | none => 0
noncomputable def placesP (s : List UInt8) : List (List UInt8) := match treeOf s with | some t => t.places.map Tm.enc | none => []
def onceL (l : List (List UInt8)) : List (List UInt8) := l.foldl (fun out x => if x ∈ out then out else out ++ [x]) []
noncomputable def hasP (s f : List UInt8) : Bool := match treeOf s, treeOf f with | some _, some _ => decide (f ∈ placesP s) | _, _ => false
noncomputable def swapP (s f u : List UInt8) : List UInt8 × Nat := match treeOf s, treeOf f, treeOf u with
  | some t, some _, some v => if checkP (t.swap f v).enc = 0 then ((t.swap f v).enc, 0) else ([], 5)
  | _, _, _ => ([], 2)
theorem has_places {t : Tm} {f : List UInt8} : Has t f ↔ f ∈ t.places.map Tm.enc := by
  unfold Has
  rw [List.mem_map]
/-- The theorem of the stage, over plain bytes. -/
theorem back_plain {s f u : List UInt8} (h : (swapP s f u).2 = 0) (hf : hasP s f = true) (hu : hasP s u = false) :
    swapP (swapP s f u).1 u f = (s, 0) ∧ hasP (swapP s f u).1 u = true ∧ (hasP u f = true ∨ hasP (swapP s f u).1 f = false) := by
  unfold swapP at h
  cases hs : treeOf s with
  | none => rw [hs] at h; simp at h
  | some t =>
    cases hff : treeOf f with
    | none => rw [hs, hff] at h; simp at h
    | some F =>
      cases huu : treeOf u with
      | none => rw [hs, hff, huu] at h; simp at h
      | some U =>
        rw [hs, hff, huu] at h
        simp only at h
        split at h
        · rename_i hc
          have tv : ∀ {x : List UInt8} {y : Tm}, treeOf x = some y → y.valid ∧ y.enc = x := by
            intro x y e
            by_cases hx : checkP x = 0
            · obtain ⟨z, h1, h2, h3⟩ := treeOf_some hx
              rw [h3] at e
              obtain rfl := Option.some.inj e
              exact ⟨h1, h2⟩
            · rw [treeOf_none hx] at e; cases e
          obtain ⟨tv1, rfl⟩ := tv hs
          obtain ⟨Fv, rfl⟩ := tv hff
          obtain ⟨Uv, rfl⟩ := tv huu
          have e1 : swapP t.enc F.enc U.enc = ((t.swap F.enc U).enc, 0) := by unfold swapP; rw [hs, hff, huu]; simp only; rw [if_pos hc]
          rw [e1]
          simp only
          obtain ⟨S, hS, e2⟩ := check_iff.1 hc
          have hg := swap_good t tv1.1 F.enc U Uv.1
          obtain rfl := enc_tm_inj hS.1 hg e2
          have hS' := treeOf_enc hS
          have nu : ¬ Has t U.enc := by
            unfold hasP placesP at hu
            rw [hs, huu] at hu
            simp only [decide_eq_false_iff_not] at hu
            rw [has_places]; exact hu
          have hF : Has t F.enc := by
            unfold hasP placesP at hf
            rw [hs, hff] at hf
            simp only [decide_eq_true_eq] at hf
            rw [has_places]; exact hf
          have hb := swap_back t tv1.1 F U Fv.1 Uv.1 nu
          refine ⟨?_, ?_, ?_⟩
          · unfold swapP
            rw [hS', hff, huu]
            simp only
            rw [hb, if_pos (check_enc tv1)]
          · unfold hasP placesP
            rw [hS', huu]
            simp only [decide_eq_true_eq]
            exact has_places.1 (has_swap t F.enc U hF)
          · by_cases hUF : Has U F.enc
            · left
              unfold hasP placesP
              rw [huu, hff]
              simp only [decide_eq_true_eq]
              exact has_places.1 hUF
            · right
              unfold hasP placesP
              rw [hS', hff]
              simp only [decide_eq_false_iff_not]
              exact fun hh => swap_gone t tv1.1 F U Fv.1 Uv.1 nu hUF (has_places.2 hh)
        · simp at h
end Go.Proofs.YtedidoeoomijjaaDoor.Pl

namespace Go.Proofs.YtedidoeoomijjaaDoor.Pl

/-- Sums, tags and seals over plain bytes, with what a suite wants of them. -/
structure Cry where
  hash : List UInt8 → List UInt8
  mac : List UInt8 → List UInt8 → List UInt8
  shut : List UInt8 → List UInt8 → List UInt8 → List UInt8
  see : List UInt8 → List UInt8 → Option (List UInt8)
  hash_len : ∀ t, (hash t).length = 32
  mac_len : ∀ k t, (mac k t).length = 32
  shut_len : ∀ k n t, (shut k n t).length = n.length + t.length + 32
  see_shut : ∀ k n t, n.length = 12 → t.length ≤ 16384 → see k (shut k n t) = some t

/-- What a datum says; nothing, where it is none. -/
noncomputable def strP (k : List UInt8) : Option (List UInt8) := if kindP k = 1 then some (textP k).1 else none
noncomputable def strD (k : List UInt8) : List UInt8 := (strP k).getD []

def keyP (c : Cry) (terms : Bool) (m name : List UInt8) : List UInt8 × Nat :=
  if (atomP name).2 ≠ 0 ∨ terms = true then atomP name else dataP (c.mac m ([107, 101, 121, 32] ++ name))
def hash8P (c : Cry) (terms : Bool) (t : List UInt8) : List UInt8 × Nat :=
  if checkP t ≠ 0 then ([], 2) else if terms = true then madeP [104] [t] else dataP (c.hash t)
noncomputable def mac8P (c : Cry) (terms : Bool) (k t : List UInt8) : List UInt8 × Nat :=
  if checkP k ≠ 0 ∨ checkP t ≠ 0 ∨ (terms = false ∧ strP k = none) then ([], 2) else if terms = true then madeP [109] [k, t] else dataP (c.mac (strD k) t)
noncomputable def seal8P (c : Cry) (terms : Bool) (k n t : List UInt8) : List UInt8 × Nat :=
  if checkP k ≠ 0 ∨ checkP n ≠ 0 ∨ checkP t ≠ 0 ∨ (terms = false ∧ (strP k = none ∨ strP n = none ∨ (strD n).length ≠ 12)) then ([], 2)
  else if terms = true then madeP [115] [k, n, t] else dataP (c.shut (strD k) (strD n) t)
noncomputable def open8P (c : Cry) (terms : Bool) (k x : List UInt8) : List UInt8 × Nat :=
  if checkP k ≠ 0 ∨ checkP x ≠ 0 ∨ (terms = false ∧ strP k = none) then ([], 2)
  else if terms = true then (if kindP x ≠ 6 then ([], 7) else if (partsP x).1.getD 0 [] ≠ k then ([], 80) else ((partsP x).1.getD 2 [], 0))
  else match strP x with
    | none => ([], 7)
    | some b => match c.see (strD k) b with
      | none => ([], 80)
      | some t => if checkP t = 0 then (t, 0) else ([], 7)

mutual
/-- The image of a tree, of a suite of bytes with that master. -/
noncomputable def imgT (c : Cry) (m : List UInt8) : Tm → List UInt8 × Nat
  | .node h l =>
    if (imgsT c m l).2 ≠ 0 then ([], (imgsT c m l).2)
    else if h.headD 0 = 97 then keyP c false m (rdt ((h ++ encs l).drop 1) 1024).1
    else if h.headD 0 = 114 then rowP (imgsT c m l).1
    else if h.headD 0 = 104 then hash8P c false ((imgsT c m l).1.getD 0 [])
    else if h.headD 0 = 109 then mac8P c false ((imgsT c m l).1.getD 0 []) ((imgsT c m l).1.getD 1 [])
    else if h.headD 0 = 115 then seal8P c false ((imgsT c m l).1.getD 0 []) ((imgsT c m l).1.getD 1 []) ((imgsT c m l).1.getD 2 [])
    else (h ++ encs l, 0)
noncomputable def imgsT (c : Cry) (m : List UInt8) : List Tm → List (List UInt8) × Nat
  | [] => ([], 0)
  | t :: l => if (imgT c m t).2 ≠ 0 then ([], (imgT c m t).2) else if (imgsT c m l).2 ≠ 0 then ([], (imgsT c m l).2) else ((imgT c m t).1 :: (imgsT c m l).1, 0)
end
noncomputable def image8P (c : Cry) (terms : Bool) (m t : List UInt8) : List UInt8 × Nat :=
  match treeOf t with
  | none => ([], 2)
  | some T => if terms = true then (t, 0) else imgT c m T

theorem treeOf_at {s : List UInt8} {t : Tm} (h : treeOf s = some t) : t.valid ∧ t.enc = s := by
  by_cases hc : checkP s = 0
  · obtain ⟨u, h1, h2, h3⟩ := treeOf_some hc
    rw [h3] at h
    exact Option.some.inj h ▸ ⟨h1, h2⟩
  · rw [treeOf_none hc] at h
    cases h
theorem image_tree {c : Cry} {m t : List UInt8} {T : Tm} (h : treeOf t = some T) : image8P c false m t = imgT c m T := by
  simp [image8P, h]
theorem image_check {c : Cry} {b : Bool} {m t r : List UInt8} (h : image8P c b m t = (r, 0)) : checkP t = 0 := by
  apply Classical.byContradiction
  intro hc
  simp [image8P, treeOf_none hc] at h

/-- The parts of what one, two or three terms made. -/
theorem made1 {f a r : List UInt8} (hh : HeadOK f 1) (h : madeP f [a] = (r, 0)) : ∃ A : Tm, treeOf a = some A ∧ treeOf r = some (.node f [A]) := by
  obtain ⟨m, h1, h2, h3⟩ := made_parts (l := [a]) hh h
  match m, h3 with
  | [A], h3 =>
    simp only [List.map_cons, List.map_nil, List.cons.injEq, and_true] at h3
    have va := node_valid_parts h1
    refine ⟨A, ?_, ?_⟩
    · rw [← h3]; exact treeOf_enc (va A (by simp))
    · rw [← h2]; exact treeOf_enc h1
theorem made2 {f a b r : List UInt8} (hh : HeadOK f 2) (h : madeP f [a, b] = (r, 0)) : ∃ A B : Tm, treeOf a = some A ∧ treeOf b = some B ∧ treeOf r = some (.node f [A, B]) := by
  obtain ⟨m, h1, h2, h3⟩ := made_parts (l := [a, b]) hh h
  match m, h3 with
  | [A, B], h3 =>
    simp only [List.map_cons, List.map_nil, List.cons.injEq, and_true] at h3
    have va := node_valid_parts h1
    refine ⟨A, B, ?_, ?_, ?_⟩
    · rw [← h3.1]; exact treeOf_enc (va A (by simp))
    · rw [← h3.2]; exact treeOf_enc (va B (by simp))
    · rw [← h2]; exact treeOf_enc h1
theorem made3 {f a b d r : List UInt8} (hh : HeadOK f 3) (h : madeP f [a, b, d] = (r, 0)) :
    ∃ A B D : Tm, treeOf a = some A ∧ treeOf b = some B ∧ treeOf d = some D ∧ treeOf r = some (.node f [A, B, D]) := by
  obtain ⟨m, h1, h2, h3⟩ := made_parts (l := [a, b, d]) hh h
  match m, h3 with
  | [A, B, D], h3 =>
    simp only [List.map_cons, List.map_nil, List.cons.injEq, and_true] at h3
    have va := node_valid_parts h1
    refine ⟨A, B, D, ?_, ?_, ?_, ?_⟩
    · rw [← h3.1]; exact treeOf_enc (va A (by simp))
    · rw [← h3.2.1]; exact treeOf_enc (va B (by simp))
    · rw [← h3.2.2]; exact treeOf_enc (va D (by simp))
    · rw [← h2]; exact treeOf_enc h1

theorem hash8_made {c : Cry} {t x : List UInt8} (h : hash8P c true t = (x, 0)) : madeP [104] [t] = (x, 0) := by
  unfold hash8P at h
  split at h
  · simp at h
  · simpa using h
theorem mac8_made {c : Cry} {k t x : List UInt8} (h : mac8P c true k t = (x, 0)) : madeP [109] [k, t] = (x, 0) := by
  unfold mac8P at h
  split at h
  · simp at h
  · simpa using h
theorem seal8_made {c : Cry} {k n t x : List UInt8} (h : seal8P c true k n t = (x, 0)) : madeP [115] [k, n, t] = (x, 0) := by
  unfold seal8P at h
  split at h
  · simp at h
  · simpa using h

/-- The image of a hash is the hash of the image. -/
theorem hash_image {c : Cry} {m t ti x : List UInt8} (hi : image8P c false m t = (ti, 0)) (h : hash8P c true t = (x, 0)) :
    image8P c false m x = hash8P c false ti := by
  obtain ⟨A, h1, h2⟩ := made1 hash_head (hash8_made h)
  rw [image_tree h1] at hi
  rw [image_tree h2, imgT]
  simp [imgsT, hi]
theorem mac_image {c : Cry} {m k ki t ti x : List UInt8} (hk : image8P c false m k = (ki, 0)) (hi : image8P c false m t = (ti, 0)) (h : mac8P c true k t = (x, 0)) :
    image8P c false m x = mac8P c false ki ti := by
  obtain ⟨A, B, h1, h2, h3⟩ := made2 mac_head (mac8_made h)
  rw [image_tree h1] at hk
  rw [image_tree h2] at hi
  rw [image_tree h3, imgT]
  simp [imgsT, hi, hk]
theorem seal_image {c : Cry} {m k ki n ni t ti x : List UInt8} (hk : image8P c false m k = (ki, 0)) (hn : image8P c false m n = (ni, 0)) (hi : image8P c false m t = (ti, 0))
    (h : seal8P c true k n t = (x, 0)) : image8P c false m x = seal8P c false ki ni ti := by
  obtain ⟨A, B, D, h1, h2, h3, h4⟩ := made3 seal_head (seal8_made h)
  rw [image_tree h1] at hk
  rw [image_tree h2] at hn
  rw [image_tree h3] at hi
  rw [image_tree h4, imgT]
  simp [imgsT, hi, hk, hn]
end Go.Proofs.YtedidoeoomijjaaDoor.Pl

namespace Go.Proofs.YtedidoeoomijjaaDoor.Pl

theorem leaf_valid {h : List UInt8} (hh : HeadOK h 0) (hl : h.length ≤ 16384) : (Tm.node h []).valid := by
  refine ⟨by simp only [Tm.good]; exact ⟨hh, trivial⟩, by simp [Tm.deep, deeps], ?_⟩
  rw [Tm.enc_node]; simpa [encs] using hl
theorem leaf_tree {h : List UInt8} (hh : HeadOK h 0) (hl : h.length ≤ 16384) : treeOf h = some (.node h []) := by
  have := treeOf_enc (leaf_valid hh hl)
  rwa [Tm.enc_node, encs, List.append_nil] at this
theorem txt_most {t : List UInt8} (h : t.length ≤ 1024) : (txt t).length ≤ 1033 := by
  rw [txt_len]
  have := enc_len t.length
  omega
theorem data_ok {s x : List UInt8} (h : dataP s = (x, 0)) : s.length ≤ 1024 ∧ x = 100 :: txt s := by
  unfold dataP at h
  split at h
  · simp at h
  · simp only [Prod.mk.injEq, and_true] at h
    exact ⟨by omega, h.symm⟩
theorem data_tree {s : List UInt8} (h : s.length ≤ 1024) : treeOf (100 :: txt s) = some (.node (100 :: txt s) []) :=
  leaf_tree (data_head h) (by have := txt_most h; simp only [List.length_cons]; omega)
theorem data_check {s : List UInt8} (h : s.length ≤ 1024) : checkP (100 :: txt s) = 0 := by
  apply Classical.byContradiction
  intro hc
  have := data_tree h
  rw [treeOf_none hc] at this
  cases this
theorem lt8 {n : Nat} (h : n ≤ 1024) : n < 256 ^ 8 := Nat.lt_of_le_of_lt h (by decide)
theorem data_text {s : List UInt8} (h : s.length ≤ 1024) : textP (100 :: txt s) = (s, true) := by
  unfold textP
  rw [if_pos ⟨data_check h, .inl rfl⟩]
  have e := rdt_txt (lt8 h) [] 1024 (by omega)
  rw [List.append_nil] at e
  simp [e]
theorem data_kind {s : List UInt8} (h : s.length ≤ 1024) : kindP (100 :: txt s) = 1 := by
  unfold kindP
  rw [if_pos (data_check h)]
  rfl
theorem data_str {s : List UInt8} (h : s.length ≤ 1024) : strP (100 :: txt s) = some s := by
  rw [strP, if_pos (data_kind h), data_text h]
theorem data_strD {s : List UInt8} (h : s.length ≤ 1024) : strD (100 :: txt s) = s := by rw [strD, data_str h]; rfl
theorem atom_ok {s x : List UInt8} (h : atomP s = (x, 0)) : s.length ≤ 32 ∧ nameOK s = true ∧ x = 97 :: txt s := by
  unfold atomP at h
  split at h
  · simp at h
  · split at h
    · simp at h
    · rename_i h1 h2
      simp only [Prod.mk.injEq, and_true] at h
      exact ⟨by omega, by simpa using h2, h.symm⟩
theorem atom_tree {s : List UInt8} (h : s.length ≤ 32) (hn : nameOK s = true) : treeOf (97 :: txt s) = some (.node (97 :: txt s) []) :=
  leaf_tree (atom_head h hn) (by have := txt_most (t := s) (by omega); simp only [List.length_cons]; omega)

/-- The image of a key is the key of that name. -/
theorem key_image {c : Cry} {m u name a : List UInt8} (h : keyP c true u name = (a, 0)) : image8P c false m a = keyP c false m name := by
  simp only [keyP, or_true, if_true] at h
  obtain ⟨h1, h2, rfl⟩ := atom_ok h
  rw [image_tree (atom_tree h1 h2), imgT]
  have e := rdt_txt (t := name) (lt8 (by omega)) [] 1024 (by omega)
  rw [List.append_nil] at e
  simp [imgsT, encs, e]
/-- Both kinds have keys of the same names. -/
theorem key_err {c : Cry} {u m name : List UInt8} : (keyP c true u name).2 = (keyP c false m name).2 := by
  by_cases h : (atomP name).2 = 0
  · have hl := c.mac_len m ([107, 101, 121, 32] ++ name)
    simp only [keyP, h, ne_eq, not_true_eq_false, Bool.false_eq_true, or_false, if_false, or_true, if_true, dataP]
    rw [if_neg (by omega)]
  · simp [keyP, h]

/-- What was sealed is opened. -/
theorem back_terms {c : Cry} {k n t x : List UInt8} (h : seal8P c true k n t = (x, 0)) : open8P c true k x = (t, 0) ∧ x ≠ t := by
  have hm := seal8_made h
  obtain ⟨m, h1, h2, h3⟩ := made_parts (l := [k, n, t]) seal_head hm
  have hx : checkP x = 0 := by rw [← h2]; exact check_enc h1
  have hk : checkP k = 0 := by
    apply Classical.byContradiction
    intro hc
    simp [seal8P, hc] at h
  have hp : partsP x = ([k, n, t], true) := by
    unfold partsP
    rw [← h2, treeOf_enc h1]
    simp [h3]
  have he : x = [115] ++ ([k, n, t] : List (List UInt8)).flatten := by
    rw [← h2, Tm.enc_node, encs_flat, h3]
  have hkd : kindP x = 6 := by
    unfold kindP
    rw [if_pos hx, he]
    rfl
  refine ⟨?_, ?_⟩
  · simp [open8P, hk, hx, hkd, hp]
  · intro e
    have := congrArg List.length (he.symm.trans e)
    simp only [List.flatten_cons, List.flatten_nil, List.append_nil, List.length_append, List.length_cons, List.length_nil] at this
    omega
theorem back_bytes {c : Cry} {k n t x : List UInt8} (h : seal8P c false k n t = (x, 0)) : open8P c false k x = (t, 0) ∧ x ≠ t := by
  unfold seal8P at h
  split at h
  · simp at h
  · rename_i hn
    simp only [not_or, not_and, ne_eq, Classical.not_not, Bool.false_eq_true, if_false, forall_const] at hn h
    obtain ⟨hk, h1, ht, h2, h3, h4⟩ := hn
    obtain ⟨hs, rfl⟩ := data_ok h
    have hl := c.shut_len (strD k) (strD n) t
    have hc := check_len ht
    refine ⟨?_, ?_⟩
    · unfold open8P
      rw [if_neg (by simp [hk, data_check hs, h2])]
      simp [data_str hs, c.see_shut (strD k) (strD n) t h4 hc, ht]
    · intro e
      have := congrArg List.length e
      rw [List.length_cons, txt_len] at this
      omega
/-- Of a suite of terms, with no other key, and nothing but a seal is opened. -/
theorem other_terms {c : Cry} {k n t x j : List UInt8} (h : seal8P c true k n t = (x, 0)) (hj : checkP j = 0) :
    open8P c true j x = if j = k then (t, 0) else ([], 80) := by
  have hb := (back_terms h).1
  unfold open8P at hb ⊢
  split at hb
  · simp at hb
  · rename_i hc
    rw [if_neg (by simp only [not_or] at hc ⊢; exact ⟨by simpa using hj, hc.2.1, fun e => by cases e.1⟩)]
    simp only [if_true] at hb ⊢
    split at hb
    · simp at hb
    · rename_i h6
      rw [if_neg h6]
      split at hb
      · simp at hb
      · rename_i h0
        simp only [ne_eq, Classical.not_not] at h0
        rw [h0]
        by_cases e : j = k
        · subst e
          simpa using hb
        · rw [if_pos (by exact fun k' => e k'.symm), if_neg e]
theorem form_terms {c : Cry} {k n : List UInt8} (hk : checkP k = 0) (hn : checkP n = 0) (h : kindP n ≠ 6) : open8P c true k n = ([], 7) := by
  simp [open8P, hk, hn, h]
/-- Of a suite of terms unlike ones make unlike ones. -/
theorem made_inj {f f' : List UInt8} {l l' : List (List UInt8)} {x : List UInt8} (hh : HeadOK f l.length) (hh' : HeadOK f' l'.length)
    (h : madeP f l = (x, 0)) (h' : madeP f' l' = (x, 0)) : f = f' ∧ l = l' := by
  obtain ⟨m, h1, h2, h3⟩ := made_parts hh h
  obtain ⟨m', h1', h2', h3'⟩ := made_parts hh' h'
  have e := enc_tm_inj h1.1 h1'.1 (h2.trans h2'.symm)
  injection e with e1 e2
  exact ⟨e1, by rw [← h3, ← h3', e2]⟩
theorem key_apart {c : Cry} {u a b x y : List UInt8} (h : keyP c true u a = (x, 0)) (h' : keyP c true u b = (y, 0)) : x = y ↔ a = b := by
  constructor
  · rintro rfl
    simp only [keyP, or_true, if_true] at h h'
    obtain ⟨h1, _, rfl⟩ := atom_ok h
    obtain ⟨h1', _, e⟩ := atom_ok h'
    simp only [List.cons.injEq, true_and] at e
    have r := rdt_txt (t := a) (lt8 (by omega)) [] 1024 (by omega)
    rw [e, rdt_txt (t := b) (lt8 (by omega)) [] 1024 (by omega)] at r
    exact (congrArg Prod.fst r).symm
  · rintro rfl
    exact congrArg Prod.fst (h.symm.trans h')
theorem hash_apart {c : Cry} {a b x y : List UInt8} (h : hash8P c true a = (x, 0)) (h' : hash8P c true b = (y, 0)) : x = y ↔ a = b := by
  constructor
  · rintro rfl
    simpa using (made_inj (l := [a]) (l' := [b]) hash_head hash_head (hash8_made h) (hash8_made h')).2
  · rintro rfl
    exact congrArg Prod.fst (h.symm.trans h')
theorem mac_apart {c : Cry} {k j a b x y : List UInt8} (h : mac8P c true k a = (x, 0)) (h' : mac8P c true j b = (y, 0)) : x = y ↔ k = j ∧ a = b := by
  constructor
  · rintro rfl
    simpa using (made_inj (l := [k, a]) (l' := [j, b]) mac_head mac_head (mac8_made h) (mac8_made h')).2
  · rintro ⟨rfl, rfl⟩
    exact congrArg Prod.fst (h.symm.trans h')
theorem seal_apart {c : Cry} {k j n m a b x y : List UInt8} (h : seal8P c true k n a = (x, 0)) (h' : seal8P c true j m b = (y, 0)) : x = y ↔ k = j ∧ n = m ∧ a = b := by
  constructor
  · rintro rfl
    simpa using (made_inj (l := [k, n, a]) (l' := [j, m, b]) seal_head seal_head (seal8_made h) (seal8_made h')).2
  · rintro ⟨rfl, rfl, rfl⟩
    exact congrArg Prod.fst (h.symm.trans h')
theorem hash_mac {c : Cry} {a k b x y : List UInt8} (h : hash8P c true a = (x, 0)) (h' : mac8P c true k b = (y, 0)) : x ≠ y := by
  rintro rfl
  have := (made_inj (l := [a]) (l' := [k, b]) hash_head mac_head (hash8_made h) (mac8_made h')).1
  simp at this
theorem mac_seal {c : Cry} {k b j n a x y : List UInt8} (h : mac8P c true k b = (x, 0)) (h' : seal8P c true j n a = (y, 0)) : x ≠ y := by
  rintro rfl
  have := (made_inj (l := [k, b]) (l' := [j, n, a]) mac_head seal_head (mac8_made h) (seal8_made h')).1
  simp at this

/-- A nonce of three numbers: four bytes of each, the highest first. -/
def four8 (v : Nat) : List UInt8 := [UInt8.ofNat (v / 16777216), UInt8.ofNat (v / 65536 % 256), UInt8.ofNat (v / 256 % 256), UInt8.ofNat (v % 256)]
theorem u8_of {a b : Nat} (ha : a < 256) (hb : b < 256) (h : UInt8.ofNat a = UInt8.ofNat b) : a = b := by
  have := congrArg UInt8.toNat h
  rw [UInt8.toNat_ofNat', UInt8.toNat_ofNat'] at this
  omega
theorem four8_inj {v u : Nat} (hv : v < 4294967296) (hu : u < 4294967296) (h : four8 v = four8 u) : v = u := by
  simp only [four8, List.cons.injEq, and_true] at h
  have a := u8_of (by omega) (by omega) h.1
  have b := u8_of (by omega) (by omega) h.2.1
  have d := u8_of (by omega) (by omega) h.2.2.1
  have e := u8_of (by omega) (by omega) h.2.2.2
  omega
theorem nonce_inj {a b d a' b' d' : Nat} (ha : a < 4294967296) (hb : b < 4294967296) (hd : d < 4294967296) (ha' : a' < 4294967296) (hb' : b' < 4294967296) (hd' : d' < 4294967296)
    {x : List UInt8} (h : dataP (four8 a ++ four8 b ++ four8 d) = (x, 0)) (h' : dataP (four8 a' ++ four8 b' ++ four8 d') = (x, 0)) : a = a' ∧ b = b' ∧ d = d' := by
  obtain ⟨h1, rfl⟩ := data_ok h
  obtain ⟨h1', e⟩ := data_ok h'
  have e2 := data_text h1
  rw [e, data_text h1'] at e2
  have e3 := congrArg Prod.fst e2
  simp only at e3
  have s1 : four8 a' = four8 a ∧ four8 b' = four8 b ∧ four8 d' = four8 d := by
    simp only [four8, List.cons_append, List.nil_append, List.cons.injEq, and_true] at e3 ⊢
    exact ⟨⟨e3.1, e3.2.1, e3.2.2.1, e3.2.2.2.1⟩, ⟨e3.2.2.2.2.1, e3.2.2.2.2.2.1, e3.2.2.2.2.2.2.1, e3.2.2.2.2.2.2.2.1⟩,
      ⟨e3.2.2.2.2.2.2.2.2.1, e3.2.2.2.2.2.2.2.2.2.1, e3.2.2.2.2.2.2.2.2.2.2.1, e3.2.2.2.2.2.2.2.2.2.2.2⟩⟩
  exact ⟨(four8_inj ha' ha s1.1).symm, (four8_inj hb' hb s1.2.1).symm, (four8_inj hd' hd s1.2.2).symm⟩
end Go.Proofs.YtedidoeoomijjaaDoor.Pl

namespace Go.Proofs.YtedidoeoomijjaaDoor.Pl
open Go.RowKit

/-- The cells of an array that holds the numbers l. -/
def row (k : IntKind) (l : List Nat) : Array Value := (l.map fun (x : Nat) => Value.int k (x : Int)).toArray
theorem row_size (k : IntKind) (l : List Nat) : (row k l).size = l.length := by simp [row]
theorem row_at (k : IntKind) (l : List Nat) (i : Nat) (h : i < l.length) : (row k l)[i]? = some (.int k ((l.getD i 0 : Nat) : Int)) := by
  simp [row, List.getD_eq_getElem?_getD, h]
theorem row_set (k : IntKind) (l : List Nat) (i : Nat) (v : Nat) : (row k l).setIfInBounds i (.int k (v : Int)) = row k (l.set i v) := by
  simp [row, List.map_set]
theorem row_one (k : IntKind) (l : List Nat) : (row k l).all (·.oneCell') = true := by
  simp [row]; intro x _; rfl
theorem row_get (k : IntKind) (l : List Nat) (i : Nat) (h : i < l.length) : (row k l).getD i undef = .int k ((l.getD i 0 : Nat) : Int) := by
  have := row_at k l i h
  rw [Array.getD_eq_getD_getElem?, this]; rfl

/-- What the block of an array of numbers gives a walk. -/
theorem at_row {w : World} {b : Nat} {k : IntKind} {l : List Nat} {t : TypeId} (h : w.heap[b]? = some (.cells (row k l) t (0, 0))) (j : Nat) (hj : j < l.length) :
    w.cell? ⟨b, j, none⟩ = some (.int k ((l.getD j 0 : Nat) : Int)) ∧ w.frozen? ⟨b, j, none⟩ = false :=
  ⟨by rw [cell_of_row w b j _ t (0, 0) h, row_at k l j hj], frozen_of_row w b j _ t h⟩
theorem heap_step {w : World} {b j : Nat} {k : IntKind} {l : List Nat} {t : TypeId} (h : w.heap[b]? = some (.cells (row k l) t (0, 0))) (v : Nat) :
    (w.setCell ⟨b, j, none⟩ (.int k (v : Int))).heap[b]? = some (.cells (row k (l.set j v)) t (0, 0)) := by
  rw [heap_setCell_same w b j _ t _ h, row_set]
theorem heap_keep {w : World} {b c j : Nat} {v : Value} {o : Option Obj} (h : w.heap[c]? = o) (hc : c ≠ b) : (w.setCell ⟨b, j, none⟩ v).heap[c]? = o := by
  rw [heap_setCell_other _ _ _ _ hc]; exact h

theorem size_alloc' (w : World) (o : Obj) : (w.alloc o).heap.size = w.heap.size + 1 := by
  show (w.heap.push o).size = _
  simp

theorem below_setRow {B : Nat} {a w : World} (h : Below B a w) {g : Nat} (hg : B ≤ g) (cs : Array Value) : Below B a (w.setRow g cs) :=
  ⟨h.os, h.tape, h.output, by rw [setRow_size]; exact h.size, fun i hi => by rw [setRow_other _ _ _ _ (by omega)]; exact h.block i hi⟩

theorem heap3_0 (w : World) (A B C : Obj) : (((w.alloc A).alloc B).alloc C).heap[w.heap.size]? = some A := by
  rw [Go.heap_alloc_old _ _ (by simp; omega), Go.heap_alloc_old _ _ (by simp), Go.heap_alloc_new]
theorem heap3_1 (w : World) (A B C : Obj) : (((w.alloc A).alloc B).alloc C).heap[w.heap.size + 1]? = some B := by
  rw [Go.heap_alloc_old _ _ (by simp)]
  have := Go.heap_alloc_new (w.alloc A) B
  rw [size_alloc'] at this
  exact this
theorem heap3_2 (w : World) (A B C : Obj) : (((w.alloc A).alloc B).alloc C).heap[w.heap.size + 1 + 1]? = some C := by
  have := Go.heap_alloc_new ((w.alloc A).alloc B) C
  rw [size_alloc', size_alloc'] at this
  exact this
theorem below3 (w : World) (A B C : Obj) : Below w.heap.size w (((w.alloc A).alloc B).alloc C) := (((Below.refl _ _).alloc (Nat.le_refl _) _).alloc (by simp) _).alloc (by simp; omega) _
theorem heap_below {w w' : World} {b : Nat} {o : Obj} (hb : Below w.heap.size w w') (h : w.heap[b]? = some o) : w'.heap[b]? = some o := by
  rw [hb.block b (Array.getElem?_eq_some_iff.1 h).1]; exact h
theorem heap_alloc {w : World} {b : Nat} {o : Obj} (h : w.heap[b]? = some o) (p : Obj) : (w.alloc p).heap[b]? = some o := by
  rw [Go.heap_alloc_old _ _ (Array.getElem?_eq_some_iff.1 h).1]; exact h
theorem heap_setRow {w : World} {b : Nat} {o : Obj} (h : w.heap[b]? = some o) {g : Nat} (hg : b ≠ g) (cs : Array Value) : (w.setRow g cs).heap[b]? = some o := by
  rw [setRow_other _ _ _ _ hg]; exact h

theorem getD_set (l : List Nat) (j v i : Nat) (hj : j < l.length) : (l.set j v).getD i 0 = if i = j then v else l.getD i 0 := by
  rw [List.getD_eq_getElem?_getD, List.getElem?_set]
  by_cases e : j = i
  · subst e; simp [hj]
  · rw [if_neg e, if_neg (fun h => e h.symm), List.getD_eq_getElem?_getD]
theorem getD_ext {l m : List Nat} (hl : l.length = m.length) (h : ∀ i, i < l.length → l.getD i 0 = m.getD i 0) : l = m := by
  apply List.ext_getElem hl
  intro i h1 h2
  have := h i h1
  simpa [List.getD_eq_getElem?_getD, h1, h2] using this

/-- l agrees with f up to n. -/
def Agrees (l : List Nat) (f : Nat → Nat) (n : Nat) : Prop := ∀ j, j < n → l.getD j 0 = f j
theorem Agrees.zero (l : List Nat) (f : Nat → Nat) : Agrees l f 0 := fun _ h => absurd h (by omega)
theorem Agrees.next {l : List Nat} {f : Nat → Nat} {n : Nat} (h : Agrees l f n) (hn : n < l.length) : Agrees (l.set n (f n)) f (n + 1) := by
  intro j hj
  rw [List.getD_eq_getElem?_getD, List.getElem?_set]
  by_cases e : n = j
  · subst e; simp [hn]
  · rw [if_neg e, ← List.getD_eq_getElem?_getD]; exact h j (by omega)
theorem Agrees.ext {l m : List Nat} {n : Nat} (h : Agrees l (fun j => m.getD j 0) n) (hl : l.length = n) (hm : m.length = n) : l = m := by
  apply List.ext_getElem (by omega)
  intro i h1 h2
  have := h i (by omega)
  simpa [List.getD_eq_getElem?_getD, h1, h2] using this
end Go.Proofs.YtedidoeoomijjaaDoor.Pl

namespace Go.Proofs.YtedidoeoomijjaaDoor.Pl
open Go.RowKit

theorem below_step {a b c : World} (h : Below a.heap.size a b) (k : Below b.heap.size b c) : Below a.heap.size a c := h.trans (k.mono h.size)
theorem below_undrew {a b : World} (h : Below a.drew.heap.size a.drew b) : Below a.heap.size a b := ⟨h.os, h.tape, h.output, h.size, h.block⟩
theorem below_undrewN {a b : World} {n : Nat} (h : Below (a.drewN n).heap.size (a.drewN n) b) : Below a.heap.size a b := ⟨h.os, h.tape, h.output, h.size, h.block⟩
theorem below_drewN {B : Nat} {a w : World} (h : Below B a w) (n : Nat) : Below B a (w.drewN n) := ⟨h.os, h.tape, h.output, h.size, h.block⟩
theorem bcell {W w1 : World} (hb : Below W.heap.size W w1) : ∀ b o, b < W.heap.size → w1.cell? ⟨b, o, none⟩ = W.cell? ⟨b, o, none⟩ := fun b o h => hb.cell (p := ⟨b, o, none⟩) h
theorem ret_str {a b : ByteArray} (h : a = b) : Ending.returned (.string a) = .returned (.string b) := by rw [h]
theorem ret3 {a b : Int} {n m : Value} (h : a = b) : Ending.returned (.tuple #[.int .u64 a, n, m]) = .returned (.tuple #[.int .u64 b, n, m]) := by rw [h]
theorem ret3s {a b : ByteArray} {n m : Int} {k j : Int} (h : a = b) (h1 : n = m) (h2 : k = j) : Ending.returned (.tuple #[.string a, .int .i64 n, .int .i64 k]) = .returned (.tuple #[.string b, .int .i64 m, .int .i64 j]) := by rw [h, h1, h2]
theorem size_lit (l : List UInt8) : (ByteArray.mk l.toArray).size = l.length := by simp [ByteArray.size]
end Go.Proofs.YtedidoeoomijjaaDoor.Pl

namespace Go.Proofs.YtedidoeoomijjaaDoor.Pl
open Go.RowKit Go.ChangeShapes Go.WideShapes

/-- Each of these types can be read, and is a row of the table. -/
def typesRowed (P : Program) (ts : List TypeId) : Bool := ts.all fun t => P.readableRec t && decide (t < P.types.size)

theorem trodAll_later {H : Type} {enc : TypeId × Value → H} {P : Program} (hl : laidOutB P = true) {W W' : World} (hb : Below W.heap.size W W') :
    ∀ {ts : List TypeId} {vs : List Value} {ds : List (DataW H)} {ps : List MemPlace}, typesRowed P ts = true →
      DataW.TrodAll enc P W 0 (fun _ => true) true ts vs ds ps → DataW.TrodAll enc P W' 0 (fun b => decide (b < W.heap.size)) true ts vs ds ps
  | [], [], [], _, _, h => h
  | t :: ts, v :: vs, d :: ds, ps, ht, h => by
    have hlt := h.lt
    obtain ⟨p, q, h1, h2, e⟩ := h
    simp only [typesRowed, List.all_cons, Bool.and_eq_true, decide_eq_true_eq] at ht
    exact ⟨p, q, Below.trod hl ht.1.1 ht.1.2 h1 hb (fun x hx => hlt x (by rw [e]; simp [hx])), trodAll_later hl hb ht.2 h2, e⟩
  | [], [], _ :: _, _, _, h => h.elim
  | [], _ :: _, _, _, _, h => h.elim
  | _ :: _, [], _, _, _, h => h.elim
  | _ :: _, _ :: _, [], _, _, h => h.elim

/-- The law's post: the result is true, the arguments read as they did. -/
theorem law_post {H : Type} {enc : TypeId × Value → H} {P : Program} {f : Func} {s : ChangeSpec} {W W' : World} {args : Array Value} {ds gs : List (DataW H)} {before : List MemPlace} {T : TypeId}
    (hl : laidOutB P = true) (ht : typesRowed P f.params.toList = true) (hT : P.underlying T = some .bool) (hr : f.resultTypes = #[T]) (hv : s.vars = [])
    (hW : DataW.Whole enc P f.params.toList s.vars false W args.toList ds gs before) (hb : Below W.heap.size W W')
    (h1 : (s.fn H (ds ++ gs)).results = [.lit (.bool true)]) (h2 : (s.fn H (ds ++ gs)).args = ds) (h3 : (s.fn H (ds ++ gs)).vars = []) :
    s.post enc P f false true false false W args (.bool true) W' := by
  have hW' := hW
  obtain ⟨p, q, hA, hV, hps, _, _⟩ := hW'
  rw [hv] at hV
  obtain ⟨rfl, rfl⟩ := trodVars_none hV
  refine ⟨ds, [], before, [], p, [], hW, ?_, ?_, ?_, World.keptBut_mono (fun x hx => hx.elim) (hb.frame (fun _ => False)), fun h => by cases h⟩
  · rw [h1, hr]
    exact trodAll_mk1 (shut_bool hT true)
  · rw [h2]
    exact trodAll_later hl hb ht hA
  · rw [h3, hv]
    rfl
end Go.Proofs.YtedidoeoomijjaaDoor.Pl
