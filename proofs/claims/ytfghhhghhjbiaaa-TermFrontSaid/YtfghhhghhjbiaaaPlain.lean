/- The encoding of numbers, texts and rows of texts as lists of bytes, and what holds of it; plain mathematics alone, no program. -/
import GoSem.Op.String
namespace Go.Proofs.Ytfghhhghhjbiaaa.Pl

/-- The digits of v to the base 256, the highest first, no more than f of them; of 0 none. -/
def dig : Nat → Nat → List UInt8
  | 0, _ => []
  | f + 1, v => if v = 0 then [] else dig f (v / 256) ++ [UInt8.ofNat (v % 256)]

/-- The encoding of a number. -/
def enc (v : Nat) : List UInt8 := if v < 248 then [UInt8.ofNat v] else UInt8.ofNat (247 + (dig 8 v).length) :: dig 8 v

/-- The number that digits are. -/
def val (l : List UInt8) : Nat := l.foldl (fun a b => a * 256 + b.toNat) 0

theorem val_nil : val [] = 0 := rfl
theorem val_snoc (l : List UInt8) (b : UInt8) : val (l ++ [b]) = val l * 256 + b.toNat := by simp [val, List.foldl_append]
theorem foldl_val (l : List UInt8) : ∀ a, l.foldl (fun a b => a * 256 + b.toNat) a = a * 256 ^ l.length + val l := by
  induction l with
  | nil => intro a; simp [val]
  | cons b r ih =>
    intro a
    have h1 := ih (a * 256 + b.toNat)
    have h2 := ih (0 * 256 + b.toNat)
    show r.foldl _ (a * 256 + b.toNat) = _
    have h3 : val (b :: r) = r.foldl (fun a b => a * 256 + b.toNat) (0 * 256 + b.toNat) := rfl
    rw [h1, h3, h2, List.length_cons, Nat.pow_succ]
    simp only [Nat.add_mul, Nat.zero_mul, Nat.zero_add]
    have : a * 256 * 256 ^ r.length = a * (256 ^ r.length * 256) := by rw [Nat.mul_assoc, Nat.mul_comm 256]
    omega
theorem val_cons (b : UInt8) (r : List UInt8) : val (b :: r) = b.toNat * 256 ^ r.length + val r := by
  have h := foldl_val r (0 * 256 + b.toNat)
  have h3 : val (b :: r) = r.foldl (fun a b => a * 256 + b.toNat) (0 * 256 + b.toNat) := rfl
  rw [h3, h]; simp
theorem val_lt (l : List UInt8) : val l < 256 ^ l.length := by
  induction l with
  | nil => simp [val]
  | cons b r ih =>
    rw [val_cons, List.length_cons, Nat.pow_succ]
    have hb : b.toNat < 256 := b.toNat_lt
    have : b.toNat * 256 ^ r.length + 256 ^ r.length ≤ 256 ^ r.length * 256 := by
      rw [← Nat.succ_mul, Nat.mul_comm]
      exact Nat.mul_le_mul_left _ hb
    omega

theorem dig_zero (f : Nat) : dig f 0 = [] := by cases f <;> simp [dig]
theorem dig_succ (f v : Nat) (h : v ≠ 0) : dig (f + 1) v = dig f (v / 256) ++ [UInt8.ofNat (v % 256)] := by simp [dig, h]

theorem val_dig (f : Nat) : ∀ v, v < 256 ^ f → val (dig f v) = v := by
  induction f with
  | zero => intro v h; have : v = 0 := by simpa using h
            subst this; rfl
  | succ f ih =>
    intro v h
    by_cases h0 : v = 0
    · subst h0; rw [dig_zero]; rfl
    · rw [dig_succ f v h0, val_snoc, ih (v / 256) (by rw [Nat.pow_succ] at h; omega)]
      have : (UInt8.ofNat (v % 256)).toNat = v % 256 := by simp
      omega

/-- Digits that do not begin with 0 are the digits of their number. -/
theorem dig_val (f : Nat) : ∀ l : List UInt8, l.length ≤ f → l.head? ≠ some 0 → dig f (val l) = l := by
  induction f with
  | zero => intro l h _; have : l = [] := List.eq_nil_of_length_eq_zero (by omega)
            subst this; rfl
  | succ f ih =>
    intro l hl hh
    rcases List.eq_nil_or_concat l with rfl | ⟨r, b, rfl⟩
    · rw [val_nil, dig_zero]
    · rw [List.concat_eq_append] at *
      have hb : b.toNat < 256 := b.toNat_lt
      have hv : val (r ++ [b]) ≠ 0 := by
        rw [val_snoc]
        intro h0
        cases r with
        | nil =>
          simp at hh
          apply hh
          have : b.toNat = 0 := by omega
          exact UInt8.toNat.inj (by simpa using this)
        | cons c r =>
          rw [val_cons] at h0
          simp at hh
          have h1 : 0 < 256 ^ r.length := Nat.pow_pos (by decide)
          have h2 : c.toNat * 256 ^ r.length = 0 := by omega
          have h3 : c.toNat = 0 := by
            rcases Nat.mul_eq_zero.1 h2 with h | h
            · exact h
            · omega
          exact hh (UInt8.toNat.inj (by simpa using h3))
      rw [dig_succ f _ hv, val_snoc]
      have e1 : (val r * 256 + b.toNat) / 256 = val r := by omega
      have e2 : (val r * 256 + b.toNat) % 256 = b.toNat := by omega
      rw [e1, e2, ih r (by simp at hl; omega) (by
        cases r with
        | nil => simp
        | cons c r => simpa using hh)]
      simp

theorem dig_length_le (f : Nat) : ∀ v, (dig f v).length ≤ f := by
  induction f with
  | zero => intro v; simp [dig]
  | succ f ih =>
    intro v
    by_cases h0 : v = 0
    · subst h0; rw [dig_zero]; simp
    · rw [dig_succ f v h0]; have := ih (v / 256); simp; omega

theorem dig_head (f : Nat) : ∀ v, v < 256 ^ f → (dig f v).head? ≠ some 0 := by
  induction f with
  | zero => intro v _; simp [dig]
  | succ f ih =>
    intro v h
    by_cases h0 : v = 0
    · subst h0; rw [dig_zero]; simp
    · rw [dig_succ f v h0]
      have h1 := ih (v / 256) (by rw [Nat.pow_succ] at h; omega)
      cases hd : dig f (v / 256) with
      | nil =>
        have h2 := val_dig f (v / 256) (by rw [Nat.pow_succ] at h; omega)
        rw [hd, val_nil] at h2
        simp
        intro h3
        have h4 : (UInt8.ofNat (v % 256)).toNat = v % 256 := by simp
        rw [h3] at h4
        simp at h4
        omega
      | cons c r => rw [hd] at h1; simpa using h1

theorem dig_pos (v : Nat) (h : v ≠ 0) : 0 < (dig 8 v).length := by
  rw [dig_succ 7 v h]; simp

theorem val_pos {l : List UInt8} (h : l.head? ≠ some 0) : 256 ^ l.length ≤ val l * 256 ∨ l = [] := by
  cases l with
  | nil => exact .inr rfl
  | cons c r =>
    left
    rw [val_cons, List.length_cons, Nat.pow_succ]
    have hc : c.toNat ≠ 0 := fun h0 => h (by simp; exact UInt8.toNat.inj (by simpa using h0))
    have : 1 * 256 ^ r.length ≤ c.toNat * 256 ^ r.length := Nat.mul_le_mul_right _ (by omega)
    omega

/-- Less, at a first difference. -/
def SLt (l m : List UInt8) : Prop := ∃ p a b r s, l = p ++ a :: r ∧ m = p ++ b :: s ∧ a < b
theorem SLt.append {l m : List UInt8} (h : SLt l m) (x y : List UInt8) : SLt (l ++ x) (m ++ y) := by
  obtain ⟨p, a, b, r, s, rfl, rfl, hab⟩ := h
  exact ⟨p, a, b, r ++ x, s ++ y, by simp, by simp, hab⟩
theorem SLt.cons {l m : List UInt8} (h : SLt l m) (c : UInt8) : SLt (c :: l) (c :: m) := by
  obtain ⟨p, a, b, r, s, rfl, rfl, hab⟩ := h
  exact ⟨c :: p, a, b, r, s, by simp, by simp, hab⟩
theorem SLt.less {l m : List UInt8} (h : SLt l m) : Op.bytesLess l m = true := by
  obtain ⟨p, a, b, r, s, rfl, rfl, hab⟩ := h
  induction p with
  | nil => simp [Op.bytesLess, hab]
  | cons c p ih => simp [Op.bytesLess, ih]
theorem SLt.more {l m : List UInt8} (h : SLt l m) : Op.bytesLess m l = false := by
  obtain ⟨p, a, b, r, s, rfl, rfl, hab⟩ := h
  induction p with
  | nil =>
    have h1 : ¬ b < a := fun h => absurd (UInt8.lt_trans h hab) (UInt8.lt_irrefl _)
    have h2 : b ≠ a := fun h => by subst h; exact UInt8.lt_irrefl _ hab
    simp [Op.bytesLess, h1, h2]
  | cons c p ih => 
    have h1 : ¬ c < c := UInt8.lt_irrefl _
    simp only [List.cons_append, Op.bytesLess, ih]
    simp [h1]
theorem SLt.ne {l m : List UInt8} (h : SLt l m) : l ≠ m := by
  intro e
  subst e
  have := h.less
  rw [h.more] at this
  cases this
theorem SLt.not_prefix {l m : List UInt8} (h : SLt l m) : ∀ k, m.take k ≠ l := by
  obtain ⟨p, a, b, r, s, rfl, rfl, hab⟩ := h
  intro k hk
  have h1 : ((p ++ b :: s).take k)[p.length]? = some a := by rw [hk]; simp
  rw [List.getElem?_take] at h1
  split at h1
  · simp at h1; subst h1; exact UInt8.lt_irrefl _ hab
  · cases h1
theorem SLt.not_prefix' {l m : List UInt8} (h : SLt l m) : ∀ k, l.take k ≠ m := by
  obtain ⟨p, a, b, r, s, rfl, rfl, hab⟩ := h
  intro k hk
  have h1 : ((p ++ a :: r).take k)[p.length]? = some b := by rw [hk]; simp
  rw [List.getElem?_take] at h1
  split at h1
  · simp at h1; subst h1; exact UInt8.lt_irrefl _ hab
  · cases h1
theorem bytesLess_irrefl (l : List UInt8) : Op.bytesLess l l = false := by
  induction l with
  | nil => rfl
  | cons c p ih => simp only [Op.bytesLess, ih]; simp [UInt8.lt_irrefl c]

theorem slt_of_val : ∀ l m : List UInt8, l.length = m.length → val l < val m → SLt l m := by
  intro l
  induction l with
  | nil =>
    intro m h1 h2
    have : m = [] := List.eq_nil_of_length_eq_zero (by simpa using h1.symm)
    subst this; exact absurd h2 (Nat.lt_irrefl _)
  | cons a r ih =>
    intro m h1 h2
    cases m with
    | nil => simp at h1
    | cons b s =>
      have hl : r.length = s.length := by simpa using h1
      rw [val_cons, val_cons, ← hl] at h2
      have v1 := val_lt r
      have v2 := val_lt s
      rw [← hl] at v2
      by_cases hab : a = b
      · subst hab
        exact (ih s hl (by omega)).cons a
      · by_cases hlt : a < b
        · exact ⟨[], a, b, r, s, rfl, rfl, hlt⟩
        · exfalso
          have h3 : b.toNat < a.toNat := by
            rcases Nat.lt_trichotomy a.toNat b.toNat with h | h | h
            · exact absurd (UInt8.lt_iff_toNat_lt.2 h) hlt
            · exact absurd (UInt8.toNat.inj h) hab
            · exact h
          have h4 : (b.toNat + 1) * 256 ^ r.length ≤ a.toNat * 256 ^ r.length := Nat.mul_le_mul_right _ h3
          rw [Nat.succ_mul] at h4
          omega

theorem enc_small {v : Nat} (h : v < 248) : enc v = [UInt8.ofNat v] := by simp [enc, h]
theorem enc_big {v : Nat} (h : ¬ v < 248) : enc v = UInt8.ofNat (247 + (dig 8 v).length) :: dig 8 v := by simp [enc, h]
theorem two64 : (256 : Nat) ^ 8 = 18446744073709551616 := by decide

/-- Numbers in their order have encodings in theirs. -/
theorem enc_slt {v w : Nat} (h : v < w) (hw : w < 256 ^ 8) : SLt (enc v) (enc w) := by
  have hv : v < 256 ^ 8 := by omega
  by_cases h1 : w < 248
  · rw [enc_small h1, enc_small (by omega : v < 248)]
    refine ⟨[], _, _, [], [], rfl, rfl, ?_⟩
    rw [UInt8.lt_iff_toNat_lt]; simp; omega
  · rw [enc_big h1]
    have lw := dig_length_le 8 w
    have pw := dig_pos w (by omega)
    by_cases h2 : v < 248
    · rw [enc_small h2]
      refine ⟨[], _, _, [], _, rfl, rfl, ?_⟩
      rw [UInt8.lt_iff_toNat_lt]; simp; omega
    · rw [enc_big h2]
      have lv := dig_length_le 8 v
      have ev := val_dig 8 v hv
      have ew := val_dig 8 w hw
      rcases Nat.lt_trichotomy (dig 8 v).length (dig 8 w).length with hl | hl | hl
      · refine ⟨[], _, _, _, _, rfl, rfl, ?_⟩
        rw [UInt8.lt_iff_toNat_lt]; simp; omega
      · rw [hl]
        exact (slt_of_val _ _ hl (by omega)).cons _
      · exfalso
        have b1 := val_lt (dig 8 w)
        rcases val_pos (dig_head 8 v hv) with b2 | b2
        · rw [ev] at b2
          rw [ew] at b1
          have b3 : (256 : Nat) ^ ((dig 8 w).length + 1) ≤ 256 ^ (dig 8 v).length := Nat.pow_le_pow_right (by decide) hl
          rw [Nat.pow_succ] at b3
          omega
        · rw [b2] at hl; simp at hl

theorem enc_inj {v w : Nat} (hv : v < 256 ^ 8) (hw : w < 256 ^ 8) (h : enc v = enc w) : v = w := by
  rcases Nat.lt_trichotomy v w with h1 | h1 | h1
  · exact absurd h (enc_slt h1 hw).ne
  · exact h1
  · exact absurd h.symm (enc_slt h1 hv).ne

theorem enc_len (v : Nat) : 1 ≤ (enc v).length ∧ (enc v).length ≤ 9 := by
  by_cases h : v < 248
  · rw [enc_small h]; simp
  · rw [enc_big h]; have := dig_length_le 8 v; simp; omega

/-- What a reader of a number answers: the number, how many bytes it has, what is wrong. -/
def rdn (l : List UInt8) : Nat × Nat × Nat :=
  match l with
  | [] => (0, 0, 6)
  | b :: r =>
    if b.toNat < 248 then (b.toNat, 1, 0)
    else if r.length < b.toNat - 247 then (0, 0, 6)
    else if r.headD 0 = 0 ∨ (b.toNat = 248 ∧ (r.headD 0).toNat < 248) then (0, 0, 7)
    else (val (r.take (b.toNat - 247)), 1 + (b.toNat - 247), 0)

theorem rdn_small (b : UInt8) (r : List UInt8) (h : b.toNat < 248) : rdn (b :: r) = (b.toNat, 1, 0) := by simp [rdn, h]
theorem rdn_end (b : UInt8) (r : List UInt8) (h : ¬ b.toNat < 248) (h2 : r.length < b.toNat - 247) : rdn (b :: r) = (0, 0, 6) := by simp [rdn, h, h2]
theorem rdn_form (b : UInt8) (r : List UInt8) (h : ¬ b.toNat < 248) (h2 : ¬ r.length < b.toNat - 247) (h3 : r.headD 0 = 0 ∨ (b.toNat = 248 ∧ (r.headD 0).toNat < 248)) : rdn (b :: r) = (0, 0, 7) := by
  simp only [rdn]; rw [if_neg h, if_neg h2, if_pos h3]
theorem rdn_ok (b : UInt8) (r : List UInt8) (h : ¬ b.toNat < 248) (h2 : ¬ r.length < b.toNat - 247) (h3 : ¬ (r.headD 0 = 0 ∨ (b.toNat = 248 ∧ (r.headD 0).toNat < 248))) :
    rdn (b :: r) = (val (r.take (b.toNat - 247)), 1 + (b.toNat - 247), 0) := by
  simp only [rdn]; rw [if_neg h, if_neg h2, if_neg h3]

/-- Of a number whose digits are read: what would be put is what was read, just if nothing is wrong with its form. -/
theorem enc_val {d : List UInt8} (hl : 1 ≤ d.length) (h8 : d.length ≤ 8) :
    enc (val d) = UInt8.ofNat (247 + d.length) :: d ↔ ¬ (d.headD 0 = 0 ∨ (d.length = 1 ∧ (d.headD 0).toNat < 248)) := by
  cases d with
  | nil => simp at hl
  | cons c r =>
    simp only [List.headD_cons]
    constructor
    · intro h hbad
      rcases hbad with hc | ⟨h1, hc⟩
      · by_cases hs : val (c :: r) < 248
        · rw [enc_small hs] at h; simp at h
        · rw [enc_big hs] at h
          have h2 : dig 8 (val (c :: r)) = c :: r := by injection h
          have h3 := dig_head 8 (val (c :: r)) (by
            have := val_lt (c :: r)
            exact Nat.lt_of_lt_of_le this (Nat.pow_le_pow_right (by decide) h8))
          rw [h2] at h3
          simp at h3
          exact h3 hc
      · have hr : r = [] := List.eq_nil_of_length_eq_zero (by simpa using h1)
        subst hr
        have hs : val [c] < 248 := by simpa [val] using hc
        rw [enc_small hs] at h; simp at h
    · intro h
      have hc : c ≠ 0 := fun e => h (.inl e)
      have hd : dig 8 (val (c :: r)) = c :: r := dig_val 8 _ h8 (by simpa using hc)
      have hb : ¬ val (c :: r) < 248 := by
        intro hs
        cases r with
        | nil => exact h (.inr ⟨rfl, by simpa [val] using hs⟩)
        | cons e r =>
          have := val_pos (l := c :: e :: r) (by simpa using hc)
          rcases this with h1 | h1
          · have h2 : (256 : Nat) ^ 2 ≤ 256 ^ (c :: e :: r).length := Nat.pow_le_pow_right (by decide) (by simp)
            omega
          · simp at h1
      rw [enc_big hb, hd]

theorem headD_take {r : List UInt8} {k : Nat} (h : 1 ≤ k) : (r.take k).headD 0 = r.headD 0 := by
  cases r with
  | nil => simp
  | cons c r =>
    obtain ⟨k, rfl⟩ : ∃ j, k = j + 1 := ⟨k - 1, by omega⟩
    simp

/-- What was put is read, whatever stands behind it. -/
theorem rdn_enc {v : Nat} (hv : v < 256 ^ 8) (s : List UInt8) : rdn (enc v ++ s) = (v, (enc v).length, 0) := by
  by_cases h : v < 248
  · rw [enc_small h]
    have : (UInt8.ofNat v).toNat = v := by simp; omega
    simp only [List.cons_append, List.nil_append]
    rw [rdn_small _ _ (by omega), this]; rfl
  · rw [enc_big h]
    have hl := dig_length_le 8 v
    have hp := dig_pos v (by omega)
    have hb : (UInt8.ofNat (247 + (dig 8 v).length)).toNat = 247 + (dig 8 v).length := by simp; omega
    have hh := dig_head 8 v hv
    have hd := val_dig 8 v hv
    have hk : (UInt8.ofNat (247 + (dig 8 v).length)).toNat - 247 = (dig 8 v).length := by omega
    have hhd : (dig 8 v ++ s).headD 0 = (dig 8 v).headD 0 := by
      cases hdd : dig 8 v with
      | nil => rw [hdd] at hp; simp at hp
      | cons c r => simp
    simp only [List.cons_append]
    rw [rdn_ok _ _ (by omega) (by simp; omega) ?_, hk, List.take_left' rfl, hd]
    · simp [Nat.add_comm]
    · rw [hhd]
      have hev := (enc_val (d := dig 8 v) hp hl).1 (by rw [hd, enc_big h])
      intro hx
      apply hev
      rcases hx with hx | ⟨hx, hy⟩
      · exact .inl hx
      · exact .inr ⟨by omega, hy⟩

/-- What is read is what would be put. -/
theorem rdn_sound {l : List UInt8} {v n : Nat} (h : rdn l = (v, n, 0)) : 1 ≤ n ∧ n ≤ l.length ∧ enc v = l.take n ∧ v < 256 ^ 8 := by
  cases l with
  | nil => simp [rdn] at h
  | cons b r =>
    have hb : b.toNat < 256 := b.toNat_lt
    by_cases h1 : b.toNat < 248
    · rw [rdn_small b r h1] at h
      simp only [Prod.mk.injEq, and_true] at h
      obtain ⟨rfl, rfl⟩ := h
      refine ⟨by omega, by simp, ?_, by omega⟩
      rw [enc_small h1]; simp
    · by_cases h2 : r.length < b.toNat - 247
      · rw [rdn_end b r h1 h2] at h; simp at h
      · by_cases h3 : r.headD 0 = 0 ∨ (b.toNat = 248 ∧ (r.headD 0).toNat < 248)
        · rw [rdn_form b r h1 h2 h3] at h; simp at h
        · rw [rdn_ok b r h1 h2 h3] at h
          simp only [Prod.mk.injEq, and_true] at h
          obtain ⟨rfl, rfl⟩ := h
          have hlen : (r.take (b.toNat - 247)).length = b.toNat - 247 := by simp; omega
          refine ⟨by omega, by simp; omega, ?_, ?_⟩
          · rw [Nat.add_comm 1, List.take_succ_cons]
            rw [(enc_val (d := r.take (b.toNat - 247)) (by omega) (by omega)).2 ?_]
            · have hbb : UInt8.ofNat (247 + (b.toNat - 247)) = b := by
                apply UInt8.toNat.inj
                simp; omega
              rw [hlen, hbb]
            · rw [headD_take (by omega), hlen]
              intro hx
              apply h3
              rcases hx with hx | ⟨hx, hy⟩
              · exact .inl hx
              · exact .inr ⟨by omega, hy⟩
          · have := val_lt (r.take (b.toNat - 247))
            exact Nat.lt_of_lt_of_le this (Nat.pow_le_pow_right (by decide) (by omega))

theorem rdn_err {l : List UInt8} {v n e : Nat} (h : rdn l = (v, n, e)) : e = 0 ∨ (v = 0 ∧ n = 0 ∧ (e = 6 ∨ e = 7)) := by
  cases l with
  | nil => simp [rdn] at h; omega
  | cons b r =>
    by_cases h1 : b.toNat < 248
    · rw [rdn_small b r h1] at h; simp at h; omega
    · by_cases h2 : r.length < b.toNat - 247
      · rw [rdn_end b r h1 h2] at h; simp at h; omega
      · by_cases h3 : r.headD 0 = 0 ∨ (b.toNat = 248 ∧ (r.headD 0).toNat < 248)
        · rw [rdn_form b r h1 h2 h3] at h; simp at h; omega
        · rw [rdn_ok b r h1 h2 h3] at h; simp at h; omega

/-- Just k digits of v, as numbers. -/
def dn : Nat → Nat → List Nat
  | 0, _ => []
  | k + 1, v => dn k (v / 256) ++ [v % 256]
theorem dig_dn (f : Nat) : ∀ k v, k ≤ f → v < 256 ^ k → (k = 0 ∨ 256 ^ k ≤ v * 256) → dig f v = (dn k v).map UInt8.ofNat := by
  induction f with
  | zero => intro k v hk _ _; obtain rfl : k = 0 := by omega
            rfl
  | succ f ih =>
    intro k v hk hi lo
    cases k with
    | zero => have : v = 0 := by simpa using hi
              subst this; rw [dig_zero]; rfl
    | succ k =>
      have hlo : 256 ^ (k + 1) ≤ v * 256 := by
        rcases lo with h | h
        · cases h
        · exact h
      rw [Nat.pow_succ] at hi hlo
      have hp : 0 < 256 ^ k := Nat.pow_pos (by decide)
      rw [dig_succ f v (by omega), ih k (v / 256) (by omega) (by omega) ?_]
      · simp [dn]
      · cases k with
        | zero => exact .inl rfl
        | succ k =>
          right
          clear hi hp ih lo
          rw [Nat.pow_succ] at hlo ⊢
          generalize 256 ^ k = q at hlo ⊢
          have h1 : q * 256 ≤ v := Nat.le_of_mul_le_mul_right hlo (by decide)
          have h2 : q ≤ v / 256 := (Nat.le_div_iff_mul_le (by decide)).2 h1
          exact Nat.mul_le_mul_right _ h2
theorem dn_length (k : Nat) : ∀ v, (dn k v).length = k := by
  induction k with
  | zero => intro v; rfl
  | succ k ih => intro v; simp [dn, ih]
theorem enc_dn {k v : Nat} (h8 : k ≤ 8) (hv : ¬ v < 248) (hi : v < 256 ^ k) (lo : 256 ^ k ≤ v * 256) : enc v = ((247 + k) :: dn k v).map UInt8.ofNat := by
  rw [enc_big hv, dig_dn 8 k v h8 hi (.inr lo), List.length_map, dn_length, List.map_cons]

end Go.Proofs.Ytfghhhghhjbiaaa.Pl
