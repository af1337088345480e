/- Names, over plain numbers: the runes of a text, what they are, what is wrong with them, how they look. -/
import Derived.Laws.RangeString
import Derived.Laws.RangeAny
import Derived.Lib.RuneBytes
import Derived.Lib.Bytealg
import Derived.Lib.Strings
import Derived.Laws.Cover4
namespace Go.Proofs.YtkipnbhejokbeaaDoor.Pl

/-- The runes of s from pos on. -/
def runesF (s : ByteArray) : Nat → Nat → List Int
  | 0, _ => []
  | fuel + 1, pos => if pos < s.size then ((Utf8.decode s pos).1 : Int) :: runesF s fuel (pos + (Utf8.decode s pos).2) else []
def runes (s : ByteArray) : List Int := runesF s s.size 0

theorem width_pos (s : ByteArray) (pos : Nat) (h : pos < s.size) : 1 ≤ (Utf8.decode s pos).2 := by
  by_cases ha : (s[pos]'h).toNat < 128
  · rw [decode_ascii s pos h ha]
    exact Nat.le_refl _
  · exact (decode_high s pos h (by omega)).2
theorem runesF_end (s : ByteArray) (fuel pos : Nat) (h : ¬ pos < s.size) : runesF s fuel pos = [] := by
  cases fuel with
  | zero => rfl
  | succ f => simp [runesF, h]
theorem runesF_step (s : ByteArray) (fuel pos : Nat) (h : pos < s.size) : runesF s (fuel + 1) pos = ((Utf8.decode s pos).1 : Int) :: runesF s fuel (pos + (Utf8.decode s pos).2) := by
  simp [runesF, h]
theorem runesF_nonneg (s : ByteArray) (fuel pos : Nat) : ∀ r ∈ runesF s fuel pos, 0 ≤ r := by
  induction fuel generalizing pos with
  | zero => intro r h; cases h
  | succ f ih =>
    intro r h
    by_cases hp : pos < s.size
    · rw [runesF_step s f pos hp] at h
      rcases List.mem_cons.1 h with rfl | h
      · exact Int.natCast_nonneg _
      · exact ih _ r h
    · rw [runesF_end s _ pos hp] at h; cases h
theorem runesF_le (s : ByteArray) (fuel pos : Nat) : ∀ r ∈ runesF s fuel pos, r ≤ 2147483647 := by
  induction fuel generalizing pos with
  | zero => intro r h; cases h
  | succ f ih =>
    intro r h
    by_cases hp : pos < s.size
    · rw [runesF_step s f pos hp] at h
      rcases List.mem_cons.1 h with rfl | h
      · have := decode_le s pos; omega
      · exact ih _ r h
    · rw [runesF_end s _ pos hp] at h; cases h
theorem runesF_length (s : ByteArray) (fuel pos : Nat) : (runesF s fuel pos).length ≤ s.size - pos := by
  induction fuel generalizing pos with
  | zero => exact Nat.zero_le _
  | succ f ih =>
    by_cases hp : pos < s.size
    · rw [runesF_step s f pos hp, List.length_cons]
      have := ih (pos + (Utf8.decode s pos).2)
      have := width_pos s pos hp
      omega
    · rw [runesF_end s _ pos hp]; exact Nat.zero_le _
theorem runes_length (s : ByteArray) : (runes s).length ≤ s.size := runesF_length s s.size 0
theorem runes_nonneg (s : ByteArray) : ∀ r ∈ runes s, 0 ≤ r := runesF_nonneg s _ _

/-- A rune of one byte, or of two. -/
def Short (r : Int) : Prop := 0 ≤ r ∧ r < 2048
def encL (l : List Int) : List UInt8 := l.flatMap Lib.encodeRune
theorem encL_cons (r : Int) (l : List Int) : encL (r :: l) = Lib.encodeRune r ++ encL l := by simp [encL]
theorem encL_append (a b : List Int) : encL (a ++ b) = encL a ++ encL b := by simp [encL]
theorem enc_one {r : Int} (h : 0 ≤ r) (h1 : r < 128) : Lib.encodeRune r = [r.toNat.toUInt8] := by
  rw [Lib.encodeRune, Lib.encodeRuneZ_one h (by omega)]; rfl
theorem enc_two {r : Int} (h : 128 ≤ r) (h1 : r < 2048) : Lib.encodeRune r = [(192 + r / 64).toNat.toUInt8, (128 + r % 64).toNat.toUInt8] := by
  rw [Lib.encodeRune, Lib.encodeRuneZ_two h (by omega)]; rfl
theorem size_list (s : ByteArray) : s.data.toList.length = s.size := by rw [Array.length_toList]; rfl
theorem get_bang (s : ByteArray) (i : Nat) (h : i < s.size) : s.get! i = s.data.toList[i]'(by rw [size_list]; exact h) := by
  have h' : i < s.data.size := h
  show s.data[i]! = _
  rw [getElem!_pos s.data i h']
  exact (Array.getElem_toList _).symm
theorem drop_at (s : ByteArray) (i : Nat) (h : i < s.size) : s.data.toList.drop i = s.get! i :: s.data.toList.drop (i + 1) := by
  rw [get_bang s i h, List.drop_eq_getElem_cons]
theorem u8_eq {x : UInt8} {n : Int} (h : n = (x.toNat : Int)) : n.toNat.toUInt8 = x := by
  rw [h]
  simp
theorem decode_short (s : ByteArray) (pos : Nat) (h : pos < s.size) (hr : (Utf8.decode s pos).1 < 2048) :
    s.data.toList.drop pos = Lib.encodeRune ((Utf8.decode s pos).1 : Int) ++ s.data.toList.drop (pos + (Utf8.decode s pos).2) := by
  have hb : ∀ k, (s.get! (pos + k)).toNat < 256 := fun k => (s.get! (pos + k)).toNat_lt
  have b0 := hb 0
  have b1 := hb 1
  simp only [Utf8.decode] at hr ⊢
  split at hr
  · rename_i h0
    rw [if_pos h0]
    show _ = Lib.encodeRune ((s.get! (pos + 0)).toNat : Int) ++ s.data.toList.drop (pos + 1)
    rw [enc_one (by omega) (by omega), drop_at s pos h, u8_eq (x := s.get! (pos + 0)) rfl]
    rfl
  · rename_i h0
    rw [if_neg h0]
    split at hr
    · rename_i h1
      rw [if_pos h1]
      simp only [Bool.and_eq_true, beq_iff_eq, decide_eq_true_eq] at h1
      obtain ⟨h1, h2, h3⟩ := h1
      split at hr
      · rename_i h4
        rw [if_pos h4]
        have hp : pos + 1 < s.size := by omega
        show _ = Lib.encodeRune (((s.get! (pos + 0)).toNat % 32 * 64 + (s.get! (pos + 1)).toNat % 64 : Nat) : Int) ++ s.data.toList.drop (pos + 2)
        have h1' : (s.get! pos).toNat / 32 = 6 := h1
        rw [enc_two (by omega) (by omega), drop_at s pos h, drop_at s (pos + 1) hp]
        rw [u8_eq (x := s.get! pos) (by show _ = (((s.get! pos).toNat : Nat) : Int); have : (s.get! (pos + 0)) = s.get! pos := rfl; rw [this]; omega), u8_eq (x := s.get! (pos + 1)) (by omega)]
        rfl
      · exfalso; simp [Utf8.runeError] at hr
    · exfalso
      split at hr
      · split at hr
        · rename_i h4
          simp only [Bool.and_eq_true, decide_eq_true_eq] at h4
          have := h4.1
          have hr' := hr
          simp only at hr'
          omega
        · simp [Utf8.runeError] at hr
      · split at hr
        · split at hr
          · rename_i h4
            simp only [Bool.and_eq_true, decide_eq_true_eq] at h4
            have := h4.1
            have hr' := hr
            simp only at hr'
            omega
          · simp [Utf8.runeError] at hr
        · simp [Utf8.runeError] at hr
theorem runesF_enc (s : ByteArray) (fuel pos : Nat) (hf : s.size ≤ pos + fuel) (h : ∀ r ∈ runesF s fuel pos, Short r) : s.data.toList.drop pos = encL (runesF s fuel pos) := by
  induction fuel generalizing pos with
  | zero =>
    rw [List.drop_eq_nil_of_le (by rw [size_list]; exact hf)]
    rfl
  | succ f ih =>
    by_cases hp : pos < s.size
    · rw [runesF_step s f pos hp] at h ⊢
      have hw := width_pos s pos hp
      have h0 := (h _ (List.mem_cons_self ..)).2
      rw [encL_cons, decode_short s pos hp (by omega), ih _ (by omega) (fun r hr => h r (List.mem_cons_of_mem _ hr))]
    · rw [runesF_end s _ pos hp, List.drop_eq_nil_of_le (by rw [size_list]; omega)]
      rfl
/-- A text whose runes are all short is what they are encoded as. -/
theorem runes_enc (s : ByteArray) (h : ∀ r ∈ runes s, Short r) : s.data.toList = encL (runes s) := by
  have h := runesF_enc s s.size 0 (by omega) h
  rwa [List.drop_zero] at h

/-- Two rows of numbers, the lower one ahead. -/
def cmpZ : List Int → List Int → Int
  | [], [] => 0
  | [], _ :: _ => -1
  | _ :: _, [] => 1
  | x :: a, y :: b => if x < y then -1 else if y < x then 1 else cmpZ a b
theorem cmpB_append (p a b : List UInt8) : Lib.compareBytes (p ++ a) (p ++ b) = Lib.compareBytes a b := by
  induction p with
  | nil => rfl
  | cons x p ih => simp only [List.cons_append, Lib.compareBytes, UInt8.lt_irrefl, if_false]; exact ih
theorem u8_lt {x y : Int} (hx : 0 ≤ x ∧ x < 256) (hy : 0 ≤ y ∧ y < 256) : x.toNat.toUInt8 < y.toNat.toUInt8 ↔ x < y := by
  rw [UInt8.lt_iff_toNat_lt]
  simp only [Nat.toUInt8, UInt8.toNat_ofNat']
  omega
theorem cmpB_lt {a b : List UInt8} {x y : UInt8} (h : x < y) : Lib.compareBytes (x :: a) (y :: b) = -1 := by simp [Lib.compareBytes, h]
theorem cmpB_gt {a b : List UInt8} {x y : UInt8} (h : y < x) : Lib.compareBytes (x :: a) (y :: b) = 1 := by
  have : ¬ x < y := fun h' => UInt8.lt_irrefl _ (UInt8.lt_trans h h')
  simp [Lib.compareBytes, h, this]
theorem cmpB_enc_lt {x y : Int} (hx : Short x) (hy : Short y) (h : x < y) (a b : List UInt8) : Lib.compareBytes (Lib.encodeRune x ++ a) (Lib.encodeRune y ++ b) = -1 := by
  obtain ⟨x0, x1⟩ := hx
  obtain ⟨y0, y1⟩ := hy
  by_cases h1 : x < 128
  · rw [enc_one x0 h1]
    by_cases h2 : y < 128
    · rw [enc_one y0 h2]
      exact cmpB_lt ((u8_lt (by omega) (by omega)).2 h)
    · rw [enc_two (by omega) y1]
      exact cmpB_lt ((u8_lt (by omega) (by omega)).2 (by omega))
  · rw [enc_two (by omega) x1, enc_two (by omega) y1]
    by_cases h3 : x / 64 = y / 64
    · rw [h3]
      show Lib.compareBytes ([_] ++ (_ :: a)) ([_] ++ (_ :: b)) = -1
      rw [cmpB_append]
      exact cmpB_lt ((u8_lt (by omega) (by omega)).2 (by omega))
    · exact cmpB_lt ((u8_lt (by omega) (by omega)).2 (by omega))
theorem cmpB_swap (a b : List UInt8) : Lib.compareBytes b a = - Lib.compareBytes a b := by
  induction a generalizing b with
  | nil => cases b <;> rfl
  | cons x a ih =>
    cases b with
    | nil => rfl
    | cons y b =>
      by_cases h : x < y
      · rw [cmpB_lt h, cmpB_gt h]; rfl
      · by_cases h' : y < x
        · rw [cmpB_lt h', cmpB_gt h']
        · simp only [Lib.compareBytes, h, h', if_false]; exact ih b
theorem enc_ne (r : Int) : ∃ x l, Lib.encodeRune r = x :: l := by
  cases h : Lib.encodeRune r with
  | nil =>
    have := Lib.encodeRuneZ_length r
    have e := congrArg List.length h
    simp [Lib.encodeRune] at e
    simp [e] at this
  | cons x l => exact ⟨x, l, rfl⟩
/-- Short runes stand in the same order as their bytes. -/
theorem cmp_enc (a b : List Int) (ha : ∀ r ∈ a, Short r) (hb : ∀ r ∈ b, Short r) : Lib.compareBytes (encL a) (encL b) = cmpZ a b := by
  induction a generalizing b with
  | nil =>
    cases b with
    | nil => rfl
    | cons y b => rw [encL_cons]; obtain ⟨x, l, e⟩ := enc_ne y; rw [e]; rfl
  | cons x a ih =>
    cases b with
    | nil => rw [encL_cons]; obtain ⟨y, l, e⟩ := enc_ne x; rw [e]; rfl
    | cons y b =>
      have hx := ha x (List.mem_cons_self ..)
      have hy := hb y (List.mem_cons_self ..)
      rw [encL_cons, encL_cons]
      by_cases h : x < y
      · rw [cmpB_enc_lt hx hy h]; simp [cmpZ, h]
      · by_cases h' : y < x
        · rw [cmpB_swap, cmpB_enc_lt hy hx h']; simp [cmpZ, h, h']
        · obtain rfl : x = y := by omega
          rw [cmpB_append, ih b (fun r hr => ha r (List.mem_cons_of_mem _ hr)) (fun r hr => hb r (List.mem_cons_of_mem _ hr))]
          simp [cmpZ]
theorem cmpB_zero (a b : List UInt8) : Lib.compareBytes a b = 0 ↔ a = b := by
  induction a generalizing b with
  | nil => cases b <;> simp [Lib.compareBytes]
  | cons x a ih =>
    cases b with
    | nil => simp [Lib.compareBytes]
    | cons y b =>
      by_cases h : x < y
      · rw [cmpB_lt h]
        exact ⟨fun e => absurd e (by decide), fun e => by injection e with e1 _; rw [e1] at h; exact absurd h (UInt8.lt_irrefl _)⟩
      · by_cases h' : y < x
        · rw [cmpB_gt h']
          exact ⟨fun e => absurd e (by decide), fun e => by injection e with e1 _; rw [e1] at h'; exact absurd h' (UInt8.lt_irrefl _)⟩
        · have : x = y := UInt8.le_antisymm (UInt8.not_lt.1 h') (UInt8.not_lt.1 h)
          subst this
          simp only [Lib.compareBytes, h, if_false, List.cons.injEq, true_and]
          exact ih b
theorem cmpB_self (a : List UInt8) : Lib.compareBytes a a = 0 := (cmpB_zero a a).2 rfl
theorem cmpB_range (a b : List UInt8) : Lib.compareBytes a b = -1 ∨ Lib.compareBytes a b = 0 ∨ Lib.compareBytes a b = 1 := by
  induction a generalizing b with
  | nil => cases b <;> simp [Lib.compareBytes]
  | cons x a ih =>
    cases b with
    | nil => simp [Lib.compareBytes]
    | cons y b =>
      by_cases h : x < y
      · rw [cmpB_lt h]; simp
      · by_cases h' : y < x
        · rw [cmpB_gt h']; simp
        · simp only [Lib.compareBytes, h, h', if_false]; exact ih b
theorem cmpB_trans (a b c : List UInt8) (h : Lib.compareBytes a b = -1) (k : Lib.compareBytes b c = -1) : Lib.compareBytes a c = -1 := by
  induction a generalizing b c with
  | nil =>
    cases b with
    | nil => simp [Lib.compareBytes] at h
    | cons y b =>
      cases c with
      | nil => simp [Lib.compareBytes] at k
      | cons z c => rfl
  | cons x a ih =>
    cases b with
    | nil => simp [Lib.compareBytes] at h
    | cons y b =>
      cases c with
      | nil => simp [Lib.compareBytes] at k
      | cons z c =>
        by_cases h1 : x < y
        · by_cases k1 : y < z
          · exact cmpB_lt (UInt8.lt_trans h1 k1)
          · by_cases k2 : z < y
            · rw [cmpB_gt k2] at k; exact absurd k (by decide)
            · have : y = z := UInt8.le_antisymm (UInt8.not_lt.1 k2) (UInt8.not_lt.1 k1)
              subst this; exact cmpB_lt h1
        · by_cases h2 : y < x
          · rw [cmpB_gt h2] at h; exact absurd h (by decide)
          · have : x = y := UInt8.le_antisymm (UInt8.not_lt.1 h2) (UInt8.not_lt.1 h1)
            subst this
            by_cases k1 : x < z
            · exact cmpB_lt k1
            · by_cases k2 : z < x
              · rw [cmpB_gt k2] at k; exact absurd k (by decide)
              · have e : x = z := UInt8.le_antisymm (UInt8.not_lt.1 k2) (UInt8.not_lt.1 k1)
                subst e
                simp only [Lib.compareBytes, UInt8.lt_irrefl, if_false] at h k ⊢
                exact ih b c h k
theorem ba_ext {a b : ByteArray} (h : a.data.toList = b.data.toList) : a = b := ByteArray.ext (Array.ext' h)
end Go.Proofs.YtkipnbhejokbeaaDoor.Pl
