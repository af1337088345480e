/- What a name is, over its runes: scripts, what is wrong, looks, the order. -/
import Derived.Test.YtkipnbhejokbeaaDoorNamePlain
namespace Go.Proofs.YtkipnbhejokbeaaDoor.Pl

/-- The script of a rune; 0: it is no letter. -/
def scrZ (r : Int) : Int := if 97 ≤ r ∧ r ≤ 122 then 1 else if 945 ≤ r ∧ r ≤ 969 then 2 else if 1072 ≤ r ∧ r ≤ 1103 then 3 else 0
def sgnZ (r : Int) : Bool := decide ((48 ≤ r ∧ r ≤ 57) ∨ r = 45)
/-- May it stand in a name? -/
def chrZ (r : Int) : Bool := decide (scrZ r ≠ 0) || sgnZ r
theorem scrZ_range (r : Int) : 0 ≤ scrZ r ∧ scrZ r ≤ 3 := by
  unfold scrZ; split
  · omega
  · split
    · omega
    · split <;> omega
theorem chrZ_short {r : Int} (h : chrZ r = true) : Short r := by
  simp only [chrZ, sgnZ, Bool.or_eq_true, decide_eq_true_eq, scrZ] at h
  unfold Short
  rcases h with h | h
  · split at h
    · omega
    · split at h
      · omega
      · split at h
        · omega
        · simp at h
  · omega

/-- What has been seen of some runes: the first letter's script, whether two scripts are mixed, whether a rune is no character. -/
structure Tr where
  sc : Int
  mi : Bool
  ot : Bool
def Tr.step (t : Tr) (r : Int) : Tr :=
  if chrZ r then (if scrZ r = 0 then t else if t.sc = 0 then { t with sc := scrZ r } else if t.sc = scrZ r then t else { t with mi := true }) else { t with ot := true }
def trL (l : List Int) : Tr := l.foldl Tr.step ⟨0, false, false⟩
theorem trL_snoc (l : List Int) (r : Int) : trL (l ++ [r]) = (trL l).step r := by simp [trL, List.foldl_append]
theorem step_sc (t : Tr) (r : Int) (h : 0 ≤ t.sc ∧ t.sc ≤ 3) : 0 ≤ (t.step r).sc ∧ (t.step r).sc ≤ 3 := by
  have := scrZ_range r
  unfold Tr.step
  split
  · split
    · exact h
    · split
      · exact this
      · split
        · exact h
        · exact h
  · exact h
theorem foldl_sc (l : List Int) : ∀ t : Tr, (0 ≤ t.sc ∧ t.sc ≤ 3) → 0 ≤ (l.foldl Tr.step t).sc ∧ (l.foldl Tr.step t).sc ≤ 3 := by
  induction l with
  | nil => intro t h; exact h
  | cons r l ih => intro t h; exact ih _ (step_sc t r h)
theorem trL_sc (l : List Int) : 0 ≤ (trL l).sc ∧ (trL l).sc ≤ 3 := foldl_sc l _ (by decide)
theorem step_ot (t : Tr) (r : Int) : (t.step r).ot = (t.ot || !chrZ r) := by
  unfold Tr.step
  split
  · rename_i h
    rw [h]
    split
    · simp
    · split
      · simp
      · split <;> simp
  · rename_i h
    simp only [Bool.not_eq_true] at h
    rw [h]; simp
theorem foldl_ot (l : List Int) : ∀ t : Tr, (l.foldl Tr.step t).ot = (t.ot || l.any fun r => !chrZ r) := by
  induction l with
  | nil => intro t; simp
  | cons r l ih => intro t; rw [List.foldl_cons, ih, step_ot, List.any_cons, Bool.or_assoc]
theorem trL_ot (l : List Int) : (trL l).ot = l.any fun r => !chrZ r := by rw [trL, foldl_ot]; simp

/-- The first letter's script. -/
def scrL : List Int → Int
  | [] => 0
  | r :: l => if scrZ r ≠ 0 then scrZ r else scrL l
/-- Two letters of two scripts. -/
def mixP (l : List Int) : Prop := ∃ x ∈ l, ∃ y ∈ l, scrZ x ≠ 0 ∧ scrZ y ≠ 0 ∧ scrZ x ≠ scrZ y
theorem scr_chr {r : Int} (h : scrZ r ≠ 0) : chrZ r = true := by simp [chrZ, h]
theorem step_scr (t : Tr) (r : Int) : (t.step r).sc = if t.sc = 0 then scrZ r else t.sc := by
  unfold Tr.step
  by_cases h0 : scrZ r = 0
  · split
    · rw [h0]; split <;> simp_all
    · rw [h0]; show t.sc = _; split <;> simp_all
  · rw [if_pos (scr_chr h0), if_neg h0]
    split
    · rfl
    · split <;> rfl
theorem foldl_scr (l : List Int) : ∀ t : Tr, (l.foldl Tr.step t).sc = if t.sc = 0 then scrL l else t.sc := by
  induction l with
  | nil => intro t; simp only [List.foldl_nil, scrL]; split <;> simp_all
  | cons r l ih =>
    intro t
    rw [List.foldl_cons, ih, step_scr]
    by_cases h : t.sc = 0
    · rw [if_pos h, if_pos h, scrL]
      by_cases h0 : scrZ r = 0
      · rw [if_pos h0, if_neg (by simpa using h0)]
      · rw [if_neg h0, if_pos h0]
    · rw [if_neg h, if_neg h, if_neg h]
theorem trL_scr (l : List Int) : (trL l).sc = scrL l := by rw [trL, foldl_scr]; rfl
theorem step_mi (t : Tr) (r : Int) : (t.step r).mi = (t.mi || decide (scrZ r ≠ 0 ∧ t.sc ≠ 0 ∧ t.sc ≠ scrZ r)) := by
  unfold Tr.step
  by_cases h0 : scrZ r = 0
  · split
    · simp [h0]
    · simp [h0]
  · rw [if_pos (scr_chr h0), if_neg h0]
    by_cases h1 : t.sc = 0
    · rw [if_pos h1]; simp [h1]
    · rw [if_neg h1]
      by_cases h2 : t.sc = scrZ r
      · rw [if_pos h2]; simp [h2]
      · rw [if_neg h2]; simp [h0, h1, h2]
/-- Whatever stands: once a script is there, mixed is what is of another one. -/
theorem foldl_mi (l : List Int) : ∀ t : Tr, t.sc ≠ 0 → ((l.foldl Tr.step t).mi = true ↔ (t.mi = true ∨ ∃ y ∈ l, scrZ y ≠ 0 ∧ t.sc ≠ scrZ y)) := by
  induction l with
  | nil => intro t _; simp
  | cons r l ih =>
    intro t h
    have hs : (t.step r).sc = t.sc := by rw [step_scr, if_neg h]
    rw [List.foldl_cons, ih _ (by rw [hs]; exact h), hs, step_mi]
    simp only [Bool.or_eq_true, decide_eq_true_eq, List.mem_cons, exists_eq_or_imp]
    constructor
    · rintro ((h1 | ⟨h1, _, h2⟩) | h1)
      · exact .inl h1
      · exact .inr (.inl ⟨h1, h2⟩)
      · exact .inr (.inr h1)
    · rintro (h1 | ⟨h1, h2⟩ | h1)
      · exact .inl (.inl h1)
      · exact .inl (.inr ⟨h1, h, h2⟩)
      · exact .inr h1
theorem foldl_mi0 (l : List Int) : ∀ t : Tr, t.sc = 0 → t.mi = false → ((l.foldl Tr.step t).mi = true ↔ mixP l) := by
  induction l with
  | nil =>
    intro t _ h2
    simp only [List.foldl_nil, h2, mixP]
    exact ⟨fun h => (by cases h), fun ⟨x, hx, _⟩ => (by cases hx)⟩
  | cons r l ih =>
    intro t h1 h2
    have hs : (t.step r).sc = scrZ r := by rw [step_scr, if_pos h1]
    have hm : (t.step r).mi = false := by rw [step_mi, h2]; simp [h1]
    rw [List.foldl_cons]
    by_cases h0 : scrZ r = 0
    · rw [ih _ (by rw [hs]; exact h0) hm]
      constructor
      · rintro ⟨x, hx, y, hy, h⟩
        exact ⟨x, List.mem_cons_of_mem _ hx, y, List.mem_cons_of_mem _ hy, h⟩
      · rintro ⟨x, hx, y, hy, a, b, c⟩
        rcases List.mem_cons.1 hx with rfl | hx
        · exact absurd h0 a
        · rcases List.mem_cons.1 hy with rfl | hy
          · exact absurd h0 b
          · exact ⟨x, hx, y, hy, a, b, c⟩
    · rw [foldl_mi l _ (by rw [hs]; exact h0), hs, hm]
      simp only [Bool.false_eq_true, false_or]
      constructor
      · rintro ⟨y, hy, h3, h4⟩
        exact ⟨r, List.mem_cons_self .., y, List.mem_cons_of_mem _ hy, h0, h3, h4⟩
      · rintro ⟨x, hx, y, hy, a, b, c⟩
        have hx' : x = r ∨ x ∈ l := List.mem_cons.1 hx
        have hy' : y = r ∨ y ∈ l := List.mem_cons.1 hy
        rcases hx' with rfl | hx'
        · rcases hy' with rfl | hy'
          · exact absurd rfl c
          · exact ⟨y, hy', b, c⟩
        · by_cases e : scrZ r = scrZ x
          · rcases hy' with rfl | hy'
            · exact absurd e.symm c
            · exact ⟨y, hy', b, by rw [e]; exact c⟩
          · exact ⟨x, hx', a, e⟩
theorem trL_mi (l : List Int) : (trL l).mi = true ↔ mixP l := foldl_mi0 l _ rfl rfl

/-- What is wrong with these runes as a name. -/
def checkL (l : List Int) : Int :=
  if 24 < l.length then 5 else if l = [] ∨ l.head? = some 45 ∨ l.getLast? = some 45 ∨ (l.any fun r => !chrZ r) = true then 7 else if (trL l).mi = true then 50 else 0
def scriptL (l : List Int) : Int := if checkL l = 0 then scrL l else 0
def okL (l : List Int) : Prop := checkL l = 0
theorem okL_all {l : List Int} (h : okL l) : ∀ r ∈ l, chrZ r = true := by
  unfold okL checkL at h
  split at h
  · exact absurd h (by decide)
  · split at h
    · exact absurd h (by decide)
    · rename_i h2
      intro r hr
      have h3 : ¬ (l.any fun r => !chrZ r) = true := fun e => h2 (.inr (.inr (.inr e)))
      rw [List.any_eq_true] at h3
      cases e : chrZ r with
      | true => rfl
      | false => exact absurd ⟨r, hr, by rw [e]; rfl⟩ h3
theorem okL_length {l : List Int} (h : okL l) : l.length ≤ 24 := by
  unfold okL checkL at h
  split at h
  · exact absurd h (by decide)
  · omega
theorem okL_short {l : List Int} (h : okL l) : ∀ r ∈ l, Short r := fun r hr => chrZ_short (okL_all h r hr)

/-- How runes look that are not their own look. -/
def lookT : List (Int × Int) := [(945, 97), (1072, 97), (1074, 98), (1089, 99), (1077, 101), (953, 105), (954, 107), (1082, 107), (1084, 109), (951, 110), (1085, 110), (959, 111), (1086, 111), (48, 111), (961, 112), (1088, 112), (1090, 116), (964, 116), (965, 117), (957, 118), (967, 120), (1093, 120), (947, 121), (1091, 121), (49, 108)]
def lookR (l : List (Int × Int)) (r : Int) : Option Int := l.foldl (fun c p => if p.1 = r then some p.2 else c) none
def lookZ (r : Int) : Int := (lookR lookT r).getD r
theorem lookR_snoc (l : List (Int × Int)) (p : Int × Int) (r : Int) : lookR (l ++ [p]) r = if p.1 = r then some p.2 else lookR l r := by simp [lookR, List.foldl_append]
theorem lookR_mem (l : List (Int × Int)) (r c : Int) : ∀ o, l.foldl (fun c p => if p.1 = r then some p.2 else c) o = some c → o = some c ∨ ∃ p ∈ l, p.1 = r ∧ p.2 = c := by
  induction l with
  | nil => intro o h; exact .inl h
  | cons p l ih =>
    intro o h
    rw [List.foldl_cons] at h
    rcases ih _ h with h | ⟨q, hq, h⟩
    · split at h
      · rename_i e
        exact .inr ⟨p, List.mem_cons_self .., e, Option.some.inj h⟩
      · exact .inl h
    · exact .inr ⟨q, List.mem_cons_of_mem _ hq, h⟩
theorem lookZ_or (r : Int) : lookZ r = r ∧ lookR lookT r = none ∨ ∃ p ∈ lookT, p.1 = r ∧ lookZ r = p.2 := by
  unfold lookZ
  cases h : lookR lookT r with
  | none => exact .inl ⟨rfl, rfl⟩
  | some c =>
    rcases lookR_mem lookT r c none h with h | ⟨p, hp, e, e2⟩
    · cases h
    · exact .inr ⟨p, hp, e, e2.symm⟩
theorem look_vals : ∀ p ∈ lookT, (97 ≤ p.2 ∧ p.2 ≤ 122) ∧ lookZ p.2 = p.2 := by decide
theorem lookZ_lookZ (r : Int) : lookZ (lookZ r) = lookZ r := by
  rcases lookZ_or r with ⟨h, _⟩ | ⟨p, hp, _, h⟩
  · rw [h, h]
  · rw [h]; exact (look_vals p hp).2
theorem lookZ_short {r : Int} (h : Short r) : Short (lookZ r) := by
  rcases lookZ_or r with ⟨e, _⟩ | ⟨p, hp, _, e⟩
  · rw [e]; exact h
  · rw [e]; have := (look_vals p hp).1; exact ⟨by omega, by omega⟩
/-- The text of a valid name's look. -/
def skelB (s : ByteArray) : ByteArray := ⟨(encL ((runes s).map lookZ)).toArray⟩
theorem okL_looks {l : List Int} (h : okL l) : ∀ r ∈ l.map lookZ, Short r := by
  intro r hr
  obtain ⟨x, hx, rfl⟩ := List.mem_map.1 hr
  exact lookZ_short (okL_short h x hx)
open Classical in
noncomputable def clashB (a b : ByteArray) : Bool := decide (okL (runes a) ∧ okL (runes b) ∧ a ≠ b ∧ skelB a = skelB b)
def cmpB (a b : ByteArray) : Int := Lib.compareBytes a.data.toList b.data.toList
open Classical in
noncomputable def orderB (a b : ByteArray) : Int := if okL (runes a) ∧ okL (runes b) then (if cmpB (skelB a) (skelB b) ≠ 0 then cmpB (skelB a) (skelB b) else cmpB a b) else 0
theorem cmpZ_self (a : List Int) : cmpZ a a = 0 := by
  induction a with
  | nil => rfl
  | cons x a ih => simp [cmpZ, ih]
theorem skel_cmp {a b : ByteArray} (ha : okL (runes a)) (hb : okL (runes b)) : cmpB (skelB a) (skelB b) = cmpZ ((runes a).map lookZ) ((runes b).map lookZ) := by
  unfold cmpB skelB
  exact cmp_enc _ _ (okL_looks ha) (okL_looks hb)
theorem text_cmp {a b : ByteArray} (ha : okL (runes a)) (hb : okL (runes b)) : cmpB a b = cmpZ (runes a) (runes b) := by
  unfold cmpB
  rw [runes_enc a (okL_short ha), runes_enc b (okL_short hb)]
  exact cmp_enc _ _ (okL_short ha) (okL_short hb)
theorem cmpB_eq {a b : ByteArray} : cmpB a b = 0 ↔ a = b := by
  unfold cmpB
  rw [cmpB_zero]
  exact ⟨ba_ext, fun h => by rw [h]⟩
end Go.Proofs.YtkipnbhejokbeaaDoor.Pl
