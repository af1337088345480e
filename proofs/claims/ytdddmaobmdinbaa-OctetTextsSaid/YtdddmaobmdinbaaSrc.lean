/- Rows of texts in memory, wherever they lie (nil and empty ones too): what long, Same, Row answer of them, and what append of one to nil lays. -/
import Derived.Test.YtdddmaobmdinbaaRow
import Derived.Laws.AppendOwnNone
namespace Go.Proofs.Ytdddmaobmdinbaa.Pl
open Go.RowKit

/-- A slice of n texts at p reads as ss. -/
def Src (w : World) (p : Option Addr) (n : Nat) (ss : List ByteArray) : Prop := ss.length = n ∧ (n = 0 ∨ ∃ b off, p = some ⟨b, off, none⟩ ∧ TextsAt w b off n ss)
theorem Src.below {w w' : World} {p : Option Addr} {n : Nat} {ss : List ByteArray} (h : Src w p n ss) (hb : Below w.heap.size w w') : Src w' p n ss := by
  refine ⟨h.1, ?_⟩
  rcases h.2 with h0 | ⟨b, off, hp, ht⟩
  · exact .inl h0
  · exact .inr ⟨b, off, hp, ht.below hb⟩
theorem Src.empty {w : World} {p : Option Addr} {ss : List ByteArray} (h : Src w p 0 ss) : ss = [] := List.eq_nil_of_length_eq_zero h.1

theorem long_src (p : Option Addr) (n cap : Nat) (ss : List ByteArray) (w : World) (h : Src w p n ss) (hn : n ≤ 9223372036854775807) :
    Calls Try.prog 13 #[.slice p n cap] w fun e w' => e = .returned (.bool (longB ss)) ∧ w = w' := by
  rcases h.2 with h0 | ⟨b, off, rfl, ht⟩
  · subst h0
    rw [h.empty]
    exact long_empty p cap w
  · exact long_any b off n cap ss w ht hn
theorem row_src (p : Option Addr) (n cap : Nat) (ss : List ByteArray) (w : World) (h : Src w p n ss) (hn : n ≤ 9223372036854775807) (hl : (rowT ss).length ≤ 140737488355328) :
    Calls Try.prog 18 #[.slice p n cap] w fun e w' => e = .returned (.string ⟨(rowT ss).toArray⟩) ∧ Below w.heap.size w w' := by
  rcases h.2 with h0 | ⟨b, off, rfl, ht⟩
  · subst h0
    rw [h.empty]
    exact row_empty p cap w
  · exact row_any b off cap n ss w hn ht hl
theorem same_src (p q : Option Addr) (n m c1 c2 : Nat) (ss ts : List ByteArray) (w : World) (hn : n ≤ 9223372036854775807) (h1 : Src w p n ss) (h2 : Src w q m ts) :
    Calls Try.prog 22 #[.slice p n c1, .slice q m c2] w fun e w' => e = .returned (.bool (decide (ss = ts))) ∧ Below w.heap.size w w' := by
  by_cases hnm : n = m
  · subst hnm
    rcases h1.2 with h0 | ⟨b, off, rfl, ht⟩
    · subst h0
      have := same_empty p q c1 c2 w
      rw [h1.empty, h2.empty]
      exact this
    · rcases h2.2 with h0 | ⟨b2, off2, rfl, ht2⟩
      · subst h0
        have := same_empty (some ⟨b, off, none⟩) q c1 c2 w
        rw [h1.empty, h2.empty]
        exact this
      · exact same_any b off c1 b2 off2 c2 n ss ts w hn ht ht2 _ rfl
  · have : decide (ss = ts) = false := by
      rw [decide_eq_false_iff_not]
      intro e
      subst e
      exact hnm (h1.1.symm.trans h2.1)
    rw [this]
    exact same_ne p q n m c1 c2 w hnm

theorem infoString : (Try.prog.info? 9).map (fun i => (i.zero, i.size, i.bytes)) = some (some (.string ⟨#[]⟩), 1, 16) := by kernel_rfl
theorem src_own {w : World} {base n : Nat} {v : Value} {ss : List ByteArray} {e : TypeId} (h : w.ownsRow base e 1 v n (ss.map Value.string)) : ∃ q c, v = .slice q n c ∧ Src w q n ss := by
  obtain ⟨hl, h | ⟨g, cap, cur, hv, hg, hc, h1, h2, h3, h4⟩⟩ := h
  · have hl' : ss.length = n := by simpa using hl
    exact ⟨none, 0, by rw [h.1, h.2], hl', .inl h.2⟩
  · have hl' : ss.length = n := by simpa using hl
    refine ⟨_, cap, hv, hl', .inr ⟨g, 0, rfl, hl', fun i hi => ?_⟩⟩
    have e1 : w.cell? ⟨g, 0 + i, none⟩ = cur[i]? := by
      unfold World.cell?
      rw [hc]; simp
    rw [e1]
    have h5 : (cur.toList.take (n * 1))[i]? = (ss.map Value.string)[i]? := by rw [h4]
    rw [List.getElem?_take_of_lt (by omega), Array.getElem?_toList] at h5
    rw [h5]
    simp [List.getD, hl' ▸ hi]

theorem wpList_copy_texts {ops : Array Oper} {rest : List Oper} {o : Oper} {a : Act} {Q : Exit → Act → World → Prop} {w : World} (hgd : o.guard = none) (x : Operand)
    (ho : o.op = .call { callee := .builtin .append, args := #[.const (.slice none 0 0), x], argTypes := #[29, 29] })
    (p : Option Addr) (n c : Nat) (ss : List ByteArray) (hx : a.eval x = .slice p n c) (hs : Src w p n ss) (hn : n ≤ 1000) (hp : p = none → c = 0)
    (h : ∀ q c' w', Src w' q n ss → Below w.heap.size w w' → wpList Try.prog ops Q rest (a.put o.dst (.slice q n c')) w') : wpList Try.prog ops Q (o :: rest) a w := by
  obtain ⟨i0, hi, hz0, hz1, hz2⟩ := info_parts infoString
  cases p with
  | none =>
    have h0 : n = 0 := by
      rcases hs.2 with h0 | ⟨b, off, hb, _⟩
      · exact h0
      · cases hb
    obtain rfl := hp rfl
    subst h0
    exact wpList_append_own_none hgd _ x 29 ho w.heap.size 9 i0 1 Try.underlying29 hi (.slice none 0 0) 0 [] rfl (World.ownsRow_nil _ _ _ _) hx
      (h none 0 w hs (Below.refl _ _))
  | some ad =>
    refine wpList_append_own w hgd _ x 29 ho w.heap.size 9 i0 (.string ⟨#[]⟩) 1 16 Try.underlying29 hi hz0 hz1 hz2 rfl (by decide) (.slice none 0 0) 0 [] rfl ⟨rfl, .inl ⟨rfl, rfl⟩⟩ ad n c (ss.map Value.string) hx (by simpa using hs.1) ?_ ?_ (by unfold maxLen; omega) (by omega) (Nat.le_refl _) ?_
    · intro j u hu
      rcases hs.2 with h0 | ⟨b, off, hb, ht⟩
      · have := hs.1
        have hj := (List.getElem?_eq_some_iff.1 hu).1
        simp at hj; omega
      · have hj := (List.getElem?_eq_some_iff.1 hu).1
        simp at hj
        have h2 := ht.2 j (by rw [hs.1] at hj; exact hj)
        cases hb
        rw [show (⟨b, off, none⟩ : Addr).add j = ⟨b, off + j, none⟩ from by unfold Addr.add; split <;> simp_all]
        rw [h2, ← hu]
        simp [List.getD, hj]
    · intro u hu
      simp at hu
      obtain ⟨y, _, rfl⟩ := hu
      rfl
    · intro v' w' hown hgrow _
      rw [Nat.zero_add, List.nil_append] at hown
      obtain ⟨q, c', rfl, hsrc⟩ := src_own hown
      exact h q c' w' hsrc ((Below.refl _ _).grown hgrow (Nat.le_refl _) (fun k hk => by cases hk))
end Go.Proofs.Ytdddmaobmdinbaa.Pl
