/- What a term is made of is what its parts are: six kinds; and what Parts answers of each. -/
import Derived.Test.YtfghhhghhjbiaaaTermReadsLaw
namespace Go.Proofs.Ytfghhhghhjbiaaa.Pl
open Go.RowKit

/-- The six kinds of terms, and what their parts make. -/
inductive Opn (t : List UInt8) : Prop where
  | data (x : List UInt8) : kindP t = 1 → partsP t = ([], true) → textP t = (x, true) → dataP x = (t, 0) → x.length ≤ 1024 → Opn t
  | atom (x : List UInt8) : kindP t = 2 → partsP t = ([], true) → textP t = (x, true) → atomP x = (t, 0) → x.length ≤ 32 → Opn t
  | row (l : List (List UInt8)) : kindP t = 3 → partsP t = (l, true) → textP t = ([], false) → rowP l = (t, 0) → l.length ≤ 32 → (∀ x ∈ l, x.length ≤ 16384) → Opn t
  | hash (a : List UInt8) : kindP t = 4 → partsP t = ([a], true) → textP t = ([], false) → madeP [104] [a] = (t, 0) → a.length ≤ 16384 → Opn t
  | mac (a b : List UInt8) : kindP t = 5 → partsP t = ([a, b], true) → textP t = ([], false) → madeP [109] [a, b] = (t, 0) → a.length ≤ 16384 → b.length ≤ 16384 → Opn t
  | seal_ (a b c : List UInt8) : kindP t = 6 → partsP t = ([a, b, c], true) → textP t = ([], false) → madeP [115] [a, b, c] = (t, 0) → a.length ≤ 16384 → b.length ≤ 16384 → c.length ≤ 16384 → Opn t
theorem opn {t : List UInt8} (h : checkP t = 0) : Opn t := by
  obtain ⟨T, tv, te, tr⟩ := tree_of h
  obtain ⟨hd, l⟩ := T
  have hg := tv.1
  simp only [Tm.good] at hg
  have hp : partsP t = (l.map Tm.enc, true) := by unfold partsP; rw [tr]
  have hm : madeP hd (l.map Tm.enc) = (t, 0) := by rw [made_again tv, te]
  have hle : ∀ x ∈ l, x.enc.length ≤ 16384 := fun x hx => (node_valid_parts tv x hx).2.2
  have hte : t = hd ++ encs l := by rw [te, Tm.enc_node]
  have hno : ∀ b r, t = b :: r → b ≠ 100 → b ≠ 97 → textP t = ([], false) := by
    intro b r e n1 n2
    unfold textP
    rw [if_neg]
    rintro ⟨_, k | k⟩ <;> (rw [e] at k; simp at k; contradiction)
  obtain ⟨c, hk⟩ := head_kind hg.1
  cases hk with
  | data x e1 e2 e3 =>
    obtain rfl : l = [] := List.length_eq_zero_iff.1 e3
    have ht : t = 100 :: txt x := by rw [hte, e1]; simp [encs]
    refine .data x ?_ hp ?_ ?_ e2
    · unfold kindP; rw [if_pos h, ht]; rfl
    · have hr := rdt_txt (t := x) (by rw [two64]; omega) [] 1024 (by omega)
      unfold textP
      rw [if_pos ⟨h, .inl (by rw [ht]; rfl)⟩, ht]
      show ((rdt (txt x) 1024).1, true) = _
      rw [List.append_nil] at hr
      rw [hr]
    · unfold dataP; rw [if_neg (by omega), ht]
  | atom x e1 e2 e4 e3 =>
    obtain rfl : l = [] := List.length_eq_zero_iff.1 e3
    have ht : t = 97 :: txt x := by rw [hte, e1]; simp [encs]
    refine .atom x ?_ hp ?_ ?_ e2
    · unfold kindP; rw [if_pos h, ht]; rfl
    · have hr := rdt_txt (t := x) (by rw [two64]; omega) [] 1024 (by omega)
      unfold textP
      rw [if_pos ⟨h, .inr (by rw [ht]; rfl)⟩, ht]
      show ((rdt (txt x) 1024).1, true) = _
      rw [List.append_nil] at hr
      rw [hr]
    · unfold atomP; rw [if_neg (by omega), if_neg (by rw [e4]; decide), ht]
  | row v e1 e2 e3 =>
    have ht : t = 114 :: (enc v ++ encs l) := by rw [hte, e1]; rfl
    refine .row (l.map Tm.enc) ?_ hp (hno _ _ ht (by decide) (by decide)) ?_ (by rw [List.length_map]; omega) ?_
    · unfold kindP; rw [if_pos h, ht]; rfl
    · unfold rowP; rw [List.length_map, e3, ← e1]; exact hm
    · intro x hx
      obtain ⟨y, hy, rfl⟩ := List.mem_map.1 hx
      exact hle y hy
  | hash e1 e3 =>
    obtain ⟨a, rfl⟩ := List.length_eq_one_iff.1 e3
    have ht : t = 104 :: encs [a] := by rw [hte, e1]; rfl
    refine .hash a.enc ?_ hp (hno _ _ ht (by decide) (by decide)) ?_ (hle a (by simp))
    · unfold kindP; rw [if_pos h, ht]; rfl
    · rw [← e1]; exact hm
  | mac e1 e3 =>
    obtain ⟨a, b, rfl⟩ : ∃ a b, l = [a, b] := by
      match l, e3 with
      | [a, b], _ => exact ⟨a, b, rfl⟩
    have ht : t = 109 :: encs [a, b] := by rw [hte, e1]; rfl
    refine .mac a.enc b.enc ?_ hp (hno _ _ ht (by decide) (by decide)) ?_ (hle a (by simp)) (hle b (by simp))
    · unfold kindP; rw [if_pos h, ht]; rfl
    · rw [← e1]; exact hm
  | seal_ e1 e3 =>
    obtain ⟨a, b, d, rfl⟩ : ∃ a b d, l = [a, b, d] := by
      match l, e3 with
      | [a, b, d], _ => exact ⟨a, b, d, rfl⟩
    have ht : t = 115 :: encs [a, b, d] := by rw [hte, e1]; rfl
    refine .seal_ a.enc b.enc d.enc ?_ hp (hno _ _ ht (by decide) (by decide)) ?_ (hle a (by simp)) (hle b (by simp)) (hle d (by simp))
    · unfold kindP; rw [if_pos h, ht]; rfl
    · rw [← e1]; exact hm
/-- What a row of texts makes has just these parts, and is a row. -/
theorem row_opn {l : List (List UInt8)} {r : List UInt8} (hl : l.length ≤ 1000) (h : rowP l = (r, 0)) : kindP r = 3 ∧ checkP r = 0 ∧ partsP r = (l, true) := by
  obtain ⟨m, mv, me, ml⟩ := row_parts (by omega) h
  have hc : checkP r = 0 := by rw [← me]; exact check_enc mv
  refine ⟨?_, hc, ?_⟩
  · unfold kindP; rw [if_pos hc, ← me, Tm.enc_node]; rfl
  · unfold partsP; rw [← me, treeOf_enc mv, ← ml]

theorem own_cell {w : World} {B : Nat} {v : Value} {l : List ByteArray} (h : OwnT w B v l) (hl : l ≠ []) : ∃ g c, v = .slice (some ⟨g, 0, none⟩) l.length c ∧ ∀ j, j < l.length → w.cell? ⟨g, j, none⟩ = some (.string (l.getD j ByteArray.empty)) := by
  rcases h.2 with ⟨hv, h0⟩ | ⟨g, cap, cur, hv, hbg, hg, rest⟩
  · exact absurd (List.length_eq_zero_iff.1 h0) hl
  · have h' := h
    unfold OwnT at h'
    rw [hv] at h'
    exact ⟨g, cap, hv, fun j hj => by rw [h'.cellAt j (by omega), txts_at l j hj]⟩
theorem parts_of (t : ByteArray) (ht : t.size ≤ 281474976710656) (L : List ByteArray) (h : partsP (bl t) = (L.map bl, true)) (V : World) :
    Calls Try.prog 13 #[.string t] V fun e w' => ∃ v, e = .returned (.tuple #[v, .bool true]) ∧ OwnT w' V.heap.size v L ∧ Below V.heap.size V w' := by
  have H := parts6_any t ht V
  rw [h] at H
  refine H.mono ?_
  rintro e w' ⟨v, L', rfl, own, hL, b⟩
  obtain rfl := map_bl_inj hL
  exact ⟨v, rfl, own, b⟩
theorem parts_none (t : ByteArray) (ht : t.size ≤ 281474976710656) (h : checkP (bl t) ≠ 0) (V : World) :
    Calls Try.prog 13 #[.string t] V fun e w' => ∃ ao c, e = .returned (.tuple #[.slice ao 0 c, .bool false]) ∧ Below V.heap.size V w' := by
  have H := parts6_any t ht V
  have hp : partsP (bl t) = ([], false) := by unfold partsP; rw [treeOf_none h]
  rw [hp] at H
  refine H.mono ?_
  rintro e w' ⟨v, L', rfl, own, hL, b⟩
  obtain rfl : L' = [] := List.map_eq_nil_iff.1 hL
  obtain ⟨ao, c, rfl, _⟩ := ownT_row own
  exact ⟨ao, c, rfl, b⟩
theorem parts0 (t : ByteArray) (ht : t.size ≤ 281474976710656) (h : partsP (bl t) = ([], true)) (V : World) :
    Calls Try.prog 13 #[.string t] V fun e w' => ∃ ao c, e = .returned (.tuple #[.slice ao 0 c, .bool true]) ∧ Below V.heap.size V w' := by
  refine (parts_of t ht [] h V).mono ?_
  rintro e w' ⟨v, rfl, own, b⟩
  obtain ⟨ao, c, rfl, _⟩ := ownT_row own
  exact ⟨ao, c, rfl, b⟩
theorem parts1 (t a : ByteArray) (ht : t.size ≤ 281474976710656) (h : partsP (bl t) = ([bl a], true)) (V : World) :
    Calls Try.prog 13 #[.string t] V fun e w' => ∃ g c, e = .returned (.tuple #[.slice (some ⟨g, 0, none⟩) 1 c, .bool true]) ∧ w'.cell? ⟨g, 0, none⟩ = some (.string a) ∧ Below V.heap.size V w' := by
  refine (parts_of t ht [a] h V).mono ?_
  rintro e w' ⟨v, rfl, own, b⟩
  obtain ⟨g, c, rfl, hc⟩ := own_cell own (by simp)
  exact ⟨g, c, rfl, hc 0 (by simp), b⟩
theorem parts2 (t a d : ByteArray) (ht : t.size ≤ 281474976710656) (h : partsP (bl t) = ([bl a, bl d], true)) (V : World) :
    Calls Try.prog 13 #[.string t] V fun e w' => ∃ g c, e = .returned (.tuple #[.slice (some ⟨g, 0, none⟩) 2 c, .bool true]) ∧ w'.cell? ⟨g, 0, none⟩ = some (.string a) ∧ w'.cell? ⟨g, 1, none⟩ = some (.string d) ∧ Below V.heap.size V w' := by
  refine (parts_of t ht [a, d] h V).mono ?_
  rintro e w' ⟨v, rfl, own, b⟩
  obtain ⟨g, c, rfl, hc⟩ := own_cell own (by simp)
  exact ⟨g, c, rfl, hc 0 (by simp), hc 1 (by simp), b⟩
theorem parts3 (t a d f : ByteArray) (ht : t.size ≤ 281474976710656) (h : partsP (bl t) = ([bl a, bl d, bl f], true)) (V : World) :
    Calls Try.prog 13 #[.string t] V fun e w' => ∃ g c, e = .returned (.tuple #[.slice (some ⟨g, 0, none⟩) 3 c, .bool true]) ∧ w'.cell? ⟨g, 0, none⟩ = some (.string a) ∧ w'.cell? ⟨g, 1, none⟩ = some (.string d) ∧ w'.cell? ⟨g, 2, none⟩ = some (.string f) ∧ Below V.heap.size V w' := by
  refine (parts_of t ht [a, d, f] h V).mono ?_
  rintro e w' ⟨v, rfl, own, b⟩
  obtain ⟨g, c, rfl, hc⟩ := own_cell own (by simp)
  exact ⟨g, c, rfl, hc 0 (by simp), hc 1 (by simp), hc 2 (by simp), b⟩
theorem keepc {W w1 : World} {p : Addr} {x : Value} (hb : Below W.heap.size W w1) (h : W.cell? p = some x) : w1.cell? p = some x := (hb.cell (World.block_lt_of_cell? _ _ h)).trans h
end Go.Proofs.Ytfghhhghhjbiaaa.Pl
