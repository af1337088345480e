/- More of what suites make of plain bytes: what a datum says, what a seal's parts are, images of trees; plain mathematics alone. What the suite's own isTerm and datum answer, and what suites of terms make and open. What suites of bytes make and open, by their own methods. Images of rows of trees, part by part; how long they are; plain mathematics alone. The images of a term's parts, one by one, each in its part's place. The image of a term, in a suite of bytes, by its own method. What suite.Nonce answers. What the document's suites open. Images of terms, as the document has them. -/
import Derived.Test.YtedidoeoomijjaaGreatDoorSuiteZ1
import Derived.Test.YtedidoeoomijjaaGreatDoorSuiteZ3
import Derived.Test.YtedidoeoomijjaaGreatDoorTermNumber
import Derived.Test.YtedidoeoomijjaaGreatDoorTermPieces
import Derived.Test.YtedidoeoomijjaaGreatDoorTermJoin
import Derived.Test.YtedidoeoomijjaaGreatDoorSuiteZ7
import Derived.Test.YtedidoeoomijjaaGreatDoorSuiteZ9
import Derived.Test.YtedidoeoomijjaaGreatDoorSuiteZ5
import Derived.Test.YtedidoeoomijjaaGreatDoorCipherOpen
import Derived.Test.YtedidoeoomijjaaGreatDoorCipherSeal
import Derived.Test.YtedidoeoomijjaaGreatDoorSuiteZ4
import Derived.Test.YtedidoeoomijjaaGreatDoorSuiteZ6
import Derived.Test.YtedidoeoomijjaaGreatDoorReadText
import Derived.Deep.RegionHeld3
import Derived.Laws.AppendOwn
import Derived.Test.YtedidoeoomijjaaGreatDoorShaPadded
import Derived.Test.YtedidoeoomijjaaGreatDoorSuiteRefF
import Derived.Test.YtedidoeoomijjaaGreatDoorCipherRef
import Derived.Test.YtedidoeoomijjaaGreatDoorTermMakes
namespace Go.Proofs.YtedidoeoomijjaaGreatDoor.Pl
open Go.RowKit

theorem kind1_check {s : List UInt8} (h : kindP s = 1) : checkP s = 0 := by
  apply Classical.byContradiction
  intro hc
  unfold kindP at h
  rw [if_neg hc] at h
  cases h
theorem kindN_check {s : List UInt8} (h : kindP s ≠ 0) : checkP s = 0 := by
  apply Classical.byContradiction
  intro hc
  unfold kindP at h
  rw [if_neg hc] at h
  exact h rfl
theorem str_yes {s : List UInt8} (h : kindP s = 1) : strP s = some (strD s) := by rw [strD, strP, if_pos h]; rfl
theorem str_no {s : List UInt8} (h : kindP s ≠ 1) : strP s = none := by rw [strP, if_neg h]
theorem strD_no {s : List UInt8} (h : kindP s ≠ 1) : strD s = [] := by rw [strD, str_no h]; rfl
theorem strD_yes {s : List UInt8} (h : kindP s = 1) : strD s = (textP s).1 := by rw [strD, strP, if_pos h]; rfl
/-- A term by its tree. -/
theorem kd_of {s : List UInt8} (h : checkP s = 0) : ∃ hd l c, treeOf s = some (.node hd l) ∧ (Tm.node hd l).valid ∧ s = hd ++ encs l ∧ Kd hd l.length c ∧ kindP s = c := by
  obtain ⟨⟨hd, l⟩, tv, te, tr⟩ := treeOf_some h
  have hg := tv.1
  simp only [Tm.good] at hg
  obtain ⟨c, hk⟩ := head_kind hg.1
  rw [Tm.enc_node] at te
  refine ⟨hd, l, c, tr, tv, te.symm, hk, ?_⟩
  unfold kindP
  rw [if_pos h, ← te]
  cases hk with
  | data t e1 _ _ => rw [e1]; rfl
  | atom t e1 _ _ _ => rw [e1]; rfl
  | hash e1 _ => rw [e1]; rfl
  | mac e1 _ => rw [e1]; rfl
  | seal_ e1 _ => rw [e1]; rfl
  | row v e1 hv _ => rw [e1]; rfl
theorem text_yes {s : List UInt8} (h : kindP s = 1) : textP s = (strD s, true) := by
  obtain ⟨hd, l, c, _, _, te, hk, e⟩ := kd_of (kind1_check h)
  rw [strD_yes h]
  have hc := kind1_check h
  rw [h] at e
  subst e
  cases hk with
  | data t e1 _ _ =>
    unfold textP
    rw [if_pos ⟨hc, .inl (by rw [te, e1]; rfl)⟩]
theorem strD_len (s : List UInt8) : (strD s).length ≤ s.length := by
  by_cases h : kindP s = 1
  · rw [strD_yes h]; exact textP_len s
  · rw [strD_no h]; exact Nat.zero_le _
/-- The parts of a seal. -/
theorem seal_three {s : List UInt8} (h : kindP s = 6) : ∃ a b d, partsP s = ([a, b, d], true) := by
  obtain ⟨hd, l, c, tr, _, te, hk, e⟩ := kd_of (kindN_check (by rw [h]; decide))
  rw [h] at e
  subst e
  cases hk with
  | seal_ _ e3 =>
    match l, e3 with
    | [a, b, d], _ =>
      exact ⟨a.enc, b.enc, d.enc, by unfold partsP; rw [tr]; rfl⟩
theorem atom_err {s : List UInt8} (h : (atomP s).2 ≠ 0) : (atomP s).1 = [] := by
  unfold atomP at h ⊢
  split
  · rfl
  · rename_i h1
    rw [if_neg h1] at h
    split
    · rfl
    · rename_i h2
      rw [if_neg h2] at h
      exact absurd rfl h
theorem hash8_terms (c : Cry) (t : List UInt8) : hash8P c true t = madeP [104] [t] := by
  unfold hash8P
  by_cases h : checkP t = 0
  · simp [h]
  · simp [h, madeP]
theorem mac8_terms (c : Cry) (k t : List UInt8) : mac8P c true k t = madeP [109] [k, t] := by
  unfold mac8P
  by_cases h : checkP k = 0 ∧ checkP t = 0
  · simp [h]
  · have h' : checkP k ≠ 0 ∨ checkP t ≠ 0 := by
      by_cases h1 : checkP k = 0
      · exact .inr (fun h2 => h ⟨h1, h2⟩)
      · exact .inl h1
    rcases h' with h' | h' <;> simp [h', madeP]
theorem seal8_terms (c : Cry) (k n t : List UInt8) : seal8P c true k n t = madeP [115] [k, n, t] := by
  unfold seal8P
  by_cases h1 : checkP k = 0
  · by_cases h2 : checkP n = 0
    · by_cases h3 : checkP t = 0
      · simp [h1, h2, h3]
      · simp [h3, madeP]
    · simp [h2, madeP]
  · simp [h1, madeP]
theorem key8_terms (c : Cry) (m name : List UInt8) : keyP c true m name = atomP name := by simp [keyP]
end Go.Proofs.YtedidoeoomijjaaGreatDoor.Pl

namespace Go.Proofs.YtedidoeoomijjaaGreatDoor.Pl
open Go.RowKit

/-- What a datum says, as a text; nothing, where it is none. -/
noncomputable def keyD (t : ByteArray) : ByteArray := ⟨(strD (bl t)).toArray⟩
theorem bl_keyD (t : ByteArray) : bl (keyD t) = strD (bl t) := bl_mk _
theorem keyD_size (t : ByteArray) : (keyD t).size ≤ t.size := by rw [← bl_length, bl_keyD, ← bl_length]; exact strD_len _
theorem keyD_no {t : ByteArray} (h : kindP (bl t) ≠ 1) : keyD t = ⟨#[]⟩ := by rw [keyD, strD_no h]
theorem eq0 (c : Nat) : ((c : Int) == 0) = (c == 0) := by rw [Bool.eq_iff_iff, beq_iff_eq, beq_iff_eq]; omega
theorem ne1_yes {k : Nat} (h : k = 1) : ((k : Int) != 1) = false := by subst h; rfl
theorem ne1_no {k : Nat} (h : k ≠ 1) : ((k : Int) != 1) = true := by rw [bne_iff_ne]; omega
theorem ne6_yes {k : Nat} (h : k = 6) : ((k : Int) != 6) = false := by subst h; rfl
theorem ne6_no {k : Nat} (h : k ≠ 6) : ((k : Int) != 6) = true := by rw [bne_iff_ne]; omega
theorem zero_yes {c : Nat} (h : c = 0) : (c == 0) = true := by subst h; rfl
theorem zero_no {c : Nat} (h : c ≠ 0) : (c == 0) = false := by rw [beq_eq_false_iff_ne]; exact h
theorem str_ne8 {a b : ByteArray} (h : a ≠ b) : (a.toList == b.toList) = false ∧ (a.toList != b.toList) = true := by
  have h' : a.toList ≠ b.toList := fun e => h (by
    rw [Lib.toList_data, Lib.toList_data] at e
    apply ByteArray.ext
    exact Array.ext' e)
  exact ⟨beq_eq_false_iff_ne.2 h', bne_iff_ne.2 h'⟩
theorem bl_inj8 {a b : List ByteArray} (h : a.map bl = b.map bl) : a = b := (List.map_inj_right (fun _ _ e => bl_inj e)).1 h
theorem own_cell8 {w : World} {B : Nat} {v : Value} {l : List ByteArray} (h : OwnT w B v l) (hl : l ≠ []) : ∃ g c, v = .slice (some ⟨g, 0, none⟩) l.length c ∧ ∀ j, j < l.length → w.cell? ⟨g, j, none⟩ = some (.string (l.getD j ByteArray.empty)) := by
  rcases h.2 with ⟨hv, h0⟩ | ⟨g, cap, cur, hv, hbg, hg, rest⟩
  · exact absurd (List.length_eq_zero_iff.1 h0) hl
  · have h' := h
    unfold OwnT at h'
    rw [hv] at h'
    exact ⟨g, cap, hv, fun j hj => by rw [h'.cellAt j (by omega), txts_at l j hj]⟩
theorem parts_of8 (t : ByteArray) (ht : t.size ≤ 281474976710656) (L : List ByteArray) (h : partsP (bl t) = (L.map bl, true)) (V : World) :
    Calls Tryz.prog 88 #[.string t] V fun e w' => ∃ v, e = .returned (.tuple #[v, .bool true]) ∧ OwnT w' V.heap.size v L ∧ Below V.heap.size V w' := by
  have H := parts6_any t ht V
  rw [h] at H
  refine H.mono ?_
  rintro e w' ⟨v, L', rfl, own, hL, b⟩
  obtain rfl := bl_inj8 hL
  exact ⟨v, rfl, own, b⟩
/-- The texts of three bytes' rows. -/
theorem three_of (t : ByteArray) (ht : t.size ≤ 281474976710656) (a d f : List UInt8) (h : partsP (bl t) = ([a, d, f], true)) (V : World) :
    Calls Tryz.prog 88 #[.string t] V fun e w' => ∃ g c, e = .returned (.tuple #[.slice (some ⟨g, 0, none⟩) 3 c, .bool true]) ∧ w'.cell? ⟨g, 0, none⟩ = some (.string ⟨a.toArray⟩) ∧ w'.cell? ⟨g, 2, none⟩ = some (.string ⟨f.toArray⟩) ∧ Below V.heap.size V w' := by
  refine (parts_of8 t ht [⟨a.toArray⟩, ⟨d.toArray⟩, ⟨f.toArray⟩] h V).mono ?_
  rintro e w' ⟨v, rfl, own, b⟩
  obtain ⟨g, c, rfl, hc⟩ := own_cell8 own (by simp)
  exact ⟨g, c, rfl, hc 0 (by simp), hc 2 (by simp), b⟩

set_option maxRecDepth 100000 in
theorem isterm8_any (t : ByteArray) (ht : t.size ≤ 281474976710656) (w : World) :
    Calls Tryz.prog 40 #[.string t] w fun e w' => e = .returned (.bool (checkP (bl t) == 0)) ∧ Below w.heap.size w w' := by
  have HC := Lib.hid (check_any t ht w)
  rw [← eq0]
  generalize checkP (bl t) = c at *
  clear ht
  go_enter Tryz.func40, Tryz.ntmps40
  go_wp2_with fail
  refine HC.out.mono ?_; rintro e w1 ⟨rfl, b1⟩
  have B1 := Lib.hid b1
  clear b1
  go_wp2_with fail
  go_ret
  exact ⟨rfl, B1.out⟩
set_option maxRecDepth 100000 in
theorem datum8_any (t : ByteArray) (ht : t.size ≤ 281474976710656) (w : World) :
    Calls Tryz.prog 92 #[.string t] w fun e w' => e = .returned (.tuple #[.string (keyD t), .bool (kindP (bl t) == 1)]) ∧ Below w.heap.size w w' := by
  have HK := Lib.hid (tkind_any t ht w)
  have HT := Lib.hid (fun V => text6_any t ht V)
  by_cases h : kindP (bl t) = 1
  · rw [text_yes h, show tb2 (strD (bl t), true) = .tuple #[.string (keyD t), .bool true] from rfl] at HT
    have q := ne1_yes h
    rw [show (kindP (bl t) == 1) = true by rw [h]; rfl]
    generalize kindP (bl t) = k at *
    generalize keyD t = y at *
    clear h ht
    go_enter Tryz.func92, Tryz.ntmps92
    go_wp2_with fail
    refine HK.out.mono ?_; rintro e w1 ⟨rfl, b1⟩
    have B1 := Lib.hid b1
    clear b1
    go_wp2_with fail
    refine (HT.out w1).mono ?_; rintro e w2 ⟨rfl, b2⟩
    have B2 := Lib.hid (below_step B1.out b2)
    clear b2
    go_wp2_with fail
    go_ret2
    exact ⟨rfl, B2.out⟩
  · have q := ne1_no h
    rw [show (kindP (bl t) == 1) = false by rw [beq_eq_false_iff_ne]; exact h, keyD_no h]
    generalize kindP (bl t) = k at *
    clear h ht HT
    go_enter Tryz.func92, Tryz.ntmps92
    go_wp2_with fail
    refine HK.out.mono ?_; rintro e w1 ⟨rfl, b1⟩
    have B1 := Lib.hid b1
    clear b1
    go_wp2_with fail
    go_ret2
    exact ⟨rfl, B1.out⟩

/-- The receiver of suites of terms. -/
def symV : Value := .agg #[]

set_option maxRecDepth 100000 in
theorem skey8_any (c : Cry) (m : List UInt8) (n : ByteArray) (hn : n.size ≤ 20000) (w : World) :
    Calls Tryz.prog 147 #[symV, .string n] w fun e w' => e = .returned (st2 (keyP c true m (bl n))) ∧ Below w.heap.size w w' := by
  have H := Lib.hid (fun V => atom6_any n (by omega) V)
  have B0 := Lib.hid ((Below.refl w.heap.size w).alloc (Nat.le_refl _) (.cells #[] 42))
  rw [key8_terms]
  generalize atomP (bl n) = R at *
  obtain ⟨r, x⟩ := R
  unfold st2 at H ⊢
  dsimp only at H ⊢
  clear hn
  unfold symV
  go_enter Tryz.func147, Tryz.ntmps147
  go_wp2_with fail
  refine (H.out _).mono ?_; rintro e w1 ⟨rfl, b1⟩
  have B1 := Lib.hid (below_step B0.out b1)
  clear b1
  go_wp2_with fail
  go_ret2
  exact ⟨rfl, B1.out⟩

set_option maxRecDepth 100000 in
theorem shash8_any (c : Cry) (t : ByteArray) (ht : t.size ≤ 20000) (w : World) :
    Calls Tryz.prog 146 #[symV, .string t] w fun e w' => e = .returned (st2 (hash8P c true (bl t))) ∧ Below w.heap.size w w' := by
  have H := Lib.hid (fun V => hash6_any t (by omega) V)
  have B0 := Lib.hid ((Below.refl w.heap.size w).alloc (Nat.le_refl _) (.cells #[] 42))
  rw [hash8_terms]
  generalize madeP [104] [bl t] = R at *
  obtain ⟨r, x⟩ := R
  unfold st2 at H ⊢
  dsimp only at H ⊢
  clear ht
  unfold symV
  go_enter Tryz.func146, Tryz.ntmps146
  go_wp2_with fail
  refine (H.out _).mono ?_; rintro e w1 ⟨rfl, b1⟩
  have B1 := Lib.hid (below_step B0.out b1)
  clear b1
  go_wp2_with fail
  go_ret2
  exact ⟨rfl, B1.out⟩

set_option maxRecDepth 100000 in
theorem smac8_any (c : Cry) (k t : ByteArray) (hk : k.size ≤ 20000) (ht : t.size ≤ 20000) (w : World) :
    Calls Tryz.prog 148 #[symV, .string k, .string t] w fun e w' => e = .returned (st2 (mac8P c true (bl k) (bl t))) ∧ Below w.heap.size w w' := by
  have H := Lib.hid (fun V => mac6_any k t (by omega) (by omega) V)
  have B0 := Lib.hid ((Below.refl w.heap.size w).alloc (Nat.le_refl _) (.cells #[] 42))
  rw [mac8_terms]
  generalize madeP [109] [bl k, bl t] = R at *
  obtain ⟨r, x⟩ := R
  unfold st2 at H ⊢
  dsimp only at H ⊢
  clear hk ht
  unfold symV
  go_enter Tryz.func148, Tryz.ntmps148
  go_wp2_with fail
  refine (H.out _).mono ?_; rintro e w1 ⟨rfl, b1⟩
  have B1 := Lib.hid (below_step B0.out b1)
  clear b1
  go_wp2_with fail
  go_ret2
  exact ⟨rfl, B1.out⟩

set_option maxRecDepth 100000 in
theorem sseal8_any (c : Cry) (k n t : ByteArray) (hk : k.size ≤ 20000) (hn : n.size ≤ 20000) (ht : t.size ≤ 20000) (w : World) :
    Calls Tryz.prog 150 #[symV, .string k, .string n, .string t] w fun e w' => e = .returned (st2 (seal8P c true (bl k) (bl n) (bl t))) ∧ Below w.heap.size w w' := by
  have H := Lib.hid (fun V => seal6_any k n t (by omega) (by omega) (by omega) V)
  have B0 := Lib.hid ((Below.refl w.heap.size w).alloc (Nat.le_refl _) (.cells #[] 42))
  rw [seal8_terms]
  generalize madeP [115] [bl k, bl n, bl t] = R at *
  obtain ⟨r, x⟩ := R
  unfold st2 at H ⊢
  dsimp only at H ⊢
  clear hk hn ht
  unfold symV
  go_enter Tryz.func150, Tryz.ntmps150
  go_wp2_with fail
  refine (H.out _).mono ?_; rintro e w1 ⟨rfl, b1⟩
  have B1 := Lib.hid (below_step B0.out b1)
  clear b1
  go_wp2_with fail
  go_ret2
  exact ⟨rfl, B1.out⟩

set_option maxHeartbeats 1000000 in
set_option maxRecDepth 100000 in
theorem sopen8_any (c : Cry) (k x : ByteArray) (hk : k.size ≤ 20000) (hx : x.size ≤ 20000) (w : World) :
    Calls Tryz.prog 149 #[symV, .string k, .string x] w fun e w' => e = .returned (st2 (open8P c true (bl k) (bl x))) ∧ Below w.heap.size w w' := by
  have HK := Lib.hid (fun V => isterm8_any k (by omega) V)
  have HX := Lib.hid (fun V => isterm8_any x (by omega) V)
  have HI := Lib.hid (fun V => tkind_any x (by omega) V)
  obtain ⟨Z, hZ⟩ : ∃ Z, Z = open8P c true (bl k) (bl x) := ⟨_, rfl⟩
  rw [← hZ]
  unfold symV
  unfold open8P at hZ
  by_cases h1 : checkP (bl k) = 0
  · by_cases h2 : checkP (bl x) = 0
    · rw [if_neg (by simp [h1, h2]), if_pos rfl] at hZ
      rw [zero_yes h1] at HK
      rw [zero_yes h2] at HX
      by_cases h6 : kindP (bl x) = 6
      · obtain ⟨a, d, f, hp⟩ := seal_three h6
        have HP := Lib.hid (fun V => three_of x (by omega) a d f hp V)
        rw [if_neg (by simp [h6]), hp] at hZ
        have q6 := ne6_yes h6
        generalize kindP (bl x) = kd at *
        have hka : bl ⟨a.toArray⟩ = a := bl_mk a
        generalize hA : (⟨a.toArray⟩ : ByteArray) = A at *
        by_cases ha : A = k
        · have hZ2 : Z = (f, 0) := by rw [hZ, if_neg (by simp [← hka, ha])]; rfl
          subst hZ2
          subst ha
          clear h1 h2 h6 hp hka hA hk hx hZ
          go_enter Tryz.func149, Tryz.ntmps149
          have B0 := Lib.hid ((Below.refl w.heap.size w).alloc (Nat.le_refl _) (.cells #[] 42))
          go_wp2_with fail
          refine (HK.out _).mono ?_; rintro e w1 ⟨rfl, b1⟩
          have B1 := Lib.hid (below_step B0.out b1)
          clear b1
          go_wp2_with fail
          refine (HX.out w1).mono ?_; rintro e w2 ⟨rfl, b2⟩
          have B2 := Lib.hid (below_step B1.out b2)
          clear b2
          go_wp2_with fail
          refine (HI.out w2).mono ?_; rintro e w3 ⟨rfl, b3⟩
          have B3 := Lib.hid (below_step B2.out b3)
          clear b3
          go_wp2_with fail
          refine (HP.out w3).mono ?_; rintro e w4 ⟨g, cc, rfl, c0, c2, b4⟩
          have B4 := Lib.hid (below_step B3.out b4)
          clear b4
          go_wp2_with fail
          go_ret2
          exact ⟨rfl, B4.out⟩
        · have hne := str_ne8 ha
          obtain ⟨g1, g2⟩ := hne
          have hZ2 : Z = ([], 80) := by rw [hZ, if_pos (by simp only [List.getD_cons_zero]; rw [← hka]; exact fun e => ha (bl_inj e))]
          subst hZ2
          clear h1 h2 h6 hp hka hA hk hx hZ ha
          go_enter Tryz.func149, Tryz.ntmps149
          have B0 := Lib.hid ((Below.refl w.heap.size w).alloc (Nat.le_refl _) (.cells #[] 42))
          go_wp2_with fail
          refine (HK.out _).mono ?_; rintro e w1 ⟨rfl, b1⟩
          have B1 := Lib.hid (below_step B0.out b1)
          clear b1
          go_wp2_with fail
          refine (HX.out w1).mono ?_; rintro e w2 ⟨rfl, b2⟩
          have B2 := Lib.hid (below_step B1.out b2)
          clear b2
          go_wp2_with fail
          refine (HI.out w2).mono ?_; rintro e w3 ⟨rfl, b3⟩
          have B3 := Lib.hid (below_step B2.out b3)
          clear b3
          go_wp2_with fail
          refine (HP.out w3).mono ?_; rintro e w4 ⟨g, cc, rfl, c0, c2, b4⟩
          have B4 := Lib.hid (below_step B3.out b4)
          clear b4
          go_wp2_with fail
          go_ret2
          exact ⟨rfl, B4.out⟩
      · rw [if_pos h6] at hZ
        subst hZ
        have q6 := ne6_no h6
        generalize kindP (bl x) = kd at *
        clear h1 h2 h6 hk hx
        go_enter Tryz.func149, Tryz.ntmps149
        have B0 := Lib.hid ((Below.refl w.heap.size w).alloc (Nat.le_refl _) (.cells #[] 42))
        go_wp2_with fail
        refine (HK.out _).mono ?_; rintro e w1 ⟨rfl, b1⟩
        have B1 := Lib.hid (below_step B0.out b1)
        clear b1
        go_wp2_with fail
        refine (HX.out w1).mono ?_; rintro e w2 ⟨rfl, b2⟩
        have B2 := Lib.hid (below_step B1.out b2)
        clear b2
        go_wp2_with fail
        refine (HI.out w2).mono ?_; rintro e w3 ⟨rfl, b3⟩
        have B3 := Lib.hid (below_step B2.out b3)
        clear b3
        go_wp2_with fail
        go_ret2
        exact ⟨rfl, B3.out⟩
    · rw [if_pos (.inr (.inl h2))] at hZ
      subst hZ
      rw [zero_yes h1] at HK
      rw [zero_no h2] at HX
      clear h1 h2 hk hx
      go_enter Tryz.func149, Tryz.ntmps149
      have B0 := Lib.hid ((Below.refl w.heap.size w).alloc (Nat.le_refl _) (.cells #[] 42))
      go_wp2_with fail
      refine (HK.out _).mono ?_; rintro e w1 ⟨rfl, b1⟩
      have B1 := Lib.hid (below_step B0.out b1)
      clear b1
      go_wp2_with fail
      refine (HX.out w1).mono ?_; rintro e w2 ⟨rfl, b2⟩
      have B2 := Lib.hid (below_step B1.out b2)
      clear b2
      go_wp2_with fail
      go_ret2
      exact ⟨rfl, B2.out⟩
  · rw [if_pos (.inl h1)] at hZ
    subst hZ
    rw [zero_no h1] at HK
    clear h1 hk hx
    go_enter Tryz.func149, Tryz.ntmps149
    have B0 := Lib.hid ((Below.refl w.heap.size w).alloc (Nat.le_refl _) (.cells #[] 42))
    go_wp2_with fail
    refine (HK.out _).mono ?_; rintro e w1 ⟨rfl, b1⟩
    have B1 := Lib.hid (below_step B0.out b1)
    clear b1
    go_wp2_with fail
    go_ret2
    exact ⟨rfl, B1.out⟩
end Go.Proofs.YtedidoeoomijjaaGreatDoor.Pl

namespace Go.Proofs.YtedidoeoomijjaaGreatDoor.Pl
open Go.RowKit

/-- The table is laid, and block q is a key that is ready, of the text m. -/
def Keyed (w : World) (q : Nat) (m : ByteArray) : Prop := Tab w ∧ KeyAt w q (nums m)
theorem Keyed.below {w w' : World} {q : Nat} {m : ByteArray} (h : Keyed w q m) (hb : Below w.heap.size w w') : Keyed w' q m := ⟨h.1.below hb, h.2.below hb⟩
/-- The receiver of suites of bytes. -/
def conV (q : Nat) : Value := .agg #[.pointer (some ⟨q, 0, none⟩)]
theorem cat_key (n : ByteArray) : (⟨#[107, 101, 121, 32]⟩ ++ n : ByteArray).size = 4 + n.size := by rw [ByteArray.size_append]; rfl
theorem bl_join8 (a b : ByteArray) : bl (a ++ b) = bl a ++ bl b := by simp [bl, ByteArray.data_append]
theorem tag_size (k t : ByteArray) : (bytesOf (tagOf (nums k) (nums t))).size = 32 := by rw [bytesOf_size, tagOf_length]
theorem sum_size (t : ByteArray) : (bytesOf (digest (nums t))).size = 32 := by rw [bytesOf_size, digest_length]
theorem neq0_no {c : Nat} (h : c ≠ 0) : ((c : Int) != 0) = true := by rw [bne_iff_ne]; omega

set_option maxHeartbeats 1000000 in
set_option maxRecDepth 100000 in
theorem ckey8_any (q : Nat) (m n : ByteArray) (hn : n.size ≤ 20000) (w : World) (hT : Keyed w q m) :
    Calls Tryz.prog 65 #[conV q, .string n] w fun e w' => e = .returned (st2 (keyP cryP false (bl m) (bl n))) ∧ Below w.heap.size w w' := by
  have HT := Lib.hid hT
  unfold conV
  obtain ⟨K, hK⟩ : ∃ K : ByteArray, K = ⟨#[107, 101, 121, 32]⟩ ++ n := ⟨_, rfl⟩
  have hs : K.size ≤ 800000 := by rw [hK, cat_key]; omega
  have hb : ([107, 101, 121, 32] ++ bl n : List UInt8) = bl K := by rw [hK, bl_join8]; rfl
  have HA := Lib.hid (fun V => atom6_any n (by omega) V)
  have HS := Lib.hid (fun V (h : Keyed V q m) => keysum_any q m K (by omega) V h.1 h.2)
  have HD := Lib.hid (fun V => data6_any (bytesOf (tagOf (nums m) (nums K))) (by rw [tag_size]; decide) V)
  rw [← cry_mac m K] at HD
  have HE : Hid ((atomP (bl n)).2 ≠ 0 → (atomP (bl n)).1 = []) := Lib.hid atom_err
  have hz : (keyP cryP false (bl m) (bl n)) = if (atomP (bl n)).2 ≠ 0 ∨ false = true then atomP (bl n) else dataP (cryP.mac (bl m) ([107, 101, 121, 32] ++ bl n)) := rfl
  rw [hb] at hz
  have hcat : (⟨#[107, 101, 121, 32]⟩ : ByteArray).size + n.size ≤ 9223372036854775807 := by
    have h4 : (⟨#[107, 101, 121, 32]⟩ : ByteArray).size = 4 := rfl
    omega
  generalize keyP cryP false (bl m) (bl n) = Z at *
  generalize atomP (bl n) = R at *
  generalize dataP (cryP.mac (bl m) (bl K)) = D at *
  generalize bytesOf (tagOf (nums m) (nums K)) = T at *
  obtain ⟨r, x⟩ := R
  obtain ⟨d, y⟩ := D
  dsimp only at hz HE
  unfold st2 at HA HD
  dsimp only at HA HD
  clear hn hs hb hT
  by_cases hx : x = 0
  · subst hx
    rw [if_neg (by simp)] at hz
    subst hz
    subst hK
    clear HE
    go_enter Tryz.func65, Tryz.ntmps65
    have A0 := (Below.refl w.heap.size w).alloc (Nat.le_refl _) (.cells #[.pointer (some ⟨q, 0, none⟩)] 50)
    have B0 := Lib.hid A0
    have T0 := Lib.hid (HT.out.below A0)
    clear A0
    have C0 := Lib.hid (Go.heap_alloc_new w (.cells #[.pointer (some ⟨q, 0, none⟩)] 50))
    go_wp2_with fail
    refine (HA.out _).mono ?_; rintro e w1 ⟨rfl, b1⟩
    have B1 := Lib.hid (below_step B0.out b1)
    have T1 := Lib.hid (T0.out.below b1)
    have C1 := Lib.hid (heap_below b1 C0.out)
    have c0 : w1.cell? ⟨w.heap.size, 0, none⟩ = some (.pointer (some ⟨q, 0, none⟩)) := cell_of_row _ _ _ _ _ _ C1.out
    clear b1
    go_wp2_with fail
    refine (HS.out w1 T1.out).mono ?_; rintro e w2 ⟨rfl, b2⟩
    have B2 := Lib.hid (below_step B1.out b2)
    have T2 := Lib.hid (T1.out.below b2)
    have C2 := Lib.hid (heap_below b2 C1.out)
    clear b2
    go_wp2_with fail
    refine (HD.out w2).mono ?_; rintro e w3 ⟨rfl, b3⟩
    have B3 := Lib.hid (below_step B2.out b3)
    have T3 := Lib.hid (T2.out.below b3)
    have C3 := Lib.hid (heap_below b3 C2.out)
    clear b3
    go_wp2_with fail
    go_ret2
    exact ⟨rfl, B3.out⟩
  · rw [if_pos (.inl hx)] at hz
    have hr := HE.out hx
    have q2 := neq0_no hx
    subst hr
    subst hz
    clear hx HE
    go_enter Tryz.func65, Tryz.ntmps65
    have A0 := (Below.refl w.heap.size w).alloc (Nat.le_refl _) (.cells #[.pointer (some ⟨q, 0, none⟩)] 50)
    have B0 := Lib.hid A0
    have T0 := Lib.hid (HT.out.below A0)
    clear A0
    go_wp2_with fail
    refine (HA.out _).mono ?_; rintro e w1 ⟨rfl, b1⟩
    have B1 := Lib.hid (below_step B0.out b1)
    have T1 := Lib.hid (T0.out.below b1)
    clear b1
    go_wp2_with fail
    go_ret2
    exact ⟨rfl, B1.out⟩

set_option maxHeartbeats 1000000 in
set_option maxRecDepth 100000 in
theorem chash8_any (q : Nat) (m t : ByteArray) (ht : t.size ≤ 20000) (w : World) (hT : Keyed w q m) :
    Calls Tryz.prog 67 #[conV q, .string t] w fun e w' => e = .returned (st2 (hash8P cryP false (bl t))) ∧ Below w.heap.size w w' := by
  have HT := Lib.hid hT
  unfold conV
  have HM := Lib.hid (fun V => isterm8_any t (by omega) V)
  have HS := Lib.hid (fun V (h : Keyed V q m) => sum_any t (by omega) V h.1)
  have HD := Lib.hid (fun V => data6_any (bytesOf (digest (nums t))) (by rw [sum_size]; decide) V)
  rw [← cry_hash t] at HD
  have hz : (hash8P cryP false (bl t)) = if checkP (bl t) ≠ 0 then ([], 2) else if false = true then madeP [104] [bl t] else dataP (cryP.hash (bl t)) := rfl
  generalize hash8P cryP false (bl t) = Z at *
  generalize dataP (cryP.hash (bl t)) = D at *
  generalize bytesOf (digest (nums t)) = T at *
  obtain ⟨d, v⟩ := D
  unfold st2 at HD
  dsimp only at HD
  clear ht hT
  by_cases hx : checkP (bl t) = 0
  · rw [if_neg (by simp [hx]), if_neg (by simp)] at hz
    rw [zero_yes hx] at HM
    subst hz
    clear hx
    go_enter Tryz.func67, Tryz.ntmps67
    have A0 := (Below.refl w.heap.size w).alloc (Nat.le_refl _) (.cells #[.pointer (some ⟨q, 0, none⟩)] 50)
    have B0 := Lib.hid A0
    have T0 := Lib.hid (HT.out.below A0)
    clear A0
    go_wp2_with fail
    refine (HM.out _).mono ?_; rintro e w1 ⟨rfl, b1⟩
    have B1 := Lib.hid (below_step B0.out b1)
    have T1 := Lib.hid (T0.out.below b1)
    clear b1
    go_wp2_with fail
    refine (HS.out w1 T1.out).mono ?_; rintro e w2 ⟨rfl, b2⟩
    have B2 := Lib.hid (below_step B1.out b2)
    have T2 := Lib.hid (T1.out.below b2)
    clear b2
    go_wp2_with fail
    refine (HD.out w2).mono ?_; rintro e w3 ⟨rfl, b3⟩
    have B3 := Lib.hid (below_step B2.out b3)
    have T3 := Lib.hid (T2.out.below b3)
    clear b3
    go_wp2_with fail
    go_ret2
    exact ⟨rfl, B3.out⟩
  · rw [if_pos hx] at hz
    rw [zero_no hx] at HM
    subst hz
    clear hx HD HS
    go_enter Tryz.func67, Tryz.ntmps67
    have A0 := (Below.refl w.heap.size w).alloc (Nat.le_refl _) (.cells #[.pointer (some ⟨q, 0, none⟩)] 50)
    have B0 := Lib.hid A0
    have T0 := Lib.hid (HT.out.below A0)
    clear A0
    go_wp2_with fail
    refine (HM.out _).mono ?_; rintro e w1 ⟨rfl, b1⟩
    have B1 := Lib.hid (below_step B0.out b1)
    have T1 := Lib.hid (T0.out.below b1)
    clear b1
    go_wp2_with fail
    go_ret2
    exact ⟨rfl, B1.out⟩

set_option maxHeartbeats 1000000 in
set_option maxRecDepth 100000 in
theorem cmac8_any (q : Nat) (m k t : ByteArray) (hk : k.size ≤ 20000) (ht : t.size ≤ 20000) (w : World) (hT : Keyed w q m) :
    Calls Tryz.prog 68 #[conV q, .string k, .string t] w fun e w' => e = .returned (st2 (mac8P cryP false (bl k) (bl t))) ∧ Below w.heap.size w w' := by
  have HT := Lib.hid hT
  unfold conV
  have hks := keyD_size k
  have HK := Lib.hid (fun V => datum8_any k (by omega) V)
  have HM := Lib.hid (fun V => isterm8_any t (by omega) V)
  have HS := Lib.hid (fun V (h : Keyed V q m) => tag_any (keyD k) t (by omega) (by omega) V h.1)
  have HD := Lib.hid (fun V => data6_any (bytesOf (tagOf (nums (keyD k)) (nums t))) (by rw [tag_size]; decide) V)
  rw [← cry_mac (keyD k) t, bl_keyD] at HD
  have hz : (mac8P cryP false (bl k) (bl t)) = if checkP (bl k) ≠ 0 ∨ checkP (bl t) ≠ 0 ∨ (false = false ∧ strP (bl k) = none) then ([], 2) else if false = true then madeP [109] [bl k, bl t] else dataP (cryP.mac (strD (bl k)) (bl t)) := rfl
  generalize mac8P cryP false (bl k) (bl t) = Z at *
  generalize dataP (cryP.mac (strD (bl k)) (bl t)) = D at *
  generalize bytesOf (tagOf (nums (keyD k)) (nums t)) = T at *
  generalize keyD k = y at *
  obtain ⟨d, v⟩ := D
  unfold st2 at HD
  dsimp only at HD
  clear ht hT hk hks
  by_cases h1 : kindP (bl k) = 1
  · rw [show (kindP (bl k) == 1) = true by rw [h1]; rfl] at HK
    by_cases hx : checkP (bl t) = 0
    · rw [if_neg (by simp [hx, kind1_check h1, str_yes h1]), if_neg (by simp)] at hz
      rw [zero_yes hx] at HM
      subst hz
      clear hx h1
      go_enter Tryz.func68, Tryz.ntmps68
      have A0 := (Below.refl w.heap.size w).alloc (Nat.le_refl _) (.cells #[.pointer (some ⟨q, 0, none⟩)] 50)
      have B0 := Lib.hid A0
      have T0 := Lib.hid (HT.out.below A0)
      clear A0
      go_wp2_with fail
      refine (HK.out _).mono ?_; rintro e w1 ⟨rfl, b1⟩
      have B1 := Lib.hid (below_step B0.out b1)
      have T1 := Lib.hid (T0.out.below b1)
      clear b1
      go_wp2_with fail
      refine (HM.out w1).mono ?_; rintro e w2 ⟨rfl, b2⟩
      have B2 := Lib.hid (below_step B1.out b2)
      have T2 := Lib.hid (T1.out.below b2)
      clear b2
      go_wp2_with fail
      refine (HS.out w2 T2.out).mono ?_; rintro e w3 ⟨rfl, b3⟩
      have B3 := Lib.hid (below_step B2.out b3)
      have T3 := Lib.hid (T2.out.below b3)
      clear b3
      go_wp2_with fail
      refine (HD.out w3).mono ?_; rintro e w4 ⟨rfl, b4⟩
      have B4 := Lib.hid (below_step B3.out b4)
      have T4 := Lib.hid (T3.out.below b4)
      clear b4
      go_wp2_with fail
      go_ret2
      exact ⟨rfl, B4.out⟩
    · rw [if_pos (.inr (.inl hx))] at hz
      rw [zero_no hx] at HM
      subst hz
      clear hx HD HS h1
      go_enter Tryz.func68, Tryz.ntmps68
      have A0 := (Below.refl w.heap.size w).alloc (Nat.le_refl _) (.cells #[.pointer (some ⟨q, 0, none⟩)] 50)
      have B0 := Lib.hid A0
      have T0 := Lib.hid (HT.out.below A0)
      clear A0
      go_wp2_with fail
      refine (HK.out _).mono ?_; rintro e w1 ⟨rfl, b1⟩
      have B1 := Lib.hid (below_step B0.out b1)
      have T1 := Lib.hid (T0.out.below b1)
      clear b1
      go_wp2_with fail
      refine (HM.out w1).mono ?_; rintro e w2 ⟨rfl, b2⟩
      have B2 := Lib.hid (below_step B1.out b2)
      have T2 := Lib.hid (T1.out.below b2)
      clear b2
      go_wp2_with fail
      go_ret2
      exact ⟨rfl, B2.out⟩
  · rw [if_pos (.inr (.inr ⟨rfl, str_no h1⟩))] at hz
    rw [show (kindP (bl k) == 1) = false by rw [beq_eq_false_iff_ne]; exact h1] at HK
    subst hz
    clear h1 HD HS HM
    go_enter Tryz.func68, Tryz.ntmps68
    have A0 := (Below.refl w.heap.size w).alloc (Nat.le_refl _) (.cells #[.pointer (some ⟨q, 0, none⟩)] 50)
    have B0 := Lib.hid A0
    have T0 := Lib.hid (HT.out.below A0)
    clear A0
    go_wp2_with fail
    refine (HK.out _).mono ?_; rintro e w1 ⟨rfl, b1⟩
    have B1 := Lib.hid (below_step B0.out b1)
    have T1 := Lib.hid (T0.out.below b1)
    clear b1
    go_wp2_with fail
    go_ret2
    exact ⟨rfl, B1.out⟩

set_option maxHeartbeats 2000000 in
set_option maxRecDepth 100000 in
theorem cseal8_any (q : Nat) (m k n t : ByteArray) (hk : k.size ≤ 20000) (hn : n.size ≤ 20000) (ht : t.size ≤ 20000) (w : World) (hT : Keyed w q m) :
    Calls Tryz.prog 69 #[conV q, .string k, .string n, .string t] w fun e w' => e = .returned (st2 (seal8P cryP false (bl k) (bl n) (bl t))) ∧ Below w.heap.size w w' := by
  have HT := Lib.hid hT
  unfold conV
  have hks := keyD_size k
  have hns := keyD_size n
  have HK := Lib.hid (fun V => datum8_any k (by omega) V)
  have HN := Lib.hid (fun V => datum8_any n (by omega) V)
  have HM := Lib.hid (fun V => isterm8_any t (by omega) V)
  have HS := Lib.hid (fun (h12 : (keyD n).size = 12) V (h : Keyed V q m) => seal_any (keyD k) (keyD n) t (by omega) h12 (by omega) V h.1)
  have HS2 := Lib.hid (fun (h12 : (keyD n).size ≠ 12) V => seal_arg (keyD k) (keyD n) t h12 V)
  have HD := Lib.hid (fun (h12 : (keyD n).size = 12) V => data6_any (sealedT (keyD k) (keyD n) t) (by rw [sealedT_size _ _ _ h12]; omega) V)
  rw [← cry_shut (keyD k) (keyD n) t, bl_keyD, bl_keyD] at HD
  unfold SealPost at HS
  rw [show bytesOf (sealedL (nums (keyD k)) (nums (keyD n)) (nums t)) = sealedT (keyD k) (keyD n) t from rfl] at HS
  have hl : (strD (bl n)).length = (keyD n).size := by rw [← bl_keyD, bl_length]
  have hz : (seal8P cryP false (bl k) (bl n) (bl t)) = if checkP (bl k) ≠ 0 ∨ checkP (bl n) ≠ 0 ∨ checkP (bl t) ≠ 0 ∨ (false = false ∧ (strP (bl k) = none ∨ strP (bl n) = none ∨ (strD (bl n)).length ≠ 12)) then ([], 2)
      else if false = true then madeP [115] [bl k, bl n, bl t] else dataP (cryP.shut (strD (bl k)) (strD (bl n)) (bl t)) := rfl
  have hno : kindP (bl n) ≠ 1 → (keyD n).size ≠ 12 := fun h => by rw [keyD_no h]; decide
  generalize seal8P cryP false (bl k) (bl n) (bl t) = Z at *
  generalize dataP (cryP.shut (strD (bl k)) (strD (bl n)) (bl t)) = D at *
  generalize sealedT (keyD k) (keyD n) t = T at *
  generalize keyD k = y at *
  generalize keyD n = u at *
  obtain ⟨d, v⟩ := D
  unfold st2 at HD
  dsimp only at HD
  clear ht hT hk hn hks hns
  by_cases h1 : kindP (bl k) = 1
  · rw [show (kindP (bl k) == 1) = true by rw [h1]; rfl] at HK
    by_cases hx : checkP (bl t) = 0
    · rw [zero_yes hx] at HM
      by_cases h12 : u.size = 12
      · have hn1 : kindP (bl n) = 1 := Classical.byContradiction fun h => hno h h12
        rw [if_neg (by simp [hx, kind1_check h1, str_yes h1, kind1_check hn1, str_yes hn1, hl, h12]), if_neg (by simp)] at hz
        have HS3 := Lib.hid (HS.out h12)
        have HD3 := Lib.hid (HD.out h12)
        subst hz
        clear hx h1 h12 hn1 hno hl HS HS2 HD
        generalize (kindP (bl n) == 1) = kn at *
        go_enter Tryz.func69, Tryz.ntmps69
        have A0 := (Below.refl w.heap.size w).alloc (Nat.le_refl _) (.cells #[.pointer (some ⟨q, 0, none⟩)] 50)
        have B0 := Lib.hid A0
        have T0 := Lib.hid (HT.out.below A0)
        clear A0
        go_wp2_with fail
        refine (HK.out _).mono ?_; rintro e w1 ⟨rfl, b1⟩
        have B1 := Lib.hid (below_step B0.out b1)
        have T1 := Lib.hid (T0.out.below b1)
        clear b1
        go_wp2_with fail
        refine (HM.out w1).mono ?_; rintro e w2 ⟨rfl, b2⟩
        have B2 := Lib.hid (below_step B1.out b2)
        have T2 := Lib.hid (T1.out.below b2)
        clear b2
        go_wp2_with fail
        refine (HN.out w2).mono ?_; rintro e w3 ⟨rfl, b3⟩
        have B3 := Lib.hid (below_step B2.out b3)
        have T3 := Lib.hid (T2.out.below b3)
        clear b3
        go_wp2_with fail
        refine (HS3.out w3 T3.out).mono ?_; rintro e w4 ⟨rfl, b4⟩
        have B4 := Lib.hid (below_step B3.out b4)
        have T4 := Lib.hid (T3.out.below b4)
        clear b4
        go_wp2_with fail
        refine (HD3.out w4).mono ?_; rintro e w5 ⟨rfl, b5⟩
        have B5 := Lib.hid (below_step B4.out b5)
        have T5 := Lib.hid (T4.out.below b5)
        clear b5
        go_wp2_with fail
        go_ret2
        exact ⟨rfl, B5.out⟩
      · rw [if_pos (by simp [hl, h12])] at hz
        have HS3 : Hid (∀ V, Calls Tryz.prog 94 #[.string y, .string u, .string t] V fun e w' => e = .returned (.tuple #[.string ⟨#[]⟩, .int .i64 2]) ∧ Below V.heap.size V w') := Lib.hid (fun V => (HS2.out h12 V).mono (by rintro e w' ⟨rfl, rfl⟩; exact ⟨rfl, Below.refl _ _⟩))
        subst hz
        clear hx h1 h12 hno hl HS HS2 HD
        generalize (kindP (bl n) == 1) = kn at *
        go_enter Tryz.func69, Tryz.ntmps69
        have A0 := (Below.refl w.heap.size w).alloc (Nat.le_refl _) (.cells #[.pointer (some ⟨q, 0, none⟩)] 50)
        have B0 := Lib.hid A0
        have T0 := Lib.hid (HT.out.below A0)
        clear A0
        go_wp2_with fail
        refine (HK.out _).mono ?_; rintro e w1 ⟨rfl, b1⟩
        have B1 := Lib.hid (below_step B0.out b1)
        have T1 := Lib.hid (T0.out.below b1)
        clear b1
        go_wp2_with fail
        refine (HM.out w1).mono ?_; rintro e w2 ⟨rfl, b2⟩
        have B2 := Lib.hid (below_step B1.out b2)
        have T2 := Lib.hid (T1.out.below b2)
        clear b2
        go_wp2_with fail
        refine (HN.out w2).mono ?_; rintro e w3 ⟨rfl, b3⟩
        have B3 := Lib.hid (below_step B2.out b3)
        have T3 := Lib.hid (T2.out.below b3)
        clear b3
        go_wp2_with fail
        refine (HS3.out w3).mono ?_; rintro e w4 ⟨rfl, b4⟩
        have B4 := Lib.hid (below_step B3.out b4)
        have T4 := Lib.hid (T3.out.below b4)
        clear b4
        go_wp2_with fail
        go_ret2
        exact ⟨rfl, B4.out⟩
    · rw [if_pos (.inr (.inr (.inl hx)))] at hz
      rw [zero_no hx] at HM
      subst hz
      clear hx HD HS HS2 h1 hno hl HN
      go_enter Tryz.func69, Tryz.ntmps69
      have A0 := (Below.refl w.heap.size w).alloc (Nat.le_refl _) (.cells #[.pointer (some ⟨q, 0, none⟩)] 50)
      have B0 := Lib.hid A0
      have T0 := Lib.hid (HT.out.below A0)
      clear A0
      go_wp2_with fail
      refine (HK.out _).mono ?_; rintro e w1 ⟨rfl, b1⟩
      have B1 := Lib.hid (below_step B0.out b1)
      have T1 := Lib.hid (T0.out.below b1)
      clear b1
      go_wp2_with fail
      refine (HM.out w1).mono ?_; rintro e w2 ⟨rfl, b2⟩
      have B2 := Lib.hid (below_step B1.out b2)
      have T2 := Lib.hid (T1.out.below b2)
      clear b2
      go_wp2_with fail
      go_ret2
      exact ⟨rfl, B2.out⟩
  · rw [if_pos (.inr (.inr (.inr ⟨rfl, .inl (str_no h1)⟩)))] at hz
    rw [show (kindP (bl k) == 1) = false by rw [beq_eq_false_iff_ne]; exact h1] at HK
    subst hz
    clear h1 HD HS HS2 HM hno hl HN
    go_enter Tryz.func69, Tryz.ntmps69
    have A0 := (Below.refl w.heap.size w).alloc (Nat.le_refl _) (.cells #[.pointer (some ⟨q, 0, none⟩)] 50)
    have B0 := Lib.hid A0
    have T0 := Lib.hid (HT.out.below A0)
    clear A0
    go_wp2_with fail
    refine (HK.out _).mono ?_; rintro e w1 ⟨rfl, b1⟩
    have B1 := Lib.hid (below_step B0.out b1)
    have T1 := Lib.hid (T0.out.below b1)
    clear b1
    go_wp2_with fail
    go_ret2
    exact ⟨rfl, B1.out⟩

theorem see_none {k x : ByteArray} (h : ¬ (44 ≤ x.size ∧ Fits k x)) (hk : k.size ≤ 1000000) (hx : x.size ≤ 65580) (V : World) (hT : Tab V) :
    Calls Tryz.prog 155 #[.string k, .string x] V fun e w' => ∃ c : Nat, c ≠ 0 ∧ e = .returned (.tuple #[.string ⟨#[]⟩, .int .i64 (c : Int)]) ∧ Below V.heap.size V w' := by
  by_cases h1 : 44 ≤ x.size
  · refine (open_unfit k x hk h1 hx (fun hf => h ⟨h1, hf⟩) V hT).mono ?_
    rintro e w' ⟨rfl, b⟩
    exact ⟨40, by decide, rfl, b⟩
  · refine (open_end k x (by omega) V).mono ?_
    rintro e w' ⟨rfl, rfl⟩
    exact ⟨6, by decide, rfl, Below.refl _ _⟩
set_option maxHeartbeats 2000000 in
set_option maxRecDepth 100000 in
theorem copen8_any (q : Nat) (m k x : ByteArray) (hk : k.size ≤ 20000) (hx : x.size ≤ 20000) (w : World) (hT : Keyed w q m) :
    Calls Tryz.prog 154 #[conV q, .string k, .string x] w fun e w' => e = .returned (st2 (open8P cryP false (bl k) (bl x))) ∧ Below w.heap.size w w' := by
  have HT := Lib.hid hT
  unfold conV
  have hks := keyD_size k
  have hxs := keyD_size x
  have HK := Lib.hid (fun V => datum8_any k (by omega) V)
  have HN := Lib.hid (fun V => datum8_any x (by omega) V)
  have HX := Lib.hid (fun V => isterm8_any x (by omega) V)
  obtain ⟨Z, hZ⟩ : ∃ Z, Z = open8P cryP false (bl k) (bl x) := ⟨_, rfl⟩
  rw [← hZ]
  unfold open8P at hZ
  by_cases h1 : kindP (bl k) = 1
  · rw [show (kindP (bl k) == 1) = true by rw [h1]; rfl] at HK
    by_cases h2 : checkP (bl x) = 0
    · rw [zero_yes h2] at HX
      rw [if_neg (by simp [h2, kind1_check h1, str_yes h1]), if_neg (by simp)] at hZ
      by_cases h3 : kindP (bl x) = 1
      · rw [show (kindP (bl x) == 1) = true by rw [h3]; rfl] at HN
        rw [str_yes h3] at hZ
        simp only at hZ
        by_cases hf : 44 ≤ (keyD x).size ∧ Fits (keyD k) (keyD x)
        · have HO := Lib.hid (fun V (h : Keyed V q m) => open_fits (keyD k) (keyD x) (by omega) hf.1 (by omega) hf.2 V h.1)
          have hss : (shown (keyD k) (hidOf (keyD x))).size ≤ 20000 := by
            rw [shown_size]
            have : (hidOf (keyD x)).size ≤ (keyD x).size := by unfold hidOf; rw [ByteArray.size_extract]; omega
            omega
          rw [← bl_keyD k, ← bl_keyD x, cry_see_yes hf.1 hf.2] at hZ
          simp only at hZ
          have HC := Lib.hid (fun V => isterm8_any (shown (keyD k) (hidOf (keyD x))) (by omega) V)
          generalize shown (keyD k) (hidOf (keyD x)) = S at *
          generalize keyD k = y at *
          generalize keyD x = u at *
          by_cases hc : checkP (bl S) = 0
          · rw [if_pos hc] at hZ
            rw [zero_yes hc] at HC
            have hS : (⟨(bl S).toArray⟩ : ByteArray) = S := bl_inj (bl_mk _)
            rw [show st2 Z = .tuple #[.string S, .int .i64 0] by rw [hZ]; show Value.tuple #[.string ⟨(bl S).toArray⟩, _] = _; rw [hS]; rfl]
            clear h1 h2 h3 hf hss hc hS hZ hk hx hks hxs hT
            go_enter Tryz.func154, Tryz.ntmps154
            have A0 := (Below.refl w.heap.size w).alloc (Nat.le_refl _) (.cells #[.pointer (some ⟨q, 0, none⟩)] 50)
            have B0 := Lib.hid A0
            have T0 := Lib.hid (HT.out.below A0)
            clear A0
            go_wp2_with fail
            refine (HK.out _).mono ?_; rintro e w1 ⟨rfl, b1⟩
            have B1 := Lib.hid (below_step B0.out b1)
            have T1 := Lib.hid (T0.out.below b1)
            clear b1
            go_wp2_with fail
            refine (HX.out w1).mono ?_; rintro e w2 ⟨rfl, b2⟩
            have B2 := Lib.hid (below_step B1.out b2)
            have T2 := Lib.hid (T1.out.below b2)
            clear b2
            go_wp2_with fail
            refine (HN.out w2).mono ?_; rintro e w3 ⟨rfl, b3⟩
            have B3 := Lib.hid (below_step B2.out b3)
            have T3 := Lib.hid (T2.out.below b3)
            clear b3
            go_wp2_with fail
            refine (HO.out w3 T3.out).mono ?_; rintro e w4 ⟨rfl, b4⟩
            have B4 := Lib.hid (below_step B3.out b4)
            have T4 := Lib.hid (T3.out.below b4)
            clear b4
            go_wp2_with fail
            refine (HC.out w4).mono ?_; rintro e w5 ⟨rfl, b5⟩
            have B5 := Lib.hid (below_step B4.out b5)
            have T5 := Lib.hid (T4.out.below b5)
            clear b5
            go_wp2_with fail
            go_ret2
            exact ⟨rfl, B5.out⟩
          · rw [if_neg hc] at hZ
            rw [zero_no hc] at HC
            subst hZ
            clear h1 h2 h3 hf hss hc hk hx hks hxs hT
            go_enter Tryz.func154, Tryz.ntmps154
            have A0 := (Below.refl w.heap.size w).alloc (Nat.le_refl _) (.cells #[.pointer (some ⟨q, 0, none⟩)] 50)
            have B0 := Lib.hid A0
            have T0 := Lib.hid (HT.out.below A0)
            clear A0
            go_wp2_with fail
            refine (HK.out _).mono ?_; rintro e w1 ⟨rfl, b1⟩
            have B1 := Lib.hid (below_step B0.out b1)
            have T1 := Lib.hid (T0.out.below b1)
            clear b1
            go_wp2_with fail
            refine (HX.out w1).mono ?_; rintro e w2 ⟨rfl, b2⟩
            have B2 := Lib.hid (below_step B1.out b2)
            have T2 := Lib.hid (T1.out.below b2)
            clear b2
            go_wp2_with fail
            refine (HN.out w2).mono ?_; rintro e w3 ⟨rfl, b3⟩
            have B3 := Lib.hid (below_step B2.out b3)
            have T3 := Lib.hid (T2.out.below b3)
            clear b3
            go_wp2_with fail
            refine (HO.out w3 T3.out).mono ?_; rintro e w4 ⟨rfl, b4⟩
            have B4 := Lib.hid (below_step B3.out b4)
            have T4 := Lib.hid (T3.out.below b4)
            clear b4
            go_wp2_with fail
            refine (HC.out w4).mono ?_; rintro e w5 ⟨rfl, b5⟩
            have B5 := Lib.hid (below_step B4.out b5)
            have T5 := Lib.hid (T4.out.below b5)
            clear b5
            go_wp2_with fail
            go_ret2
            exact ⟨rfl, B5.out⟩
        · have HO := Lib.hid (fun V (h : Keyed V q m) => see_none hf (by omega) (by omega) V h.1)
          rw [← bl_keyD k, ← bl_keyD x, cry_see_no hf] at hZ
          simp only at hZ
          generalize keyD k = y at *
          generalize keyD x = u at *
          subst hZ
          clear h1 h2 h3 hf hk hx hks hxs hT
          go_enter Tryz.func154, Tryz.ntmps154
          have A0 := (Below.refl w.heap.size w).alloc (Nat.le_refl _) (.cells #[.pointer (some ⟨q, 0, none⟩)] 50)
          have B0 := Lib.hid A0
          have T0 := Lib.hid (HT.out.below A0)
          clear A0
          go_wp2_with fail
          refine (HK.out _).mono ?_; rintro e w1 ⟨rfl, b1⟩
          have B1 := Lib.hid (below_step B0.out b1)
          have T1 := Lib.hid (T0.out.below b1)
          clear b1
          go_wp2_with fail
          refine (HX.out w1).mono ?_; rintro e w2 ⟨rfl, b2⟩
          have B2 := Lib.hid (below_step B1.out b2)
          have T2 := Lib.hid (T1.out.below b2)
          clear b2
          go_wp2_with fail
          refine (HN.out w2).mono ?_; rintro e w3 ⟨rfl, b3⟩
          have B3 := Lib.hid (below_step B2.out b3)
          have T3 := Lib.hid (T2.out.below b3)
          clear b3
          go_wp2_with fail
          refine (HO.out w3 T3.out).mono ?_; rintro e w4 ⟨cn, hcn, rfl, b4⟩
          have B4 := Lib.hid (below_step B3.out b4)
          have T4 := Lib.hid (T3.out.below b4)
          have q9 := neq0_no hcn
          clear b4
          go_wp2_with fail
          go_ret2
          exact ⟨rfl, B4.out⟩
      · rw [show (kindP (bl x) == 1) = false by rw [beq_eq_false_iff_ne]; exact h3] at HN
        rw [str_no h3] at hZ
        subst hZ
        clear h1 h2 h3 hk hx hks hxs hT
        generalize keyD k = y at *
        generalize keyD x = u at *
        go_enter Tryz.func154, Tryz.ntmps154
        have A0 := (Below.refl w.heap.size w).alloc (Nat.le_refl _) (.cells #[.pointer (some ⟨q, 0, none⟩)] 50)
        have B0 := Lib.hid A0
        have T0 := Lib.hid (HT.out.below A0)
        clear A0
        go_wp2_with fail
        refine (HK.out _).mono ?_; rintro e w1 ⟨rfl, b1⟩
        have B1 := Lib.hid (below_step B0.out b1)
        have T1 := Lib.hid (T0.out.below b1)
        clear b1
        go_wp2_with fail
        refine (HX.out w1).mono ?_; rintro e w2 ⟨rfl, b2⟩
        have B2 := Lib.hid (below_step B1.out b2)
        have T2 := Lib.hid (T1.out.below b2)
        clear b2
        go_wp2_with fail
        refine (HN.out w2).mono ?_; rintro e w3 ⟨rfl, b3⟩
        have B3 := Lib.hid (below_step B2.out b3)
        have T3 := Lib.hid (T2.out.below b3)
        clear b3
        go_wp2_with fail
        go_ret2
        exact ⟨rfl, B3.out⟩
    · rw [if_pos (.inr (.inl h2))] at hZ
      rw [zero_no h2] at HX
      subst hZ
      clear h1 h2 hk hx hks hxs hT HN
      generalize keyD k = y at *
      go_enter Tryz.func154, Tryz.ntmps154
      have A0 := (Below.refl w.heap.size w).alloc (Nat.le_refl _) (.cells #[.pointer (some ⟨q, 0, none⟩)] 50)
      have B0 := Lib.hid A0
      have T0 := Lib.hid (HT.out.below A0)
      clear A0
      go_wp2_with fail
      refine (HK.out _).mono ?_; rintro e w1 ⟨rfl, b1⟩
      have B1 := Lib.hid (below_step B0.out b1)
      have T1 := Lib.hid (T0.out.below b1)
      clear b1
      go_wp2_with fail
      refine (HX.out w1).mono ?_; rintro e w2 ⟨rfl, b2⟩
      have B2 := Lib.hid (below_step B1.out b2)
      have T2 := Lib.hid (T1.out.below b2)
      clear b2
      go_wp2_with fail
      go_ret2
      exact ⟨rfl, B2.out⟩
  · rw [if_pos (.inr (.inr ⟨rfl, str_no h1⟩))] at hZ
    rw [show (kindP (bl k) == 1) = false by rw [beq_eq_false_iff_ne]; exact h1] at HK
    subst hZ
    clear h1 hk hx hks hxs hT HN HX
    generalize keyD k = y at *
    go_enter Tryz.func154, Tryz.ntmps154
    have A0 := (Below.refl w.heap.size w).alloc (Nat.le_refl _) (.cells #[.pointer (some ⟨q, 0, none⟩)] 50)
    have B0 := Lib.hid A0
    have T0 := Lib.hid (HT.out.below A0)
    clear A0
    go_wp2_with fail
    refine (HK.out _).mono ?_; rintro e w1 ⟨rfl, b1⟩
    have B1 := Lib.hid (below_step B0.out b1)
    have T1 := Lib.hid (T0.out.below b1)
    clear b1
    go_wp2_with fail
    go_ret2
    exact ⟨rfl, B1.out⟩
end Go.Proofs.YtedidoeoomijjaaGreatDoor.Pl

namespace Go.Proofs.YtedidoeoomijjaaGreatDoor.Pl
open Go.RowKit

theorem imgs_append (c : Cry) (m : List UInt8) : ∀ a b : List Tm, imgsT c m (a ++ b) =
    if (imgsT c m a).2 ≠ 0 then ([], (imgsT c m a).2) else if (imgsT c m b).2 ≠ 0 then ([], (imgsT c m b).2) else ((imgsT c m a).1 ++ (imgsT c m b).1, 0)
  | [], b => by
    rw [List.nil_append, imgsT]
    by_cases h : (imgsT c m b).2 = 0
    · simp [h]
      exact Prod.ext rfl h
    · simp only [ne_eq, not_true_eq_false, if_false, h, not_false_eq_true, if_true]
      exact Prod.ext (by rw [imgs_err h]) rfl
  | t :: a, b => by
    rw [List.cons_append, imgsT, imgsT, imgs_append c m a b]
    by_cases h1 : (imgT c m t).2 = 0
    · by_cases h2 : (imgsT c m a).2 = 0
      · by_cases h3 : (imgsT c m b).2 = 0
        · simp [h1, h2, h3]
        · simp [h1, h2, h3]
      · simp [h1, h2]
    · simp [h1]
where
  imgs_err {c : Cry} {m : List UInt8} : ∀ {l : List Tm}, (imgsT c m l).2 ≠ 0 → (imgsT c m l).1 = []
  | [], h => by rw [imgsT] at h; exact absurd rfl h
  | t :: l, h => by
    rw [imgsT] at h ⊢
    by_cases h1 : (imgT c m t).2 = 0
    · by_cases h2 : (imgsT c m l).2 = 0
      · simp [h1, h2] at h
      · simp [h1, h2]
    · simp [h1]
theorem imgs_one (c : Cry) (m : List UInt8) (t : Tm) (b : List Tm) : imgsT c m (t :: b) = if (imgT c m t).2 ≠ 0 then ([], (imgT c m t).2) else if (imgsT c m b).2 ≠ 0 then ([], (imgsT c m b).2) else ((imgT c m t).1 :: (imgsT c m b).1, 0) := by rw [imgsT]
theorem imgs_more {c : Cry} {m : List UInt8} {l : List Tm} {k : Nat} (hk : k < l.length) {D : List (List UInt8)} (h : imgsT c m (l.take k) = (D, 0)) {y : List UInt8} (hy : imgT c m l[k] = (y, 0)) :
    imgsT c m (l.take (k + 1)) = (D ++ [y], 0) := by
  rw [List.take_succ_eq_append_getElem hk, imgs_append, h, imgs_one, hy]
  simp [imgsT]
theorem imgs_stop {c : Cry} {m : List UInt8} {l : List Tm} {k : Nat} (hk : k < l.length) {D : List (List UInt8)} (h : imgsT c m (l.take k) = (D, 0)) {y : List UInt8} {x : Nat} (hy : imgT c m l[k] = (y, x)) (hx : x ≠ 0) :
    imgsT c m l = ([], x) := by
  have e : l = l.take k ++ (l[k] :: l.drop (k + 1)) := by rw [← List.drop_eq_getElem_cons hk, List.take_append_drop]
  rw [e, imgs_append, h, imgs_one, hy]
  simp [hx]
theorem imgs_length {c : Cry} {m : List UInt8} : ∀ {l : List Tm}, (imgsT c m l).2 = 0 → (imgsT c m l).1.length = l.length
  | [], _ => by rw [imgsT]; rfl
  | t :: l, h => by
    rw [imgsT] at h ⊢
    by_cases h1 : (imgT c m t).2 = 0
    · by_cases h2 : (imgsT c m l).2 = 0
      · simp [h1, h2, imgs_length h2]
      · simp [h1, h2] at h
    · simp [h1] at h
theorem data_short {s : List UInt8} (h : s.length ≤ 1024) : (dataP s).1.length ≤ 16384 := by
  unfold dataP
  rw [if_neg (by omega)]
  have := txt_most h
  simp only [List.length_cons]
  omega
theorem dataP_short (s : List UInt8) : (dataP s).1.length ≤ 16384 := by
  by_cases h : s.length ≤ 1024
  · exact data_short h
  · unfold dataP; rw [if_pos (by omega)]; exact Nat.zero_le _
theorem atomP_short (s : List UInt8) : (atomP s).1.length ≤ 16384 := by
  unfold atomP
  split
  · exact Nat.zero_le _
  · split
    · exact Nat.zero_le _
    · have := txt_most (t := s) (by omega)
      simp only [List.length_cons]
      omega
theorem madeP_short (f : List UInt8) (l : List (List UInt8)) : (madeP f l).1.length ≤ 16384 := by
  unfold madeP
  split
  · split
    · rename_i h; exact check_len h
    · exact Nat.zero_le _
  · exact Nat.zero_le _
theorem key_short (c : Cry) (b : Bool) (m n : List UInt8) : (keyP c b m n).1.length ≤ 16384 := by
  unfold keyP
  split
  · exact atomP_short _
  · exact dataP_short _
theorem hash_short (c : Cry) (b : Bool) (t : List UInt8) : (hash8P c b t).1.length ≤ 16384 := by
  unfold hash8P
  split
  · exact Nat.zero_le _
  · split
    · exact madeP_short _ _
    · exact dataP_short _
theorem mac_short (c : Cry) (b : Bool) (k t : List UInt8) : (mac8P c b k t).1.length ≤ 16384 := by
  unfold mac8P
  split
  · exact Nat.zero_le _
  · split
    · exact madeP_short _ _
    · exact dataP_short _
theorem seal_short (c : Cry) (b : Bool) (k n t : List UInt8) : (seal8P c b k n t).1.length ≤ 16384 := by
  unfold seal8P
  split
  · exact Nat.zero_le _
  · split
    · exact madeP_short _ _
    · exact dataP_short _
theorem img_short (c : Cry) (m : List UInt8) {T : Tm} (h : T.valid) : (imgT c m T).1.length ≤ 16384 := by
  obtain ⟨hd, l⟩ := T
  rw [imgT]
  split
  · exact Nat.zero_le _
  · split
    · exact key_short _ _ _ _
    · split
      · exact madeP_short _ _
      · split
        · exact hash_short _ _ _
        · split
          · exact mac_short _ _ _ _
          · split
            · exact seal_short _ _ _ _ _
            · have := h.2.2
              rwa [Tm.enc_node] at this
theorem img_err {c : Cry} {m : List UInt8} {hd : List UInt8} {l : List Tm} {x : Nat} {D : List (List UInt8)} (h : imgsT c m l = (D, x)) (hx : x ≠ 0) : imgT c m (.node hd l) = ([], x) := by
  rw [imgT, h]
  simp [hx]
end Go.Proofs.YtedidoeoomijjaaGreatDoor.Pl

namespace Go.Proofs.YtedidoeoomijjaaGreatDoor.Pl
open Go.RowKit

/-- Block g is a row of these texts, and perhaps more. -/
def Row8 (w : World) (g : Nat) (L : List ByteArray) : Prop := ∃ cur : Array Value, w.heap[g]? = some (.cells cur 9 (0, 0)) ∧ L.length ≤ cur.size ∧ ∀ j, j < L.length → cur[j]? = some (.string (L.getD j ByteArray.empty))
theorem Row8.lt {w : World} {g : Nat} {L : List ByteArray} (h : Row8 w g L) : g < w.heap.size := by obtain ⟨cur, h1, _⟩ := h; exact (Array.getElem?_eq_some_iff.1 h1).1
theorem Row8.cell {w : World} {g : Nat} {L : List ByteArray} (h : Row8 w g L) (j : Nat) (hj : j < L.length) : w.cell? ⟨g, j, none⟩ = some (.string (L.getD j ByteArray.empty)) := by
  obtain ⟨cur, h1, h2, h3⟩ := h
  have h4 := h3 j hj
  simp [World.cell?, h1, h4]
theorem Row8.frozen {w : World} {g : Nat} {L : List ByteArray} (h : Row8 w g L) (j : Nat) : w.frozen? ⟨g, j, none⟩ = false := by
  obtain ⟨cur, h1, _⟩ := h
  exact Lib.frozen_of_heap h1 j
theorem Row8.below {w w' : World} {g : Nat} {L : List ByteArray} (h : Row8 w g L) (b : Below w.heap.size w w') : Row8 w' g L := by
  obtain ⟨cur, h1, h2⟩ := h
  exact ⟨cur, heap_below b h1, h2⟩
theorem Row8.set {w : World} {g : Nat} {L : List ByteArray} (h : Row8 w g L) (k : Nat) (x : ByteArray) : Row8 (w.setCell ⟨g, k, none⟩ (.string x)) g (L.set k x) := by
  obtain ⟨cur, h1, h2, h3⟩ := h
  refine ⟨cur.setIfInBounds k (.string x), by simp [World.setCell, Array.getElem?_modify, h1], by simpa using h2, fun j hj => ?_⟩
  rw [List.length_set] at hj
  have hjc : j < cur.size := by omega
  rw [Array.getElem?_setIfInBounds, List.getD_eq_getElem?_getD, List.getElem?_set]
  by_cases e : k = j
  · subst e; simp [hjc, hj]
  · rw [if_neg e, if_neg e, h3 j hj, List.getD_eq_getElem?_getD]
/-- A row of these texts at ao, in a block from B on; or none, where there are none. -/
def RowO (W : World) (B : Nat) (ao : Option Addr) (L : List ByteArray) : Prop := L = [] ∨ ∃ g, ao = some ⟨g, 0, none⟩ ∧ B ≤ g ∧ Row8 W g L
theorem RowO.below {w w' : World} {B : Nat} {ao : Option Addr} {L : List ByteArray} (h : RowO w B ao L) (b : Below w.heap.size w w') : RowO w' B ao L :=
  h.elim .inl fun ⟨g, h1, h2, h3⟩ => .inr ⟨g, h1, h2, h3.below b⟩
theorem RowO.txt {w : World} {B : Nat} {ao : Option Addr} {L : List ByteArray} (h : RowO w B ao L) : TxtRow w ao L :=
  h.elim .inl fun ⟨g, h1, _, h3⟩ => .inr ⟨g, 0, h1, h3.lt, fun j hj => by rw [Nat.zero_add]; exact h3.cell j hj⟩
theorem own_rowO {w : World} {B : Nat} {v : Value} {l : List ByteArray} (h : OwnT w B v l) : ∃ ao cap, v = .slice ao l.length cap ∧ l.length ≤ cap ∧ RowO w B ao l := by
  rcases h.2 with ⟨hv, h0⟩ | ⟨g, cap, cur, rfl, hg, hh, hc, _, hs, ht⟩
  · exact ⟨none, 0, by rw [hv, h0], by omega, .inl (List.length_eq_zero_iff.1 h0)⟩
  · refine ⟨_, cap, rfl, hc, .inr ⟨g, rfl, hg, cur, hh, by omega, fun j hj => ?_⟩⟩
    have e : cur.toList[j]? = (txts l)[j]? := by rw [← ht, List.getElem?_take_of_lt (by omega)]
    rw [← Array.getElem?_toList, e]
    unfold txts
    rw [List.getElem?_map, List.getElem?_eq_getElem hj, List.getD_eq_getElem?_getD, List.getElem?_eq_getElem hj]; rfl
theorem heap_set8 (w : World) (g k : Nat) (v : Value) (b : Nat) (h : b ≠ g) : (w.setCell ⟨g, k, none⟩ v).heap[b]? = w.heap[b]? := by
  have h' : ¬ g = b := fun e => h e.symm
  simp [World.setCell, Array.getElem?_modify, h']
theorem con_info (q : Nat) : (Tryz.prog.info? 50).map (·.size) = some (#[Value.pointer (some ⟨q, 0, none⟩)].size) := by kernel_rfl
theorem row_step8 (P D : List ByteArray) (y : ByteArray) (k : Nat) (hD : D.length = k) (hk : k < P.length) : (D ++ P.drop k).set k y = (D ++ [y]) ++ P.drop (k + 1) := by
  rw [List.drop_eq_getElem_cons hk, List.set_append_right _ _ (by omega), hD, Nat.sub_self, List.set_cons_zero, List.append_assoc]
  rfl
theorem row_at8 (P D : List ByteArray) (k : Nat) (hD : D.length = k) : (D ++ P.drop k).getD k ByteArray.empty = P.getD k ByteArray.empty := by
  rw [List.getD_eq_getElem?_getD, List.getElem?_append_right (by omega), hD, Nat.sub_self, List.getD_eq_getElem?_getD, List.getElem?_drop]
  rfl
set_option maxHeartbeats 4000000 in
set_option maxRecDepth 100000 in
theorem images8_by (q : Nat) (m : ByteArray) (h : List UInt8) (l : List Tm) (hv : (Tm.node h l).valid)
    (IH : ∀ T ∈ l, ∀ V : World, Keyed V q m → Calls Tryz.prog 41 #[conV q, .string (tx T)] V fun e w' => e = .returned (st2 (imgT cryP (bl m) T)) ∧ Below V.heap.size V w')
    (s : ByteArray) (hs : bl s = (Tm.node h l).enc) (w : World) (hT : Keyed w q m) :
    Calls Tryz.prog 64 #[conV q, .string s] w fun e w' =>
      (∃ v, e = .returned (.tuple #[v, .int .i64 ((imgsT cryP (bl m) l).2 : Nat)]) ∧ ((imgsT cryP (bl m) l).2 = 0 → ∃ ao cap D, v = .slice ao D.length cap ∧ D.length ≤ cap ∧ D.map bl = (imgsT cryP (bl m) l).1 ∧ RowO w' w.heap.size ao D)) ∧ Below w.heap.size w w' := by
  have HT := Lib.hid hT
  have hz2 : s.size ≤ 16384 := by rw [← bl_length, hs]; exact hv.2.2
  have hp : partsP (bl s) = ((l.map tx).map bl, true) := by unfold partsP; rw [hs, treeOf_enc hv, map_bl_tx]
  have HP := Lib.hid (fun V => parts_of8 s (by omega) (l.map tx) hp V)
  have IH' : Hid (∀ k, (hk : k < l.length) → ∀ V : World, Keyed V q m → Calls Tryz.prog 41 #[conV q, .string (tx l[k])] V fun e w' => e = .returned (st2 (imgT cryP (bl m) l[k])) ∧ Below V.heap.size V w') := Lib.hid (fun k hk V => IH _ (List.getElem_mem hk) V)
  have hl32 : l.length ≤ 32 := by
    have hg := hv.1
    simp only [Tm.good] at hg
    obtain ⟨c, hkd⟩ := head_kind hg.1
    cases hkd <;> omega
  have HSH : Hid (∀ k, (hk : k < l.length) → (imgT cryP (bl m) l[k]).1.length ≤ 16384) := Lib.hid (fun k hk => img_short _ _ (node_valid_parts hv _ (List.getElem_mem hk)))
  obtain ⟨I, hI⟩ : ∃ I, I = imgsT cryP (bl m) l := ⟨_, rfl⟩
  rw [← hI]
  have HI := Lib.hid hI
  obtain ⟨P, hP⟩ : ∃ P, P = l.map tx := ⟨_, rfl⟩
  have hPl : P.length = l.length := by rw [hP, List.length_map]
  have HPE : Hid (∀ k, (hk : k < l.length) → P.getD k ByteArray.empty = tx l[k]) := Lib.hid (fun k hk => by rw [hP]; simp [List.getD_eq_getElem?_getD, hk])
  rw [← hP] at HP
  obtain ⟨n, hn⟩ : ∃ n, n = l.length := ⟨_, rfl⟩
  rw [← hn] at hl32 hPl
  have HN := Lib.hid hn
  have A0 := (Below.refl w.heap.size w).alloc (Nat.le_refl _) (.cells #[.pointer (some ⟨q, 0, none⟩)] 50)
  have B0 := Lib.hid A0
  have C0 := Lib.hid (Go.heap_alloc_new w (.cells #[.pointer (some ⟨q, 0, none⟩)] 50))
  clear hT hz2 hp hs hv IH hI hP hn A0
  unfold conV at IH' ⊢
  go_enter Tryz.func64, Tryz.ntmps64
  go_wp2_with fail
  refine (HP.out _).mono ?_; rintro e w1 ⟨v, rfl, ho, b1⟩
  have B1 := Lib.hid (below_step B0.out b1)
  have C1 := Lib.hid (heap_below b1 C0.out)
  obtain ⟨ao, cap, rfl, hcap, hrow⟩ := own_rowO ho
  rw [show (w.alloc (.cells #[.pointer (some ⟨q, 0, none⟩)] 50)).heap.size = w.heap.size + 1 by simp] at hrow
  have R1 := Lib.hid hrow
  have HC := Lib.hid hcap
  rw [hPl]
  clear b1 ho hrow hcap
  go_wp2_with fail
  go_loopw [19] (fun iv wr => ∃ (k : Nat) (D : List ByteArray), iv = .int .i64 k ∧ k ≤ n ∧ Hid (D.length = k) ∧ Hid (imgsT cryP (bl m) (l.take k) = (D.map bl, 0)) ∧ Hid (RowO wr (w.heap.size + 1) ao (D ++ P.drop k)) ∧ Hid (wr.heap[w.heap.size]? = some (.cells #[.pointer (some ⟨q, 0, none⟩)] 50 (0, 0))) ∧ Hid (Below w.heap.size w wr)) (fun iv _ => n - (intOf iv).toNat)
  case atStart => exact ⟨0, [], rfl, Nat.zero_le _, Lib.hid rfl, Lib.hid (by simp [imgsT]), Lib.hid (by simpa using R1.out), C1, B1⟩
  case round =>
    obtain ⟨k, D, rfl, hkn, hD, hi, hrow, hC, hb⟩ := hrel
    by_cases hk : k < n
    · have hk' : (k : Int) < (n : Int) := by omega
      have hkl : k < l.length := by rw [← HN.out]; exact hk
      have hkP : k < P.length := by rw [hPl]; exact hk
      rcases hrow.out with e | ⟨g, rfl, hg, hr⟩
      · exfalso
        have := congrArg List.length e
        simp only [List.length_append, List.length_drop, List.length_nil] at this
        have := hD.out
        omega
      have ck := hr.cell k (by simp only [List.length_append, List.length_drop]; have := hD.out; omega)
      rw [row_at8 P D k hD.out, HPE.out k hkl] at ck
      have HR := Lib.hid hr
      have KR := Lib.hid (HT.out.below hb.out)
      have HQ := Lib.hid (IH'.out k hkl wr KR.out)
      have hsh := HSH.out k hkl
      have HSTOP : Hid (∀ x, x ≠ 0 → (imgT cryP (bl m) l[k]).2 = x → I = ([], x)) := Lib.hid (fun x hx e => by rw [HI.out]; exact imgs_stop hkl hi.out (Prod.ext rfl e) hx)
      have HMORE : Hid ((imgT cryP (bl m) l[k]).2 = 0 → ∀ y : ByteArray, bl y = (imgT cryP (bl m) l[k]).1 → imgsT cryP (bl m) (l.take (k + 1)) = ((D ++ [y]).map bl, 0)) := Lib.hid (fun e y hy => by
        rw [List.map_append]
        exact imgs_more hkl hi.out (Prod.ext hy.symm e))
      generalize imgT cryP (bl m) l[k] = Y at *
      obtain ⟨y, x⟩ := Y
      dsimp only at hsh HSTOP HMORE
      obtain ⟨z, hz⟩ : ∃ z : ByteArray, z = ⟨y.toArray⟩ := ⟨_, rfl⟩
      have hbz : Hid (bl z = y) := Lib.hid (by rw [hz]; exact bl_mk _)
      unfold st2 at HQ
      dsimp only at HQ
      rw [← hz] at HQ
      clear hz
      generalize tx l[k] = t at *
      clear hr hrow
      go_wp2_with (first | (refine wpList_load_row rfl 50 _ rfl w.heap.size rfl 50 _ _ _ hC.out Tryz.underlying50 rfl (con_info q) ?_))
      refine HQ.out.mono ?_; rintro e w2 ⟨rfl, b2⟩
      have B2 := Lib.hid (below_step hb.out b2)
      have C2 := Lib.hid (heap_below b2 hC.out)
      have R2 := Lib.hid (HR.out.below b2)
      have hlt : k < (D ++ P.drop k).length := by simp only [List.length_append, List.length_drop]; have := hD.out; omega
      have c2 := R2.out.cell k hlt
      have f2 := R2.out.frozen k
      clear b2 hlt
      by_cases hx : x = 0
      · subst hx
        have HM := Lib.hid (HMORE.out rfl z hbz.out)
        have R3 : Hid (RowO (w2.setCell ⟨g, k, none⟩ (.string z)) (w.heap.size + 1) (some ⟨g, 0, none⟩) ((D ++ [z]) ++ P.drop (k + 1))) := Lib.hid (.inr ⟨g, rfl, hg, by
          have := R2.out.set k z
          rwa [row_step8 P D z k hD.out hkP] at this⟩)
        have C3 : Hid ((w2.setCell ⟨g, k, none⟩ (.string z)).heap[w.heap.size]? = some (.cells #[.pointer (some ⟨q, 0, none⟩)] 50 (0, 0))) := Lib.hid (by rw [heap_set8 _ _ _ _ _ (by omega)]; exact C2.out)
        have B3 : Hid (Below w.heap.size w (w2.setCell ⟨g, k, none⟩ (.string z))) := Lib.hid (B2.out.setCell (by simp; omega) _)
        have HD3 : Hid ((D ++ [z]).length = k + 1) := Lib.hid (by simp [hD.out])
        clear HSTOP HMORE
        go_wp2_with fail
        go_roundw
        case rel => exact ⟨k + 1, D ++ [z], by go_num, by omega, HD3, HM, R3, C3, B3⟩
        case measure => simp [intOf]; omega
      · have q2 := neq0_no hx
        have HS := Lib.hid (HSTOP.out x hx rfl)
        clear HSTOP HMORE
        go_wp2_with fail
        go_ret2
        rw [HS.out]
        exact ⟨⟨_, rfl, fun e => absurd e hx⟩, B2.out⟩
    · obtain rfl : k = n := by omega
      have hE : I = (D.map bl, 0) := by rw [HI.out, ← hi.out, List.take_of_length_le (by have := HN.out; omega)]
      have hE2 : D ++ P.drop k = D := by rw [List.drop_eq_nil_of_le (by omega), List.append_nil]
      rw [hE2] at hrow
      have HE := Lib.hid hE
      clear hk hkn hE hE2
      go_wp2_with fail
      go_ret2
      rw [HE.out]
      refine ⟨⟨.slice ao k cap, rfl, fun _ => ⟨ao, cap, D, by rw [hD.out], by rw [hD.out]; have := HC.out; omega, rfl, ?_⟩⟩, hb.out⟩
      exact hrow.out.elim .inl fun ⟨g, h1, h2, h3⟩ => .inr ⟨g, h1, by omega, h3⟩
end Go.Proofs.YtedidoeoomijjaaGreatDoor.Pl

namespace Go.Proofs.YtedidoeoomijjaaGreatDoor.Pl
open Go.RowKit

theorem img_leaf {c : Cry} {m h : List UInt8} {x : Nat} (hk : Kd h 0 x) (hx : x = 1) : imgT c m (.node h []) = (h, 0) := by
  subst hx
  cases hk with
  | data t e1 _ _ => rw [imgT, e1]; simp [imgsT, encs]
theorem img_atom {c : Cry} {m h : List UInt8} (hk : Kd h 0 2) (hv : (Tm.node h []).valid) : imgT c m (.node h []) = keyP c false m (textP (Tm.node h []).enc).1 := by
  cases hk with
  | atom t e1 _ _ _ =>
    have hc := check_enc hv
    rw [Tm.enc_node] at hc
    have ht : textP (h ++ encs []) = ((rdt ((h ++ encs []).drop 1) 1024).1, true) := by
      unfold textP
      rw [if_pos ⟨hc, .inr (by rw [e1]; rfl)⟩]
    rw [Tm.enc_node, ht, imgT, e1]
    simp [imgsT]
theorem img_row {c : Cry} {m h : List UInt8} {l : List Tm} {D : List (List UInt8)} (hk : Kd h l.length 3) (hi : imgsT c m l = (D, 0)) : imgT c m (.node h l) = rowP D := by
  cases hk with
  | row v e1 _ _ => rw [imgT, hi, e1]; simp
theorem img_hash {c : Cry} {m h : List UInt8} {l : List Tm} {a : List UInt8} (hk : Kd h l.length 4) (hi : imgsT c m l = ([a], 0)) : imgT c m (.node h l) = hash8P c false a := by
  cases hk with
  | hash e1 _ => rw [imgT, hi, e1]; simp
theorem img_mac {c : Cry} {m h : List UInt8} {l : List Tm} {a b : List UInt8} (hk : Kd h l.length 5) (hi : imgsT c m l = ([a, b], 0)) : imgT c m (.node h l) = mac8P c false a b := by
  cases hk with
  | mac e1 _ => rw [imgT, hi, e1]; simp
theorem img_seal {c : Cry} {m h : List UInt8} {l : List Tm} {a b d : List UInt8} (hk : Kd h l.length 6) (hi : imgsT c m l = ([a, b, d], 0)) : imgT c m (.node h l) = seal8P c false a b d := by
  cases hk with
  | seal_ e1 _ => rw [imgT, hi, e1]; simp
theorem imgs_short {c : Cry} {m : List UInt8} : ∀ {l : List Tm}, (∀ T ∈ l, T.valid) → ∀ {D : List (List UInt8)}, imgsT c m l = (D, 0) → ∀ x ∈ D, x.length ≤ 16384
  | [], _, D, h, x, hx => by rw [imgsT] at h; cases h; cases hx
  | T :: l, hv, D, h, x, hx => by
    rw [imgsT] at h
    by_cases h1 : (imgT c m T).2 = 0
    · by_cases h2 : (imgsT c m l).2 = 0
      · simp only [h1, h2, ne_eq, not_true_eq_false, if_false, Prod.mk.injEq, and_true] at h
        rw [← h] at hx
        rcases List.mem_cons.1 hx with e | e
        · rw [e]; exact img_short _ _ (hv T (by simp))
        · exact imgs_short (fun S hS => hv S (by simp [hS])) (Prod.ext rfl h2) x e
      · simp [h1, h2] at h
    · simp [h1] at h
theorem img_keep1 {w W V : World} {q b g : Nat} {m x : ByteArray}
    (h : W.cell? ⟨b, 0, none⟩ = some (.pointer (some ⟨q, 0, none⟩)) ∧ W.cell? ⟨g, 0, none⟩ = some (.string x) ∧ Hid (Keyed W q m) ∧ Hid (Below w.heap.size w W)) (hb : Below W.heap.size W V) :
    V.cell? ⟨b, 0, none⟩ = some (.pointer (some ⟨q, 0, none⟩)) ∧ V.cell? ⟨g, 0, none⟩ = some (.string x) ∧ Hid (Keyed V q m) ∧ Hid (Below w.heap.size w V) := by
  obtain ⟨h0, h1, h2, h3⟩ := h
  exact ⟨(hb.cell (p := ⟨b, 0, none⟩) (World.block_lt_of_cell? _ _ h0)).trans h0, (hb.cell (p := ⟨g, 0, none⟩) (World.block_lt_of_cell? _ _ h1)).trans h1, Lib.hid (h2.out.below hb), Lib.hid (below_step h3.out hb)⟩
theorem img_keep2 {w W V : World} {q b g : Nat} {m x y : ByteArray}
    (h : W.cell? ⟨b, 0, none⟩ = some (.pointer (some ⟨q, 0, none⟩)) ∧ W.cell? ⟨g, 0, none⟩ = some (.string x) ∧ W.cell? ⟨g, 1, none⟩ = some (.string y) ∧ Hid (Keyed W q m) ∧ Hid (Below w.heap.size w W)) (hb : Below W.heap.size W V) :
    V.cell? ⟨b, 0, none⟩ = some (.pointer (some ⟨q, 0, none⟩)) ∧ V.cell? ⟨g, 0, none⟩ = some (.string x) ∧ V.cell? ⟨g, 1, none⟩ = some (.string y) ∧ Hid (Keyed V q m) ∧ Hid (Below w.heap.size w V) := by
  obtain ⟨h0, h1, h1', h2, h3⟩ := h
  exact ⟨(hb.cell (p := ⟨b, 0, none⟩) (World.block_lt_of_cell? _ _ h0)).trans h0, (hb.cell (p := ⟨g, 0, none⟩) (World.block_lt_of_cell? _ _ h1)).trans h1, (hb.cell (p := ⟨g, 1, none⟩) (World.block_lt_of_cell? _ _ h1')).trans h1', Lib.hid (h2.out.below hb), Lib.hid (below_step h3.out hb)⟩
theorem img_keep3 {w W V : World} {q b g : Nat} {m x y z : ByteArray}
    (h : W.cell? ⟨b, 0, none⟩ = some (.pointer (some ⟨q, 0, none⟩)) ∧ W.cell? ⟨g, 0, none⟩ = some (.string x) ∧ W.cell? ⟨g, 1, none⟩ = some (.string y) ∧ W.cell? ⟨g, 2, none⟩ = some (.string z) ∧ Hid (Keyed W q m) ∧ Hid (Below w.heap.size w W)) (hb : Below W.heap.size W V) :
    V.cell? ⟨b, 0, none⟩ = some (.pointer (some ⟨q, 0, none⟩)) ∧ V.cell? ⟨g, 0, none⟩ = some (.string x) ∧ V.cell? ⟨g, 1, none⟩ = some (.string y) ∧ V.cell? ⟨g, 2, none⟩ = some (.string z) ∧ Hid (Keyed V q m) ∧ Hid (Below w.heap.size w V) := by
  obtain ⟨h0, h1, h1', h1'', h2, h3⟩ := h
  exact ⟨(hb.cell (p := ⟨b, 0, none⟩) (World.block_lt_of_cell? _ _ h0)).trans h0, (hb.cell (p := ⟨g, 0, none⟩) (World.block_lt_of_cell? _ _ h1)).trans h1, (hb.cell (p := ⟨g, 1, none⟩) (World.block_lt_of_cell? _ _ h1')).trans h1', (hb.cell (p := ⟨g, 2, none⟩) (World.block_lt_of_cell? _ _ h1'')).trans h1'', Lib.hid (h2.out.below hb), Lib.hid (below_step h3.out hb)⟩

set_option maxHeartbeats 4000000 in
set_option maxRecDepth 100000 in
theorem image8_any (q : Nat) (m : ByteArray) : ∀ T : Tm, T.valid → ∀ (s : ByteArray), bl s = T.enc → ∀ w : World, Keyed w q m →
    Calls Tryz.prog 41 #[conV q, .string s] w fun e w' => e = .returned (st2 (imgT cryP (bl m) T)) ∧ Below w.heap.size w w' := by
  refine Tm.ind ?_
  intro h l ih hv s hs w hT
  have HT := Lib.hid hT
  have hz2 : s.size ≤ 16384 := by rw [← bl_length, hs]; exact hv.2.2
  have hcs : checkP (bl s) = 0 := by rw [hs]; exact check_enc hv
  obtain ⟨c, hkd⟩ : ∃ c, Kd h l.length c := by
    have hg := hv.1
    simp only [Tm.good] at hg
    exact head_kind hg.1
  have hkind : kindP (bl s) = c := by
    unfold kindP
    rw [if_pos hcs, hs, Tm.enc_node]
    cases hkd with
    | data t e1 _ _ => rw [e1]; rfl
    | atom t e1 _ _ _ => rw [e1]; rfl
    | hash e1 _ => rw [e1]; rfl
    | mac e1 _ => rw [e1]; rfl
    | seal_ e1 _ => rw [e1]; rfl
    | row v e1 hv _ => rw [e1]; rfl
  have hshort := fun D (hD : imgsT cryP (bl m) l = (D, 0)) => imgs_short (node_valid_parts hv) hD
  have hlen := fun (hD : (imgsT cryP (bl m) l).2 = 0) => imgs_length hD
  have HI := Lib.hid (fun V (hV : Keyed V q m) => images8_by q m h l hv (fun T hT' V' hV' => ih T hT' (node_valid_parts hv T hT') (tx T) (bl_tx T) V' hV') s hs V hV)
  have HK := Lib.hid (fun V => tkind_any s (by omega) V)
  rw [hkind] at HK
  have A0 := (Below.refl w.heap.size w).alloc (Nat.le_refl _) (.cells #[.pointer (some ⟨q, 0, none⟩)] 50)
  have B0 := Lib.hid A0
  have T0 := Lib.hid (HT.out.below A0)
  have C0 := Lib.hid (Go.heap_alloc_new w (.cells #[.pointer (some ⟨q, 0, none⟩)] 50))
  clear hT A0 ih
  obtain ⟨I, hI⟩ : ∃ I, I = imgsT cryP (bl m) l := ⟨_, rfl⟩
  rw [← hI] at HI hlen
  unfold conV at HI ⊢
  obtain ⟨Z, hZ⟩ : ∃ Z, Z = imgT cryP (bl m) (.node h l) := ⟨_, rfl⟩
  rw [← hZ]
  obtain ⟨D0, x⟩ := I
  dsimp only at HI
  by_cases hx : x = 0
  · subst hx
    cases hkd with
    | data t e1 e2 e3 =>
      have hl : l = [] := List.length_eq_zero_iff.1 e3
      subst hl
      have hZ2 : st2 Z = .tuple #[.string s, .int .i64 0] := by
        rw [hZ, img_leaf (.data t e1 e2 rfl) rfl]
        have : s = ⟨h.toArray⟩ := bl_inj (by rw [hs, Tm.enc_node]; simp [encs, bl_mk])
        rw [this]; rfl
      rw [hZ2]
      have HC := Lib.hid (fun V => clone_any s V (by omega))
      clear hkind hcs hs hv hshort hlen
      clear hZ hZ2 hI e1
      go_enter Tryz.func41, Tryz.ntmps41
      go_wp2_with (first | (refine wpList_load_row rfl 50 _ rfl w.heap.size rfl 50 _ _ _ C0.out Tryz.underlying50 rfl (con_info q) ?_))
      refine (HI.out _ T0.out).mono ?_; rintro e w1 ⟨⟨v, rfl, hv⟩, b1⟩
      obtain ⟨ao, cap, D, rfl, hcap, hD, hrow⟩ := hv trivial
      have B1 := Lib.hid (below_step B0.out b1)
      have T1 := Lib.hid (T0.out.below b1)
      have C1 := Lib.hid (heap_below b1 C0.out)
      have R1 := Lib.hid hrow
      have HD := Lib.hid hD
      have HCAP := Lib.hid hcap
      clear b1 hrow hD hcap hv
      go_wp2_with fail
      refine (HK.out w1).mono ?_; rintro e w2 ⟨rfl, b2⟩
      have B2 := Lib.hid (below_step B1.out b2)
      have T2 := Lib.hid (T1.out.below b2)
      have C2 := Lib.hid (heap_below b2 C1.out)
      have R2 := Lib.hid (R1.out.below b2)
      clear b2
      go_wp2_with fail
      refine (HC.out w2).mono ?_; rintro e w3 ⟨rfl, b3⟩
      have B3 := Lib.hid (below_step B2.out b3)
      clear b3
      go_wp2_with fail
      go_ret2
      exact ⟨rfl, B3.out⟩
    | atom t e1 e2 e3 e4 =>
      have hl : l = [] := List.length_eq_zero_iff.1 e4
      subst hl
      have hZ2 : Z = keyP cryP false (bl m) (textP (bl s)).1 := by rw [hZ, img_atom (.atom t e1 e2 e3 rfl) hv, hs]
      have HX := Lib.hid (fun V => text6_any s (by omega) V)
      have htl := textP_len (bl s)
      rw [bl_length] at htl
      have HY := Lib.hid (fun V (hV : Keyed V q m) => ckey8_any q m ⟨(textP (bl s)).1.toArray⟩ (by rw [size_lit]; omega) V hV)
      rw [bl_mk (textP (bl s)).1, ← hZ2] at HY
      unfold conV at HY
      generalize textP (bl s) = tp at *
      obtain ⟨y, z⟩ := tp
      unfold tb2 at HX
      dsimp only at HX HY
      generalize (⟨y.toArray⟩ : ByteArray) = Y at *
      obtain ⟨r, o⟩ := Z
      unfold st2 at HY ⊢
      dsimp only at HY ⊢
      clear hkind hcs hs hv hshort hlen
      clear hZ hZ2 hI e1 e3 htl
      go_enter Tryz.func41, Tryz.ntmps41
      go_wp2_with (first | (refine wpList_load_row rfl 50 _ rfl w.heap.size rfl 50 _ _ _ C0.out Tryz.underlying50 rfl (con_info q) ?_))
      refine (HI.out _ T0.out).mono ?_; rintro e w1 ⟨⟨v, rfl, hv⟩, b1⟩
      obtain ⟨ao, cap, D, rfl, hcap, hD, hrow⟩ := hv trivial
      have B1 := Lib.hid (below_step B0.out b1)
      have T1 := Lib.hid (T0.out.below b1)
      have C1 := Lib.hid (heap_below b1 C0.out)
      have R1 := Lib.hid hrow
      have HD := Lib.hid hD
      have HCAP := Lib.hid hcap
      clear b1 hrow hD hcap hv
      go_wp2_with fail
      refine (HK.out w1).mono ?_; rintro e w2 ⟨rfl, b2⟩
      have B2 := Lib.hid (below_step B1.out b2)
      have T2 := Lib.hid (T1.out.below b2)
      have C2 := Lib.hid (heap_below b2 C1.out)
      have R2 := Lib.hid (R1.out.below b2)
      clear b2
      go_wp2_with fail
      refine (HX.out w2).mono ?_; rintro e w3 ⟨rfl, b3⟩
      have B3 := Lib.hid (below_step B2.out b3)
      have T3 := Lib.hid (T2.out.below b3)
      have C3 := Lib.hid (heap_below b3 C2.out)
      clear b3
      go_wp2_with (first | (refine wpList_load_row rfl 50 _ rfl w.heap.size rfl 50 _ _ _ C3.out Tryz.underlying50 rfl (con_info q) ?_))
      refine (HY.out w3 T3.out).mono ?_; rintro e w4 ⟨rfl, b4⟩
      have B4 := Lib.hid (below_step B3.out b4)
      clear b4
      go_wp2_with fail
      go_ret2
      exact ⟨rfl, B4.out⟩
    | row v e1 e2 e3 =>
      have hZ2 : Z = rowP D0 := by rw [hZ, img_row (.row v e1 e2 e3) hI.symm]
      have hln : D0.length ≤ 1000 := by have := hlen rfl; dsimp only at this; omega
      have hsh := hshort D0 hI.symm
      clear hkind hcs hs hv hshort hlen
      clear hZ hI e1 e2 e3
      obtain ⟨r, o⟩ := Z
      unfold st2
      dsimp only
      go_enter Tryz.func41, Tryz.ntmps41
      go_wp2_with (first | (refine wpList_load_row rfl 50 _ rfl w.heap.size rfl 50 _ _ _ C0.out Tryz.underlying50 rfl (con_info q) ?_))
      refine (HI.out _ T0.out).mono ?_; rintro e w1 ⟨⟨v, rfl, hv⟩, b1⟩
      obtain ⟨ao, cap, D, rfl, hcap, hD, hrow⟩ := hv trivial
      have B1 := Lib.hid (below_step B0.out b1)
      have T1 := Lib.hid (T0.out.below b1)
      have C1 := Lib.hid (heap_below b1 C0.out)
      have R1 := Lib.hid hrow
      have HD := Lib.hid hD
      have HCAP := Lib.hid hcap
      clear b1 hrow hD hcap hv
      have HY : Hid (∀ V : World, TxtRow V ao D → Calls Tryz.prog 66 #[.slice ao D.length cap] V fun e w' => e = .returned (st2 (r, o)) ∧ Below V.heap.size V w') := Lib.hid (fun V hV => by
        have := row6_any D ao cap HCAP.out (by have := congrArg List.length HD.out; rw [List.length_map] at this; omega) (fun x hx => by
          have := hsh (bl x) (by rw [← HD.out]; exact List.mem_map_of_mem hx)
          rw [bl_length] at this; omega) V hV
        rwa [HD.out, ← hZ2] at this)
      clear hsh hln hZ2
      unfold st2 at HY
      dsimp only at HY
      go_wp2_with fail
      refine (HK.out w1).mono ?_; rintro e w2 ⟨rfl, b2⟩
      have B2 := Lib.hid (below_step B1.out b2)
      have T2 := Lib.hid (T1.out.below b2)
      have C2 := Lib.hid (heap_below b2 C1.out)
      have R2 := Lib.hid (R1.out.below b2)
      clear b2
      go_wp2_with fail
      refine (HY.out w2 R2.out.txt).mono ?_; rintro e w3 ⟨rfl, b3⟩
      have B3 := Lib.hid (below_step B2.out b3)
      clear b3
      go_wp2_with fail
      go_ret2
      exact ⟨rfl, B3.out⟩
    | hash e1 e3 =>
      have hln := hlen rfl
      dsimp only at hln
      obtain ⟨a, rfl⟩ : ∃ a, D0 = [a] := by
        match D0, (hln.trans e3 : D0.length = 1) with
        | [a], _ => exact ⟨a, rfl⟩
      have hZ2 : Z = hash8P cryP false a := by rw [hZ, img_hash (.hash e1 e3) hI.symm]
      have hsh := hshort [a] hI.symm
      clear hkind hcs hs hv hshort hlen
      clear hZ hI e1 e3 hln
      obtain ⟨r, o⟩ := Z
      unfold st2
      dsimp only
      go_enter Tryz.func41, Tryz.ntmps41
      go_wp2_with (first | (refine wpList_load_row rfl 50 _ rfl w.heap.size rfl 50 _ _ _ C0.out Tryz.underlying50 rfl (con_info q) ?_))
      refine (HI.out _ T0.out).mono ?_; rintro e w1 ⟨⟨v, rfl, hv⟩, b1⟩
      obtain ⟨ao, cap, D, rfl, hcap, hD, hrow⟩ := hv trivial
      have B1 := Lib.hid (below_step B0.out b1)
      have T1 := Lib.hid (T0.out.below b1)
      have C1 := Lib.hid (heap_below b1 C0.out)
      have R1 := Lib.hid hrow
      have HD := Lib.hid hD
      have HCAP := Lib.hid hcap
      clear b1 hrow hD hcap hv
      obtain ⟨A, rfl⟩ : ∃ A, D = [A] := by
        have hl := congrArg List.length HD.out
        rw [List.length_map] at hl
        match D, (hl : D.length = 1) with
        | [A], _ => exact ⟨A, rfl⟩
      have hd := HD.out
      simp only [List.map_cons, List.map_nil, List.cons.injEq, and_true] at hd
      subst hd
      have s0 : A.size ≤ 20000 := by have := hsh (bl A) (by simp); rw [bl_length] at this; omega
      have HY := Lib.hid (fun V (hV : Keyed V q m) => chash8_any q m A s0 V hV)
      rw [← hZ2] at HY
      unfold conV at HY
      clear hsh hZ2 HD s0
      unfold st2 at HY
      dsimp only at HY
      go_wp2_with fail
      refine (HK.out w1).mono ?_; rintro e w2 ⟨rfl, b2⟩
      have B2 := Lib.hid (below_step B1.out b2)
      have T2 := Lib.hid (T1.out.below b2)
      have C2 := Lib.hid (heap_below b2 C1.out)
      have R2 := Lib.hid (R1.out.below b2)
      clear b2
      obtain ⟨g, rfl, _, hr⟩ := R2.out.resolve_left (by simp)
      have cb : w2.cell? ⟨w.heap.size, 0, none⟩ = some (.pointer (some ⟨q, 0, none⟩)) := cell_of_row _ _ _ _ _ _ C2.out
      have c0 := hr.cell 0 (by simp)
      simp only [List.getD_cons_zero] at c0
      clear hr
      go_wp2_with fail
      have KS := img_keep1 (w := w) (W := w2) (q := q) (b := w.heap.size) (g := g) (m := m) ⟨cb, c0, T2, B2⟩ (drew_below w2)
      go_region_held3 (fun W => W.cell? ⟨w.heap.size, 0, none⟩ = some (.pointer (some ⟨q, 0, none⟩)) ∧ W.cell? ⟨g, 0, none⟩ = some (.string A) ∧ Hid (Keyed W q m) ∧ Hid (Below w.heap.size w W)) (first | assumption | with_reducible exact img_keep1 ‹_› ‹_›) (first | (go_at_call 67; refine (HY.out _ (by assumption)).mono ?_; rintro e w3 ⟨rfl, b3⟩))
      go_wp2_with fail
      go_ret2
      exact ⟨rfl, below_step KS.2.2.2.out b3⟩
    | mac e1 e3 =>
      have hln := hlen rfl
      dsimp only at hln
      obtain ⟨a, b, rfl⟩ : ∃ a b, D0 = [a, b] := by
        match D0, (hln.trans e3 : D0.length = 2) with
        | [a, b], _ => exact ⟨a, b, rfl⟩
      have hZ2 : Z = mac8P cryP false a b := by rw [hZ, img_mac (.mac e1 e3) hI.symm]
      have hsh := hshort [a, b] hI.symm
      clear hkind hcs hs hv hshort hlen
      clear hZ hI e1 e3 hln
      obtain ⟨r, o⟩ := Z
      unfold st2
      dsimp only
      go_enter Tryz.func41, Tryz.ntmps41
      go_wp2_with (first | (refine wpList_load_row rfl 50 _ rfl w.heap.size rfl 50 _ _ _ C0.out Tryz.underlying50 rfl (con_info q) ?_))
      refine (HI.out _ T0.out).mono ?_; rintro e w1 ⟨⟨v, rfl, hv⟩, b1⟩
      obtain ⟨ao, cap, D, rfl, hcap, hD, hrow⟩ := hv trivial
      have B1 := Lib.hid (below_step B0.out b1)
      have T1 := Lib.hid (T0.out.below b1)
      have C1 := Lib.hid (heap_below b1 C0.out)
      have R1 := Lib.hid hrow
      have HD := Lib.hid hD
      have HCAP := Lib.hid hcap
      clear b1 hrow hD hcap hv
      obtain ⟨A, B, rfl⟩ : ∃ A B, D = [A, B] := by
        have hl := congrArg List.length HD.out
        rw [List.length_map] at hl
        match D, (hl : D.length = 2) with
        | [A, B], _ => exact ⟨A, B, rfl⟩
      have hd := HD.out
      simp only [List.map_cons, List.map_nil, List.cons.injEq, and_true] at hd
      obtain ⟨rfl, rfl⟩ := hd
      have s0 : A.size ≤ 20000 := by have := hsh (bl A) (by simp); rw [bl_length] at this; omega
      have s1 : B.size ≤ 20000 := by have := hsh (bl B) (by simp); rw [bl_length] at this; omega
      have HY := Lib.hid (fun V (hV : Keyed V q m) => cmac8_any q m A B s0 s1 V hV)
      rw [← hZ2] at HY
      unfold conV at HY
      clear hsh hZ2 HD s0 s1
      unfold st2 at HY
      dsimp only at HY
      go_wp2_with fail
      refine (HK.out w1).mono ?_; rintro e w2 ⟨rfl, b2⟩
      have B2 := Lib.hid (below_step B1.out b2)
      have T2 := Lib.hid (T1.out.below b2)
      have C2 := Lib.hid (heap_below b2 C1.out)
      have R2 := Lib.hid (R1.out.below b2)
      clear b2
      obtain ⟨g, rfl, _, hr⟩ := R2.out.resolve_left (by simp)
      have cb : w2.cell? ⟨w.heap.size, 0, none⟩ = some (.pointer (some ⟨q, 0, none⟩)) := cell_of_row _ _ _ _ _ _ C2.out
      have c0 := hr.cell 0 (by simp)
      have c1 := hr.cell 1 (by simp)
      simp only [List.getD_cons_zero, List.getD_cons_succ] at c0 c1
      clear hr
      go_wp2_with fail
      have KS := img_keep2 (w := w) (W := w2) (q := q) (b := w.heap.size) (g := g) (m := m) ⟨cb, c0, c1, T2, B2⟩ (drew_below w2)
      go_region_held3 (fun W => W.cell? ⟨w.heap.size, 0, none⟩ = some (.pointer (some ⟨q, 0, none⟩)) ∧ W.cell? ⟨g, 0, none⟩ = some (.string A) ∧ W.cell? ⟨g, 1, none⟩ = some (.string B) ∧ Hid (Keyed W q m) ∧ Hid (Below w.heap.size w W)) (first | assumption | with_reducible exact img_keep2 ‹_› ‹_›) (first | (go_at_call 68; refine (HY.out _ (by assumption)).mono ?_; rintro e w3 ⟨rfl, b3⟩))
      go_wp2_with fail
      go_ret2
      exact ⟨rfl, below_step KS.2.2.2.2.out b3⟩
    | seal_ e1 e3 =>
      have hln := hlen rfl
      dsimp only at hln
      obtain ⟨a, b, d, rfl⟩ : ∃ a b d, D0 = [a, b, d] := by
        match D0, (hln.trans e3 : D0.length = 3) with
        | [a, b, d], _ => exact ⟨a, b, d, rfl⟩
      have hZ2 : Z = seal8P cryP false a b d := by rw [hZ, img_seal (.seal_ e1 e3) hI.symm]
      have hsh := hshort [a, b, d] hI.symm
      clear hkind hcs hs hv hshort hlen
      clear hZ hI e1 e3 hln
      obtain ⟨r, o⟩ := Z
      unfold st2
      dsimp only
      go_enter Tryz.func41, Tryz.ntmps41
      go_wp2_with (first | (refine wpList_load_row rfl 50 _ rfl w.heap.size rfl 50 _ _ _ C0.out Tryz.underlying50 rfl (con_info q) ?_))
      refine (HI.out _ T0.out).mono ?_; rintro e w1 ⟨⟨v, rfl, hv⟩, b1⟩
      obtain ⟨ao, cap, D, rfl, hcap, hD, hrow⟩ := hv trivial
      have B1 := Lib.hid (below_step B0.out b1)
      have T1 := Lib.hid (T0.out.below b1)
      have C1 := Lib.hid (heap_below b1 C0.out)
      have R1 := Lib.hid hrow
      have HD := Lib.hid hD
      have HCAP := Lib.hid hcap
      clear b1 hrow hD hcap hv
      obtain ⟨A, B, E, rfl⟩ : ∃ A B E, D = [A, B, E] := by
        have hl := congrArg List.length HD.out
        rw [List.length_map] at hl
        match D, (hl : D.length = 3) with
        | [A, B, E], _ => exact ⟨A, B, E, rfl⟩
      have hd := HD.out
      simp only [List.map_cons, List.map_nil, List.cons.injEq, and_true] at hd
      obtain ⟨rfl, rfl, rfl⟩ := hd
      have s0 : A.size ≤ 20000 := by have := hsh (bl A) (by simp); rw [bl_length] at this; omega
      have s1 : B.size ≤ 20000 := by have := hsh (bl B) (by simp); rw [bl_length] at this; omega
      have s2 : E.size ≤ 20000 := by have := hsh (bl E) (by simp); rw [bl_length] at this; omega
      have HY := Lib.hid (fun V (hV : Keyed V q m) => cseal8_any q m A B E s0 s1 s2 V hV)
      rw [← hZ2] at HY
      unfold conV at HY
      clear hsh hZ2 HD s0 s1 s2
      unfold st2 at HY
      dsimp only at HY
      go_wp2_with fail
      refine (HK.out w1).mono ?_; rintro e w2 ⟨rfl, b2⟩
      have B2 := Lib.hid (below_step B1.out b2)
      have T2 := Lib.hid (T1.out.below b2)
      have C2 := Lib.hid (heap_below b2 C1.out)
      have R2 := Lib.hid (R1.out.below b2)
      clear b2
      obtain ⟨g, rfl, _, hr⟩ := R2.out.resolve_left (by simp)
      have cb : w2.cell? ⟨w.heap.size, 0, none⟩ = some (.pointer (some ⟨q, 0, none⟩)) := cell_of_row _ _ _ _ _ _ C2.out
      have c0 := hr.cell 0 (by simp)
      have c1 := hr.cell 1 (by simp)
      have c2 := hr.cell 2 (by simp)
      simp only [List.getD_cons_zero, List.getD_cons_succ] at c0 c1 c2
      clear hr
      go_wp2_with fail
      have KS := img_keep3 (w := w) (W := w2) (q := q) (b := w.heap.size) (g := g) (m := m) ⟨cb, c0, c1, c2, T2, B2⟩ (drew_below w2)
      go_region_held3 (fun W => W.cell? ⟨w.heap.size, 0, none⟩ = some (.pointer (some ⟨q, 0, none⟩)) ∧ W.cell? ⟨g, 0, none⟩ = some (.string A) ∧ W.cell? ⟨g, 1, none⟩ = some (.string B) ∧ W.cell? ⟨g, 2, none⟩ = some (.string E) ∧ Hid (Keyed W q m) ∧ Hid (Below w.heap.size w W)) (first | assumption | with_reducible exact img_keep3 ‹_› ‹_›) (first | (go_at_call 69; refine (HY.out _ (by assumption)).mono ?_; rintro e w3 ⟨rfl, b3⟩))
      go_wp2_with fail
      go_ret2
      exact ⟨rfl, below_step KS.2.2.2.2.2.out b3⟩
  · have hZ2 : Z = ([], x) := by rw [hZ]; exact img_err hI.symm hx
    subst hZ2
    have q2 := neq0_no hx
    clear hZ hI hlen hshort hkind hkd hcs hz2 hs hv
    go_enter Tryz.func41, Tryz.ntmps41
    go_wp2_with (first | (refine wpList_load_row rfl 50 _ rfl w.heap.size rfl 50 _ _ _ C0.out Tryz.underlying50 rfl (con_info q) ?_))
    refine (HI.out _ T0.out).mono ?_; rintro e w1 ⟨⟨v, rfl, hv⟩, b1⟩
    have B1 := Lib.hid (below_step B0.out b1)
    clear b1 hv hx
    go_wp2_with fail
    go_ret2
    exact ⟨rfl, B1.out⟩
end Go.Proofs.YtedidoeoomijjaaGreatDoor.Pl

namespace Go.Proofs.YtedidoeoomijjaaGreatDoor.Pl
open Go.RowKit

/-- What a nonce of three numbers is; an error, where one lies outside. -/
def inN (a : Int) : Prop := 0 ≤ a ∧ a ≤ 2147483647
instance (a : Int) : Decidable (inN a) := inferInstanceAs (Decidable (_ ∧ _))
def nonceP (a b d : Int) : List UInt8 × Nat :=
  if inN a ∧ inN b ∧ inN d then dataP (four8 a.toNat ++ four8 b.toNat ++ four8 d.toNat) else ([], 2)
/-- v is a row of these bytes that the call owns, from block B on. -/
def OwnB (w : World) (B : Nat) (v : Value) (l : List Nat) : Prop := w.ownsRow B 5 1 v l.length (u8s l)
def fourN (v : Nat) : List Nat := [v / 16777216, v / 65536 % 256, v / 256 % 256, v % 256]
def foursN : List Nat → List Nat
  | [] => []
  | v :: l => fourN v ++ foursN l
theorem foursN_len : ∀ l : List Nat, (foursN l).length = 4 * l.length
  | [] => rfl
  | v :: l => by rw [foursN, List.length_append, foursN_len l, List.length_cons]; simp [fourN]; omega
theorem foursN_append : ∀ a b : List Nat, foursN (a ++ b) = foursN a ++ foursN b
  | [], b => rfl
  | v :: l, b => by rw [List.cons_append, foursN, foursN, foursN_append l b, List.append_assoc]
theorem ownB_below {w w' : World} {B : Nat} {v : Value} {l : List Nat} (h : OwnB w B v l) (hb : Below w.heap.size w w') : OwnB w' B v l := by
  refine ⟨h.1, ?_⟩
  rcases h.2 with hn | ⟨g, cap, cur, hv, hbg, hg, rest⟩
  · exact .inl hn
  · exact .inr ⟨g, cap, cur, hv, hbg, (hb.block g (Array.getElem?_eq_some_iff.1 hg).1).trans hg, rest⟩
/-- Which number stands at which place. -/
def pickN (a b d : Int) : Nat → Int
  | 0 => a
  | 1 => b
  | _ => d
theorem pick_index (a b d : Int) (k : Nat) (hk : k < 3) (V : World) : (Instr.index 60 (.agg #[.int .i64 a, .int .i64 b, .int .i64 d]) (.int .i64 (k : Int))).run Tryz.prog V = .ok (.int .i64 (pickN a b d k)) V := by
  obtain rfl | rfl | rfl : k = 0 ∨ k = 1 ∨ k = 2 := by omega
  · kernel_rfl
  · kernel_rfl
  · kernel_rfl

theorem nonce_bad {a b d : Int} (k : Nat) (hk : k < 3) (h : ¬ inN (pickN a b d k)) : nonceP a b d = ([], 2) := by
  unfold nonceP
  obtain rfl | rfl | rfl : k = 0 ∨ k = 1 ∨ k = 2 := by omega
  · exact if_neg (fun e => h e.1)
  · exact if_neg (fun e => h e.2.1)
  · exact if_neg (fun e => h e.2.2)
theorem fours_byte (l : List Nat) (h : ∀ x ∈ l, x < 2147483648) : ∀ y ∈ foursN l, y < 256 := by
  induction l with
  | nil => intro y hy; cases hy
  | cons v l ih =>
    intro y hy
    rw [foursN, List.mem_append] at hy
    rcases hy with hy | hy
    · have hv := h v (by simp)
      simp only [fourN, List.mem_cons, List.not_mem_nil, or_false] at hy
      rcases hy with rfl | rfl | rfl | rfl <;> omega
    · exact ih (fun x hx => h x (by simp [hx])) y hy
theorem nonce_good {a b d : Int} {l : List Nat} (hl : l.length = 3) (hin : ∀ j, j < 3 → inN (pickN a b d j) ∧ l.getD j 0 = (pickN a b d j).toNat) :
    dataP (bl (bytesOf (foursN l))) = nonceP a b d ∧ ∀ j, (foursN l).getD j 0 < 256 := by
  match l, hl with
  | [x, y, z], _ =>
    have h0 := hin 0 (by decide)
    have h1 := hin 1 (by decide)
    have h2 := hin 2 (by decide)
    simp only [List.getD_cons_zero, List.getD_cons_succ, pickN] at h0 h1 h2
    refine ⟨?_, fun j => ?_⟩
    · unfold nonceP
      rw [if_pos ⟨h0.1, h1.1, h2.1⟩, ← h0.2, ← h1.2, ← h2.2]
      rfl
    · by_cases hj : j < (foursN [x, y, z]).length
      · rw [List.getD_eq_getElem?_getD, List.getElem?_eq_getElem hj, Option.getD_some]
        refine fours_byte _ ?_ _ (List.getElem_mem hj)
        intro u hu
        have k0 := h0.1.2
        have k1 := h1.1.2
        have k2 := h2.1.2
        simp only [List.mem_cons, List.not_mem_nil, or_false] at hu
        rcases hu with rfl | rfl | rfl <;> omega
      · rw [List.getD_eq_getElem?_getD, List.getElem?_eq_none (by omega)]; decide
theorem ownB_cells {w : World} {B : Nat} {v : Value} {l : List Nat} (h : OwnB w B v l) (hl : l.length = 12) : ∃ g cap, v = .slice (some ⟨g, 0, none⟩) 12 cap ∧ ∀ j, j < 12 → w.cell? ⟨g, j, none⟩ = some (.int .u8 ((l.getD j 0 : Nat) : Int)) := by
  rcases h.2 with ⟨hv, h0⟩ | ⟨g, cap, cur, hv, hbg, hg, rest⟩
  · omega
  · have h' := h
    unfold OwnB at h'
    rw [hv] at h'
    exact ⟨g, cap, by rw [hv, hl], fun j hj => by rw [h'.cellAt j (by omega), u8s_at l j (by omega)]⟩

set_option maxHeartbeats 4000000 in
set_option maxRecDepth 100000 in
theorem nonce8_any (a b d : Int) (w : World) :
    Calls Tryz.prog 24 #[.int .i64 a, .int .i64 b, .int .i64 d] w fun e w' => e = .returned (st2 (nonceP a b d)) ∧ Below w.heap.size w w' := by
  obtain ⟨i0, hi, hz0, hz1, hz2⟩ := info_parts info_u8
  have HI := Lib.hid hi
  obtain ⟨Z, hZ⟩ : ∃ Z, Z = nonceP a b d := ⟨_, rfl⟩
  rw [← hZ]
  have HZ := Lib.hid hZ
  clear hi hZ
  go_enter Tryz.func24, Tryz.ntmps24
  go_wp2_with fail
  go_loopw [8, 15] (fun lv iv wr => ∃ (k : Nat) (l : List Nat), iv = .int .i64 k ∧ k ≤ 3 ∧ Hid (l.length = k) ∧ Hid (∀ j, j < k → inN (pickN a b d j) ∧ l.getD j 0 = (pickN a b d j).toNat) ∧ Hid (OwnB wr w.heap.size lv (foursN l)) ∧ Hid (Below w.heap.size w wr)) (fun _ iv _ => 3 - (intOf iv).toNat)
  case atStart => exact ⟨0, [], rfl, Nat.zero_le _, Lib.hid rfl, Lib.hid (fun j hj => absurd hj (by omega)), Lib.hid (World.ownsRow_nil _ _ _ _), Lib.hid (Below.refl _ _)⟩
  case round =>
    obtain ⟨k, l, rfl, hk3, hl, hin, hown, hb⟩ := hrel
    by_cases hk : k < 3
    · have hix := pick_index a b d k hk
      obtain ⟨x, hx⟩ : ∃ x, x = pickN a b d k := ⟨_, rfl⟩
      rw [← hx] at hix
      have HX := Lib.hid hx
      have hk' : (k : Int) < 3 := by omega
      clear hx
      by_cases hi : inN x
      · obtain ⟨n, rfl⟩ : ∃ n : Nat, x = n := ⟨x.toNat, by have := hi.1; omega⟩
        have h0 : ¬ (n : Int) < 0 := by omega
        have h1 : ¬ (2147483647 : Int) < (n : Int) := by have := hi.2; omega
        have HIN := Lib.hid hi
        have HFL : Hid ((foursN l).length ≤ 12) := Lib.hid (by rw [foursN_len, hl.out]; omega)
        clear hi
        go_wp2_with (at_builtin; refine wpList_append_own _ rfl _ _ 59 rfl w.heap.size 5 i0 (.int .u8 0) 1 1 Tryz.underlying59 HI.out hz0 hz1 hz2 rfl (by decide) _ _ _ rfl (World.ownsRow.alloc hown.out _) ⟨wr.heap.size, 0, none⟩ 4 4 (u8s (fourN n)) rfl rfl ?c1 ?c2 ?c3 ?c4 ?c5 ?_)
        case c1 =>
          intro j u hj
          have e : u8s (fourN n) = [.int .u8 ((n : Int) / 16777216), .int .u8 ((n : Int) / 65536 % 256), .int .u8 ((n : Int) / 256 % 256), .int .u8 ((n : Int) % 256)] := by simp [u8s, fourN]
          rw [← e]; exact hj
        case c2 => intro u hu; simp [u8s, fourN] at hu; rcases hu with rfl | rfl | rfl | rfl <;> rfl
        case c3 => have := HFL.out; unfold maxLen; omega
        case c4 => have := HFL.out; omega
        case c5 => have := hb.out.size; omega
        intro v' w3 hown' hgrow _
        have HO : Hid (OwnB w3 w.heap.size v' (foursN (l ++ [n]))) := Lib.hid (by
          have h := hown'
          unfold OwnB
          rw [foursN_append, show foursN [n] = fourN n by simp [foursN], show u8s (foursN l ++ fourN n) = u8s (foursN l) ++ u8s (fourN n) by simp [u8s], List.length_append, show (fourN n).length = 4 from rfl]
          exact h)
        have B3 : Hid (Below w.heap.size w w3) := Lib.hid ((hb.out.alloc hb.out.size _).grown hgrow (by have := hb.out.size; simp; omega) (fun j hj => (hown.out.lt _ hj).1))
        have HL3 : Hid ((l ++ [n]).length = k + 1) := Lib.hid (by simp [hl.out])
        have HI3 : Hid (∀ j, j < k + 1 → inN (pickN a b d j) ∧ (l ++ [n]).getD j 0 = (pickN a b d j).toNat) := Lib.hid (fun j hj => by
          by_cases hjk : j < k
          · have h := hin.out j hjk
            refine ⟨h.1, ?_⟩
            rw [← h.2, List.getD_eq_getElem?_getD, List.getElem?_append_left (by rw [hl.out]; exact hjk), List.getD_eq_getElem?_getD]
          · obtain rfl : j = k := by omega
            rw [← HX.out]
            refine ⟨HIN.out, ?_⟩
            rw [List.getD_eq_getElem?_getD, List.getElem?_append_right (by rw [hl.out]; omega), hl.out, Nat.sub_self]
            rfl)
        clear hown' hgrow
        go_wp2_with fail
        go_roundw
        case rel => exact ⟨k + 1, l ++ [n], by go_num, by omega, HL3, HI3, HO, B3⟩
        case measure => simp [intOf]; omega
      · have HB : Hid (Z = ([], 2)) := Lib.hid (by rw [HZ.out]; exact nonce_bad k hk (by rw [← HX.out]; exact hi))
        by_cases h0 : x < 0
        · clear hi
          go_wp2_with fail
          go_ret2
          exact ⟨by rw [HB.out]; rfl, hb.out⟩
        · have h1 : (2147483647 : Int) < x := by
            apply Classical.byContradiction
            intro h
            exact hi ⟨by omega, by omega⟩
          clear hi
          go_wp2_with fail
          go_ret2
          exact ⟨by rw [HB.out]; rfl, hb.out⟩
    · obtain rfl : k = 3 := by omega
      obtain ⟨g, cap, rfl, hc⟩ : ∃ g cap, _ = Value.slice (some ⟨g, 0, none⟩) 12 cap ∧ ∀ j, j < 12 → wr.cell? ⟨g, j, none⟩ = some (.int .u8 (((foursN l).getD j 0 : Nat) : Int)) := ownB_cells hown.out (by rw [foursN_len, hl.out])
      have hv := nonce_good hl.out hin.out
      have hcv : (convert 59 9 (.slice (some ⟨g, 0, none⟩) 12 cap)).run Tryz.prog wr = .ok (.string (bytesOf (foursN l))) wr := by
        have h12 : (foursN l).length = 12 := by rw [foursN_len, hl.out]
        have := back_string wr g 0 cap (foursN l) hv.2 (fun j hj => by rw [Nat.zero_add]; exact hc j (by omega))
        rwa [h12] at this
      have HD := Lib.hid (data6_any (bytesOf (foursN l)) (by rw [bytesOf_size, foursN_len, hl.out]; decide) wr)
      rw [hv.1, ← HZ.out] at HD
      obtain ⟨r, x⟩ := Z
      unfold st2 at HD
      dsimp only at HD
      clear hk hk3 hc hv
      generalize bytesOf (foursN l) = y at *
      go_wp2_with fail
      refine HD.out.mono ?_; rintro e w2 ⟨rfl, b2⟩
      have B2 := Lib.hid (below_step hb.out b2)
      clear b2
      go_wp2_with fail
      go_ret2
      exact ⟨rfl, B2.out⟩
end Go.Proofs.YtedidoeoomijjaaGreatDoor.Pl

namespace Go.Proofs.YtedidoeoomijjaaGreatDoor.Pl
open Go.RowKit

theorem keyB_eq {y : ByteArray} (h : kindP (bl y) = 1) : keyB y = keyD y := by rw [keyB, keyD, strD_yes h]
theorem rthree_of (t : ByteArray) (ht : t.size ≤ 281474976710656) (a d f : List UInt8) (h : partsP (bl t) = ([a, d, f], true)) (V : World) :
    Calls Tryz.prog 38 #[.string t] V fun e w' => ∃ g c, e = .returned (.tuple #[.slice (some ⟨g, 0, none⟩) 3 c, .bool true]) ∧ w'.cell? ⟨g, 0, none⟩ = some (.string ⟨a.toArray⟩) ∧ w'.cell? ⟨g, 2, none⟩ = some (.string ⟨f.toArray⟩) ∧ Below V.heap.size V w' := by
  have H := rparts6_any t ht V
  rw [h] at H
  refine H.mono ?_
  rintro e w' ⟨v, L', rfl, own, hL, b⟩
  obtain rfl : L' = [⟨a.toArray⟩, ⟨d.toArray⟩, ⟨f.toArray⟩] := bl_inj8 hL
  obtain ⟨g, c, rfl, hc⟩ := own_cell8 own (by simp)
  exact ⟨g, c, rfl, hc 0 (by simp), hc 2 (by simp), b⟩
theorem rsee_none {k x : ByteArray} (h : ¬ (44 ≤ x.size ∧ Fits k x)) (hk : k.size ≤ 800000) (hx : x.size ≤ 65580) (V : World) :
    Calls Tryz.prog 39 #[.string k, .string x] V fun e w' => (∃ c : Nat, c ≠ 0 ∧ e = .returned (.tuple #[.string ⟨#[]⟩, .int .i64 (c : Int)])) ∧ Below V.heap.size V w' := by
  by_cases h1 : 44 ≤ x.size
  · refine (ropen_unfit k x hk h1 hx (fun hf => h ⟨h1, hf⟩) V).mono ?_
    rintro e w' ⟨rfl, b⟩
    exact ⟨⟨40, by decide, rfl⟩, b⟩
  · refine (ropen_end k x (by omega) V).mono ?_
    rintro e w' ⟨rfl, rfl⟩
    exact ⟨⟨6, by decide, rfl⟩, Below.refl _ _⟩
set_option maxHeartbeats 4000000 in
set_option maxRecDepth 100000 in
theorem ropen8_any (k : Nat) (h12 : k = 1 ∨ k = 2) (m y x : ByteArray) (hy : y.size ≤ 20000) (hx : x.size ≤ 20000) (w : World) :
    Calls Tryz.prog 19 #[suiteV k m, .string y, .string x] w fun e w' => e = .returned (st2 (open8P cryP (k == 1) (bl y) (bl x))) ∧ Below w.heap.size w w' := by
  have HX := Lib.hid (fun V => rstr8_any y (by omega) V)
  have HX2 := Lib.hid (fun V => rstr8_any x (by omega) V)
  have HY := Lib.hid (fun V => rmay_any y (by omega) V)
  have HM := Lib.hid (fun V => rmay_any x (by omega) V)
  have HI := Lib.hid (fun V => rkind_any x (by omega) V)
  unfold tb2 at HX HX2
  dsimp only at HX HX2
  rw [show (⟨(textP (bl y)).1.toArray⟩ : ByteArray) = keyB y from rfl] at HX
  rw [show (⟨(textP (bl x)).1.toArray⟩ : ByteArray) = keyB x from rfl] at HX2
  have B0 := Lib.hid ((Below.refl w.heap.size w).alloc (Nat.le_refl _) (.cells #[.int .u8 (k : Int), .string m] 31))
  have C0 := Lib.hid (Go.heap_alloc_new w (.cells #[.int .u8 (k : Int), .string m] 31))
  obtain ⟨Z, hZ⟩ : ∃ Z, Z = open8P cryP (k == 1) (bl y) (bl x) := ⟨_, rfl⟩
  rw [← hZ]
  unfold open8P at hZ
  have hks := keyD_size y
  have hxs := keyD_size x
  unfold suiteV
  by_cases h1 : checkP (bl y) = 0
  · rw [zero_yes h1] at HY
    by_cases h2 : checkP (bl x) = 0
    · rw [zero_yes h2] at HM
      rcases h12 with rfl | rfl
      · rw [if_neg (by simp [h1, h2]), if_pos (show ((1 : Nat) == 1) = true from rfl)] at hZ
        generalize (kindP (bl y) == 1) = ky at *
        generalize keyB y = yb at *
        by_cases h6 : kindP (bl x) = 6
        · obtain ⟨a, d, f, hp⟩ := seal_three h6
          have HP := Lib.hid (fun V => rthree_of x (by omega) a d f hp V)
          rw [if_neg (by simp [h6]), hp] at hZ
          have q6 := ne6_yes h6
          rw [h6] at HI
          have hka : bl ⟨a.toArray⟩ = a := bl_mk a
          generalize hA : (⟨a.toArray⟩ : ByteArray) = A at *
          by_cases ha : A = y
          · have hZ2 : Z = (f, 0) := by rw [hZ, if_neg (by simp [← hka, ha])]; rfl
            subst hZ2
            subst ha
            clear h1 h2 h6 hp hka hA hy hx hZ hks hxs HX2
            go_enter Tryz.func19, Tryz.ntmps19
            go_wp2_with fail
            refine (HX.out _).mono ?_; rintro e w1 ⟨rfl, b1⟩
            have B1 := Lib.hid (below_step B0.out b1)
            have C1 := Lib.hid (heap_below b1 C0.out)
            clear b1
            go_wp2_with fail
            refine (HY.out w1).mono ?_; rintro e w2 ⟨rfl, b2⟩
            have B2 := Lib.hid (below_step B1.out b2)
            have C2 := Lib.hid (heap_below b2 C1.out)
            clear b2
            go_wp2_with fail
            refine (HM.out w2).mono ?_; rintro e w3 ⟨rfl, b3⟩
            have B3 := Lib.hid (below_step B2.out b3)
            have C3 := Lib.hid (heap_below b3 C2.out)
            have c0 : w3.cell? ⟨w.heap.size, 0, none⟩ = some (.int .u8 ((1 : Nat) : Int)) := cell_of_row _ _ _ _ _ _ C3.out
            clear b3
            go_wp2_with fail
            refine (HI.out w3).mono ?_; rintro e w4 ⟨rfl, b4⟩
            have B4 := Lib.hid (below_step B3.out b4)
            have C4 := Lib.hid (heap_below b4 C3.out)
            clear b4
            go_wp2_with fail
            refine (HP.out w4).mono ?_; rintro e w5 ⟨g, cc, rfl, d0, d2, b5⟩
            have B5 := Lib.hid (below_step B4.out b5)
            have C5 := Lib.hid (heap_below b5 C4.out)
            clear b5
            go_wp2_with fail
            go_ret2
            exact ⟨rfl, B5.out⟩
          · obtain ⟨g1, g2⟩ := str_ne8 ha
            have hZ2 : Z = ([], 80) := by rw [hZ, if_pos (by simp only [List.getD_cons_zero]; rw [← hka]; exact fun e => ha (bl_inj e))]
            subst hZ2
            clear h1 h2 h6 hp hka hA hy hx hZ ha hks hxs HX2
            go_enter Tryz.func19, Tryz.ntmps19
            go_wp2_with fail
            refine (HX.out _).mono ?_; rintro e w1 ⟨rfl, b1⟩
            have B1 := Lib.hid (below_step B0.out b1)
            have C1 := Lib.hid (heap_below b1 C0.out)
            clear b1
            go_wp2_with fail
            refine (HY.out w1).mono ?_; rintro e w2 ⟨rfl, b2⟩
            have B2 := Lib.hid (below_step B1.out b2)
            have C2 := Lib.hid (heap_below b2 C1.out)
            clear b2
            go_wp2_with fail
            refine (HM.out w2).mono ?_; rintro e w3 ⟨rfl, b3⟩
            have B3 := Lib.hid (below_step B2.out b3)
            have C3 := Lib.hid (heap_below b3 C2.out)
            have c0 : w3.cell? ⟨w.heap.size, 0, none⟩ = some (.int .u8 ((1 : Nat) : Int)) := cell_of_row _ _ _ _ _ _ C3.out
            clear b3
            go_wp2_with fail
            refine (HI.out w3).mono ?_; rintro e w4 ⟨rfl, b4⟩
            have B4 := Lib.hid (below_step B3.out b4)
            have C4 := Lib.hid (heap_below b4 C3.out)
            clear b4
            go_wp2_with fail
            refine (HP.out w4).mono ?_; rintro e w5 ⟨g, cc, rfl, d0, d2, b5⟩
            have B5 := Lib.hid (below_step B4.out b5)
            have C5 := Lib.hid (heap_below b5 C4.out)
            clear b5
            go_wp2_with fail
            go_ret2
            exact ⟨rfl, B5.out⟩
        · rw [if_pos h6] at hZ
          subst hZ
          have q6 := ne6_no h6
          generalize kindP (bl x) = kd at *
          clear h1 h2 h6 hy hx hks hxs HX2
          go_enter Tryz.func19, Tryz.ntmps19
          go_wp2_with fail
          refine (HX.out _).mono ?_; rintro e w1 ⟨rfl, b1⟩
          have B1 := Lib.hid (below_step B0.out b1)
          have C1 := Lib.hid (heap_below b1 C0.out)
          clear b1
          go_wp2_with fail
          refine (HY.out w1).mono ?_; rintro e w2 ⟨rfl, b2⟩
          have B2 := Lib.hid (below_step B1.out b2)
          have C2 := Lib.hid (heap_below b2 C1.out)
          clear b2
          go_wp2_with fail
          refine (HM.out w2).mono ?_; rintro e w3 ⟨rfl, b3⟩
          have B3 := Lib.hid (below_step B2.out b3)
          have C3 := Lib.hid (heap_below b3 C2.out)
          have c0 : w3.cell? ⟨w.heap.size, 0, none⟩ = some (.int .u8 ((1 : Nat) : Int)) := cell_of_row _ _ _ _ _ _ C3.out
          clear b3
          go_wp2_with fail
          refine (HI.out w3).mono ?_; rintro e w4 ⟨rfl, b4⟩
          have B4 := Lib.hid (below_step B3.out b4)
          have C4 := Lib.hid (heap_below b4 C3.out)
          clear b4
          go_wp2_with fail
          go_ret2
          exact ⟨rfl, B4.out⟩
      · by_cases hk1 : kindP (bl y) = 1
        · rw [if_neg (by simp [h1, h2, str_yes hk1]), if_neg (by simp)] at hZ
          rw [show (kindP (bl y) == 1) = true by rw [hk1]; rfl, keyB_eq hk1] at HX
          by_cases h3 : kindP (bl x) = 1
          · rw [show (kindP (bl x) == 1) = true by rw [h3]; rfl, keyB_eq h3] at HX2
            rw [str_yes h3] at hZ
            simp only at hZ
            by_cases hf : 44 ≤ (keyD x).size ∧ Fits (keyD y) (keyD x)
            · have HO := Lib.hid (fun V => ropen_fits (keyD y) (keyD x) (by omega) hf.1 (by omega) hf.2 V)
              have hss : (shown (keyD y) (hidOf (keyD x))).size ≤ 20000 := by
                rw [shown_size]
                have : (hidOf (keyD x)).size ≤ (keyD x).size := by unfold hidOf; rw [ByteArray.size_extract]; omega
                omega
              rw [← bl_keyD y, ← bl_keyD x, cry_see_yes hf.1 hf.2] at hZ
              simp only at hZ
              have HC := Lib.hid (fun V => rmay_any (shown (keyD y) (hidOf (keyD x))) (by omega) V)
              generalize shown (keyD y) (hidOf (keyD x)) = S at *
              generalize keyD y = yb at *
              generalize keyD x = u at *
              by_cases hc : checkP (bl S) = 0
              · rw [if_pos hc] at hZ
                rw [zero_yes hc] at HC
                have hS : (⟨(bl S).toArray⟩ : ByteArray) = S := bl_inj (bl_mk _)
                rw [show st2 Z = .tuple #[.string S, .int .i64 0] by rw [hZ]; show Value.tuple #[.string ⟨(bl S).toArray⟩, _] = _; rw [hS]; rfl]
                clear h1 h2 h3 hf hss hc hS hZ hk1 hy hx hks hxs HI
                go_enter Tryz.func19, Tryz.ntmps19
                go_wp2_with fail
                refine (HX.out _).mono ?_; rintro e w1 ⟨rfl, b1⟩
                have B1 := Lib.hid (below_step B0.out b1)
                have C1 := Lib.hid (heap_below b1 C0.out)
                clear b1
                go_wp2_with fail
                refine (HY.out w1).mono ?_; rintro e w2 ⟨rfl, b2⟩
                have B2 := Lib.hid (below_step B1.out b2)
                have C2 := Lib.hid (heap_below b2 C1.out)
                clear b2
                go_wp2_with fail
                refine (HM.out w2).mono ?_; rintro e w3 ⟨rfl, b3⟩
                have B3 := Lib.hid (below_step B2.out b3)
                have C3 := Lib.hid (heap_below b3 C2.out)
                have c0 : w3.cell? ⟨w.heap.size, 0, none⟩ = some (.int .u8 ((2 : Nat) : Int)) := cell_of_row _ _ _ _ _ _ C3.out
                clear b3
                go_wp2_with fail
                refine (HX2.out w3).mono ?_; rintro e w4 ⟨rfl, b4⟩
                have B4 := Lib.hid (below_step B3.out b4)
                have C4 := Lib.hid (heap_below b4 C3.out)
                clear b4
                go_wp2_with fail
                refine (HO.out w4).mono ?_; rintro e w5 ⟨rfl, b5⟩
                have B5 := Lib.hid (below_step B4.out b5)
                have C5 := Lib.hid (heap_below b5 C4.out)
                clear b5
                go_wp2_with fail
                refine (HC.out w5).mono ?_; rintro e w6 ⟨rfl, b6⟩
                have B6 := Lib.hid (below_step B5.out b6)
                have C6 := Lib.hid (heap_below b6 C5.out)
                clear b6
                go_wp2_with fail
                go_ret2
                exact ⟨rfl, B6.out⟩
              · rw [if_neg hc] at hZ
                rw [zero_no hc] at HC
                subst hZ
                clear h1 h2 h3 hf hss hc hk1 hy hx hks hxs HI
                go_enter Tryz.func19, Tryz.ntmps19
                go_wp2_with fail
                refine (HX.out _).mono ?_; rintro e w1 ⟨rfl, b1⟩
                have B1 := Lib.hid (below_step B0.out b1)
                have C1 := Lib.hid (heap_below b1 C0.out)
                clear b1
                go_wp2_with fail
                refine (HY.out w1).mono ?_; rintro e w2 ⟨rfl, b2⟩
                have B2 := Lib.hid (below_step B1.out b2)
                have C2 := Lib.hid (heap_below b2 C1.out)
                clear b2
                go_wp2_with fail
                refine (HM.out w2).mono ?_; rintro e w3 ⟨rfl, b3⟩
                have B3 := Lib.hid (below_step B2.out b3)
                have C3 := Lib.hid (heap_below b3 C2.out)
                have c0 : w3.cell? ⟨w.heap.size, 0, none⟩ = some (.int .u8 ((2 : Nat) : Int)) := cell_of_row _ _ _ _ _ _ C3.out
                clear b3
                go_wp2_with fail
                refine (HX2.out w3).mono ?_; rintro e w4 ⟨rfl, b4⟩
                have B4 := Lib.hid (below_step B3.out b4)
                have C4 := Lib.hid (heap_below b4 C3.out)
                clear b4
                go_wp2_with fail
                refine (HO.out w4).mono ?_; rintro e w5 ⟨rfl, b5⟩
                have B5 := Lib.hid (below_step B4.out b5)
                have C5 := Lib.hid (heap_below b5 C4.out)
                clear b5
                go_wp2_with fail
                refine (HC.out w5).mono ?_; rintro e w6 ⟨rfl, b6⟩
                have B6 := Lib.hid (below_step B5.out b6)
                have C6 := Lib.hid (heap_below b6 C5.out)
                clear b6
                go_wp2_with fail
                go_ret2
                exact ⟨rfl, B6.out⟩
            · have HO := Lib.hid (fun V => rsee_none hf (by omega) (by omega) V)
              rw [← bl_keyD y, ← bl_keyD x, cry_see_no hf] at hZ
              simp only at hZ
              generalize keyD y = yb at *
              generalize keyD x = u at *
              subst hZ
              clear h1 h2 h3 hf hk1 hy hx hks hxs HI
              go_enter Tryz.func19, Tryz.ntmps19
              go_wp2_with fail
              refine (HX.out _).mono ?_; rintro e w1 ⟨rfl, b1⟩
              have B1 := Lib.hid (below_step B0.out b1)
              have C1 := Lib.hid (heap_below b1 C0.out)
              clear b1
              go_wp2_with fail
              refine (HY.out w1).mono ?_; rintro e w2 ⟨rfl, b2⟩
              have B2 := Lib.hid (below_step B1.out b2)
              have C2 := Lib.hid (heap_below b2 C1.out)
              clear b2
              go_wp2_with fail
              refine (HM.out w2).mono ?_; rintro e w3 ⟨rfl, b3⟩
              have B3 := Lib.hid (below_step B2.out b3)
              have C3 := Lib.hid (heap_below b3 C2.out)
              have c0 : w3.cell? ⟨w.heap.size, 0, none⟩ = some (.int .u8 ((2 : Nat) : Int)) := cell_of_row _ _ _ _ _ _ C3.out
              clear b3
              go_wp2_with fail
              refine (HX2.out w3).mono ?_; rintro e w4 ⟨rfl, b4⟩
              have B4 := Lib.hid (below_step B3.out b4)
              have C4 := Lib.hid (heap_below b4 C3.out)
              clear b4
              go_wp2_with fail
              refine (HO.out w4).mono ?_; rintro e w5 ⟨⟨cn, hcn, rfl⟩, b5⟩
              have B5 := Lib.hid (below_step B4.out b5)
              have C5 := Lib.hid (heap_below b5 C4.out)
              clear b5
              have q9 := neq0_no hcn
              go_wp2_with fail
              go_ret2
              exact ⟨rfl, B5.out⟩
          · rw [show (kindP (bl x) == 1) = false by rw [beq_eq_false_iff_ne]; exact h3] at HX2
            rw [str_no h3] at hZ
            subst hZ
            clear h1 h2 h3 hk1 hy hx hks hxs HI
            generalize keyD y = yb at *
            generalize keyB x = u at *
            go_enter Tryz.func19, Tryz.ntmps19
            go_wp2_with fail
            refine (HX.out _).mono ?_; rintro e w1 ⟨rfl, b1⟩
            have B1 := Lib.hid (below_step B0.out b1)
            have C1 := Lib.hid (heap_below b1 C0.out)
            clear b1
            go_wp2_with fail
            refine (HY.out w1).mono ?_; rintro e w2 ⟨rfl, b2⟩
            have B2 := Lib.hid (below_step B1.out b2)
            have C2 := Lib.hid (heap_below b2 C1.out)
            clear b2
            go_wp2_with fail
            refine (HM.out w2).mono ?_; rintro e w3 ⟨rfl, b3⟩
            have B3 := Lib.hid (below_step B2.out b3)
            have C3 := Lib.hid (heap_below b3 C2.out)
            have c0 : w3.cell? ⟨w.heap.size, 0, none⟩ = some (.int .u8 ((2 : Nat) : Int)) := cell_of_row _ _ _ _ _ _ C3.out
            clear b3
            go_wp2_with fail
            refine (HX2.out w3).mono ?_; rintro e w4 ⟨rfl, b4⟩
            have B4 := Lib.hid (below_step B3.out b4)
            have C4 := Lib.hid (heap_below b4 C3.out)
            clear b4
            go_wp2_with fail
            go_ret2
            exact ⟨rfl, B4.out⟩
        · rw [if_pos (.inr (.inr ⟨rfl, str_no hk1⟩))] at hZ
          rw [show (kindP (bl y) == 1) = false by rw [beq_eq_false_iff_ne]; exact hk1] at HX
          subst hZ
          clear h1 h2 hk1 hy hx hks hxs HX2 HI
          generalize keyB y = yb at *
          go_enter Tryz.func19, Tryz.ntmps19
          go_wp2_with fail
          refine (HX.out _).mono ?_; rintro e w1 ⟨rfl, b1⟩
          have B1 := Lib.hid (below_step B0.out b1)
          have C1 := Lib.hid (heap_below b1 C0.out)
          clear b1
          go_wp2_with fail
          refine (HY.out w1).mono ?_; rintro e w2 ⟨rfl, b2⟩
          have B2 := Lib.hid (below_step B1.out b2)
          have C2 := Lib.hid (heap_below b2 C1.out)
          clear b2
          go_wp2_with fail
          refine (HM.out w2).mono ?_; rintro e w3 ⟨rfl, b3⟩
          have B3 := Lib.hid (below_step B2.out b3)
          have C3 := Lib.hid (heap_below b3 C2.out)
          have c0 : w3.cell? ⟨w.heap.size, 0, none⟩ = some (.int .u8 ((2 : Nat) : Int)) := cell_of_row _ _ _ _ _ _ C3.out
          clear b3
          go_wp2_with fail
          go_ret2
          exact ⟨rfl, B3.out⟩
    · rw [if_pos (.inr (.inl h2))] at hZ
      rw [zero_no h2] at HM
      subst hZ
      generalize (kindP (bl y) == 1) = ky at *
      generalize keyB y = yb at *
      clear h1 h2 hy hx hks hxs HX2 HI h12
      go_enter Tryz.func19, Tryz.ntmps19
      go_wp2_with fail
      refine (HX.out _).mono ?_; rintro e w1 ⟨rfl, b1⟩
      have B1 := Lib.hid (below_step B0.out b1)
      have C1 := Lib.hid (heap_below b1 C0.out)
      clear b1
      go_wp2_with fail
      refine (HY.out w1).mono ?_; rintro e w2 ⟨rfl, b2⟩
      have B2 := Lib.hid (below_step B1.out b2)
      have C2 := Lib.hid (heap_below b2 C1.out)
      clear b2
      go_wp2_with fail
      refine (HM.out w2).mono ?_; rintro e w3 ⟨rfl, b3⟩
      have B3 := Lib.hid (below_step B2.out b3)
      have C3 := Lib.hid (heap_below b3 C2.out)
      clear b3
      go_wp2_with fail
      go_ret2
      exact ⟨rfl, B3.out⟩
  · rw [if_pos (.inl h1)] at hZ
    subst hZ
    rw [zero_no h1] at HY
    generalize (kindP (bl y) == 1) = ky at *
    generalize keyB y = yb at *
    clear h1 hy hx hks hxs HX2 HI HM h12
    go_enter Tryz.func19, Tryz.ntmps19
    go_wp2_with fail
    refine (HX.out _).mono ?_; rintro e w1 ⟨rfl, b1⟩
    have B1 := Lib.hid (below_step B0.out b1)
    have C1 := Lib.hid (heap_below b1 C0.out)
    clear b1
    go_wp2_with fail
    refine (HY.out w1).mono ?_; rintro e w2 ⟨rfl, b2⟩
    have B2 := Lib.hid (below_step B1.out b2)
    have C2 := Lib.hid (heap_below b2 C1.out)
    clear b2
    go_wp2_with fail
    go_ret2
    exact ⟨rfl, B2.out⟩
end Go.Proofs.YtedidoeoomijjaaGreatDoor.Pl

namespace Go.Proofs.YtedidoeoomijjaaGreatDoor.Pl
open Go.RowKit

theorem ref_info (m : ByteArray) : (Tryz.prog.info? 31).map (·.size) = some (#[Value.int .u8 2, .string m].size) := by
  rw [show (#[Value.int .u8 2, .string m] : Array Value).size = 2 from rfl]
  kernel_rfl
theorem ri_keep {w1 W V : World} {b g k : Nat} {m x : ByteArray}
    (h : W.cell? ⟨b, 0, none⟩ = some (.int .u8 2) ∧ W.cell? ⟨b, 1, none⟩ = some (.string m) ∧ W.cell? ⟨g, k, none⟩ = some (.string x) ∧ Hid (Below w1.heap.size w1 W)) (hb : Below W.heap.size W V) :
    V.cell? ⟨b, 0, none⟩ = some (.int .u8 2) ∧ V.cell? ⟨b, 1, none⟩ = some (.string m) ∧ V.cell? ⟨g, k, none⟩ = some (.string x) ∧ Hid (Below w1.heap.size w1 V) := by
  obtain ⟨h0, h1, h2, h3⟩ := h
  exact ⟨(hb.cell (p := ⟨b, 0, none⟩) (World.block_lt_of_cell? _ _ h0)).trans h0, (hb.cell (p := ⟨b, 1, none⟩) (World.block_lt_of_cell? _ _ h1)).trans h1, (hb.cell (p := ⟨g, k, none⟩) (World.block_lt_of_cell? _ _ h2)).trans h2, Lib.hid (below_step h3.out hb)⟩
theorem ri_keep2 {w1 W V : World} {b g : Nat} {m x y : ByteArray}
    (h : W.cell? ⟨b, 0, none⟩ = some (.int .u8 2) ∧ W.cell? ⟨b, 1, none⟩ = some (.string m) ∧ W.cell? ⟨g, 0, none⟩ = some (.string x) ∧ W.cell? ⟨g, 1, none⟩ = some (.string y) ∧ Hid (Below w1.heap.size w1 W)) (hb : Below W.heap.size W V) :
    V.cell? ⟨b, 0, none⟩ = some (.int .u8 2) ∧ V.cell? ⟨b, 1, none⟩ = some (.string m) ∧ V.cell? ⟨g, 0, none⟩ = some (.string x) ∧ V.cell? ⟨g, 1, none⟩ = some (.string y) ∧ Hid (Below w1.heap.size w1 V) := by
  obtain ⟨h0, h1, h2, h2', h3⟩ := h
  exact ⟨(hb.cell (p := ⟨b, 0, none⟩) (World.block_lt_of_cell? _ _ h0)).trans h0, (hb.cell (p := ⟨b, 1, none⟩) (World.block_lt_of_cell? _ _ h1)).trans h1, (hb.cell (p := ⟨g, 0, none⟩) (World.block_lt_of_cell? _ _ h2)).trans h2, (hb.cell (p := ⟨g, 1, none⟩) (World.block_lt_of_cell? _ _ h2')).trans h2', Lib.hid (below_step h3.out hb)⟩
theorem ri_keep3 {w1 W V : World} {b g : Nat} {m x y z : ByteArray}
    (h : W.cell? ⟨b, 0, none⟩ = some (.int .u8 2) ∧ W.cell? ⟨b, 1, none⟩ = some (.string m) ∧ W.cell? ⟨g, 0, none⟩ = some (.string x) ∧ W.cell? ⟨g, 1, none⟩ = some (.string y) ∧ W.cell? ⟨g, 2, none⟩ = some (.string z) ∧ Hid (Below w1.heap.size w1 W)) (hb : Below W.heap.size W V) :
    V.cell? ⟨b, 0, none⟩ = some (.int .u8 2) ∧ V.cell? ⟨b, 1, none⟩ = some (.string m) ∧ V.cell? ⟨g, 0, none⟩ = some (.string x) ∧ V.cell? ⟨g, 1, none⟩ = some (.string y) ∧ V.cell? ⟨g, 2, none⟩ = some (.string z) ∧ Hid (Below w1.heap.size w1 V) := by
  obtain ⟨h0, h1, h2, h2', h2'', h3⟩ := h
  exact ⟨(hb.cell (p := ⟨b, 0, none⟩) (World.block_lt_of_cell? _ _ h0)).trans h0, (hb.cell (p := ⟨b, 1, none⟩) (World.block_lt_of_cell? _ _ h1)).trans h1, (hb.cell (p := ⟨g, 0, none⟩) (World.block_lt_of_cell? _ _ h2)).trans h2, (hb.cell (p := ⟨g, 1, none⟩) (World.block_lt_of_cell? _ _ h2')).trans h2', (hb.cell (p := ⟨g, 2, none⟩) (World.block_lt_of_cell? _ _ h2'')).trans h2'', Lib.hid (below_step h3.out hb)⟩

theorem st2_shape {v : Value} {R : List UInt8 × Nat} (h : v = st2 R) : ∃ (r : ByteArray) (o : Nat), v = .tuple #[.string r, .int .i64 (o : Int)] := ⟨_, _, h⟩
set_option maxHeartbeats 8000000 in
set_option maxRecDepth 100000 in
theorem rimage8_tree (m : ByteArray) (hm : m.size ≤ 1000) : ∀ T : Tm, T.valid → ∀ (s : ByteArray), bl s = T.enc → ∀ w : World,
    Calls Tryz.prog 43 #[suiteV 2 m, .string s] w fun e w' => e = .returned (st2 (imgT cryP (bl m) T)) ∧ Below w.heap.size w w' := by
  refine Tm.ind ?_
  intro h l ih hv s hs w
  obtain ⟨i0, hi, hz0, hz1, hz2'⟩ := info_parts infoStr
  have HI0 := Lib.hid hi
  clear hi
  have hz2 : s.size ≤ 16384 := by rw [← bl_length, hs]; exact hv.2.2
  have hcs : checkP (bl s) = 0 := by rw [hs]; exact check_enc hv
  obtain ⟨c, hkd⟩ : ∃ c, Kd h l.length c := by
    have hg := hv.1
    simp only [Tm.good] at hg
    exact head_kind hg.1
  have hkind : kindP (bl s) = c := by
    unfold kindP
    rw [if_pos hcs, hs, Tm.enc_node]
    cases hkd with
    | data t e1 _ _ => rw [e1]; rfl
    | atom t e1 _ _ _ => rw [e1]; rfl
    | hash e1 _ => rw [e1]; rfl
    | mac e1 _ => rw [e1]; rfl
    | seal_ e1 _ => rw [e1]; rfl
    | row v e1 hv _ => rw [e1]; rfl
  have hshort := fun D (hD : imgsT cryP (bl m) l = (D, 0)) => imgs_short (node_valid_parts hv) hD
  have hl32 : l.length ≤ 32 := by cases hkd <;> omega
  have hp : partsP (bl s) = ((l.map tx).map bl, true) := by unfold partsP; rw [hs, treeOf_enc hv, map_bl_tx]
  have HP : Hid (∀ V, Calls Tryz.prog 38 #[.string s] V fun e w' => ∃ v, e = .returned (.tuple #[v, .bool true]) ∧ OwnT w' V.heap.size v (l.map tx) ∧ Below V.heap.size V w') := Lib.hid (fun V => by
    have H := rparts6_any s (by omega) V
    rw [hp] at H
    refine H.mono ?_
    rintro e w' ⟨v, L', rfl, own, hL, b⟩
    obtain rfl := bl_inj8 hL
    exact ⟨v, rfl, own, b⟩)
  have HX := Lib.hid (fun V => rtext6_any s (by omega) V)
  have HK := Lib.hid (fun V => rkind_any s (by omega) V)
  rw [hkind] at HK
  have IH' : Hid (∀ k, (hk : k < l.length) → ∀ V : World, Calls Tryz.prog 43 #[suiteV 2 m, .string (tx l[k])] V fun e w' => e = .returned (st2 (imgT cryP (bl m) l[k])) ∧ Below V.heap.size V w') := Lib.hid (fun k hk V => ih _ (List.getElem_mem hk) (node_valid_parts hv _ (List.getElem_mem hk)) (tx l[k]) (bl_tx _) V)
  have A0 := (Below.refl w.heap.size w).alloc (Nat.le_refl _) (.cells #[.int .u8 2, .string m] 31)
  have B0 := Lib.hid A0
  have C0 := Lib.hid (Go.heap_alloc_new w (.cells #[.int .u8 2, .string m] 31))
  obtain ⟨I, hI⟩ : ∃ I, I = imgsT cryP (bl m) l := ⟨_, rfl⟩
  have HI := Lib.hid hI
  obtain ⟨P, hP⟩ : ∃ P, P = l.map tx := ⟨_, rfl⟩
  have hPl : P.length = l.length := by rw [hP, List.length_map]
  have HPE : Hid (∀ k, (hk : k < l.length) → P.getD k ByteArray.empty = tx l[k]) := Lib.hid (fun k hk => by rw [hP]; simp [List.getD_eq_getElem?_getD, hk])
  rw [← hP] at HP
  obtain ⟨n, hn⟩ : ∃ n, n = l.length := ⟨_, rfl⟩
  rw [← hn] at hl32 hPl
  have HN := Lib.hid hn
  obtain ⟨zv, hZ⟩ : ∃ zv, zv = st2 (imgT cryP (bl m) (.node h l)) := ⟨_, rfl⟩
  rw [← hZ]
  have HZ := Lib.hid hZ
  have HKD := Lib.hid hkd
  have HS := Lib.hid hs
  have HV := Lib.hid hv
  have HSH := Lib.hid hshort
  have HSZ := Lib.hid hz2
  clear A0 ih hI hP hp hn hZ hkd hkind hs hv hshort hcs hz2
  unfold suiteV at IH' ⊢
  go_enter Tryz.func43, Tryz.ntmps43
  go_wp2_with fail
  refine (HP.out _).mono ?_; rintro e w1 ⟨v, rfl, ho, b1⟩
  have B1 := Lib.hid (below_step B0.out b1)
  have C1 := Lib.hid (heap_below b1 C0.out)
  have HLT : Hid (w.heap.size < w1.heap.size) := Lib.hid ((Array.getElem?_eq_some_iff.1 C1.out).1)
  obtain ⟨ao, cap, rfl, hcap, hrow⟩ := own_rowO ho
  have R1 := Lib.hid hrow
  rw [hPl]
  clear b1 ho hrow hcap
  go_wp2_with fail
  go_loopw [8, 9] (fun lv iv wr => ∃ (k : Nat) (D : List ByteArray), iv = .int .i64 k ∧ k ≤ n ∧ Hid (D.length = k) ∧ Hid (imgsT cryP (bl m) (l.take k) = (D.map bl, 0)) ∧ Hid (OwnT wr w1.heap.size lv D) ∧ Hid (Below w1.heap.size w1 wr)) (fun _ iv _ => n - (intOf iv).toNat)
  case atStart => exact ⟨0, [], rfl, Nat.zero_le _, Lib.hid rfl, Lib.hid (by simp [imgsT]), Lib.hid (ownT_nil _ _), Lib.hid (Below.refl _ _)⟩
  case round =>
    obtain ⟨k, D, rfl, hkn, hD, hi, hown, hb⟩ := hrel
    have B2 := Lib.hid (below_step B1.out hb.out)
    have C2 := Lib.hid (heap_below hb.out C1.out)
    have R2 := Lib.hid (R1.out.below hb.out)
    by_cases hk : k < n
    · have hk' : (k : Int) < (n : Int) := by omega
      have hkl : k < l.length := by rw [← HN.out]; exact hk
      rcases R2.out with e | ⟨g, rfl, hg, hr⟩
      · exfalso
        rw [e] at hPl
        simp at hPl
        omega
      have ck := hr.cell k (by omega)
      rw [HPE.out k hkl] at ck
      have c0 : wr.cell? ⟨w.heap.size, 0, none⟩ = some (.int .u8 2) := cell_of_row _ _ _ _ _ _ C2.out
      have c1 : wr.cell? ⟨w.heap.size, 1, none⟩ = some (.string m) := cell_of_row _ _ _ _ _ _ C2.out
      have HQ := Lib.hid (IH'.out k hkl)
      have HSTOP : Hid (∀ x, x ≠ 0 → (imgT cryP (bl m) l[k]).2 = x → zv = st2 ([], x)) := Lib.hid (fun x hx e => by rw [HZ.out]; exact congrArg st2 (img_err (imgs_stop hkl hi.out (Prod.ext rfl e) hx) hx))
      have HMORE : Hid ((imgT cryP (bl m) l[k]).2 = 0 → ∀ y : ByteArray, bl y = (imgT cryP (bl m) l[k]).1 → imgsT cryP (bl m) (l.take (k + 1)) = ((D ++ [y]).map bl, 0)) := Lib.hid (fun e y hy => by
        rw [List.map_append]
        exact imgs_more hkl hi.out (Prod.ext hy.symm e))
      generalize imgT cryP (bl m) l[k] = Y at *
      obtain ⟨y, x⟩ := Y
      dsimp only at HSTOP HMORE
      obtain ⟨z, hz⟩ : ∃ z : ByteArray, z = ⟨y.toArray⟩ := ⟨_, rfl⟩
      have hbz : Hid (bl z = y) := Lib.hid (by rw [hz]; exact bl_mk _)
      unfold st2 at HQ
      dsimp only at HQ
      rw [← hz] at HQ
      clear hz
      generalize tx l[k] = t at *
      clear hr
      go_wp2_with fail
      have KS := ri_keep (w1 := w1) (W := wr) (b := w.heap.size) (g := g) (k := k) (m := m) ⟨c0, c1, ck, hb⟩ (drew_below wr)
      go_region_held3 (fun W => W.cell? ⟨w.heap.size, 0, none⟩ = some (.int .u8 2) ∧ W.cell? ⟨w.heap.size, 1, none⟩ = some (.string m) ∧ W.cell? ⟨g, k, none⟩ = some (.string t) ∧ Hid (Below w1.heap.size w1 W)) (first | assumption | with_reducible exact ri_keep ‹_› ‹_›) (first | (go_at_call 43; refine (HQ.out _).mono ?_; rintro e w3 ⟨rfl, b3⟩))
      have B3 := Lib.hid (below_step KS.2.2.2.out b3)
      have hd : Below wr.heap.size wr w3 := below_step (drew_below wr) b3
      have O3 := Lib.hid (ownT_below hown.out hd)
      have HZ3 : Hid (w1.heap.size ≤ w3.heap.size) := Lib.hid B3.out.size
      have HDL : Hid (D.length ≤ 32) := Lib.hid (by rw [hD.out]; omega)
      clear hd b3 KS c0 c1 ck
      by_cases hx : x = 0
      · subst hx
        have HM := Lib.hid (HMORE.out rfl z hbz.out)
        have HD3 : Hid ((D ++ [z]).length = k + 1) := Lib.hid (by simp [hD.out])
        clear HSTOP HMORE
        go_wp2_with (at_builtin; refine wpList_append_own _ rfl _ _ 56 rfl w1.heap.size 9 i0 (.string ⟨#[]⟩) 1 16 Tryz.underlying56 HI0.out hz0 hz1 hz2' rfl (by decide) _ _ _ rfl (World.ownsRow.alloc O3.out _) ⟨w3.heap.size, 0, none⟩ 1 1 [.string z] rfl rfl ?c1 ?c2 ?c3 ?c4 ?c5 ?_)
        case c1 =>
          intro j u hj
          match j, hj with
          | 0, hj => simp at hj; subst hj; simp [Addr.add]
          | (j + 1), hj => simp at hj
        case c2 => intro u hu; simp at hu; subst hu; rfl
        case c3 => have := HDL.out; unfold maxLen; omega
        case c4 => have := HDL.out; omega
        case c5 => have := HZ3.out; simp; omega
        intro v' w4 hown' hgrow _
        have HO : Hid (OwnT w4 w1.heap.size v' (D ++ [z])) := Lib.hid (by
          have h := hown'
          unfold OwnT
          rw [show txts (D ++ [z]) = txts D ++ [.string z] by simp [txts], List.length_append, List.length_singleton]
          exact h)
        have B4 : Hid (Below w1.heap.size w1 w4) := Lib.hid ((B3.out.alloc (by have := HZ3.out; omega) _).grown hgrow (by have := HZ3.out; simp; omega) (fun j hj => (O3.out.lt _ hj).1))
        clear hown' hgrow
        go_wp2_with fail
        go_roundw
        case rel => exact ⟨k + 1, D ++ [z], by go_num, by omega, HD3, HM, HO, B4⟩
        case measure => simp [intOf]; omega
      · have q2 := neq0_no hx
        have HS' := Lib.hid (HSTOP.out x hx rfl)
        clear HSTOP HMORE
        go_wp2_with fail
        go_ret2
        exact ⟨by rw [HS'.out]; rfl, below_step B1.out B3.out⟩
    · obtain rfl : k = n := by omega
      have hE : imgsT cryP (bl m) l = (D.map bl, 0) := by rw [← hi.out, List.take_of_length_le (by have := HN.out; omega)]
      have HE := Lib.hid hE
      obtain ⟨ao', cap', rfl, hcap', hrow'⟩ := own_rowO hown.out
      have RD := Lib.hid hrow'
      have hz2 := HSZ.out
      have HCAP := Lib.hid hcap'
      clear hk hkn hE hrow' hcap'
      have hkd := HKD.out
      unfold tb2 at HX
      have HDN : Hid (D.length ≤ 32) := Lib.hid (by rw [hD.out]; omega)
      cases hkd with

      | data t e1 e2 e3 =>
        have hl : l = [] := List.length_eq_zero_iff.1 e3
        have HZ2 : Hid (zv = .tuple #[.string s, .int .i64 0]) := Lib.hid (by
          have hs := HS.out
          rw [HZ.out]
          rw [hl] at hs ⊢
          rw [img_leaf (.data t e1 e2 rfl) rfl]
          have : s = ⟨h.toArray⟩ := bl_inj (by rw [hs, Tm.enc_node]; simp [encs, bl_mk])
          rw [this]; rfl)
        clear e1 hz2 HZ
        go_wp2_with fail
        refine (HX.out _).mono ?_; rintro e w5 ⟨rfl, b5⟩
        have B5 := Lib.hid (below_step B2.out b5)
        have C5 := Lib.hid (heap_below b5 C2.out)
        have R5 := Lib.hid (RD.out.below b5)
        clear b5
        go_wp2_with fail
        refine (HK.out _).mono ?_; rintro e w6 ⟨rfl, b6⟩
        have B6 := Lib.hid (below_step B5.out b6)
        have C6 := Lib.hid (heap_below b6 C5.out)
        have R6 := Lib.hid (R5.out.below b6)
        clear b6
        go_wp2_with fail
        go_ret2
        exact ⟨by rw [HZ2.out]; rfl, B6.out⟩
      | atom t e1 e2 e3 e4 =>
        have hl : l = [] := List.length_eq_zero_iff.1 e4
        have hZ2 : zv = st2 (keyP cryP false (bl m) (textP (bl s)).1) := by
          have hv := HV.out
          have hs := HS.out
          rw [HZ.out]
          rw [hl] at hv hs ⊢
          rw [img_atom (.atom t e1 e2 e3 rfl) hv, hs]
        have htl := textP_len (bl s)
        rw [bl_length] at htl
        have HY := Lib.hid (fun V => rkey8_any 2 m ⟨(textP (bl s)).1.toArray⟩ hm (by rw [size_lit]; omega) V)
        rw [bl_mk (textP (bl s)).1, show ((2 : Nat) == 1) = false from rfl, ← hZ2] at HY
        unfold suiteV at HY
        generalize textP (bl s) = tp at *
        obtain ⟨y, z⟩ := tp
        dsimp only at HX HY
        generalize (⟨y.toArray⟩ : ByteArray) = Y at *
        have HSHP := Lib.hid (st2_shape hZ2)
        clear hZ2 e1 e3 htl hz2 HZ
        obtain ⟨r, o, rfl⟩ := HSHP.out
        clear HSHP
        go_wp2_with fail
        refine (HX.out _).mono ?_; rintro e w5 ⟨rfl, b5⟩
        have B5 := Lib.hid (below_step B2.out b5)
        have C5 := Lib.hid (heap_below b5 C2.out)
        have R5 := Lib.hid (RD.out.below b5)
        clear b5
        go_wp2_with fail
        refine (HK.out _).mono ?_; rintro e w6 ⟨rfl, b6⟩
        have B6 := Lib.hid (below_step B5.out b6)
        have C6 := Lib.hid (heap_below b6 C5.out)
        have R6 := Lib.hid (R5.out.below b6)
        clear b6
        go_wp2_with (first | (refine wpList_load_row rfl 31 _ rfl w.heap.size rfl 31 _ _ _ C6.out Tryz.underlying31 rfl (ref_info m) ?_))
        refine (HY.out w6).mono ?_; rintro e w7 ⟨rfl, b7⟩
        have B7 := Lib.hid (below_step B6.out b7)
        clear b7
        go_wp2_with fail
        go_ret2
        exact ⟨rfl, B7.out⟩
      | row v e1 e2 e3 =>
        have hZ2 : zv = st2 (rowP (D.map bl)) := by rw [HZ.out, img_row (.row v e1 e2 e3) HE.out]
        have hsh := HSH.out _ HE.out
        have HY : Hid (∀ V : World, TxtRow V ao' D → Calls Tryz.prog 71 #[.slice ao' D.length cap'] V fun e w' => e = .returned zv ∧ Below V.heap.size V w') := Lib.hid (fun V hV => by
          have := rrow6_any D ao' cap' (by have := HDN.out; omega) (fun x hx => by
            have := hsh (bl x) (List.mem_map_of_mem hx)
            rw [bl_length] at this; omega) V hV
          rwa [← hZ2] at this)
        have HSHP := Lib.hid (st2_shape hZ2)
        clear hsh hZ2 e1 e2 hz2 HZ
        obtain ⟨r, o, rfl⟩ := HSHP.out
        clear HSHP
        go_wp2_with fail
        refine (HX.out _).mono ?_; rintro e w5 ⟨rfl, b5⟩
        have B5 := Lib.hid (below_step B2.out b5)
        have C5 := Lib.hid (heap_below b5 C2.out)
        have R5 := Lib.hid (RD.out.below b5)
        clear b5
        go_wp2_with fail
        refine (HK.out _).mono ?_; rintro e w6 ⟨rfl, b6⟩
        have B6 := Lib.hid (below_step B5.out b6)
        have C6 := Lib.hid (heap_below b6 C5.out)
        have R6 := Lib.hid (R5.out.below b6)
        clear b6
        go_wp2_with fail
        refine (HY.out w6 R6.out.txt).mono ?_; rintro e w7 ⟨rfl, b7⟩
        have B7 := Lib.hid (below_step B6.out b7)
        clear b7
        go_wp2_with fail
        go_ret2
        exact ⟨rfl, B7.out⟩
      | hash e1 e3 =>
        obtain ⟨A, rfl⟩ : ∃ A, D = [A] := by
          have hl := hD.out.trans HN.out
          rw [e3] at hl
          match D, (hl : D.length = 1) with
          | [A], _ => exact ⟨A, rfl⟩
        have hZ2 : zv = st2 (hash8P cryP false (bl A)) := by rw [HZ.out, img_hash (.hash e1 e3) HE.out]
        have hsh := HSH.out _ HE.out
        have s0 : A.size ≤ 20000 := by have := hsh (bl A) (by simp); rw [bl_length] at this; omega
        have HY := Lib.hid (fun V => rhash8_any 2 m A s0 V)
        rw [show ((2 : Nat) == 1) = false from rfl, ← hZ2] at HY
        unfold suiteV at HY
        have HSHP := Lib.hid (st2_shape hZ2)
        clear hsh hZ2 hz2 HZ e1 s0
        obtain ⟨r, o, rfl⟩ := HSHP.out
        clear HSHP
        go_wp2_with fail
        refine (HX.out _).mono ?_; rintro e w5 ⟨rfl, b5⟩
        have B5 := Lib.hid (below_step B2.out b5)
        have C5 := Lib.hid (heap_below b5 C2.out)
        have R5 := Lib.hid (RD.out.below b5)
        clear b5
        go_wp2_with fail
        refine (HK.out _).mono ?_; rintro e w6 ⟨rfl, b6⟩
        have B6 := Lib.hid (below_step B5.out b6)
        have C6 := Lib.hid (heap_below b6 C5.out)
        have R6 := Lib.hid (R5.out.below b6)
        clear b6
        obtain ⟨g, rfl, _, hr⟩ := R6.out.resolve_left (by simp)
        have cb0 : w6.cell? ⟨w.heap.size, 0, none⟩ = some (.int .u8 2) := cell_of_row _ _ _ _ _ _ C6.out
        have cb1 : w6.cell? ⟨w.heap.size, 1, none⟩ = some (.string m) := cell_of_row _ _ _ _ _ _ C6.out
        have c0 := hr.cell 0 (by simp)
        simp only [List.getD_cons_zero] at c0
        clear hr
        go_wp2_with fail
        have KS := ri_keep (w1 := w) (W := w6) (b := w.heap.size) (g := g) (k := 0) (m := m) ⟨cb0, cb1, c0, B6⟩ (drew_below w6)
        go_region_held3 (fun W => W.cell? ⟨w.heap.size, 0, none⟩ = some (.int .u8 2) ∧ W.cell? ⟨w.heap.size, 1, none⟩ = some (.string m) ∧ W.cell? ⟨g, 0, none⟩ = some (.string A) ∧ Hid (Below w.heap.size w W)) (first | assumption | with_reducible exact ri_keep ‹_› ‹_›) (first | (go_at_call 13; refine (HY.out _).mono ?_; rintro e w7 ⟨rfl, b7⟩))
        go_wp2_with fail
        go_ret2
        exact ⟨rfl, below_step KS.2.2.2.out b7⟩
      | mac e1 e3 =>
        obtain ⟨A, B, rfl⟩ : ∃ A B, D = [A, B] := by
          have hl := hD.out.trans HN.out
          rw [e3] at hl
          match D, (hl : D.length = 2) with
          | [A, B], _ => exact ⟨A, B, rfl⟩
        have hZ2 : zv = st2 (mac8P cryP false (bl A) (bl B)) := by rw [HZ.out, img_mac (.mac e1 e3) HE.out]
        have hsh := HSH.out _ HE.out
        have s0 : A.size ≤ 20000 := by have := hsh (bl A) (by simp); rw [bl_length] at this; omega
        have s1 : B.size ≤ 20000 := by have := hsh (bl B) (by simp); rw [bl_length] at this; omega
        have HY := Lib.hid (fun V => rmac8_any 2 (.inr rfl) m A B s0 s1 V)
        rw [show ((2 : Nat) == 1) = false from rfl, ← hZ2] at HY
        unfold suiteV at HY
        have HSHP := Lib.hid (st2_shape hZ2)
        clear hsh hZ2 hz2 HZ e1 s0 s1
        obtain ⟨r, o, rfl⟩ := HSHP.out
        clear HSHP
        go_wp2_with fail
        refine (HX.out _).mono ?_; rintro e w5 ⟨rfl, b5⟩
        have B5 := Lib.hid (below_step B2.out b5)
        have C5 := Lib.hid (heap_below b5 C2.out)
        have R5 := Lib.hid (RD.out.below b5)
        clear b5
        go_wp2_with fail
        refine (HK.out _).mono ?_; rintro e w6 ⟨rfl, b6⟩
        have B6 := Lib.hid (below_step B5.out b6)
        have C6 := Lib.hid (heap_below b6 C5.out)
        have R6 := Lib.hid (R5.out.below b6)
        clear b6
        obtain ⟨g, rfl, _, hr⟩ := R6.out.resolve_left (by simp)
        have cb0 : w6.cell? ⟨w.heap.size, 0, none⟩ = some (.int .u8 2) := cell_of_row _ _ _ _ _ _ C6.out
        have cb1 : w6.cell? ⟨w.heap.size, 1, none⟩ = some (.string m) := cell_of_row _ _ _ _ _ _ C6.out
        have c0 := hr.cell 0 (by simp)
        have c1 := hr.cell 1 (by simp)
        simp only [List.getD_cons_zero, List.getD_cons_succ] at c0 c1
        clear hr
        go_wp2_with fail
        have KS := ri_keep2 (w1 := w) (W := w6) (b := w.heap.size) (g := g) (m := m) ⟨cb0, cb1, c0, c1, B6⟩ (drew_below w6)
        go_region_held3 (fun W => W.cell? ⟨w.heap.size, 0, none⟩ = some (.int .u8 2) ∧ W.cell? ⟨w.heap.size, 1, none⟩ = some (.string m) ∧ W.cell? ⟨g, 0, none⟩ = some (.string A) ∧ W.cell? ⟨g, 1, none⟩ = some (.string B) ∧ Hid (Below w.heap.size w W)) (first | assumption | with_reducible exact ri_keep2 ‹_› ‹_›) (first | (go_at_call 15; refine (HY.out _).mono ?_; rintro e w7 ⟨rfl, b7⟩))
        go_wp2_with fail
        go_ret2
        exact ⟨rfl, below_step KS.2.2.2.2.out b7⟩
      | seal_ e1 e3 =>
        obtain ⟨A, B, E, rfl⟩ : ∃ A B E, D = [A, B, E] := by
          have hl := hD.out.trans HN.out
          rw [e3] at hl
          match D, (hl : D.length = 3) with
          | [A, B, E], _ => exact ⟨A, B, E, rfl⟩
        have hZ2 : zv = st2 (seal8P cryP false (bl A) (bl B) (bl E)) := by rw [HZ.out, img_seal (.seal_ e1 e3) HE.out]
        have hsh := HSH.out _ HE.out
        have s0 : A.size ≤ 20000 := by have := hsh (bl A) (by simp); rw [bl_length] at this; omega
        have s1 : B.size ≤ 20000 := by have := hsh (bl B) (by simp); rw [bl_length] at this; omega
        have s2 : E.size ≤ 20000 := by have := hsh (bl E) (by simp); rw [bl_length] at this; omega
        have HY := Lib.hid (fun V => rseal8_any 2 (.inr rfl) m A B E s0 s1 s2 V)
        rw [show ((2 : Nat) == 1) = false from rfl, ← hZ2] at HY
        unfold suiteV at HY
        have HSHP := Lib.hid (st2_shape hZ2)
        clear hsh hZ2 hz2 HZ e1 s0 s1 s2
        obtain ⟨r, o, rfl⟩ := HSHP.out
        clear HSHP
        go_wp2_with fail
        refine (HX.out _).mono ?_; rintro e w5 ⟨rfl, b5⟩
        have B5 := Lib.hid (below_step B2.out b5)
        have C5 := Lib.hid (heap_below b5 C2.out)
        have R5 := Lib.hid (RD.out.below b5)
        clear b5
        go_wp2_with fail
        refine (HK.out _).mono ?_; rintro e w6 ⟨rfl, b6⟩
        have B6 := Lib.hid (below_step B5.out b6)
        have C6 := Lib.hid (heap_below b6 C5.out)
        have R6 := Lib.hid (R5.out.below b6)
        clear b6
        obtain ⟨g, rfl, _, hr⟩ := R6.out.resolve_left (by simp)
        have cb0 : w6.cell? ⟨w.heap.size, 0, none⟩ = some (.int .u8 2) := cell_of_row _ _ _ _ _ _ C6.out
        have cb1 : w6.cell? ⟨w.heap.size, 1, none⟩ = some (.string m) := cell_of_row _ _ _ _ _ _ C6.out
        have c0 := hr.cell 0 (by simp)
        have c1 := hr.cell 1 (by simp)
        have c2 := hr.cell 2 (by simp)
        simp only [List.getD_cons_zero, List.getD_cons_succ] at c0 c1 c2
        clear hr
        go_wp2_with fail
        have KS := ri_keep3 (w1 := w) (W := w6) (b := w.heap.size) (g := g) (m := m) ⟨cb0, cb1, c0, c1, c2, B6⟩ (drew_below w6)
        go_region_held3 (fun W => W.cell? ⟨w.heap.size, 0, none⟩ = some (.int .u8 2) ∧ W.cell? ⟨w.heap.size, 1, none⟩ = some (.string m) ∧ W.cell? ⟨g, 0, none⟩ = some (.string A) ∧ W.cell? ⟨g, 1, none⟩ = some (.string B) ∧ W.cell? ⟨g, 2, none⟩ = some (.string E) ∧ Hid (Below w.heap.size w W)) (first | assumption | with_reducible exact ri_keep3 ‹_› ‹_›) (first | (go_at_call 17; refine (HY.out _).mono ?_; rintro e w7 ⟨rfl, b7⟩))
        go_wp2_with fail
        go_ret2
        exact ⟨rfl, below_step KS.2.2.2.2.2.out b7⟩
end Go.Proofs.YtedidoeoomijjaaGreatDoor.Pl
