/- What the suite's own isTerm and datum answer, and what suites of terms make and open. -/
import Derived.Test.YtedidoeoomijjaaDoorTermPieces
import Derived.Test.YtedidoeoomijjaaDoorTermJoin
import Derived.Test.YtedidoeoomijjaaDoorSuiteD7
import Derived.Test.YtedidoeoomijjaaDoorSuiteMore
namespace Go.Proofs.YtedidoeoomijjaaDoor.Pl
open Go.RowKit

/-- What a datum says, as a text; nothing, where it is none. -/
noncomputable def keyD (t : ByteArray) : ByteArray := ⟨(strD (bl t)).toArray⟩
theorem bl_keyD (t : ByteArray) : bl (keyD t) = strD (bl t) := bl_mk _
theorem keyD_size (t : ByteArray) : (keyD t).size ≤ t.size := by rw [← bl_length, bl_keyD, ← bl_length]; exact strD_len _
theorem keyD_no {t : ByteArray} (h : kindP (bl t) ≠ 1) : keyD t = ⟨#[]⟩ := by rw [keyD, strD_no h]
theorem eq0 (c : Nat) : ((c : Int) == 0) = (c == 0) := by rw [Bool.eq_iff_iff, beq_iff_eq, beq_iff_eq]; omega
theorem ne1_yes {k : Nat} (h : k = 1) : ((k : Int) != 1) = false := by subst h; rfl
theorem ne1_no {k : Nat} (h : k ≠ 1) : ((k : Int) != 1) = true := by rw [bne_iff_ne]; omega
theorem ne6_yes {k : Nat} (h : k = 6) : ((k : Int) != 6) = false := by subst h; rfl
theorem ne6_no {k : Nat} (h : k ≠ 6) : ((k : Int) != 6) = true := by rw [bne_iff_ne]; omega
theorem zero_yes {c : Nat} (h : c = 0) : (c == 0) = true := by subst h; rfl
theorem zero_no {c : Nat} (h : c ≠ 0) : (c == 0) = false := by rw [beq_eq_false_iff_ne]; exact h
theorem str_ne8 {a b : ByteArray} (h : a ≠ b) : (a.toList == b.toList) = false ∧ (a.toList != b.toList) = true := by
  have h' : a.toList ≠ b.toList := fun e => h (by
    rw [Lib.toList_data, Lib.toList_data] at e
    apply ByteArray.ext
    exact Array.ext' e)
  exact ⟨beq_eq_false_iff_ne.2 h', bne_iff_ne.2 h'⟩
theorem bl_inj8 {a b : List ByteArray} (h : a.map bl = b.map bl) : a = b := (List.map_inj_right (fun _ _ e => bl_inj e)).1 h
theorem own_cell8 {w : World} {B : Nat} {v : Value} {l : List ByteArray} (h : OwnT w B v l) (hl : l ≠ []) : ∃ g c, v = .slice (some ⟨g, 0, none⟩) l.length c ∧ ∀ j, j < l.length → w.cell? ⟨g, j, none⟩ = some (.string (l.getD j ByteArray.empty)) := by
  rcases h.2 with ⟨hv, h0⟩ | ⟨g, cap, cur, hv, hbg, hg, rest⟩
  · exact absurd (List.length_eq_zero_iff.1 h0) hl
  · have h' := h
    unfold OwnT at h'
    rw [hv] at h'
    exact ⟨g, cap, hv, fun j hj => by rw [h'.cellAt j (by omega), txts_at l j hj]⟩
theorem parts_of8 (t : ByteArray) (ht : t.size ≤ 281474976710656) (L : List ByteArray) (h : partsP (bl t) = (L.map bl, true)) (V : World) :
    Calls Tryd.prog 56 #[.string t] V fun e w' => ∃ v, e = .returned (.tuple #[v, .bool true]) ∧ OwnT w' V.heap.size v L ∧ Below V.heap.size V w' := by
  have H := parts6_any t ht V
  rw [h] at H
  refine H.mono ?_
  rintro e w' ⟨v, L', rfl, own, hL, b⟩
  obtain rfl := bl_inj8 hL
  exact ⟨v, rfl, own, b⟩
/-- The texts of three bytes' rows. -/
theorem three_of (t : ByteArray) (ht : t.size ≤ 281474976710656) (a d f : List UInt8) (h : partsP (bl t) = ([a, d, f], true)) (V : World) :
    Calls Tryd.prog 56 #[.string t] V fun e w' => ∃ g c, e = .returned (.tuple #[.slice (some ⟨g, 0, none⟩) 3 c, .bool true]) ∧ w'.cell? ⟨g, 0, none⟩ = some (.string ⟨a.toArray⟩) ∧ w'.cell? ⟨g, 2, none⟩ = some (.string ⟨f.toArray⟩) ∧ Below V.heap.size V w' := by
  refine (parts_of8 t ht [⟨a.toArray⟩, ⟨d.toArray⟩, ⟨f.toArray⟩] h V).mono ?_
  rintro e w' ⟨v, rfl, own, b⟩
  obtain ⟨g, c, rfl, hc⟩ := own_cell8 own (by simp)
  exact ⟨g, c, rfl, hc 0 (by simp), hc 2 (by simp), b⟩

set_option maxRecDepth 100000 in
theorem isterm8_any (t : ByteArray) (ht : t.size ≤ 281474976710656) (w : World) :
    Calls Tryd.prog 30 #[.string t] w fun e w' => e = .returned (.bool (checkP (bl t) == 0)) ∧ Below w.heap.size w w' := by
  have HC := Lib.hid (check_any t ht w)
  rw [← eq0]
  generalize checkP (bl t) = c at *
  clear ht
  go_enter Tryd.func30, Tryd.ntmps30
  go_wp2_with fail
  refine HC.out.mono ?_; rintro e w1 ⟨rfl, b1⟩
  have B1 := Lib.hid b1
  clear b1
  go_wp2_with fail
  go_ret
  exact ⟨rfl, B1.out⟩
set_option maxRecDepth 100000 in
theorem datum8_any (t : ByteArray) (ht : t.size ≤ 281474976710656) (w : World) :
    Calls Tryd.prog 60 #[.string t] w fun e w' => e = .returned (.tuple #[.string (keyD t), .bool (kindP (bl t) == 1)]) ∧ Below w.heap.size w w' := by
  have HK := Lib.hid (tkind_any t ht w)
  have HT := Lib.hid (fun V => text6_any t ht V)
  by_cases h : kindP (bl t) = 1
  · rw [text_yes h, show tb2 (strD (bl t), true) = .tuple #[.string (keyD t), .bool true] from rfl] at HT
    have q := ne1_yes h
    rw [show (kindP (bl t) == 1) = true by rw [h]; rfl]
    generalize kindP (bl t) = k at *
    generalize keyD t = y at *
    clear h ht
    go_enter Tryd.func60, Tryd.ntmps60
    go_wp2_with fail
    refine HK.out.mono ?_; rintro e w1 ⟨rfl, b1⟩
    have B1 := Lib.hid b1
    clear b1
    go_wp2_with fail
    refine (HT.out w1).mono ?_; rintro e w2 ⟨rfl, b2⟩
    have B2 := Lib.hid (below_step B1.out b2)
    clear b2
    go_wp2_with fail
    go_ret2
    exact ⟨rfl, B2.out⟩
  · have q := ne1_no h
    rw [show (kindP (bl t) == 1) = false by rw [beq_eq_false_iff_ne]; exact h, keyD_no h]
    generalize kindP (bl t) = k at *
    clear h ht HT
    go_enter Tryd.func60, Tryd.ntmps60
    go_wp2_with fail
    refine HK.out.mono ?_; rintro e w1 ⟨rfl, b1⟩
    have B1 := Lib.hid b1
    clear b1
    go_wp2_with fail
    go_ret2
    exact ⟨rfl, B1.out⟩

/-- The receiver of suites of terms. -/
def symV : Value := .agg #[]

set_option maxRecDepth 100000 in
theorem skey8_any (c : Cry) (m : List UInt8) (n : ByteArray) (hn : n.size ≤ 20000) (w : World) :
    Calls Tryd.prog 110 #[symV, .string n] w fun e w' => e = .returned (st2 (keyP c true m (bl n))) ∧ Below w.heap.size w w' := by
  have H := Lib.hid (fun V => atom6_any n (by omega) V)
  have B0 := Lib.hid ((Below.refl w.heap.size w).alloc (Nat.le_refl _) (.cells #[] 48))
  rw [key8_terms]
  generalize atomP (bl n) = R at *
  obtain ⟨r, x⟩ := R
  unfold st2 at H ⊢
  dsimp only at H ⊢
  clear hn
  unfold symV
  go_enter Tryd.func110, Tryd.ntmps110
  go_wp2_with fail
  refine (H.out _).mono ?_; rintro e w1 ⟨rfl, b1⟩
  have B1 := Lib.hid (below_step B0.out b1)
  clear b1
  go_wp2_with fail
  go_ret2
  exact ⟨rfl, B1.out⟩

set_option maxRecDepth 100000 in
theorem shash8_any (c : Cry) (t : ByteArray) (ht : t.size ≤ 20000) (w : World) :
    Calls Tryd.prog 109 #[symV, .string t] w fun e w' => e = .returned (st2 (hash8P c true (bl t))) ∧ Below w.heap.size w w' := by
  have H := Lib.hid (fun V => hash6_any t (by omega) V)
  have B0 := Lib.hid ((Below.refl w.heap.size w).alloc (Nat.le_refl _) (.cells #[] 48))
  rw [hash8_terms]
  generalize madeP [104] [bl t] = R at *
  obtain ⟨r, x⟩ := R
  unfold st2 at H ⊢
  dsimp only at H ⊢
  clear ht
  unfold symV
  go_enter Tryd.func109, Tryd.ntmps109
  go_wp2_with fail
  refine (H.out _).mono ?_; rintro e w1 ⟨rfl, b1⟩
  have B1 := Lib.hid (below_step B0.out b1)
  clear b1
  go_wp2_with fail
  go_ret2
  exact ⟨rfl, B1.out⟩

set_option maxRecDepth 100000 in
theorem smac8_any (c : Cry) (k t : ByteArray) (hk : k.size ≤ 20000) (ht : t.size ≤ 20000) (w : World) :
    Calls Tryd.prog 111 #[symV, .string k, .string t] w fun e w' => e = .returned (st2 (mac8P c true (bl k) (bl t))) ∧ Below w.heap.size w w' := by
  have H := Lib.hid (fun V => mac6_any k t (by omega) (by omega) V)
  have B0 := Lib.hid ((Below.refl w.heap.size w).alloc (Nat.le_refl _) (.cells #[] 48))
  rw [mac8_terms]
  generalize madeP [109] [bl k, bl t] = R at *
  obtain ⟨r, x⟩ := R
  unfold st2 at H ⊢
  dsimp only at H ⊢
  clear hk ht
  unfold symV
  go_enter Tryd.func111, Tryd.ntmps111
  go_wp2_with fail
  refine (H.out _).mono ?_; rintro e w1 ⟨rfl, b1⟩
  have B1 := Lib.hid (below_step B0.out b1)
  clear b1
  go_wp2_with fail
  go_ret2
  exact ⟨rfl, B1.out⟩

set_option maxRecDepth 100000 in
theorem sseal8_any (c : Cry) (k n t : ByteArray) (hk : k.size ≤ 20000) (hn : n.size ≤ 20000) (ht : t.size ≤ 20000) (w : World) :
    Calls Tryd.prog 113 #[symV, .string k, .string n, .string t] w fun e w' => e = .returned (st2 (seal8P c true (bl k) (bl n) (bl t))) ∧ Below w.heap.size w w' := by
  have H := Lib.hid (fun V => seal6_any k n t (by omega) (by omega) (by omega) V)
  have B0 := Lib.hid ((Below.refl w.heap.size w).alloc (Nat.le_refl _) (.cells #[] 48))
  rw [seal8_terms]
  generalize madeP [115] [bl k, bl n, bl t] = R at *
  obtain ⟨r, x⟩ := R
  unfold st2 at H ⊢
  dsimp only at H ⊢
  clear hk hn ht
  unfold symV
  go_enter Tryd.func113, Tryd.ntmps113
  go_wp2_with fail
  refine (H.out _).mono ?_; rintro e w1 ⟨rfl, b1⟩
  have B1 := Lib.hid (below_step B0.out b1)
  clear b1
  go_wp2_with fail
  go_ret2
  exact ⟨rfl, B1.out⟩

set_option maxHeartbeats 1000000 in
set_option maxRecDepth 100000 in
theorem sopen8_any (c : Cry) (k x : ByteArray) (hk : k.size ≤ 20000) (hx : x.size ≤ 20000) (w : World) :
    Calls Tryd.prog 112 #[symV, .string k, .string x] w fun e w' => e = .returned (st2 (open8P c true (bl k) (bl x))) ∧ Below w.heap.size w w' := by
  have HK := Lib.hid (fun V => isterm8_any k (by omega) V)
  have HX := Lib.hid (fun V => isterm8_any x (by omega) V)
  have HI := Lib.hid (fun V => tkind_any x (by omega) V)
  obtain ⟨Z, hZ⟩ : ∃ Z, Z = open8P c true (bl k) (bl x) := ⟨_, rfl⟩
  rw [← hZ]
  unfold symV
  unfold open8P at hZ
  by_cases h1 : checkP (bl k) = 0
  · by_cases h2 : checkP (bl x) = 0
    · rw [if_neg (by simp [h1, h2]), if_pos rfl] at hZ
      rw [zero_yes h1] at HK
      rw [zero_yes h2] at HX
      by_cases h6 : kindP (bl x) = 6
      · obtain ⟨a, d, f, hp⟩ := seal_three h6
        have HP := Lib.hid (fun V => three_of x (by omega) a d f hp V)
        rw [if_neg (by simp [h6]), hp] at hZ
        have q6 := ne6_yes h6
        generalize kindP (bl x) = kd at *
        have hka : bl ⟨a.toArray⟩ = a := bl_mk a
        generalize hA : (⟨a.toArray⟩ : ByteArray) = A at *
        by_cases ha : A = k
        · have hZ2 : Z = (f, 0) := by rw [hZ, if_neg (by simp [← hka, ha])]; rfl
          subst hZ2
          subst ha
          clear h1 h2 h6 hp hka hA hk hx hZ
          go_enter Tryd.func112, Tryd.ntmps112
          have B0 := Lib.hid ((Below.refl w.heap.size w).alloc (Nat.le_refl _) (.cells #[] 48))
          go_wp2_with fail
          refine (HK.out _).mono ?_; rintro e w1 ⟨rfl, b1⟩
          have B1 := Lib.hid (below_step B0.out b1)
          clear b1
          go_wp2_with fail
          refine (HX.out w1).mono ?_; rintro e w2 ⟨rfl, b2⟩
          have B2 := Lib.hid (below_step B1.out b2)
          clear b2
          go_wp2_with fail
          refine (HI.out w2).mono ?_; rintro e w3 ⟨rfl, b3⟩
          have B3 := Lib.hid (below_step B2.out b3)
          clear b3
          go_wp2_with fail
          refine (HP.out w3).mono ?_; rintro e w4 ⟨g, cc, rfl, c0, c2, b4⟩
          have B4 := Lib.hid (below_step B3.out b4)
          clear b4
          go_wp2_with fail
          go_ret2
          exact ⟨rfl, B4.out⟩
        · have hne := str_ne8 ha
          obtain ⟨g1, g2⟩ := hne
          have hZ2 : Z = ([], 80) := by rw [hZ, if_pos (by simp only [List.getD_cons_zero]; rw [← hka]; exact fun e => ha (bl_inj e))]
          subst hZ2
          clear h1 h2 h6 hp hka hA hk hx hZ ha
          go_enter Tryd.func112, Tryd.ntmps112
          have B0 := Lib.hid ((Below.refl w.heap.size w).alloc (Nat.le_refl _) (.cells #[] 48))
          go_wp2_with fail
          refine (HK.out _).mono ?_; rintro e w1 ⟨rfl, b1⟩
          have B1 := Lib.hid (below_step B0.out b1)
          clear b1
          go_wp2_with fail
          refine (HX.out w1).mono ?_; rintro e w2 ⟨rfl, b2⟩
          have B2 := Lib.hid (below_step B1.out b2)
          clear b2
          go_wp2_with fail
          refine (HI.out w2).mono ?_; rintro e w3 ⟨rfl, b3⟩
          have B3 := Lib.hid (below_step B2.out b3)
          clear b3
          go_wp2_with fail
          refine (HP.out w3).mono ?_; rintro e w4 ⟨g, cc, rfl, c0, c2, b4⟩
          have B4 := Lib.hid (below_step B3.out b4)
          clear b4
          go_wp2_with fail
          go_ret2
          exact ⟨rfl, B4.out⟩
      · rw [if_pos h6] at hZ
        subst hZ
        have q6 := ne6_no h6
        generalize kindP (bl x) = kd at *
        clear h1 h2 h6 hk hx
        go_enter Tryd.func112, Tryd.ntmps112
        have B0 := Lib.hid ((Below.refl w.heap.size w).alloc (Nat.le_refl _) (.cells #[] 48))
        go_wp2_with fail
        refine (HK.out _).mono ?_; rintro e w1 ⟨rfl, b1⟩
        have B1 := Lib.hid (below_step B0.out b1)
        clear b1
        go_wp2_with fail
        refine (HX.out w1).mono ?_; rintro e w2 ⟨rfl, b2⟩
        have B2 := Lib.hid (below_step B1.out b2)
        clear b2
        go_wp2_with fail
        refine (HI.out w2).mono ?_; rintro e w3 ⟨rfl, b3⟩
        have B3 := Lib.hid (below_step B2.out b3)
        clear b3
        go_wp2_with fail
        go_ret2
        exact ⟨rfl, B3.out⟩
    · rw [if_pos (.inr (.inl h2))] at hZ
      subst hZ
      rw [zero_yes h1] at HK
      rw [zero_no h2] at HX
      clear h1 h2 hk hx
      go_enter Tryd.func112, Tryd.ntmps112
      have B0 := Lib.hid ((Below.refl w.heap.size w).alloc (Nat.le_refl _) (.cells #[] 48))
      go_wp2_with fail
      refine (HK.out _).mono ?_; rintro e w1 ⟨rfl, b1⟩
      have B1 := Lib.hid (below_step B0.out b1)
      clear b1
      go_wp2_with fail
      refine (HX.out w1).mono ?_; rintro e w2 ⟨rfl, b2⟩
      have B2 := Lib.hid (below_step B1.out b2)
      clear b2
      go_wp2_with fail
      go_ret2
      exact ⟨rfl, B2.out⟩
  · rw [if_pos (.inl h1)] at hZ
    subst hZ
    rw [zero_no h1] at HK
    clear h1 hk hx
    go_enter Tryd.func112, Tryd.ntmps112
    have B0 := Lib.hid ((Below.refl w.heap.size w).alloc (Nat.le_refl _) (.cells #[] 48))
    go_wp2_with fail
    refine (HK.out _).mono ?_; rintro e w1 ⟨rfl, b1⟩
    have B1 := Lib.hid (below_step B0.out b1)
    clear b1
    go_wp2_with fail
    go_ret2
    exact ⟨rfl, B1.out⟩
end Go.Proofs.YtedidoeoomijjaaDoor.Pl
