/- What the document's Parts, Size, depth, Depth, In and Has of layer 6 answer. What the document's Subs of layer 6 answers: what stands at the places, each once, in order. What the document's Same of layer 6 answers: are two rows of texts alike? -/
import Derived.Test.YtkebfabmcajbmaaGreatTermPlaces
namespace Go.Proofs.YtkebfabmcajbmaaGreat.Pl
open Go.RowKit

theorem tree_of {s : List UInt8} (h : checkP s = 0) : ∃ t : Tm, t.valid ∧ s = t.enc ∧ treeOf s = some t := by
  obtain ⟨t, h1, h2, h3⟩ := treeOf_some h
  exact ⟨t, h1, h2.symm, h3⟩
theorem may_yes {s : ByteArray} (h : checkP (bl s) = 0) : (checkP (bl s) == 0) = true := by rw [h]; rfl
theorem may_no {s : ByteArray} (h : checkP (bl s) ≠ 0) : (checkP (bl s) == 0) = false := by rw [beq_eq_false_iff_ne]; exact h
theorem valid_size {t : Tm} (h : t.valid) {s : ByteArray} (e : bl s = t.enc) : s.size ≤ 16384 := by rw [size_bl, e]; exact h.2.2

/-- Two rows of texts, by their bytes. -/
theorem map_bl_tx (l : List Tm) : (l.map tx).map bl = l.map Tm.enc := by rw [List.map_map]; rfl

set_option maxRecDepth 100000 in
theorem rparts6_any (s : ByteArray) (hs : s.size ≤ 281474976710656) (w : World) :
    Calls Tryz.prog 45 #[.string s] w fun e w' => ∃ (v : Value) (L : List ByteArray), e = .returned (.tuple #[v, .bool (partsP (bl s)).2]) ∧ OwnT w' w.heap.size v L ∧ L.map bl = (partsP (bl s)).1 ∧ Below w.heap.size w w' := by
  have HM := Lib.hid (rmay_any s hs w)
  by_cases hc : checkP (bl s) = 0
  · rw [may_yes hc] at HM
    obtain ⟨⟨h, l⟩, tv, te, tr⟩ := tree_of hc
    have HP := Lib.hid (fun V => parts_any h l tv s te V)
    have H1 : Hid ((partsP (bl s)).2 = true) := Lib.hid (by unfold partsP; rw [tr])
    have H2 : Hid ((l.map tx).map bl = (partsP (bl s)).1) := Lib.hid (by unfold partsP; rw [tr, map_bl_tx])
    generalize partsP (bl s) = q at *
    obtain ⟨q1, q2⟩ := q
    simp only at H1 H2
    have h1 := H1.out
    subst h1
    generalize l.map tx = L at *
    clear hc tv te tr hs
    go_enter Tryz.func45, Tryz.ntmps45
    go_wp2_with fail
    refine HM.out.mono ?_; rintro e w1 ⟨rfl, b1⟩
    have B1 := Lib.hid b1
    clear b1
    go_wp2_with fail
    refine (HP.out w1).mono ?_; rintro e w2 ⟨v, rfl, ho, b2⟩
    have B2 := Lib.hid (below_step B1.out b2)
    have HO : Hid (OwnT w2 w.heap.size v L) := Lib.hid (by
      refine ⟨ho.1, ho.2.elim .inl ?_⟩
      rintro ⟨g, cap, cur, e1, e2, rest⟩
      exact .inr ⟨g, cap, cur, e1, Nat.le_trans B1.out.size e2, rest⟩)
    obtain ⟨ao, cap, rfl, _⟩ := ownT_row HO.out
    clear b2 ho
    go_wp2_with fail
    go_ret2
    exact ⟨_, _, rfl, HO.out, H2.out, B2.out⟩
  · rw [may_no hc] at HM
    have H1 : Hid (partsP (bl s) = ([], false)) := Lib.hid (by unfold partsP; rw [treeOf_none hc])
    clear hc hs
    go_enter Tryz.func45, Tryz.ntmps45
    go_wp2_with fail
    refine HM.out.mono ?_; rintro e w1 ⟨rfl, b1⟩
    have B1 := Lib.hid b1
    clear b1
    go_wp2_with fail
    go_ret2
    exact ⟨_, [], by rw [H1.out]; rfl, ownT_nil _ _, by rw [H1.out]; rfl, B1.out⟩

set_option maxHeartbeats 1000000 in
set_option maxRecDepth 100000 in
theorem rin_any (l : List ByteArray) (ao : Option Addr) (cap : Nat) (hl : l.length ≤ 281474976710656) (s : ByteArray) (w : World) (hrow : TxtRow w ao l) (r : Bool) (hr : r = true ↔ s ∈ l) :
    Calls Tryz.prog 47 #[.slice ao l.length cap, .string s] w fun e w' => e = .returned (.bool r) ∧ Below w.heap.size w w' := by
  have HROW := Lib.hid hrow
  have HIN : Hid (∀ k, k < l.length → l.getD k ByteArray.empty = s → r = true) := Lib.hid (fun k hk e => hr.2 (by rw [← e]; exact getD_mem6 l k hk))
  have HNO : Hid ((∀ k, k < l.length → l.getD k ByteArray.empty ≠ s) → r = false) := Lib.hid (fun h => by
    cases e : r with
    | false => rfl
    | true =>
      obtain ⟨k, hk, e2⟩ := mem_getD6 (hr.1 e)
      exact absurd e2 (h k hk))
  obtain ⟨n, hn⟩ : ∃ n, n = l.length := ⟨_, rfl⟩
  have HN := Lib.hid hn
  rw [← hn] at hl ⊢
  clear hrow hr hn
  go_enter Tryz.func47, Tryz.ntmps47
  go_wp2_with fail
  go_loopw [5] (fun iv wr => ∃ k : Nat, iv = .int .i64 k ∧ k ≤ n ∧ Hid (∀ j, j < k → l.getD j ByteArray.empty ≠ s) ∧ Hid (Below w.heap.size w wr)) (fun iv _ => n - (intOf iv).toNat)
  case atStart => exact ⟨0, rfl, Nat.zero_le _, Lib.hid (fun j hj => absurd hj (Nat.not_lt_zero j)), Lib.hid (Below.refl _ _)⟩
  case round =>
    obtain ⟨k, rfl, hkn, hch, hb⟩ := hrel
    by_cases hk : k < n
    · have hk' : (k : Int) < (n : Int) := by omega
      rcases HROW.out.below hb.out with e | ⟨b, off, rfl, hlt, hc⟩
      · exfalso; have := HN.out; rw [e] at this; simp at this; omega
      have ck := hc k (by have := HN.out; omega)
      have HK := Lib.hid (HIN.out k (by have := HN.out; omega))
      have HX : Hid (l.getD k ByteArray.empty ≠ s → ∀ j, j < k + 1 → l.getD j ByteArray.empty ≠ s) := Lib.hid (fun h j hj => by
        by_cases e : j = k
        · rw [e]; exact h
        · exact hch.out j (by omega))
      generalize l.getD k ByteArray.empty = y at *
      clear hc hlt
      by_cases e : y = s
      · have HQ := Lib.hid (HK.out e)
        subst e
        go_wp2_with fail
        go_ret
        exact ⟨ret6_bool HQ.out.symm, hb.out⟩
      · obtain ⟨g1, g2⟩ := str6_ne e
        have HQ := Lib.hid (HX.out e)
        clear e
        go_wp2_with fail
        go_roundw
        case rel => exact ⟨k + 1, by go_num, by omega, HQ, hb⟩
        case measure => simp [intOf]; omega
    · obtain rfl : k = n := by omega
      have HQ := Lib.hid (HNO.out (fun j hj => hch.out j (by have := HN.out; omega)))
      clear hk hkn
      go_wp2_with fail
      go_ret
      exact ⟨ret6_bool HQ.out.symm, hb.out⟩
end Go.Proofs.YtkebfabmcajbmaaGreat.Pl

namespace Go.Proofs.YtkebfabmcajbmaaGreat.Pl
open Go.RowKit

open Classical in
noncomputable def onceF (out : List ByteArray) (x : ByteArray) : List ByteArray := if x ∈ out then out else out ++ [x]
end Go.Proofs.YtkebfabmcajbmaaGreat.Pl

namespace Go.Proofs.YtkebfabmcajbmaaGreat.Pl
open Go.RowKit

theorem rows_alike {a b : List ByteArray} (hl : a.length = b.length) (h : ∀ j, j < a.length → a.getD j ByteArray.empty = b.getD j ByteArray.empty) : a = b := by
  refine List.ext_getElem hl fun j h1 h2 => ?_
  have := h j h1
  simpa [List.getD_eq_getElem?_getD, h1, h2] using this

set_option maxHeartbeats 1000000 in
set_option maxRecDepth 100000 in
theorem rsame_any (a b : List ByteArray) (ao bo : Option Addr) (ca cb : Nat) (ha : a.length ≤ 281474976710656) (_hb : b.length ≤ 281474976710656) (w : World) (hra : TxtRow w ao a) (hrb : TxtRow w bo b) (r : Bool) (hr : r = true ↔ a = b) :
    Calls Tryz.prog 12 #[.slice ao a.length ca, .slice bo b.length cb] w fun e w' => e = .returned (.bool r) ∧ Below w.heap.size w w' := by
  have HA := Lib.hid hra
  have HB := Lib.hid hrb
  have HNO : Hid (a ≠ b → r = false) := Lib.hid (fun h => by
    cases e : r with
    | false => rfl
    | true => exact absurd (hr.1 e) h)
  by_cases hl : a.length = b.length
  · have HYES : Hid ((∀ j, j < a.length → a.getD j ByteArray.empty = b.getD j ByteArray.empty) → r = true) := Lib.hid (fun h => hr.2 (rows_alike hl h))
    have HDIF : Hid (∀ k, a.getD k ByteArray.empty ≠ b.getD k ByteArray.empty → r = false) := Lib.hid (fun k h => HNO.out (fun e => h (by rw [e])))
    obtain ⟨n, hn⟩ : ∃ n, n = a.length := ⟨_, rfl⟩
    have hna : a.length = n := hn.symm
    have hnb : b.length = n := by rw [← hl, hna]
    rw [hna, hnb]
    rw [hna] at HYES ha
    clear hra hrb hr hl hn _hb
    go_enter Tryz.func12, Tryz.ntmps12
    go_wp2_with fail
    go_loopw [5] (fun iv wr => ∃ k : Nat, iv = .int .i64 k ∧ k ≤ n ∧ Hid (∀ j, j < k → a.getD j ByteArray.empty = b.getD j ByteArray.empty) ∧ Hid (Below w.heap.size w wr)) (fun iv _ => n - (intOf iv).toNat)
    case atStart => exact ⟨0, rfl, Nat.zero_le _, Lib.hid (fun j hj => absurd hj (Nat.not_lt_zero j)), Lib.hid (Below.refl _ _)⟩
    case round =>
      obtain ⟨k, rfl, hkn, hch, hb⟩ := hrel
      by_cases hk : k < n
      · have hk' : (k : Int) < (n : Int) := by omega
        rcases HA.out.below hb.out with e | ⟨b1, off1, rfl, hlt1, hc1⟩
        · exfalso; rw [e] at hna; simp at hna; omega
        rcases HB.out.below hb.out with e | ⟨b2, off2, rfl, hlt2, hc2⟩
        · exfalso; rw [e] at hnb; simp at hnb; omega
        have ck1 := hc1 k (by omega)
        have ck2 := hc2 k (by omega)
        have HD := Lib.hid (HDIF.out k)
        have HX : Hid (a.getD k ByteArray.empty = b.getD k ByteArray.empty → ∀ j, j < k + 1 → a.getD j ByteArray.empty = b.getD j ByteArray.empty) := Lib.hid (fun h j hj => by
          by_cases e : j = k
          · rw [e]; exact h
          · exact hch.out j (by omega))
        generalize a.getD k ByteArray.empty = x at *
        generalize b.getD k ByteArray.empty = y at *
        clear hc1 hlt1 hc2 hlt2
        by_cases e : x = y
        · have HQ := Lib.hid (HX.out e)
          subst e
          go_wp2_with fail
          go_quiet (fail)
          go_wp2_with fail
          go_roundw
          case rel => exact ⟨k + 1, by go_num, by omega, HQ, Lib.hid (by first | exact hb.out | exact below_drewN hb.out _)⟩
          case measure => simp [intOf]; omega
        · obtain ⟨g1, g2⟩ := str6_ne e
          have HQ := Lib.hid (HD.out e)
          clear e
          go_wp2_with fail
          go_quiet (fail)
          go_wp2_with fail
          go_ret
          exact ⟨ret6_bool HQ.out.symm, by first | exact hb.out | exact below_drewN hb.out _⟩
      · obtain rfl : k = n := by omega
        have HQ := Lib.hid (HYES.out (fun j hj => hch.out j hj))
        clear hk hkn
        go_wp2_with fail
        go_ret
        exact ⟨ret6_bool HQ.out.symm, hb.out⟩
  · have HQ := Lib.hid (HNO.out (fun e => hl (by rw [e])))
    obtain ⟨n, hn⟩ : ∃ n, n = a.length := ⟨_, rfl⟩
    obtain ⟨m, hm⟩ : ∃ m, m = b.length := ⟨_, rfl⟩
    rw [← hn] at hl ha ⊢
    rw [← hm] at hl _hb ⊢
    have hl1 : ((n : Int) != (m : Int)) = true := by rw [bne_iff_ne]; omega
    have hl2 : ((n : Int) == (m : Int)) = false := by rw [beq_eq_false_iff_ne]; omega
    clear hra hrb hr hn hm hl
    go_enter Tryz.func12, Tryz.ntmps12
    go_wp2_with fail
    go_ret
    exact ⟨ret6_bool HQ.out.symm, Below.refl _ _⟩
end Go.Proofs.YtkebfabmcajbmaaGreat.Pl
