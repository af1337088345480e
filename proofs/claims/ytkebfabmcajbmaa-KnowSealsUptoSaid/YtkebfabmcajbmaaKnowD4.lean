/- What the document's Parts, Size, depth, Depth, In and Has of layer 6 answer. What the document's Can of layer 10 answers, over a list of what is known. What the document's take of layer 10 does: what is new of a term that is known is told. What the document's take of layer 10 does: the walk. What the document's open of layer 10 does: what can be opened is, once for each. What the document's Subs of layer 6 answers: what stands at the places, each once, in order. What the document's Same of layer 6 answers: are two rows of texts alike? -/
import Derived.Test.YtkebfabmcajbmaaTermPlaces
import Derived.Test.YtkebfabmcajbmaaKnowD1
import Derived.Test.YtkebfabmcajbmaaKnowD3
import Derived.Test.YtkebfabmcajbmaaKnowD2
import Derived.RangeFuncBox
namespace Go.Proofs.Ytkebfabmcajbmaa.Pl
open Go.RowKit

theorem tree_of {s : List UInt8} (h : checkP s = 0) : ∃ t : Tm, t.valid ∧ s = t.enc ∧ treeOf s = some t := by
  obtain ⟨t, h1, h2, h3⟩ := treeOf_some h
  exact ⟨t, h1, h2.symm, h3⟩
theorem may_yes {s : ByteArray} (h : checkP (bl s) = 0) : (checkP (bl s) == 0) = true := by rw [h]; rfl
theorem may_no {s : ByteArray} (h : checkP (bl s) ≠ 0) : (checkP (bl s) == 0) = false := by rw [beq_eq_false_iff_ne]; exact h
theorem valid_size {t : Tm} (h : t.valid) {s : ByteArray} (e : bl s = t.enc) : s.size ≤ 16384 := by rw [size_bl, e]; exact h.2.2

end Go.Proofs.Ytkebfabmcajbmaa.Pl

namespace Go.Proofs.Ytkebfabmcajbmaa.Pl
open Go.RowKit

open Classical in
/-- Whether a tree can be made of them. -/
noncomputable def canB (L : List ByteArray) (T : Tm) : Bool := decide (can (LB (L.map bl)) T)
open Classical in
theorem canB_iff {L : List ByteArray} {T : Tm} : canB L T = true ↔ can (LB (L.map bl)) T := by unfold canB; exact decide_eq_true_iff
end Go.Proofs.Ytkebfabmcajbmaa.Pl

namespace Go.Proofs.Ytkebfabmcajbmaa.Pl
open Go.RowKit

/-- An elder row, and how it stands to the one that grows. -/
def OldR (w : World) (v : Value) (n : Nat) (ao : Option Addr) (l0 : List ByteArray) : Prop := TxtRow w ao l0 ∧ OldV v n ao l0
theorem OldR.below {w w' : World} {v : Value} {n : Nat} {ao : Option Addr} {l0 : List ByteArray} (h : OldR w v n ao l0) (hb : Below w.heap.size w w') : OldR w' v n ao l0 := ⟨h.1.below hb, h.2⟩
theorem own_low {w : World} {B b : Nat} {v : Value} {L : List ByteArray} (h : OwnT w B v L) (hb : v.ownBlock = some b) : B ≤ b := by
  rcases h.2 with ⟨rfl, _⟩ | ⟨g, cap, cur, rfl, hbg, hg, _⟩
  · cases hb
  · obtain rfl : g = b := Option.some.inj hb
    exact hbg
end Go.Proofs.Ytkebfabmcajbmaa.Pl

namespace Go.Proofs.Ytkebfabmcajbmaa.Pl
open Go.RowKit

end Go.Proofs.Ytkebfabmcajbmaa.Pl

namespace Go.Proofs.Ytkebfabmcajbmaa.Pl
open Go.RowKit

end Go.Proofs.Ytkebfabmcajbmaa.Pl

namespace Go.Proofs.Ytkebfabmcajbmaa.Pl
open Go.RowKit

open Classical in
noncomputable def onceF (out : List ByteArray) (x : ByteArray) : List ByteArray := if x ∈ out then out else out ++ [x]
end Go.Proofs.Ytkebfabmcajbmaa.Pl

namespace Go.Proofs.Ytkebfabmcajbmaa.Pl
open Go.RowKit

theorem rows_alike {a b : List ByteArray} (hl : a.length = b.length) (h : ∀ j, j < a.length → a.getD j ByteArray.empty = b.getD j ByteArray.empty) : a = b := by
  refine List.ext_getElem hl fun j h1 h2 => ?_
  have := h j h1
  simpa [List.getD_eq_getElem?_getD, h1, h2] using this

set_option maxHeartbeats 1000000 in
set_option maxRecDepth 100000 in
theorem rsame_any (a b : List ByteArray) (ao bo : Option Addr) (ca cb : Nat) (ha : a.length ≤ 281474976710656) (_hb : b.length ≤ 281474976710656) (w : World) (hra : TxtRow w ao a) (hrb : TxtRow w bo b) (r : Bool) (hr : r = true ↔ a = b) :
    Calls Try.prog 8 #[.slice ao a.length ca, .slice bo b.length cb] w fun e w' => e = .returned (.bool r) ∧ Below w.heap.size w w' := by
  have HA := Lib.hid hra
  have HB := Lib.hid hrb
  have HNO : Hid (a ≠ b → r = false) := Lib.hid (fun h => by
    cases e : r with
    | false => rfl
    | true => exact absurd (hr.1 e) h)
  by_cases hl : a.length = b.length
  · have HYES : Hid ((∀ j, j < a.length → a.getD j ByteArray.empty = b.getD j ByteArray.empty) → r = true) := Lib.hid (fun h => hr.2 (rows_alike hl h))
    have HDIF : Hid (∀ k, a.getD k ByteArray.empty ≠ b.getD k ByteArray.empty → r = false) := Lib.hid (fun k h => HNO.out (fun e => h (by rw [e])))
    obtain ⟨n, hn⟩ : ∃ n, n = a.length := ⟨_, rfl⟩
    have hna : a.length = n := hn.symm
    have hnb : b.length = n := by rw [← hl, hna]
    rw [hna, hnb]
    rw [hna] at HYES ha
    clear hra hrb hr hl hn _hb
    go_enter Try.func8, Try.ntmps8
    go_wp2_with fail
    go_loopw [5] (fun iv wr => ∃ k : Nat, iv = .int .i64 k ∧ k ≤ n ∧ Hid (∀ j, j < k → a.getD j ByteArray.empty = b.getD j ByteArray.empty) ∧ Hid (Below w.heap.size w wr)) (fun iv _ => n - (intOf iv).toNat)
    case atStart => exact ⟨0, rfl, Nat.zero_le _, Lib.hid (fun j hj => absurd hj (Nat.not_lt_zero j)), Lib.hid (Below.refl _ _)⟩
    case round =>
      obtain ⟨k, rfl, hkn, hch, hb⟩ := hrel
      by_cases hk : k < n
      · have hk' : (k : Int) < (n : Int) := by omega
        rcases HA.out.below hb.out with e | ⟨b1, off1, rfl, hlt1, hc1⟩
        · exfalso; rw [e] at hna; simp at hna; omega
        rcases HB.out.below hb.out with e | ⟨b2, off2, rfl, hlt2, hc2⟩
        · exfalso; rw [e] at hnb; simp at hnb; omega
        have ck1 := hc1 k (by omega)
        have ck2 := hc2 k (by omega)
        have HD := Lib.hid (HDIF.out k)
        have HX : Hid (a.getD k ByteArray.empty = b.getD k ByteArray.empty → ∀ j, j < k + 1 → a.getD j ByteArray.empty = b.getD j ByteArray.empty) := Lib.hid (fun h j hj => by
          by_cases e : j = k
          · rw [e]; exact h
          · exact hch.out j (by omega))
        generalize a.getD k ByteArray.empty = x at *
        generalize b.getD k ByteArray.empty = y at *
        clear hc1 hlt1 hc2 hlt2
        by_cases e : x = y
        · have HQ := Lib.hid (HX.out e)
          subst e
          go_wp2_with fail
          go_quiet (fail)
          go_wp2_with fail
          go_roundw
          case rel => exact ⟨k + 1, by go_num, by omega, HQ, Lib.hid (by first | exact hb.out | exact below_drewN hb.out _)⟩
          case measure => simp [intOf]; omega
        · obtain ⟨g1, g2⟩ := str6_ne e
          have HQ := Lib.hid (HD.out e)
          clear e
          go_wp2_with fail
          go_quiet (fail)
          go_wp2_with fail
          go_ret
          exact ⟨ret6_bool HQ.out.symm, by first | exact hb.out | exact below_drewN hb.out _⟩
      · obtain rfl : k = n := by omega
        have HQ := Lib.hid (HYES.out (fun j hj => hch.out j hj))
        clear hk hkn
        go_wp2_with fail
        go_ret
        exact ⟨ret6_bool HQ.out.symm, hb.out⟩
  · have HQ := Lib.hid (HNO.out (fun e => hl (by rw [e])))
    obtain ⟨n, hn⟩ : ∃ n, n = a.length := ⟨_, rfl⟩
    obtain ⟨m, hm⟩ : ∃ m, m = b.length := ⟨_, rfl⟩
    rw [← hn] at hl ha ⊢
    rw [← hm] at hl _hb ⊢
    have hl1 : ((n : Int) != (m : Int)) = true := by rw [bne_iff_ne]; omega
    have hl2 : ((n : Int) == (m : Int)) = false := by rw [beq_eq_false_iff_ne]; omega
    clear hra hrb hr hn hm hl
    go_enter Try.func8, Try.ntmps8
    go_wp2_with fail
    go_ret
    exact ⟨ret6_bool HQ.out.symm, Below.refl _ _⟩
end Go.Proofs.Ytkebfabmcajbmaa.Pl
