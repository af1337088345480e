/- The program's own List and Len: what is listed, in order. -/
import Derived.Test.YtkebfabmcajbmaaKnowOpened
import Derived.Test.YtkebfabmcajbmaaKnowD1
import Derived.Test.YtkebfabmcajbmaaReadText
import Derived.Sort.OwnSorted
namespace Go.Proofs.Ytkebfabmcajbmaa.Pl
open Go.RowKit Go.Maps

theorem lt_less : ∀ {a b : List UInt8}, a < b ↔ lessB a b = true
  | [], [] => by simp [lessB, Op.bytesLess]
  | [], _ :: _ => by simp [lessB, Op.bytesLess]
  | _ :: _, [] => by simp [lessB, Op.bytesLess]
  | x :: a, y :: b => by
    rw [List.cons_lt_cons_iff, lt_less]
    simp only [lessB, Op.bytesLess, Bool.or_eq_true, Bool.and_eq_true, decide_eq_true_eq, beq_iff_eq]
/-- In order, and each once: what the sort makes of what was collected. -/
theorem sort_sorted {l : List (List UInt8)} (h : l.Nodup) : Sorted (l.mergeSort fun x y => decide (x ≤ y)) := by
  have hp := List.pairwise_mergeSort (le := fun x y : List UInt8 => decide (x ≤ y)) (fun a b c h1 h2 => decide_eq_true (List.le_trans (of_decide_eq_true h1) (of_decide_eq_true h2))) (fun a b => by
    rw [Bool.or_eq_true, decide_eq_true_iff, decide_eq_true_iff]
    exact List.le_total a b) l
  have hn : (l.mergeSort fun x y => decide (x ≤ y)).Nodup := (List.mergeSort_perm l _).nodup_iff.2 h
  refine (hp.and hn).imp fun {a b} k => ?_
  have h1 : a ≤ b := of_decide_eq_true k.1
  rw [← lt_less]
  rcases List.le_iff_lt_or_eq.1 h1 with e | e
  · exact e
  · exact absurd e k.2
theorem txts_enc (l : List (List UInt8)) : txts (l.map tb10) = l.map encStr := by
  unfold txts
  rw [List.map_map]
  rfl
theorem map_tb10 (l : List (List UInt8)) : (l.map tb10).map bl = l := by
  rw [List.map_map]
  exact List.map_id l
/-- slices.Sort of a row that the call owns. -/
theorem sort10_any (ss : List (List UInt8)) (hn : ss.length ≤ 1000000) (B : Nat) (v : Value) (w : World) (h : OwnT w B v (ss.map tb10)) :
    Calls Try.prog 23 #[v] w fun e w' => e = .returned (.tuple #[]) ∧ OwnT w' B v ((ss.mergeSort fun x y => decide (x ≤ y)).map tb10) ∧ w.grownBy w' v.ownBlock := by
  have h' := h
  unfold OwnT at h'
  rw [txts_enc, List.length_map] at h'
  rcases h'.2 with ⟨rfl, h0⟩ | ⟨g, cap, cur, rfl, hbg, hg, hc, hcm, hcs, htake⟩
  · obtain rfl : ss = [] := List.length_eq_zero_iff.1 h0
    refine (Try.slices_Sort_string_none none 0 w).mono ?_
    rintro e w' ⟨rfl, rfl⟩
    exact ⟨rfl, by rw [List.mergeSort_nil]; exact h, ⟨rfl, rfl, rfl, Nat.le_refl _, fun _ _ _ => rfl⟩⟩
  · have hlt := (Array.getElem?_eq_some_iff.1 hg).1
    refine (Try.slices_Sort_string g 0 cap ss w (holds_of_block hg (by simpa using htake)) hlt (by omega)).mono ?_
    rintro e w' ⟨rfl, nn, os, rfl⟩
    refine ⟨rfl, ?_, grownBy_sorted _⟩
    unfold OwnT
    rw [txts_enc, List.length_map, List.length_mergeSort]
    exact ownsRow_sorted (by rw [List.length_mergeSort]) hbg hg hc hcm hcs

/-- Block p is somebody who has seen H; F: where what it holds lies. -/
def KnowAt (w : World) (F : Nat → Prop) (p : Nat) (H : List (List UInt8)) : Prop := ∃ m X, KP w p m X ∧ IsK H X ∧ X.length ≤ 2048 ∧ F p ∧ F m ∧ ∀ b, F b → b < w.heap.size
theorem KnowAt.foot {w : World} {F : Nat → Prop} {p : Nat} {H : List (List UInt8)} (h : KnowAt w F p H) : ∀ b, F b → b < w.heap.size := by
  obtain ⟨m, X, _, _, _, _, _, h⟩ := h
  exact h
theorem KnowAt.kept {w w' : World} {F : Nat → Prop} {p : Nat} {H : List (List UInt8)} (h : KnowAt w F p H) (hs : w.heap.size ≤ w'.heap.size) (hb : ∀ b, b < w.heap.size → F b → w'.heap[b]? = w.heap[b]?) : KnowAt w' F p H := by
  obtain ⟨m, X, h1, h2, h3, h4, h5, h6⟩ := h
  exact ⟨m, X, ⟨(hb p (h6 p h4) h4).trans h1.1, h1.2.of_block (hb m (h6 m h5) h5)⟩, h2, h3, h4, h5, fun b hf => Nat.lt_of_lt_of_le (h6 b hf) hs⟩

set_option maxHeartbeats 4000000 in
set_option maxRecDepth 100000 in
theorem know_list (F : Nat → Prop) (p : Nat) (H : List (List UInt8)) (w : World) (h : KnowAt w F p H) :
    Calls Try.prog 9 #[.pointer (some ⟨p, 0, none⟩)] w fun e w' => (∃ v L, e = .returned v ∧ OwnT w' w.heap.size v L ∧ SortK H (L.map bl)) ∧ Below w.heap.size w w' := by
  obtain ⟨m, X, hq, hI, hX, _, _, _⟩ := h
  have HQ := Lib.hid hq
  have HI := Lib.hid hI
  have HX := Lib.hid hX
  have cp := hq.cell
  have HSZ : Hid (∀ x ∈ X, x.length ≤ 281474976710656) := Lib.hid (fun x hx => by
    obtain ⟨y, h1, h2⟩ := (hI.2 x).1 hx
    have := (cl_valid h1).2.2
    rw [h2] at this
    omega)
  clear hq hI hX
  go_enter Try.func9, Try.ntmps9
  go_wp2_with (first | (at_range; refine wpList_range10 rfl _ rfl m X rfl HQ.out.2 ?_; intro w0 D hD hrg0 hg0 hs0) | fail)
  go_frame
  have HD := Lib.hid hD
  have BG : Hid (Below w.heap.size w w0) := Lib.hid ((Below.refl _ _).grown hg0 (Nat.le_refl _) (fun j hj => by cases hj))
  have HRG := Lib.hid hrg0
  clear hD hrg0 hg0 hs0
  go_loopw [3] (fun v3 wr => ∃ (left : Lit → Bool) (cnt : Nat) (ss : List (List UInt8)), Hid (wr.ranges Try.prog 9 lockE m w.heap.size X.length D left cnt) ∧ Hid (Collected D left ss) ∧ Hid (∀ s ∈ ss, s ∈ X) ∧ Hid (OwnT wr w.heap.size v3 (ss.map tb10)) ∧ Hid (Below w.heap.size w wr)) (fun _ wr => wr.rangeLeft m w.heap.size)
  case atStart => exact ⟨_, _, [], HRG, Lib.hid (Collected.start D), Lib.hid (fun s hs => by cases hs), Lib.hid (ownT_nil _ _), BG⟩
  case round =>
    obtain ⟨left, cnt, ss, hrg, hC, hin, hown, hb⟩ := hrel
    have HSL : Hid (ss.length ≤ 1000000) := Lib.hid (by have h1 := nodup_len hC.out.1 hin.out; have h2 := HX.out; omega)
    go_wp2_with (first | (at_next; refine wpList_next10 rfl _ rfl m w.heap.size X ss D left cnt rfl hrg.out HD.out hC.out ?_ ?_) | fail)
    · intro hnd hall
      have HS := Lib.hid (sort10_any ss HSL.out w.heap.size u3 wr hown.out)
      have HK : Hid (SortK H (((ss.mergeSort fun x y => decide (x ≤ y)).map tb10).map bl)) := Lib.hid (by
        rw [map_tb10]
        exact ⟨sort_sorted hnd, fun s => by rw [(List.mergeSort_perm ss _).mem_iff, hall, HI.out.2]⟩)
      clear hnd hall
      go_wp2_with fail
      refine HS.out.mono ?_; rintro e w1 ⟨rfl, ho, hg⟩
      have O1 := Lib.hid ho
      have B1 := Lib.hid (hb.out.grown hg hb.out.size (fun j hj => own_lowB10 hown.out hj))
      clear ho hg
      go_wp2_with fail
      go_ret
      exact ⟨⟨_, _, rfl, O1.out, HK.out⟩, B1.out⟩
    · intro x left' w1 cnt' hx hns hC' hrg' hlt hg1 hs1 hen
      have HCL := Lib.hid (fun V => clone_any (tb10 x) V (by rw [size_bl]; exact HSZ.out x hx))
      have HEQ : Hid ((ss ++ [x]).map tb10 = ss.map tb10 ++ [tb10 x]) := Lib.hid (by rw [List.map_append]; rfl)
      have HIN : Hid (∀ s ∈ ss ++ [x], s ∈ X) := Lib.hid (fun s hs => by
        rcases List.mem_append.1 hs with hs | hs
        · exact hin.out s hs
        · rw [List.mem_singleton.1 hs]; exact hx)
      have R1 := Lib.hid hrg'
      have C1 := Lib.hid hC'
      have HLT := Lib.hid hlt
      have B1 := Lib.hid (hb.out.grown hg1 hb.out.size (fun j hj => by cases hj; exact Nat.le_refl _))
      have O1 : Hid (OwnT w1 w.heap.size u3 (ss.map tb10)) := Lib.hid (hown.out.kept hg1 (.inr (range_ne hrg.out hown.out).2.symm))
      have HLL : Hid ((ss.map tb10).length ≤ 1000000000) := Lib.hid (by rw [List.length_map]; have := HSL.out; omega)
      generalize tb10 x = sx at *
      clear hx hns hC' hrg' hlt hg1 hs1
      go_wp2_with fail
      refine (HCL.out _).mono ?_; rintro e w2 ⟨rfl, b2⟩
      have B2 := Lib.hid (B1.out.trans (b2.mono B1.out.size))
      have O2 := Lib.hid (ownT_below O1.out b2)
      have R2 := Lib.hid (range_below R1.out b2)
      have HS2 := Lib.hid B2.out.size
      clear b2
      go_wp2_with (at_builtin; refine wpList_app10 rfl _ _ rfl rfl sx rfl rfl O2.out HS2.out HLL.out ?_; intro v' w5 hown5 hgrow hloc)
      have RN := range_ne (range_below R2.out ((Below.refl w2.heap.size w2).alloc (Nat.le_refl _) (.cells #[.string sx] 9))) (ownT_below O2.out ((Below.refl w2.heap.size w2).alloc (Nat.le_refl _) (.cells #[.string sx] 9)))
      have R5 := Lib.hid ((range_below R2.out ((Below.refl w2.heap.size w2).alloc (Nat.le_refl _) (.cells #[.string sx] 9))).kept hgrow RN.1 RN.2)
      have B5 := Lib.hid ((B2.out.trans (((Below.refl w2.heap.size w2).alloc (Nat.le_refl _) (.cells #[.string sx] 9)).mono B2.out.size)).grown hgrow (by simp; have := HS2.out; omega) (fun j hj => own_lowB10 O2.out hj))
      have O5 := Lib.hid hown5
      rw [← HEQ.out] at O5
      clear hown5 hgrow hloc RN
      go_roundw
      case rel => exact ⟨left', cnt', ss ++ [x], R5, C1, HIN, O5, B5⟩
      case measure => rw [R5.out.left_eq, hrg.out.left_eq]; exact HLT.out
set_option maxRecDepth 100000 in
theorem know_len (F : Nat → Prop) (p : Nat) (H : List (List UInt8)) (w : World) (h : KnowAt w F p H) :
    Calls Try.prog 20 #[.pointer (some ⟨p, 0, none⟩)] w fun e w' => e = .returned (.int .i64 (cntP H)) ∧ Below w.heap.size w w' := by
  obtain ⟨m, X, hq, hI, hX, _, _, _⟩ := h
  have HQ := Lib.hid hq
  have HE := Lib.hid (cnt_eq hI)
  have cp := hq.cell
  clear hq hI hX
  go_enter Try.func20, Try.ntmps20
  go_wp2_with (first | (at_len; refine wpList_len10 rfl _ rfl m X (cntP H) HE.out rfl HQ.out.2 ?_) | fail)
  go_ret
  exact ⟨rfl, Below.refl _ _⟩
set_option maxRecDepth 100000 in
theorem know_nil_list (w : World) : Calls Try.prog 9 #[.pointer none] w fun e w' => e = .returned (.slice none 0 0) ∧ Below w.heap.size w w' := by
  go_enter Try.func9, Try.ntmps9
  go_wp2_with fail
  go_ret
  exact ⟨rfl, Below.refl _ _⟩
set_option maxRecDepth 100000 in
theorem know_nil_len (w : World) : Calls Try.prog 20 #[.pointer none] w fun e w' => e = .returned (.int .i64 0) ∧ Below w.heap.size w w' := by
  go_enter Try.func20, Try.ntmps20
  go_wp2_with fail
  go_ret
  exact ⟨rfl, Below.refl _ _⟩
end Go.Proofs.Ytkebfabmcajbmaa.Pl
