/- What the program's own know does of one that is to be listed: observe's first closure. -/
import Derived.Test.YtkebfabmcajbmaaKnowSt
namespace Go.Proofs.Ytkebfabmcajbmaa.Pl
open Go.RowKit

set_option maxHeartbeats 4000000 in
set_option maxRecDepth 100000 in
theorem listed10_any (x : ByteArray) (hx : x.size ≤ 281474976710656) (w : World) (B kb fb lb tb p m : Nat) (X0 : List (List UInt8)) (v : Value) (fr : List ByteArray) (h : St10 w B kb fb lb tb p m (X0 ++ fr.map bl) v fr) (hlen : (X0 ++ fr.map bl).length ≤ 1000000000) :
    Calls Try.prog 39 #[.string x, .agg #[.string (tb10 (lockP (bl x)).1), .string (tb10 (lockP (bl x)).2)], ptr10 kb, ptr10 fb] w (Told10 w B kb fb lb tb p m X0 v fr (insL (X0 ++ fr.map bl) (bl x))) := by
  have HZ := Lib.hid hx
  generalize hk1 : tb10 (lockP (bl x)).1 = k1
  generalize hk2 : tb10 (lockP (bl x)).2 = k2
  have BB := Lib.hid ((Below.refl w.heap.size w).alloc (Nat.le_refl _) (.cells #[.string k1, .string k2] 60))
  have HQ := Lib.hid h
  have HS := Lib.hid (h.below BB.out)
  have ck : (w.alloc (.cells #[.string k1, .string k2] 60)).cell? ⟨kb, 0, none⟩ = some (ptr10 p) := cell_of_row _ _ _ _ _ _ HS.out.ck
  have cp : (w.alloc (.cells #[.string k1, .string k2] 60)).cell? ⟨p, 0, none⟩ = some (.map (some m)) := HS.out.kp.cell
  by_cases hin : bl x ∈ X0 ++ fr.map bl
  · have HI : Hid (decide (bl x ∈ X0 ++ fr.map bl) = true) := Lib.hid (decide_eq_true hin)
    have HR : Hid (X0 ++ fr.map bl = insL (X0 ++ fr.map bl) (bl x)) := Lib.hid (by unfold insL; rw [if_pos hin])
    clear h hx hin hk1 hk2 hlen
    go_enter Try.func39, Try.ntmps39
    go_wp2_with (first | (at_lookup; refine wpList_look10 rfl _ _ rfl m (X0 ++ fr.map bl) x true rfl rfl HS.out.kp.2 HZ.out HI.out ?_; intro k y) | fail)
    go_end0
    exact told10_same HQ.out (((Below.refl w.heap.size w).alloc (Nat.le_refl _) _).alloc (by simp) _) HR.out _
  · have HI : Hid (decide (bl x ∈ X0 ++ fr.map bl) = false) := Lib.hid (decide_eq_false hin)
    have HR : Hid (X0 ++ (fr ++ [x]).map bl = insL (X0 ++ fr.map bl) (bl x)) := Lib.hid (by unfold insL; rw [if_neg hin, List.map_append, List.append_assoc]; rfl)
    have HIN := Lib.hid hin
    have HLEN := Lib.hid hlen
    have HKV : Hid (mkLock (tb10 (lockP (bl x)).1, tb10 (lockP (bl x)).2) = .agg #[.string k1, .string k2]) := Lib.hid (by rw [hk1, hk2])
    clear h hx hin hk1 hk2 hlen
    go_enter Try.func39, Try.ntmps39
    go_wp2_with (first | (at_lookup; refine wpList_look10 rfl _ _ rfl m (X0 ++ fr.map bl) x false rfl rfl HS.out.kp.2 HZ.out HI.out ?_; intro k y) | fail)
    obtain ⟨W2, hW2⟩ : ∃ W2, W2 = (w.alloc (.cells #[.string k1, .string k2] 60)).alloc (.cells #[.string k, .string y] 60) := ⟨_, rfl⟩
    have B2 : Hid (Below w.heap.size w W2) := Lib.hid (by rw [hW2]; exact ((Below.refl w.heap.size w).alloc (Nat.le_refl _) _).alloc (by simp) _)
    have S2 := Lib.hid ((HQ.out.below B2.out).below (drew10 W2))
    have cb : W2.heap[w.heap.size]? = some (.cells #[.string k1, .string k2] 60 (0, 0)) := by rw [hW2, Below.heap_alloc _ _ _ (by simp)]; exact Go.heap_alloc_new w _
    rw [← hW2]
    obtain ⟨w3, hrun, hm3, ht3⟩ := S2.out.kp.2.store HLEN.out x HZ.out HIN.out
    rw [HKV.out] at hrun
    obtain ⟨s3, l3, k3⟩ := S2.out.put hm3 ht3
    have cb3 := k3 (b := w.heap.size) (show W2.drew.heap[w.heap.size]? = _ from cb)
    have KS : W2.drew.cell? ⟨kb, 0, none⟩ = some (ptr10 p) ∧ W2.drew.cell? ⟨p, 0, none⟩ = some (.map (some m)) ∧ W2.drew.cell? ⟨w.heap.size, 0, none⟩ = some (.string k1) ∧ W2.drew.cell? ⟨w.heap.size, 1, none⟩ = some (.string k2) := ⟨cell_of_row _ _ _ _ _ _ S2.out.ck, S2.out.kp.cell, cell_of_row _ _ _ _ _ _ cb, cell_of_row _ _ _ _ _ _ cb⟩
    have KA : w3.cell? ⟨kb, 0, none⟩ = some (ptr10 p) ∧ w3.cell? ⟨p, 0, none⟩ = some (.map (some m)) ∧ w3.cell? ⟨w.heap.size, 0, none⟩ = some (.string k1) ∧ w3.cell? ⟨w.heap.size, 1, none⟩ = some (.string k2) := ⟨cell_of_row _ _ _ _ _ _ s3.ck, s3.kp.cell, cell_of_row _ _ _ _ _ _ cb3, cell_of_row _ _ _ _ _ _ cb3⟩
    have cf3 : w3.cell? ⟨fb, 0, none⟩ = some v := cell_of_row _ _ _ _ _ _ s3.cf
    have S3 := Lib.hid s3
    have L3 := Lib.hid ((Leaves10.refl B2.out).trans ((Leaves10.refl (drew10 W2)).trans l3))
    have HFL : Hid (fr.length ≤ 1000000000) := Lib.hid (by have := HLEN.out; rw [List.length_append, List.length_map] at this; omega)
    clear hm3 ht3 s3 l3 k3 cb cb3 ck cp HS BB hW2
    go_region_held3 (fun W => W.cell? ⟨kb, 0, none⟩ = some (ptr10 p) ∧ W.cell? ⟨p, 0, none⟩ = some (.map (some m)) ∧ W.cell? ⟨w.heap.size, 0, none⟩ = some (.string k1) ∧ W.cell? ⟨w.heap.size, 1, none⟩ = some (.string k2)) (first | assumption | exact KS | exact KA) (first | fail)
    clear hrun KS KA
    obtain ⟨a3, c3, rfl, _⟩ := ownT_row S3.out.own
    go_wp2_with (at_builtin; refine wpList_app10 rfl _ _ rfl rfl x rfl rfl S3.out.own S3.out.size HFL.out ?_; intro v' w4 hown hgrow hloc; obtain ⟨h1, h2, h3⟩ := S3.out.push hown hgrow hloc; obtain ⟨a4, c4, rfl, _⟩ := ownT_row hown; rw [List.length_append, List.length_singleton] at h2 h3; have cf4 : w4.cell? ⟨fb, 0, none⟩ = some (.slice a3 fr.length c3) := cell_of_row _ _ _ _ _ _ h1; have fq4 : w4.frozen? ⟨fb, 0, none⟩ = false := (show Boxed w4 fb 22 (.slice a3 fr.length c3) from h1).frozen; have S4 := Lib.hid h2; have L4 := Lib.hid (L3.out.trans h3); clear h1 h2 h3 hown hgrow hloc cf3)
    go_end0
    refine ⟨⟨_, rfl⟩, _, fr ++ [x], ?_, HR.out, List.prefix_append _ _, by rw [List.length_append, List.length_singleton]; exact L4.out⟩
    have e : X0 ++ (fr ++ [x]).map bl = X0 ++ fr.map bl ++ [bl x] := by rw [List.map_append, List.append_assoc]; rfl
    rw [e]
    exact S4.out
end Go.Proofs.Ytkebfabmcajbmaa.Pl
