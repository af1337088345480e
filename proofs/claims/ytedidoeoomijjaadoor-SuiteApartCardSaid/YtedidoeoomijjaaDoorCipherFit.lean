/- What cipher's fitting answers: the keys if the tag fits, none otherwise. -/
import Derived.Test.YtedidoeoomijjaaDoorCipherSeal
import Derived.Test.YtedidoeoomijjaaDoorSuiteD3
namespace Go.Proofs.YtedidoeoomijjaaDoor.Pl
open Go.RowKit

def noKeys : Value := .agg #[.pointer none, .pointer none]
def FitPost (k : List Nat) (w : World) (e : Ending) (w' : World) : Prop := ∃ p q, e = .returned (keysV p q) ∧ KeysAt w' p q k ∧ Below w.heap.size w w'
def UnfitPost (w : World) (e : Ending) (w' : World) : Prop := e = .returned noKeys ∧ Below w.heap.size w w'

def FitIf (T tag : ByteArray) (k : List Nat) (w : World) (e : Ending) (w' : World) : Prop := if tag = T then FitPost k w e w' else UnfitPost w e w'
theorem fitIf_yes {T tag : ByteArray} {k : List Nat} {w : World} {e : Ending} {w' : World} (h : tag = T) (hp : FitPost k w e w') : FitIf T tag k w e w' := by unfold FitIf; rw [if_pos h]; exact hp
theorem fitIf_no {T tag : ByteArray} {k : List Nat} {w : World} {e : Ending} {w' : World} (h : tag ≠ T) (hp : UnfitPost w e w') : FitIf T tag k w e w' := by unfold FitIf; rw [if_neg h]; exact hp
theorem none_info : (Tryd.prog.info? 109).map (·.size) = some (#[Value.pointer none, .pointer none].size) := by kernel_rfl
theorem none_one : (#[Value.pointer none, .pointer none]).all (·.oneCell') = true := by
  rw [Array.all_eq_true_iff_forall_mem]
  intro v hv
  simp only [List.mem_toArray, List.mem_cons, List.not_mem_nil, or_false] at hv
  rcases hv with rfl | rfl <;> rfl

set_option maxHeartbeats 1000000 in
set_option maxRecDepth 100000 in
theorem fitting_any (key hidden tag : ByteArray) (hk : key.size ≤ 1000000) (hh : hidden.size ≤ 1000000) (w : World) (hT : Tab w) :
    Calls Tryd.prog 119 #[.string key, .string hidden, .string tag] w (FitIf (bytesOf (tagOf (tkey (nums key)) (nums hidden))) tag (nums key) w) := by
  have hz := zero_keys
  have B0 : Hid (Below w.heap.size w (w.alloc (.cells #[.pointer none, .pointer none] 109))) := Lib.hid ((Below.refl _ _).alloc (Nat.le_refl _) _)
  have T0 := Lib.hid (hT.below B0.out)
  have C0 := Lib.hid (Go.heap_alloc_new w (.cells #[.pointer none, .pointer none] 109))
  have HK := Lib.hid hk
  have HH := Lib.hid hh
  clear hT hk hh
  go_enter Tryd.func119, Tryd.ntmps119
  go_wp2_with fail
  generalize w.alloc (.cells #[.pointer none, .pointer none] 109) = W0 at *
  refine (ready_any key (by have := HK.out; omega) W0 T0.out).mono ?_; rintro e w1 ⟨p, q, rfl, k1, b1⟩
  have KI := Lib.hid (keysIn_new w1 p q _ k1 (T0.out.below b1))
  have B1 := Lib.hid ((below_step B0.out b1).alloc (below_step B0.out b1).size (.cells #[.pointer (some ⟨p, 0, none⟩), .pointer (some ⟨q, 0, none⟩)] 109))
  have C1 := Lib.hid (heap_alloc (heap_below b1 C0.out) (.cells #[.pointer (some ⟨p, 0, none⟩), .pointer (some ⟨q, 0, none⟩)] 109))
  have N1 := Lib.hid (Go.heap_alloc_new w1 (.cells #[.pointer none, .pointer none] 109))
  have hc1 : ((w1.alloc (.cells #[.pointer none, .pointer none] 109)).setRow w1.heap.size #[.pointer (some ⟨p, 0, none⟩), .pointer (some ⟨q, 0, none⟩)]).cell? ⟨w1.heap.size, 1, none⟩ = some (.pointer (some ⟨q, 0, none⟩)) := cell_of_row _ _ _ _ _ _ (setRow_heap _ _ _ _ _ _ N1.out)
  have HL : Hid (W0.heap.size ≤ w1.heap.size ∧ w.heap.size < W0.heap.size) := Lib.hid ⟨b1.size, (Array.getElem?_eq_some_iff.1 C0.out).1⟩
  clear k1 b1
  unfold keysV
  go_wp2_with (first
    | (refine wpList_store_row rfl 109 _ _ rfl w1.heap.size #[.pointer (some ⟨p, 0, none⟩), .pointer (some ⟨q, 0, none⟩)] rfl rfl 109 #[.pointer none, .pointer none] N1.out (keys_info p q) rfl (keys_one p q) ?_))
  rw [World.setRow_alloc_new]
  generalize w1.alloc (.cells #[.pointer (some ⟨p, 0, none⟩), .pointer (some ⟨q, 0, none⟩)] 109) = W at *
  generalize w1.heap.size = b at *
  refine (keysum_list q (tkey (nums key)) (tkey_bytes _) hidden (by have := HH.out; omega) W KI.out.2.2 KI.out.2.1.2).mono ?_; rintro e w2 ⟨rfl, b2⟩
  have K2 := Lib.hid (KI.out.below b2)
  have B2 := Lib.hid (below_step B1.out b2)
  have C2 := Lib.hid (heap_below b2 C1.out)
  have HS : Hid ((bytesOf (tagOf (tkey (nums key)) (nums hidden))).size = 32) := Lib.hid (by rw [bytesOf_size, tagOf_length])
  clear b2
  generalize bytesOf (tagOf (tkey (nums key)) (nums hidden)) = T at *
  by_cases ht : tag = T
  · have HR : Hid (true = decide (T = tag)) := Lib.hid (by rw [ht]; simp)
    have HI := Lib.hid ht
    clear ht
    go_wp2_with fail
    refine (same_any T tag (by have := HS.out; omega) w2 true HR.out).mono ?_; rintro e w3 ⟨rfl, b3⟩
    have K3 := Lib.hid (K2.out.below b3)
    have B3 := Lib.hid (below_step B2.out b3)
    have C3 := Lib.hid (heap_below b3 C2.out)
    clear b3
    go_wp2_with (first
      | (refine wpList_load_row rfl 109 _ rfl b rfl 109 _ _ _ K3.out.1 Tryd.underlying109 rfl (keys_info p q) ?_)
      | (refine wpList_store_row rfl 109 _ _ rfl w.heap.size #[.pointer (some ⟨p, 0, none⟩), .pointer (some ⟨q, 0, none⟩)] rfl rfl 109 #[.pointer none, .pointer none] C3.out (keys_info p q) rfl (keys_one p q) ?_))
    have hbut : But w.heap.size w3 (w3.setRow w.heap.size #[.pointer (some ⟨p, 0, none⟩), .pointer (some ⟨q, 0, none⟩)]) := (But.refl _ _).setRow _
    refine bodyPost_ret (v := keysV p q) ?_ rfl (fitIf_yes HI.out ⟨p, q, rfl, KeysAt.but K3.out.2.1 C3.out (by decide) (by decide) hbut, hbut.below B3.out (Nat.le_refl _) B3.out.size⟩)
    exact results_cell_row rfl _ _ w.heap.size 109 _ (0, 0) _ rfl (setRow_heap _ _ _ _ _ _ C3.out) Tryd.underlying109 rfl (keys_info p q)
  · have HR : Hid (false = decide (T = tag)) := Lib.hid (by simp; exact fun e => ht e.symm)
    have HI := Lib.hid ht
    clear ht
    go_wp2_with fail
    refine (same_any T tag (by have := HS.out; omega) w2 false HR.out).mono ?_; rintro e w3 ⟨rfl, b3⟩
    have B3 := Lib.hid (below_step B2.out b3)
    have C3 := Lib.hid (heap_below b3 C2.out)
    clear b3
    go_wp2_with (first
      | (refine wpList_store_row rfl 109 _ _ rfl w.heap.size #[.pointer none, .pointer none] rfl rfl 109 #[.pointer none, .pointer none] C3.out none_info rfl none_one ?_))
    have hbut : But w.heap.size w3 (w3.setRow w.heap.size #[.pointer none, .pointer none]) := (But.refl _ _).setRow _
    refine bodyPost_ret (v := noKeys) ?_ rfl (fitIf_no HI.out ⟨rfl, hbut.below B3.out (Nat.le_refl _) B3.out.size⟩)
    exact results_cell_row rfl _ _ w.heap.size 109 _ (0, 0) _ rfl (setRow_heap _ _ _ _ _ _ C3.out) Tryd.underlying109 rfl none_info
end Go.Proofs.YtedidoeoomijjaaDoor.Pl
