/- What cipher.ready answers: the two keys of a key, ready. -/
import Derived.Test.YtogadffbnoinmaaDoorHmacKeysum
import Derived.Test.YtogadffbnoinmaaDoorCipherSpec
namespace Go.Proofs.YtogadffbnoinmaaDoor.Pl
open Go.RowKit

theorem zero_keys (w : World) : (zeroValue 36).run Tryd.prog w = .ok (.agg #[.pointer none, .pointer none]) w := by kernel_rfl
/-- The keys of a key, as a value. -/
def keysV (p q : Nat) : Value := .agg #[.pointer (some ⟨p, 0, none⟩), .pointer (some ⟨q, 0, none⟩)]
theorem keys_one (p q : Nat) : (#[Value.pointer (some ⟨p, 0, none⟩), .pointer (some ⟨q, 0, none⟩)]).all (·.oneCell') = true := by
  rw [Array.all_eq_true_iff_forall_mem]
  intro v hv
  simp only [List.mem_toArray, List.mem_cons, List.not_mem_nil, or_false] at hv
  rcases hv with rfl | rfl <;> rfl
/-- Both keys of the key k are ready. -/
def KeysAt (w : World) (p q : Nat) (k : List Nat) : Prop := KeyAt w p (skey k) ∧ KeyAt w q (tkey k)
theorem KeysAt.below {w w' : World} {p q : Nat} {k : List Nat} (h : KeysAt w p q k) (hb : Below w.heap.size w w') : KeysAt w' p q k := ⟨h.1.below hb, h.2.below hb⟩
/-- What turns a block that is neither a key nor a hash leaves a key as it is. -/
theorem KeyAt.but {w w' : World} {p b : Nat} {k : List Nat} {cs : Array Value} {t : TypeId} {e : Nat × Nat} (h : KeyAt w p k) (hc : w.heap[b]? = some (.cells cs t e)) (h1 : t ≠ 49) (h2 : t ≠ 67) (hb : But b w w') : KeyAt w' p k := by
  obtain ⟨i, o, hp, hi, ho⟩ := h
  have ne : ∀ {j : Nat} {cs' : Array Value} {t' : TypeId} {e' : Nat × Nat}, w.heap[j]? = some (.cells cs' t' e') → t ≠ t' → j ≠ b := by
    intro j cs' t' e' hj ht hjb
    rw [hjb, hc] at hj
    injection hj with hj
    injection hj with _ hj
    exact ht hj
  refine ⟨i, o, hb.heap hp (ne hp h1), hi.but hb ?_, ho.but hb ?_⟩
  · obtain ⟨_, hh, _⟩ := hi; exact ne hh.1 h2
  · obtain ⟨_, hh, _⟩ := ho; exact ne hh.1 h2
theorem KeysAt.but {w w' : World} {p q b : Nat} {k : List Nat} {cs : Array Value} {t : TypeId} {e : Nat × Nat} (h : KeysAt w p q k) (hc : w.heap[b]? = some (.cells cs t e)) (h1 : t ≠ 49) (h2 : t ≠ 67) (hb : But b w w') : KeysAt w' p q k :=
  ⟨h.1.but hc h1 h2 hb, h.2.but hc h1 h2 hb⟩
def ReadyPost (k : List Nat) (w : World) (e : Ending) (w' : World) : Prop := ∃ p q, e = .returned (keysV p q) ∧ KeysAt w' p q k ∧ Below w.heap.size w w'

theorem nums_stream : nums ⟨#[115, 116, 114, 101, 97, 109]⟩ = streamL := by decide
theorem nums_tag : nums ⟨#[116, 97, 103]⟩ = tagL := by decide
theorem streamkey_any (p : Nat) (k : ByteArray) (w : World) (hT : Tab w) (hK : KeyAt w p (nums k)) :
    Calls Tryd.prog 16 #[.pointer (some ⟨p, 0, none⟩), .string ⟨#[115, 116, 114, 101, 97, 109]⟩] w fun e w' => e = .returned (.string (bytesOf (skey (nums k)))) ∧ Below w.heap.size w w' := by
  have h := keysum_any p k ⟨#[115, 116, 114, 101, 97, 109]⟩ (by decide) w hT hK
  rwa [nums_stream] at h
theorem tagkey_any (p : Nat) (k : ByteArray) (w : World) (hT : Tab w) (hK : KeyAt w p (nums k)) :
    Calls Tryd.prog 16 #[.pointer (some ⟨p, 0, none⟩), .string ⟨#[116, 97, 103]⟩] w fun e w' => e = .returned (.string (bytesOf (tkey (nums k)))) ∧ Below w.heap.size w w' := by
  have h := keysum_any p k ⟨#[116, 97, 103]⟩ (by decide) w hT hK
  rwa [nums_tag] at h
theorem hnew_bytes (l : List Nat) (hb : Bytes l) (hl : l.length ≤ 1000) (w : World) (hT : Tab w) :
    Calls Tryd.prog 20 #[.string (bytesOf l)] w fun e w' => ∃ p, e = .returned (.pointer (some ⟨p, 0, none⟩)) ∧ KeyAt w' p l ∧ w.heap.size ≤ p ∧ Below w.heap.size w w' := by
  have h := hnew_any (bytesOf l) (by rw [bytesOf_size]; omega) w hT
  rwa [nums_bytesOf hb] at h

set_option maxHeartbeats 1000000 in
set_option maxRecDepth 100000 in
theorem ready_any (key : ByteArray) (hl : key.size < 2000000000000000000) (w : World) (hT : Tab w) :
    Calls Tryd.prog 14 #[.string key] w (ReadyPost (nums key) w) := by
  have hz := zero_keys
  have B1 : Hid (Below w.heap.size w (w.alloc (.cells #[.pointer none, .pointer none] 36))) := Lib.hid ((Below.refl _ _).alloc (Nat.le_refl _) _)
  have T1 := Lib.hid (hT.below B1.out)
  have C1 := Lib.hid (Go.heap_alloc_new w (.cells #[.pointer none, .pointer none] 36))
  have S1 := Lib.hid (hnew_bytes (skey (nums key)) (skey_bytes _) (by rw [skey_length]; decide))
  have S2 := Lib.hid (hnew_bytes (tkey (nums key)) (tkey_bytes _) (by rw [tkey_length]; decide))
  have HL := Lib.hid hl
  clear hT hl
  go_enter Tryd.func14, Tryd.ntmps14
  go_wp2_with fail
  generalize w.alloc (.cells #[.pointer none, .pointer none] 36) = W at *
  refine (hnew_any key (by have := HL.out; omega) W T1.out).mono ?_; rintro e w1 ⟨p0, rfl, k1, _, b1⟩
  have K1 := Lib.hid k1
  have B2 := Lib.hid (below_step B1.out b1)
  have T2 := Lib.hid (T1.out.below b1)
  have C2 := Lib.hid (heap_below b1 C1.out)
  clear k1 b1
  go_wp2_with fail
  refine (streamkey_any p0 key w1 T2.out K1.out).mono ?_; rintro e w2 ⟨rfl, b2⟩
  have B3 := Lib.hid (below_step B2.out b2)
  have T3 := Lib.hid (T2.out.below b2)
  have C3 := Lib.hid (heap_below b2 C2.out)
  have K3 := Lib.hid (K1.out.below b2)
  clear b2
  go_wp2_with fail
  refine (S1.out w2 T3.out).mono ?_; rintro e w3 ⟨p, rfl, p3, _, b3⟩
  have P3 := Lib.hid p3
  have B4 := Lib.hid (below_step B3.out b3)
  have T4 := Lib.hid (T3.out.below b3)
  have C4 := Lib.hid (heap_below b3 C3.out)
  have K4 := Lib.hid (K3.out.below b3)
  clear p3 b3
  go_wp2_with fail
  refine (tagkey_any p0 key w3 T4.out K4.out).mono ?_; rintro e w4 ⟨rfl, b4⟩
  have B5 := Lib.hid (below_step B4.out b4)
  have T5 := Lib.hid (T4.out.below b4)
  have C5 := Lib.hid (heap_below b4 C4.out)
  have P5 := Lib.hid (P3.out.below b4)
  clear b4
  go_wp2_with fail
  refine (S2.out w4 T5.out).mono ?_; rintro e w5 ⟨q, rfl, q5, _, b5⟩
  have Q5 := Lib.hid q5
  have B6 := Lib.hid (below_step B5.out b5)
  have C6 := Lib.hid (heap_below b5 C5.out)
  have P6 := Lib.hid (P5.out.below b5)
  have HS : Hid ((Tryd.prog.info? 36).map (·.size) = some (#[Value.pointer (some ⟨p, 0, none⟩), .pointer (some ⟨q, 0, none⟩)].size)) := Lib.hid (by kernel_rfl)
  have HN : Hid (w.heap.size < w5.heap.size) := Lib.hid (Array.getElem?_eq_some_iff.1 C6.out).1
  clear q5 b5
  go_wp2_with (first
    | (refine wpList_store_row rfl 36 _ _ rfl w.heap.size #[.pointer (some ⟨p, 0, none⟩), .pointer (some ⟨q, 0, none⟩)] rfl rfl 36 #[.pointer none, .pointer none] C6.out HS.out rfl (keys_one p q) ?_))
  have hbut : But w.heap.size w5 (w5.setRow w.heap.size #[.pointer (some ⟨p, 0, none⟩), .pointer (some ⟨q, 0, none⟩)]) := (But.refl _ _).setRow _
  refine bodyPost_ret (v := keysV p q) ?_ rfl (show ReadyPost (nums key) w (.returned (keysV p q)) _ from ⟨p, q, rfl, KeysAt.but ⟨P6.out, Q5.out⟩ C6.out (by decide) (by decide) hbut, hbut.below B6.out (Nat.le_refl _) B6.out.size⟩)
  exact results_cell_row rfl _ _ w.heap.size 36 _ (0, 0) _ rfl (setRow_heap _ _ _ _ _ _ C6.out) Tryd.underlying36 rfl HS.out
end Go.Proofs.YtogadffbnoinmaaDoor.Pl
