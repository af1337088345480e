/- A key that is ready, in memory: its two sums under way; what begin, over answer. -/
import Derived.Test.YtogadffbnoinmaaDoorHmacSpec
namespace Go.Proofs.YtogadffbnoinmaaDoor.Pl
open Go.RowKit

theorem zero_begun (w : World) : (zeroValue 47).run Tryd.prog w = .ok (.agg #[.pointer none]) w := by kernel_rfl
theorem But.heap {b c : Nat} {w w' : World} {o : Obj} (hb : But b w w') (h : w.heap[c]? = some o) (hc : c ≠ b) : w'.heap[c]? = some o := by
  rw [hb.block c (Array.getElem?_eq_some_iff.1 h).1 hc]; exact h
set_option maxRecDepth 100000 in
theorem begin_any (s : ByteArray) (hl : s.size < 2305843009213693952) (w : World) (hT : Tab w) :
    Calls Tryd.prog 27 #[.string s] w fun e w' => e = .returned (.agg #[.pointer (some ⟨w.heap.size + 1, 0, none⟩)]) ∧ Holds w' (w.heap.size + 1) (nums s) ∧ Below w.heap.size w w' := by
  have HL := Lib.hid hl
  have hz := zero_begun
  have B1 : Hid (Below w.heap.size w (w.alloc (.cells #[.pointer none] 47))) := Lib.hid ((Below.refl _ _).alloc (Nat.le_refl _) _)
  have T1 := Lib.hid (hT.below B1.out)
  have S1 := Lib.hid (size_alloc' w (.cells #[.pointer none] 47))
  have C1 := Lib.hid (Go.heap_alloc_new w (.cells #[.pointer none] 47))
  clear hT hl
  go_enter Tryd.func27, Tryd.ntmps27
  go_wp2_with fail
  generalize w.alloc (.cells #[.pointer none] 47) = W at *
  refine (new_holds W).mono ?_; rintro e w1 ⟨rfl, h1, hz1, hb1⟩
  rw [S1.out] at h1 hz1 ⊢
  have B2 := Lib.hid (B1.out.trans (hb1.mono B1.out.size))
  have T2 := Lib.hid (T1.out.below hb1)
  have C2 := Lib.hid (heap_below hb1 C1.out)
  have H2 := Lib.hid h1
  have Z2 := Lib.hid hz1
  clear h1 hb1 hz1
  go_wp2_with fail
  refine (write_any w1 (w.heap.size + 1) (by omega) [] nums_nil s (by have := HL.out; simp; omega) T2.out H2.out).mono ?_; rintro e w2 ⟨rfl, h2, hb2⟩
  rw [List.nil_append] at h2
  have C3 := hb2.heap C2.out (by omega)
  obtain ⟨c3, f3⟩ : w2.cell? ⟨w.heap.size, 0, none⟩ = some (.pointer none) ∧ w2.frozen? ⟨w.heap.size, 0, none⟩ = false := ⟨cell_of_row _ _ _ _ _ _ C3, frozen_of_row _ _ _ _ _ C3⟩
  have B3 := Lib.hid (hb2.below B2.out (by omega) B2.out.size)
  have H3 := Lib.hid h2
  have C4 := Lib.hid C3
  have HS : Hid ((Tryd.prog.info? 47).map (·.size) = some (#[Value.pointer (some ⟨w.heap.size + 1, 0, none⟩)].size)) := Lib.hid (by kernel_rfl)
  clear C3 hb2 h2
  go_wp2_with fail
  refine bodyPost_ret (v := .agg #[.pointer (some ⟨w.heap.size + 1, 0, none⟩)]) ?_ rfl ⟨rfl, H3.out.but (But.setCell (But.refl _ _) _ _) (by omega), B3.out.setCell (Nat.le_refl _) _⟩
  exact results_cell_row rfl _ _ w.heap.size 47 _ (0, 0) _ rfl (heap_setCell_same _ _ _ _ _ _ C4.out) Tryd.underlying47 rfl HS.out
set_option maxRecDepth 100000 in
theorem over_any (h : Nat) (m : List Nat) (hm : Bytes m) (s : ByteArray) (hl : m.length + s.size < 2305843009213693952) (w : World) (hT : Tab w) (hh : Holds w h m) :
    Calls Tryd.prog 22 #[.agg #[.pointer (some ⟨h, 0, none⟩)], .string s] w fun e w' => e = .returned (.string (bytesOf (digest (m ++ nums s)))) ∧ Below w.heap.size w w' := by
  have HL := Lib.hid hl
  have B1 : Hid (Below w.heap.size w (w.alloc (.cells #[.pointer (some ⟨h, 0, none⟩)] 47))) := Lib.hid ((Below.refl _ _).alloc (Nat.le_refl _) _)
  have T1 := Lib.hid (hT.below B1.out)
  have H1 := Lib.hid (hh.below B1.out)
  have HM := Lib.hid hm
  clear hT hl hh hm
  go_enter Tryd.func22, Tryd.ntmps22
  go_wp2_with fail
  generalize w.alloc (.cells #[.pointer (some ⟨h, 0, none⟩)] 47) = W at *
  refine (copy_holds W h m H1.out).mono ?_; rintro e w1 ⟨rfl, h1, hz1, hb1⟩
  have B2 := Lib.hid (B1.out.trans (hb1.mono B1.out.size))
  have T2 := Lib.hid (T1.out.below hb1)
  have H2 := Lib.hid h1
  have Z2 := Lib.hid (show 0 < W.heap.size by have := H1.out.lt; omega)
  clear h1 hb1 hz1
  go_wp2_with fail
  refine (write_any w1 W.heap.size Z2.out m HM.out s HL.out T2.out H2.out).mono ?_; rintro e w2 ⟨rfl, h2, hb2⟩
  have B3 := Lib.hid (hb2.below B2.out B1.out.size B2.out.size)
  have T3 := Lib.hid (hb2.tab Z2.out T2.out)
  have H3 := Lib.hid h2
  clear h2 hb2
  go_wp2_with fail
  refine (hsum_any w2 W.heap.size (m ++ nums s) (HM.out.append (nums_bytes s)) (by rw [List.length_append, nums_length]; exact HL.out) T3.out H3.out).mono ?_; rintro e w3 ⟨rfl, hb3⟩
  have B4 := Lib.hid (B3.out.trans (hb3.mono B3.out.size))
  clear hb3
  go_wp2_with fail
  go_ret
  exact ⟨rfl, B4.out⟩
end Go.Proofs.YtogadffbnoinmaaDoor.Pl
