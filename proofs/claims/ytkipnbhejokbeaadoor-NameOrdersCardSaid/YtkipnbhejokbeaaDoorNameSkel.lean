/- What Skeleton answers. -/
import Derived.Test.YtkipnbhejokbeaaDoorNameCheck
import Derived.Test.YtkipnbhejokbeaaDoorNameTable
import Derived.Test.YtkipnbhejokbeaaDoorNameBuilder
namespace Go.Proofs.YtkipnbhejokbeaaDoor.Pl
open Go.RowKit

theorem enc_le (r : Int) : (Lib.encodeRune r).length ≤ 4 := by
  have := Lib.encodeRuneZ_length r
  simpa [Lib.encodeRune] using this.2
theorem encL_le (l : List Int) : (encL l).length ≤ 4 * l.length := by
  induction l with
  | nil => simp [encL]
  | cons r l ih =>
    rw [encL_cons, List.length_append, List.length_cons]
    have := enc_le r
    omega
theorem lookZ_range {r : Int} (h0 : 0 ≤ r) (h1 : r ≤ 2147483647) : 0 ≤ lookZ r ∧ lookZ r ≤ 2147483647 := by
  rcases lookZ_or r with ⟨e, _⟩ | ⟨p, hp, _, e⟩
  · rw [e]; exact ⟨h0, h1⟩
  · rw [e]; have := (look_vals p hp).1; omega

set_option maxHeartbeats 1000000 in
set_option maxRecDepth 100000 in
theorem skel_no (s : ByteArray) (hs : s.size ≤ 9223372036854775807) (w : World) (hT : Chars w) (h : ¬ okL (runes s)) :
    Calls Tryd.prog 9 #[.string s] w fun e w' => e = .returned (.tuple #[.string ⟨#[]⟩, .int .i64 (checkL (runes s))]) ∧ Below w.heap.size w w' := by
  have HC := Lib.hid (check_any s hs w hT)
  have q : (checkL (runes s) != 0) = true := by rw [bne_iff_ne]; exact h
  generalize checkL (runes s) = c at *
  clear h hT hs
  go_enter Tryd.func9, Tryd.ntmps9
  go_wp2_with fail
  refine HC.out.mono ?_; rintro e w1 ⟨rfl, b1⟩
  have B1 := Lib.hid b1
  clear b1
  go_wp2_with fail
  go_ret2
  exact ⟨rfl, B1.out⟩

set_option maxHeartbeats 4000000 in
set_option maxRecDepth 100000 in
theorem skel_ok (s : ByteArray) (hs : s.size ≤ 9223372036854775807) (w : World) (hT : Chars w) (h : okL (runes s)) :
    Calls Tryd.prog 9 #[.string s] w fun e w' => e = .returned (.tuple #[.string (skelB s), .int .i64 0]) ∧ Below w.heap.size w w' := by
  have HC := Lib.hid (check_any s hs w hT)
  have HO := Lib.hid h
  have HL := Lib.hid (okL_length h)
  rw [show checkL (runes s) = 0 from h] at HC
  clear h hT hs
  go_enter Tryd.func9, Tryd.ntmps9
  go_wp2_with fail
  refine HC.out.mono ?_; rintro e w1 ⟨rfl, b1⟩
  have B1 := Lib.hid b1
  clear b1
  go_wp2_with fail
  refine (table_any w1).mono ?_; rintro e w2 ⟨m, rfl, l2, lt2, _, b2⟩
  have L2 := Lib.hid l2
  have M2 := Lib.hid lt2
  have B2 := Lib.hid (below_step B1.out b2)
  clear l2 lt2 b2
  go_wp2_with fail
  go_loopw [] (fun wr => ∃ (pos fuel : Nat) (acc : List Int), Hid (Lib.IsBuilder 42 5 w2.heap.size w2.heap.size (Lib.byteCells (encL (acc.map lookZ))) wr) ∧ Hid (wr.heap[w2.heap.size + 1]? = some (.stringIter s pos)) ∧ Hid (Below w2.heap.size w2 wr) ∧ Hid (acc ++ runesF s fuel pos = runes s) ∧ Hid (s.size ≤ pos + fuel)) (fun wr => s.size - wr.iterPos (w2.heap.size + 1))
  case atStart =>
    refine ⟨0, s.size, [], Lib.hid ((Lib.fresh_isBuilder 42 5 w2).elim (fun x => .inl (builder_alloc x _)) (fun x => .inr (builder_alloc x _))), Lib.hid ?_, Lib.hid (((Below.refl _ w2).alloc (Nat.le_refl _) _).alloc (by simp) _), Lib.hid rfl, Lib.hid (by omega)⟩
    have := World.iter_heap (w2.alloc (.cells #[.pointer none, .slice none 0 0] 42)) s 0
    simpa using this
  case round =>
    obtain ⟨pos, fuel, acc, hI, hit, hbw, hacc, hfu⟩ := hrel
    have hsz : w2.heap.size + 1 < wr.heap.size := (Array.getElem?_eq_some_iff.1 hit.out).1
    have HSZ := Lib.hid hsz
    have hlen : acc.length + (runesF s fuel pos).length ≤ 24 := by rw [← List.length_append, hacc.out]; exact HL.out
    have HE : Hid ((Lib.byteCells (encL (acc.map lookZ))).length + 4 ≤ 140737488355328) := Lib.hid (by
      have := encL_le (acc.map lookZ)
      rw [List.length_map] at this
      rw [Lib.byteCells_length]; omega)
    clear hlen hsz
    by_cases hp : pos < s.size
    · have hwd := Lib.hid (width_pos s pos hp)
      have hst := Lib.hid (runesF_step s (fuel - 1) pos hp)
      have hI2 := Lib.hid (isBuilder_iterAt hI.out hit.out (pos + (Utf8.decode s pos).2))
      have hit2 := Lib.hid (Lib.iterAt_heap wr (w2.heap.size + 1) s pos (pos + (Utf8.decode s pos).2) hit.out)
      have hbw2 := Lib.hid (Lib.below_iterAt hbw.out (k := w2.heap.size + 1) (by omega) s (pos + (Utf8.decode s pos).2))
      have hsz2 : Hid (w2.heap.size ≤ (wr.iterAt (w2.heap.size + 1) s (pos + (Utf8.decode s pos).2)).heap.size) := Lib.hid (by rw [Lib.iterAt_size]; have := HSZ.out; omega)
      have hnx : ∀ ty, (Instr.next (.pointer (some ⟨w2.heap.size + 1, 0, none⟩)) true ty).run Tryd.prog wr = _ := fun ty => Lib.run_next_any_at wr (w2.heap.size + 1) s pos ty hit.out hp
      generalize wr.iterAt (w2.heap.size + 1) s (pos + (Utf8.decode s pos).2) = W1 at *
      have hd := decode_le s pos
      obtain ⟨r, hr'⟩ : ∃ r : Int, r = (((Utf8.decode s pos).1 : Nat) : Int) := ⟨_, rfl⟩
      have HR : Hid (0 ≤ r ∧ r ≤ 2147483647) := Lib.hid ⟨by omega, by omega⟩
      rw [← hr'] at hnx hst
      clear hr' hd
      have LW := Lib.hid (L2.out.below hbw2.out M2.out)
      go_wp2_with fail
      refine (of_any m r (by have := HR.out; omega) (by have := HR.out; omega) W1 LW.out).mono ?_; rintro e w3 ⟨rfl, rfl⟩
      go_wp2_with fail
      refine (writeRune_any w2.heap.size w2.heap.size _ (lookZ r) (by have := lookZ_range HR.out.1 HR.out.2; omega) (by have := lookZ_range HR.out.1 HR.out.2; omega) W1 hI2.out HE.out hsz2.out).mono ?_; rintro e w4 ⟨rfl, h1, b1, k1⟩
      have H1 := Lib.hid h1
      have K1 := Lib.hid (k1.iter hit2.out (by omega))
      have B4 := Lib.hid (hbw2.out.trans b1)
      clear h1 k1 b1
      go_wp2_with fail
      go_roundw
      case rel =>
        refine ⟨_, fuel - 1, acc ++ [r], Lib.hid (.inr ?_), K1, B4, Lib.hid ?_, Lib.hid ?_⟩
        · have h := H1.out
          rw [List.map_append, encL_append, Lib.byteCells_append, show encL ([r].map lookZ) = Lib.encodeRune (lookZ r) by simp [encL], Lib.byteCells_encodeRune]
          exact h
        · obtain ⟨f, rfl⟩ : ∃ f, fuel = f + 1 := ⟨fuel - 1, by have := hfu.out; omega⟩
          rw [← hacc.out]
          have h := hst.out
          simp only [Nat.add_sub_cancel] at h ⊢
          rw [h, List.append_assoc]; rfl
        · have := hwd.out; have := hfu.out; omega
      case measure =>
        have := hwd.out
        simp only [World.iterPos, K1.out, hit.out]
        omega
    · have hnx : ∀ ty, (Instr.next (.pointer (some ⟨w2.heap.size + 1, 0, none⟩)) true ty).run Tryd.prog wr = _ := fun ty => Lib.run_next_end_at wr (w2.heap.size + 1) s pos ty hit.out hp
      have HZ : Hid (acc = runes s) := Lib.hid (by have h := hacc.out; rwa [runesF_end s fuel pos hp, List.append_nil] at h)
      clear hp
      go_wp2_with fail
      refine (Tryd.Builder_String_any_k w2.heap.size w2.heap.size (encL (acc.map lookZ)) _ (Lib.IsBuilderF.of hI.out) (by have := HSZ.out; omega)).mono ?_
      rintro e W1 ⟨rfl, _, b1, _⟩
      have B3 := Lib.hid (below_step B2.out (hbw.out.trans b1))
      clear b1
      go_wp2_with fail
      go_ret2
      exact ⟨by rw [HZ.out]; rfl, B3.out⟩
end Go.Proofs.YtkipnbhejokbeaaDoor.Pl
