/- What the document's Runes answers: a row of the text's runes that the call owns. -/
import Derived.Test.YtkipnbhejokbeaaDoorNameSpec
import Derived.Test.YtkipnbhejokbeaaDoorCommon
import Derived.Test.YtkipnbhejokbeaaDoorProg
import Derived.Lib.Hide
import Derived.Lib.OthersKept
import Derived.Laws.OwnMore
import Derived.OwnWalk
import Derived.Handy
namespace Go.Proofs.YtkipnbhejokbeaaDoor.Pl
open Go.RowKit

def vals (l : List Int) : List Value := l.map (Value.int .i32)
theorem vals_length (l : List Int) : (vals l).length = l.length := by simp [vals]
theorem vals_at (l : List Int) (j : Nat) (h : j < l.length) : (vals l)[j]? = some (.int .i32 (l.getD j 0)) := by
  simp [vals, List.getD_eq_getElem?_getD, h]
/-- v is a row of these numbers that the call owns, from block B on. -/
def Own32 (w : World) (B : Nat) (v : Value) (l : List Int) : Prop := w.ownsRow B 21 1 v l.length (vals l)
theorem own32_nil (w : World) (B : Nat) : Own32 w B (.slice none 0 0) [] := World.ownsRow_nil _ _ _ _
theorem own_below {w w' : World} {B C : Nat} {v : Value} {l : List Int} (h : Own32 w B v l) (hb : Below C w w') (hC : w.heap.size ≤ C) : Own32 w' B v l := by
  refine ⟨h.1, ?_⟩
  rcases h.2 with hn | ⟨g, cap, cur, hv, hbg, hg, rest⟩
  · exact .inl hn
  · exact .inr ⟨g, cap, cur, hv, hbg, (hb.block g (by have := (Array.getElem?_eq_some_iff.1 hg).1; omega)).trans hg, rest⟩
theorem own_iterAt {w : World} {B : Nat} {v : Value} {l : List Int} (h : Own32 w B v l) {k : Nat} {s : ByteArray} {pos : Nat} (hk : w.heap[k]? = some (.stringIter s pos)) (pos' : Nat) : Own32 (w.iterAt k s pos') B v l := by
  refine ⟨h.1, ?_⟩
  rcases h.2 with hn | ⟨g, cap, cur, hv, hbg, hg, rest⟩
  · exact .inl hn
  · have hkg : g ≠ k := by
      intro e1
      rw [e1, hk] at hg
      cases hg
    exact .inr ⟨g, cap, cur, hv, hbg, (Lib.iterAt_other w k g s pos' hkg).trans hg, rest⟩
/-- A row of these numbers, to read. -/
def RowAt (w : World) (ao : Option Addr) (l : List Int) : Prop := l = [] ∨ ∃ g, ao = some ⟨g, 0, none⟩ ∧ g < w.heap.size ∧ ∀ j, j < l.length → w.cell? ⟨g, j, none⟩ = some (.int .i32 (l.getD j 0))
theorem RowAt.below {w w' : World} {ao : Option Addr} {l : List Int} (h : RowAt w ao l) (hb : Below w.heap.size w w') : RowAt w' ao l := by
  rcases h with h | ⟨g, hg, hlt, hc⟩
  · exact .inl h
  · exact .inr ⟨g, hg, Nat.lt_of_lt_of_le hlt hb.size, fun j hj => (hb.cell (p := ⟨g, j, none⟩) hlt).trans (hc j hj)⟩
theorem own_row {w : World} {B : Nat} {v : Value} {l : List Int} (h : Own32 w B v l) : ∃ ao cap, v = .slice ao l.length cap ∧ RowAt w ao l := by
  rcases h.2 with ⟨hv, h0⟩ | ⟨g, cap, cur, hv, hbg, hg, rest⟩
  · exact ⟨none, 0, by rw [hv, h0], .inl (List.length_eq_zero_iff.1 h0)⟩
  · have h' := h
    unfold Own32 at h'
    rw [hv] at h'
    exact ⟨_, cap, hv, .inr ⟨g, rfl, (Array.getElem?_eq_some_iff.1 hg).1, fun j hj => by rw [h'.cellAt j (by omega), vals_at l j hj]⟩⟩

theorem infoI32 : (Tryd.prog.info? 21).map (fun i => (i.zero, i.size, i.bytes)) = some (some (.int .i32 0), 1, 4) := by kernel_rfl

set_option maxHeartbeats 2000000 in
set_option maxRecDepth 100000 in
theorem rrunes_any (s : ByteArray) (hs : s.size ≤ 1000000) (w : World) :
    Calls Tryd.prog 29 #[.string s] w fun e w' => ∃ v, e = .returned v ∧ Own32 w' (w.heap.size + 1) v (runes s) ∧ Below w.heap.size w w' := by
  obtain ⟨i0, hi, hz0, hz1, hz2⟩ := info_parts infoI32
  have HL := Lib.hid (Nat.le_trans (runes_length s) hs)
  have HI := Lib.hid hi
  clear hs hi
  go_enter Tryd.func29, Tryd.ntmps29
  go_wp2_with fail
  go_loopw [3] (fun v wr => ∃ (pos fuel : Nat) (acc : List Int), Hid (wr.heap[w.heap.size]? = some (.stringIter s pos)) ∧ Hid (Own32 wr (w.heap.size + 1) v acc) ∧ Hid (Below w.heap.size w wr) ∧ Hid (acc ++ runesF s fuel pos = runes s) ∧ Hid (s.size ≤ pos + fuel)) (fun _ wr => s.size - wr.iterPos w.heap.size)
  case atStart =>
    exact ⟨0, s.size, [], Lib.hid (World.iter_heap w s 0), Lib.hid (own32_nil _ _), Lib.hid ((Below.refl _ w).alloc (Nat.le_refl _) _), Lib.hid rfl, Lib.hid (by omega)⟩
  case round =>
    obtain ⟨pos, fuel, acc, hit, hown, hb, hacc, hfu⟩ := hrel
    have hlen : acc.length + (runesF s fuel pos).length ≤ 1000000 := by rw [← List.length_append, hacc.out]; exact HL.out
    have HLEN : Hid (acc.length ≤ 1000000) := Lib.hid (by omega)
    have HSZ := Lib.hid (Array.getElem?_eq_some_iff.1 hit.out).1
    clear hlen
    by_cases hp : pos < s.size
    · have hwd := Lib.hid (width_pos s pos hp)
      have hst := Lib.hid (runesF_step s (fuel - 1) pos hp)
      have hit2 := Lib.hid (Lib.iterAt_heap wr w.heap.size s pos (pos + (Utf8.decode s pos).2) hit.out)
      have hown2 := Lib.hid (own_iterAt hown.out hit.out (pos + (Utf8.decode s pos).2))
      have hb2 := Lib.hid (Lib.below_iterAt hb.out (k := w.heap.size) (Nat.le_refl _) s (pos + (Utf8.decode s pos).2))
      have HSZ2 : Hid (w.heap.size < (wr.iterAt w.heap.size s (pos + (Utf8.decode s pos).2)).heap.size) := Lib.hid (by rw [Lib.iterAt_size]; exact HSZ.out)
      have hnx : ∀ ty, (Instr.next (.pointer (some ⟨w.heap.size, 0, none⟩)) true ty).run Tryd.prog wr = _ := fun ty => Lib.run_next_any_at wr w.heap.size s pos ty hit.out hp
      generalize wr.iterAt w.heap.size s (pos + (Utf8.decode s pos).2) = W1 at *
      obtain ⟨r, hr'⟩ : ∃ r : Int, r = (((Utf8.decode s pos).1 : Nat) : Int) := ⟨_, rfl⟩
      rw [← hr'] at hnx hst
      clear hr'
      go_wp2_with (at_builtin; refine wpList_append_own _ rfl _ _ 48 rfl (w.heap.size + 1) 21 i0 (.int .i32 0) 1 4 Tryd.underlying48 HI.out hz0 hz1 hz2 rfl (by decide) _ _ _ rfl (World.ownsRow.alloc hown2.out _) ⟨W1.heap.size, 0, none⟩ 1 1 [.int .i32 r] rfl rfl ?c1 ?c2 ?c3 ?c4 ?c5 ?_)
      case c1 =>
        intro j u hj
        match j, hj with
        | 0, hj => simp at hj; subst hj; simp [Addr.add]
        | (j + 1), hj => simp at hj
      case c2 => intro u hu; simp at hu; subst hu; rfl
      case c3 => have := HLEN.out; unfold maxLen; omega
      case c4 => have := HLEN.out; omega
      case c5 => have := HSZ2.out; simp; omega
      intro v' w1 hown' hgrow _
      have HO : Hid (Own32 w1 (w.heap.size + 1) v' (acc ++ [r])) := Lib.hid (by
        have h := hown'
        unfold Own32
        rw [show vals (acc ++ [r]) = vals acc ++ [.int .i32 r] by simp [vals], List.length_append, List.length_singleton]
        exact h)
      have K1 : Hid (w1.heap[w.heap.size]? = some (.stringIter s (pos + (Utf8.decode s pos).2))) := Lib.hid (by
        rw [hgrow.block w.heap.size (by have := HSZ2.out; simp; omega) (fun e => by have := (hown2.out.lt _ e.symm).1; omega)]
        exact (Lib.alloc_old W1 _ _ HSZ2.out).trans hit2.out)
      have B1 : Hid (Below w.heap.size w w1) := Lib.hid ((hb2.out.alloc (by have := HSZ2.out; omega) _).grown hgrow (by have := HSZ2.out; simp; omega) (fun k hk => by have := (hown2.out.lt _ hk).1; omega))
      clear hown' hgrow
      go_wp2_with fail
      go_roundw
      case rel =>
        refine ⟨_, fuel - 1, acc ++ [r], K1, HO, B1, Lib.hid ?_, Lib.hid ?_⟩
        · obtain ⟨f, rfl⟩ : ∃ f, fuel = f + 1 := ⟨fuel - 1, by have := hfu.out; omega⟩
          rw [← hacc.out]
          have h := hst.out
          simp only [Nat.add_sub_cancel] at h ⊢
          rw [h, List.append_assoc]; rfl
        · have := hwd.out; have := hfu.out; omega
      case measure =>
        have := hwd.out
        simp only [World.iterPos, K1.out, hit.out]
        omega
    · have hnx : ∀ ty, (Instr.next (.pointer (some ⟨w.heap.size, 0, none⟩)) true ty).run Tryd.prog wr = _ := fun ty => Lib.run_next_end_at wr w.heap.size s pos ty hit.out hp
      have HZ : Hid (acc = runes s) := Lib.hid (by have h := hacc.out; rwa [runesF_end s fuel pos hp, List.append_nil] at h)
      clear hp
      obtain ⟨ao, cap, rfl, _⟩ := own_row hown.out
      go_wp2_with fail
      go_ret
      exact ⟨_, rfl, by rw [← HZ.out]; exact hown.out, hb.out⟩
end Go.Proofs.YtkipnbhejokbeaaDoor.Pl
