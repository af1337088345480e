/- What the document's Looks answers: a row of the looks of the text's runes that the call owns. -/
import Derived.Test.YtkipnbhejokbeaaDoorNameRunes
import Derived.Test.YtkipnbhejokbeaaDoorNameTable
namespace Go.Proofs.YtkipnbhejokbeaaDoor.Pl
open Go.RowKit

/-- The first k are looks already. -/
def midL (l : List Int) (k : Nat) : List Int := (l.take k).map lookZ ++ l.drop k
theorem midL_zero (l : List Int) : midL l 0 = l := by simp [midL]
theorem midL_length (l : List Int) (k : Nat) : (midL l k).length = l.length := by simp [midL]; omega
theorem midL_all (l : List Int) (k : Nat) (h : l.length ≤ k) : midL l k = l.map lookZ := by simp [midL, List.take_of_length_le h, List.drop_eq_nil_of_le h]
theorem midL_at (l : List Int) (k : Nat) (h : k < l.length) : (midL l k).getD k 0 = l.getD k 0 := by
  have e : ((l.take k).map lookZ).length = k := by simp; omega
  rw [List.getD_eq_getElem?_getD, List.getD_eq_getElem?_getD, midL, List.getElem?_append_right (by rw [e]; exact Nat.le_refl _), e, Nat.sub_self, List.getElem?_drop]
  rfl
theorem midL_set (l : List Int) (k : Nat) (h : k < l.length) : (midL l k).set k (lookZ (l.getD k 0)) = midL l (k + 1) := by
  have e : ((l.take k).map lookZ).length = k := by simp; omega
  rw [midL, List.set_append_right _ _ (by rw [e]; exact Nat.le_refl _), e, Nat.sub_self, List.drop_eq_getElem_cons h, List.set_cons_zero, midL, List.take_succ_eq_append_getElem h, List.map_append, List.append_assoc]
  simp [List.getD_eq_getElem?_getD, h]
theorem vals_set (l : List Int) (k : Nat) (x : Int) : (vals l).set k (.int .i32 x) = vals (l.set k x) := by simp [vals]

set_option maxHeartbeats 2000000 in
set_option maxRecDepth 100000 in
theorem rlooks_any (s : ByteArray) (hs : s.size ≤ 1000000) (w : World) :
    Calls Tryd.prog 25 #[.string s] w fun e w' => ∃ v, e = .returned v ∧ Own32 w' (w.heap.size + 1) v ((runes s).map lookZ) ∧ Below w.heap.size w w' := by
  have HL := Lib.hid (Nat.le_trans (runes_length s) hs)
  have HR := Lib.hid (rrunes_any s hs w)
  generalize runes s = l at *
  clear hs
  go_enter Tryd.func25, Tryd.ntmps25
  go_wp2_with fail
  refine HR.out.mono ?_; rintro e w1 ⟨v, rfl, ho, b1⟩
  have HO := Lib.hid ho
  have B1 := Lib.hid b1
  clear ho b1
  by_cases h0 : l = []
  · subst h0
    obtain ⟨ao, cap, rfl, _⟩ := own_row HO.out
    go_wp2_with fail
    refine wp_loop_rounds 1 ?_; rw [rounds_succ]; go_wp2_with fail
    go_ret
    exact ⟨_, rfl, HO.out, B1.out⟩
  · have hpos : 0 < l.length := List.length_pos_iff.2 h0
    obtain ⟨g, cap, rfl, hg⟩ : ∃ g cap, v = .slice (some ⟨g, 0, none⟩) l.length cap ∧ w.heap.size + 1 ≤ g := by
      rcases HO.out.2 with ⟨_, h⟩ | ⟨g, cap, cur, hv, hb, _⟩
      · omega
      · exact ⟨g, cap, hv, hb⟩
    have HG := Lib.hid hg
    obtain ⟨n, hn⟩ : ∃ n, n = l.length := ⟨_, rfl⟩
    have HN := Lib.hid hn
    have hn1 : n ≤ 1000000 := by rw [hn]; exact HL.out
    have HO2 : Hid (Own32 w1 (w.heap.size + 1) (.slice (some ⟨g, 0, none⟩) n cap) (midL l 0)) := Lib.hid (by rw [midL_zero, hn]; exact HO.out)
    rw [← hn]
    clear h0 hpos hg hn HO
    go_wp2_with fail
    go_loopw [4] (fun i wr => ∃ k : Nat, i = .int .i64 k ∧ k ≤ n ∧ Hid (Own32 wr (w.heap.size + 1) (.slice (some ⟨g, 0, none⟩) n cap) (midL l k)) ∧ Hid (Below w.heap.size w wr)) (fun i _ => n - (intOf i).toNat)
    case atStart => exact ⟨0, rfl, Nat.zero_le _, HO2, B1⟩
    case round =>
      obtain ⟨k, rfl, hkn, hown, hb⟩ := hrel
      have hown' : Hid (wr.ownsRow (w.heap.size + 1) 21 1 (.slice (some ⟨g, 0, none⟩) n cap) n (vals (midL l k))) := Lib.hid (by
        have h := hown.out
        unfold Own32 at h
        rw [midL_length, ← HN.out] at h; exact h)
      by_cases hk : k < n
      · have hc : wr.cell? ⟨g, k, none⟩ = some (.int .i32 (l.getD k 0)) := by
          rw [hown'.out.cellAt k (by omega), vals_at _ _ (by rw [midL_length, ← HN.out]; exact hk), midL_at _ _ (by rw [← HN.out]; exact hk)]
        have hf : wr.frozen? ⟨g, k, none⟩ = false := hown'.out.frozenAt k
        have hst := Lib.hid (hown'.out.stored k (.int .i32 (lookZ (l.getD k 0))))
        have HS : Hid ((vals (midL l k)).set k (.int .i32 (lookZ (l.getD k 0))) = vals (midL l (k + 1))) := Lib.hid (by rw [vals_set, midL_set _ _ (by rw [← HN.out]; exact hk)])
        have HK := Lib.hid (fun V => rlook_any (l.getD k 0) V)
        generalize l.getD k 0 = r at *
        go_wp2_with fail
        refine (HK.out _).mono ?_; rintro e w2 ⟨rfl, rfl⟩
        go_wp2_with fail
        go_roundw
        case rel =>
          refine ⟨k + 1, by go_num, by omega, Lib.hid ?_, Lib.hid ?_⟩
          · have h := hst.out.1
            rw [HS.out] at h
            unfold Own32
            rw [midL_length, ← HN.out]; exact h
          · exact hb.out.setCell (p := ⟨g, k, none⟩) (by have := HG.out; simp; omega) _
        case measure => simp [intOf]; omega
      · have HE : Hid (midL l k = l.map lookZ) := Lib.hid (midL_all l k (by rw [← HN.out]; omega))
        go_wp2_with fail
        go_ret
        exact ⟨_, rfl, by rw [← HE.out]; exact hown.out, hb.out⟩
end Go.Proofs.YtkipnbhejokbeaaDoor.Pl
