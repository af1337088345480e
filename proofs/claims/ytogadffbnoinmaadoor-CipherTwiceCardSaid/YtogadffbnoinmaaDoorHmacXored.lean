/- What the document's xored answers; its Sum: the tag. -/
import Derived.Test.YtogadffbnoinmaaDoorHmacRef
namespace Go.Proofs.YtogadffbnoinmaaDoor.Pl
open Go.RowKit

/-- From its begin on the block g has the bytes l, which may be written. -/
def At8 (w : World) (g : Nat) (l : List Nat) : Prop := ∀ j, j < l.length → w.cell? ⟨g, j, none⟩ = some (.int .u8 ((l.getD j 0 : Nat) : Int)) ∧ w.frozen? ⟨g, j, none⟩ = false
theorem At8.set {w : World} {g : Nat} {l : List Nat} (h : At8 w g l) (k x : Nat) (hk : k < l.length) : At8 (w.setCell ⟨g, k, none⟩ (.int .u8 (x : Int))) g (l.set k x) := by
  intro j hj
  rw [List.length_set] at hj
  rw [World.frozen?_setCell, getD_set _ _ _ _ hk]
  by_cases e : j = k
  · subst e
    rw [if_pos rfl, World.cell?_setCell_same w _ _ (h j hj).1]
    exact ⟨rfl, (h j hj).2⟩
  · rw [if_neg e, World.cell?_setCell_other w _ _ _ (fun h' => e (by cases h'; rfl))]
    exact h j hj
theorem at8_bytes (w : World) (s : ByteArray) : At8 (Lib.bytesWorld w 5 s) w.heap.size (nums s) := by
  obtain ⟨g, cap, hv, _, hl, h1, h2⟩ := own_bytes w s
  injection hv with e1 e2 e3
  injection e1 with e1
  injection e1 with e1
  subst e1
  exact fun j hj => ⟨h1 j hj, (h2 j (by omega)).2⟩

set_option maxHeartbeats 1000000 in
set_option maxRecDepth 100000 in
theorem xored_any (n : Nat) (hn : n < 256) (s : ByteArray) (hs : s.size ≤ 1000) (w : World) :
    Calls Tryd.prog 35 #[.string s, .int .u8 n] w fun e w' => e = .returned (.string (bytesOf (xorb n (nums s)))) ∧ Below w.heap.size w w' := by
  have hcv := Lib.run_convert_string_bytes (P := Tryd.prog) w 9 31 5 s Tryd.underlying9 Tryd.underlying31 Tryd.underlying5
  have HO := Lib.hid (at8_bytes w s)
  have HB := Lib.hid (below_bytes w s)
  have HL := Lib.hid (nums_length s)
  have HM := Lib.hid (nums_bytes s)
  generalize grownCap w s.size 0 5 = cap at hcv
  generalize Lib.bytesWorld w 5 s = W at *
  generalize nums s = l at *
  obtain ⟨z, hz⟩ : ∃ z, z = s.size := ⟨_, rfl⟩
  rw [← hz] at hcv HL hs
  clear hz
  go_enter Tryd.func35, Tryd.ntmps35
  go_wp2_with fail
  go_loopw [6] (fun i wr => ∃ (k : Nat) (m : List Nat), k ≤ z ∧ i = .int .i64 k ∧ Hid (m.length = z) ∧ Hid (∀ j, m.getD j 0 = if j < k then l.getD j 0 ^^^ n else l.getD j 0) ∧ Hid (At8 wr w.heap.size m) ∧ Hid (Below w.heap.size w wr)) (fun i _ => z - (intOf i).toNat)
  case atStart => exact ⟨0, l, by omega, rfl, HL, Lib.hid (fun j => by rw [if_neg (by omega)]), HO, HB⟩
  case round =>
    clear HO HB
    obtain ⟨k, m, hk, rfl, hml, hag, h1, hbw⟩ := hrel
    by_cases hlt2 : k < z
    · obtain ⟨c1, f1⟩ := h1.out k (by rw [hml.out]; exact hlt2)
      have e := hag.out k
      rw [if_neg (by omega)] at e
      obtain ⟨x, ex⟩ : ∃ x, x = l.getD k 0 := ⟨_, rfl⟩
      have hx : x < 256 := by rw [ex]; exact HM.out.at k
      rw [e, ← ex] at c1
      have EX := Lib.hid ex
      have b1 : bits .xor .u8 (x : Int) (n : Int) = ((x ^^^ n : Nat) : Int) := u8_xor_nat x n hx hn
      obtain ⟨y, ey⟩ : ∃ y, y = x ^^^ n := ⟨_, rfl⟩
      rw [← ey] at b1
      have EY := Lib.hid ey
      clear e ex ey hx
      go_wp2_with fail
      go_roundw
      case rel =>
        refine ⟨k + 1, m.set k y, by omega, by go_num, Lib.hid (by rw [List.length_set]; exact hml.out), Lib.hid (fun j => ?_), Lib.hid (h1.out.set k y (by rw [hml.out]; exact hlt2)), Lib.hid (hbw.out.setCell (Nat.le_refl _) _)⟩
        rw [getD_set _ _ _ _ (by rw [hml.out]; exact hlt2), hag.out j]
        by_cases hj : j = k
        · rw [if_pos hj, if_pos (by omega), hj, EY.out, EX.out]
        · rw [if_neg hj]
          by_cases hj2 : j < k
          · rw [if_pos hj2, if_pos (by omega)]
          · rw [if_neg hj2, if_neg (by omega)]
      case measure => simp [intOf]; omega
    · obtain rfl : k = z := by omega
      have e : m = xorb n l := getD_ext (by rw [hml.out, xorb_length, HL.out]) (fun i hi => by
        rw [hag.out i, if_pos (by rw [hml.out] at hi; exact hi), xorb_at n l i (by rw [HL.out]; rw [hml.out] at hi; exact hi)])
      have hcv2 := back_string wr w.heap.size 0 cap (xorb n l) (fun j => (xorb_bytes hn HM.out).at j) (fun j hj => by
        rw [Nat.zero_add, ← e]; rw [← e] at hj; exact (h1.out j hj).1)
      rw [xorb_length, HL.out] at hcv2
      clear e hag hml h1
      obtain ⟨X, eX⟩ : ∃ X, X = bytesOf (xorb n l) := ⟨_, rfl⟩
      rw [← eX] at hcv2
      have EX := Lib.hid eX
      clear eX hcv
      go_wp2_with fail
      go_ret
      exact ⟨by rw [← EX.out]; rfl, hbw.out⟩
end Go.Proofs.YtogadffbnoinmaaDoor.Pl
