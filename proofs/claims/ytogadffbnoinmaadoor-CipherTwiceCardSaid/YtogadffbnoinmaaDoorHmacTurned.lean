/- What New's closure answers: the block's bytes, each xor a number. -/
import Derived.Test.YtogadffbnoinmaaDoorHmacBlock
import Derived.Laws.BitsAllLaws
namespace Go.Proofs.YtogadffbnoinmaaDoor.Pl
open Go.RowKit

theorem xorb_at (n : Nat) (l : List Nat) (j : Nat) (h : j < l.length) : (xorb n l).getD j 0 = l.getD j 0 ^^^ n := by
  simp [xorb, List.getD_eq_getElem?_getD, h]
set_option maxHeartbeats 1000000 in
set_option maxRecDepth 100000 in
theorem turned_any (n : Nat) (hn : n < 256) (g : Nat) (l : List Nat) (hl : l.length = 64) (hb : Bytes l) (w : World) (h : w.heap[g]? = some (.cells (row .u8 l) 51 (0, 0))) :
    Calls Tryd.prog 26 #[.int .u8 n, .pointer (some ⟨g, 0, none⟩)] w fun e w' => e = .returned (.string (bytesOf (xorb n l))) ∧ Below w.heap.size w w' := by
  have hz := zero64
  have HS : Hid ((Tryd.prog.info? 51).map (·.size) = some (row .u8 l).size) := Lib.hid (by rw [row_size, hl]; kernel_rfl)
  have HZ : Hid ((row .u8 (List.replicate 64 0)).size = (row .u8 l).size) := Lib.hid (by rw [row_size, row_size, hl, List.length_replicate])
  have HG := Lib.hid h
  have HL := Lib.hid hl
  have HB := Lib.hid hb
  have N1 := Lib.hid (Go.heap_alloc_new w (.cells (row .u8 (List.replicate 64 0)) 51))
  have hlt := (Array.getElem?_eq_some_iff.1 h).1
  clear h hl hb
  generalize List.replicate 64 0 = Z at *
  go_enter Tryd.func26, Tryd.ntmps26
  go_wp2_with (first
    | (refine wpList_load_row rfl 51 _ rfl g rfl 51 _ _ _ HG.out Tryd.underlying51 rfl HS.out ?_)
    | (refine wpList_store_row rfl 51 _ _ rfl w.heap.size (row .u8 l) rfl rfl 51 (row .u8 Z) N1.out HS.out HZ.out (row_one _ _) ?_))
  rw [World.setRow_alloc_new]
  have M1 := Go.heap_alloc_new w (.cells (row .u8 l) 51)
  have B1 : Below w.heap.size w (w.alloc (.cells (row .u8 l) 51)) := (Below.refl _ _).alloc (Nat.le_refl _) _
  generalize w.alloc (.cells (row .u8 l) 51) = W at *
  have HM1 := Lib.hid M1
  have HB1 := Lib.hid B1
  clear M1 B1 N1 HZ hz
  go_loopw [7] (fun i wr => ∃ (k : Nat) (m : List Nat), k ≤ 64 ∧ i = .int .i64 k ∧ Hid (m.length = 64) ∧ Hid (∀ j, m.getD j 0 = if j < k then l.getD j 0 ^^^ n else l.getD j 0) ∧ Hid (wr.heap[w.heap.size]? = some (.cells (row .u8 m) 51 (0, 0))) ∧ Hid (Below w.heap.size w wr)) (fun i _ => 64 - (intOf i).toNat)
  case atStart => exact ⟨0, l, by omega, rfl, HL, Lib.hid (fun j => by rw [if_neg (by omega)]), HM1, HB1⟩
  case round =>
    clear HM1 HB1
    obtain ⟨k, m, hk, rfl, hml, hag, h1, hbw⟩ := hrel
    by_cases hlt2 : k < 64
    · obtain ⟨c1, f1⟩ := at_row h1.out k (by rw [hml.out]; exact hlt2)
      have e := hag.out k
      rw [if_neg (by omega)] at e
      obtain ⟨x, ex⟩ : ∃ x, x = l.getD k 0 := ⟨_, rfl⟩
      have hx : x < 256 := by rw [ex]; exact HB.out.at k
      rw [e, ← ex] at c1
      have EX := Lib.hid ex
      have b1 : bits .xor .u8 (x : Int) (n : Int) = ((x ^^^ n : Nat) : Int) := u8_xor_nat x n hx hn
      obtain ⟨y, ey⟩ : ∃ y, y = x ^^^ n := ⟨_, rfl⟩
      rw [← ey] at b1
      have EY := Lib.hid ey
      clear e ex ey hx
      go_wp2_with fail
      go_roundw
      case rel =>
        refine ⟨k + 1, m.set k y, by omega, by go_num, Lib.hid (by rw [List.length_set]; exact hml.out), Lib.hid (fun j => ?_), Lib.hid (heap_step h1.out y), Lib.hid (hbw.out.setCell (Nat.le_refl _) _)⟩
        rw [getD_set _ _ _ _ (by rw [hml.out]; exact hlt2), hag.out j]
        by_cases hj : j = k
        · rw [if_pos hj, if_pos (by omega), hj, EY.out, EX.out]
        · rw [if_neg hj]
          by_cases hj2 : j < k
          · rw [if_pos hj2, if_pos (by omega)]
          · rw [if_neg hj2, if_neg (by omega)]
      case measure => simp [intOf]; omega
    · obtain rfl : k = 64 := by omega
      have e : m = xorb n l := getD_ext (by rw [hml.out, xorb_length, HL.out]) (fun i hi => by
        rw [hag.out i, if_pos (by rw [hml.out] at hi; exact hi), xorb_at n l i (by rw [HL.out]; rw [hml.out] at hi; exact hi)])
      have hsl := all64 w.heap.size
      have hcv := back_string wr w.heap.size 0 64 (xorb n l) (fun j => (xorb_bytes hn HB.out).at j) (fun j hj => by
        rw [Nat.zero_add, (at_row h1.out j (by rw [e]; exact hj)).1, e])
      rw [xorb_length, HL.out] at hcv
      clear e hag hml h1
      obtain ⟨X, eX⟩ : ∃ X, X = bytesOf (xorb n l) := ⟨_, rfl⟩
      rw [← eX] at hcv
      have EX := Lib.hid eX
      clear eX
      go_wp2_with fail
      go_ret
      exact ⟨by rw [← EX.out]; rfl, hbw.out⟩
end Go.Proofs.YtogadffbnoinmaaDoor.Pl
