/- What hmac.New answers: a key that is ready. -/
import Derived.Test.YtogadffbnoinmaaDoorHmacTurned
namespace Go.Proofs.YtogadffbnoinmaaDoor.Pl
open Go.RowKit

/-- Block p is a Key that is ready, of the key k. -/
def KeyAt (w : World) (p : Nat) (k : List Nat) : Prop :=
  ∃ i o, w.heap[p]? = some (.cells #[.pointer (some ⟨i, 0, none⟩), .pointer (some ⟨o, 0, none⟩)] 49 (0, 0)) ∧ Holds w i (xorb 54 (kblock k)) ∧ Holds w o (xorb 92 (kblock k))
theorem KeyAt.lt {w : World} {p : Nat} {k : List Nat} (h : KeyAt w p k) : p < w.heap.size := by
  obtain ⟨i, o, h, _, _⟩ := h
  exact (Array.getElem?_eq_some_iff.1 h).1
theorem KeyAt.below {w w' : World} {p : Nat} {k : List Nat} (h : KeyAt w p k) (hb : Below w.heap.size w w') : KeyAt w' p k := by
  obtain ⟨i, o, h, h1, h2⟩ := h
  exact ⟨i, o, heap_below hb h, h1.below hb, h2.below hb⟩
theorem pad_bytes (n : Nat) (hn : n < 256) (k : ByteArray) : Bytes (xorb n (kblock (nums k))) := xorb_bytes hn (kblock_bytes (nums_bytes k))
theorem pad_nums (n : Nat) (hn : n < 256) (k : ByteArray) : nums (bytesOf (xorb n (kblock (nums k)))) = xorb n (kblock (nums k)) := nums_bytesOf (pad_bytes n hn k)
theorem pad_size (n : Nat) (k : ByteArray) : (bytesOf (xorb n (kblock (nums k)))).size = 64 := by rw [bytesOf_size, xorb_length, kblock_length]

set_option maxHeartbeats 1000000 in
set_option maxRecDepth 100000 in
theorem hnew_any (key : ByteArray) (hl : key.size < 2305843009213693952) (w : World) (hT : Tab w) :
    Calls Tryd.prog 20 #[.string key] w fun e w' => ∃ p, e = .returned (.pointer (some ⟨p, 0, none⟩)) ∧ KeyAt w' p (nums key) ∧ w.heap.size ≤ p ∧ Below w.heap.size w w' := by
  have HT := Lib.hid hT
  have HBL := Lib.hid (block_any key hl w hT)
  have HS : Hid ((Tryd.prog.info? 51).map (·.size) = some (row .u8 (kblock (nums key))).size) := Lib.hid (by rw [row_size, kblock_length]; kernel_rfl)
  have HZ : Hid ((row .u8 (List.replicate 64 0)).size = (row .u8 (kblock (nums key))).size) := Lib.hid (by rw [row_size, row_size, kblock_length, List.length_replicate])
  have KL := Lib.hid (kblock_length (nums key))
  have KB := Lib.hid (kblock_bytes (nums_bytes key))
  have P1 := Lib.hid (fun W => begin_any (bytesOf (xorb 54 (kblock (nums key)))) (by rw [pad_size]; decide) W)
  have P2 := Lib.hid (fun W => begin_any (bytesOf (xorb 92 (kblock (nums key)))) (by rw [pad_size]; decide) W)
  have P3 := Lib.hid (pad_nums 54 (by decide) key)
  have P4 := Lib.hid (pad_nums 92 (by decide) key)
  have hz := zero64
  clear hT hl
  obtain ⟨kb, hkb⟩ : ∃ kb, kb = kblock (nums key) := ⟨_, rfl⟩
  rw [← hkb] at HBL HS HZ KL KB P1 P2 P3 P4
  have HKB := Lib.hid hkb
  clear hkb
  generalize List.replicate 64 0 = Z at *
  go_enter Tryd.func20, Tryd.ntmps20
  go_wp2_with fail
  refine HBL.out.mono ?_; rintro e w1 ⟨rfl, hb1⟩
  have N1 := Lib.hid (Go.heap_alloc_new w1 (.cells (row .u8 Z) 51))
  have B1 := Lib.hid hb1
  have T1 := Lib.hid (HT.out.below hb1)
  clear hb1
  go_wp2_with (first
    | (refine wpList_store_row rfl 51 _ _ rfl w1.heap.size (row .u8 kb) rfl rfl 51 (row .u8 Z) N1.out HS.out HZ.out (row_one _ _) ?_))
  rw [World.setRow_alloc_new]
  have B2 := Lib.hid (B1.out.alloc B1.out.size (.cells (row .u8 kb) 51))
  have T2 := Lib.hid (T1.out.below ((Below.refl w1.heap.size w1).alloc (Nat.le_refl _) (.cells (row .u8 kb) 51)))
  have C2 := Lib.hid (Go.heap_alloc_new w1 (.cells (row .u8 kb) 51))
  generalize w1.alloc (.cells (row .u8 kb) 51) = W at *
  generalize w1.heap.size = g at *
  refine (turned_any 54 (by decide) g kb KL.out KB.out W C2.out).mono ?_; rintro e w3 ⟨rfl, hb3⟩
  have B3 := Lib.hid (B2.out.trans (hb3.mono B2.out.size))
  have T3 := Lib.hid (T2.out.below hb3)
  have C3 := Lib.hid (heap_below hb3 C2.out)
  clear hb3
  go_wp2_with fail
  refine (P1.out w3 T3.out).mono ?_; rintro e w4 ⟨rfl, h4, hb4⟩
  have B4 := Lib.hid (B3.out.trans (hb4.mono B3.out.size))
  have T4 := Lib.hid (T3.out.below hb4)
  have C4 := heap_below hb4 C3.out
  rw [P3.out, HKB.out] at h4
  generalize w3.heap.size + 1 = i at *
  have H4 := Lib.hid h4
  clear h4 hb4
  go_wp2_with fail
  refine (turned_any 92 (by decide) g kb KL.out KB.out w4 C4).mono ?_; rintro e w5 ⟨rfl, hb5⟩
  have B5 := Lib.hid (B4.out.trans (hb5.mono B4.out.size))
  have T5 := Lib.hid (T4.out.below hb5)
  have H5 := Lib.hid (H4.out.below hb5)
  clear hb5 C4
  go_wp2_with fail
  refine (P2.out w5 T5.out).mono ?_; rintro e w6 ⟨rfl, h6, hb6⟩
  have B6 := Lib.hid (B5.out.trans (hb6.mono B5.out.size))
  have H6 := Lib.hid (H5.out.below hb6)
  rw [P4.out, HKB.out] at h6
  generalize w5.heap.size + 1 = o at *
  have K6 := Lib.hid h6
  clear h6 hb6
  go_wp2_with fail
  go_ret
  have hb7 : Below w6.heap.size w6 (w6.alloc (.cells #[.pointer (some ⟨i, 0, none⟩), .pointer (some ⟨o, 0, none⟩)] 49)) := (Below.refl _ _).alloc (Nat.le_refl _) _
  exact ⟨w6.heap.size, rfl, ⟨i, o, Go.heap_alloc_new _ _, H6.out.below hb7, K6.out.below hb7⟩, B6.out.size, B6.out.alloc B6.out.size _⟩
end Go.Proofs.YtogadffbnoinmaaDoor.Pl
