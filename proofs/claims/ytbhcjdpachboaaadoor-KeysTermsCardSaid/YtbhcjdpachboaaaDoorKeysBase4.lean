/- What New's closure answers: the block's bytes, each xor a number. What hmac.New answers: a key that is ready. What Key.Sum answers: the tag. What cipher.ready answers: the two keys of a key, ready. What hmac.Sum answers: the tag. What the document's suites make of texts, tags, where its sums are known. What the document's suites make of texts, seals, where they are known. -/
import Derived.Test.YtbhcjdpachboaaaDoorHmacBlock
import Derived.Laws.BitsAllLaws
import Derived.Deep.RegionHeld3
import Derived.Test.YtbhcjdpachboaaaDoorKeysBase3
import Derived.Test.YtbhcjdpachboaaaDoorSuiteRefC
namespace Go.Proofs.YtbhcjdpachboaaaDoor.Pl
open Go.RowKit

theorem xorb_at (n : Nat) (l : List Nat) (j : Nat) (h : j < l.length) : (xorb n l).getD j 0 = l.getD j 0 ^^^ n := by
  simp [xorb, List.getD_eq_getElem?_getD, h]
set_option maxHeartbeats 1000000 in
set_option maxRecDepth 100000 in
theorem turned_any (n : Nat) (hn : n < 256) (g : Nat) (l : List Nat) (hl : l.length = 64) (hb : Bytes l) (w : World) (h : w.heap[g]? = some (.cells (row .u8 l) 75 (0, 0))) :
    Calls Tryd.prog 40 #[.int .u8 n, .pointer (some ⟨g, 0, none⟩)] w fun e w' => e = .returned (.string (bytesOf (xorb n l))) ∧ Below w.heap.size w w' := by
  have hz := zero64
  have HS : Hid ((Tryd.prog.info? 75).map (·.size) = some (row .u8 l).size) := Lib.hid (by rw [row_size, hl]; kernel_rfl)
  have HZ : Hid ((row .u8 (List.replicate 64 0)).size = (row .u8 l).size) := Lib.hid (by rw [row_size, row_size, hl, List.length_replicate])
  have HG := Lib.hid h
  have HL := Lib.hid hl
  have HB := Lib.hid hb
  have N1 := Lib.hid (Go.heap_alloc_new w (.cells (row .u8 (List.replicate 64 0)) 75))
  have hlt := (Array.getElem?_eq_some_iff.1 h).1
  clear h hl hb
  generalize List.replicate 64 0 = Z at *
  go_enter Tryd.func40, Tryd.ntmps40
  go_wp2_with (first
    | (refine wpList_load_row rfl 75 _ rfl g rfl 75 _ _ _ HG.out Tryd.underlying75 rfl HS.out ?_)
    | (refine wpList_store_row rfl 75 _ _ rfl w.heap.size (row .u8 l) rfl rfl 75 (row .u8 Z) N1.out HS.out HZ.out (row_one _ _) ?_))
  rw [World.setRow_alloc_new]
  have M1 := Go.heap_alloc_new w (.cells (row .u8 l) 75)
  have B1 : Below w.heap.size w (w.alloc (.cells (row .u8 l) 75)) := (Below.refl _ _).alloc (Nat.le_refl _) _
  generalize w.alloc (.cells (row .u8 l) 75) = W at *
  have HM1 := Lib.hid M1
  have HB1 := Lib.hid B1
  clear M1 B1 N1 HZ hz
  go_loopw [7] (fun i wr => ∃ (k : Nat) (m : List Nat), k ≤ 64 ∧ i = .int .i64 k ∧ Hid (m.length = 64) ∧ Hid (∀ j, m.getD j 0 = if j < k then l.getD j 0 ^^^ n else l.getD j 0) ∧ Hid (wr.heap[w.heap.size]? = some (.cells (row .u8 m) 75 (0, 0))) ∧ Hid (Below w.heap.size w wr)) (fun i _ => 64 - (intOf i).toNat)
  case atStart => exact ⟨0, l, by omega, rfl, HL, Lib.hid (fun j => by rw [if_neg (by omega)]), HM1, HB1⟩
  case round =>
    clear HM1 HB1
    obtain ⟨k, m, hk, rfl, hml, hag, h1, hbw⟩ := hrel
    by_cases hlt2 : k < 64
    · obtain ⟨c1, f1⟩ := at_row h1.out k (by rw [hml.out]; exact hlt2)
      have e := hag.out k
      rw [if_neg (by omega)] at e
      obtain ⟨x, ex⟩ : ∃ x, x = l.getD k 0 := ⟨_, rfl⟩
      have hx : x < 256 := by rw [ex]; exact HB.out.at k
      rw [e, ← ex] at c1
      have EX := Lib.hid ex
      have b1 : bits .xor .u8 (x : Int) (n : Int) = ((x ^^^ n : Nat) : Int) := u8_xor_nat x n hx hn
      obtain ⟨y, ey⟩ : ∃ y, y = x ^^^ n := ⟨_, rfl⟩
      rw [← ey] at b1
      have EY := Lib.hid ey
      clear e ex ey hx
      go_wp2_with fail
      go_roundw
      case rel =>
        refine ⟨k + 1, m.set k y, by omega, by go_num, Lib.hid (by rw [List.length_set]; exact hml.out), Lib.hid (fun j => ?_), Lib.hid (heap_step h1.out y), Lib.hid (hbw.out.setCell (Nat.le_refl _) _)⟩
        rw [getD_set _ _ _ _ (by rw [hml.out]; exact hlt2), hag.out j]
        by_cases hj : j = k
        · rw [if_pos hj, if_pos (by omega), hj, EY.out, EX.out]
        · rw [if_neg hj]
          by_cases hj2 : j < k
          · rw [if_pos hj2, if_pos (by omega)]
          · rw [if_neg hj2, if_neg (by omega)]
      case measure => simp [intOf]; omega
    · obtain rfl : k = 64 := by omega
      have e : m = xorb n l := getD_ext (by rw [hml.out, xorb_length, HL.out]) (fun i hi => by
        rw [hag.out i, if_pos (by rw [hml.out] at hi; exact hi), xorb_at n l i (by rw [HL.out]; rw [hml.out] at hi; exact hi)])
      have hsl := all64 w.heap.size
      have hcv := back_string wr w.heap.size 0 64 (xorb n l) (fun j => (xorb_bytes hn HB.out).at j) (fun j hj => by
        rw [Nat.zero_add, (at_row h1.out j (by rw [e]; exact hj)).1, e])
      rw [xorb_length, HL.out] at hcv
      clear e hag hml h1
      obtain ⟨X, eX⟩ : ∃ X, X = bytesOf (xorb n l) := ⟨_, rfl⟩
      rw [← eX] at hcv
      have EX := Lib.hid eX
      clear eX
      go_wp2_with fail
      go_ret
      exact ⟨by rw [← EX.out]; rfl, hbw.out⟩
end Go.Proofs.YtbhcjdpachboaaaDoor.Pl

namespace Go.Proofs.YtbhcjdpachboaaaDoor.Pl
open Go.RowKit

/-- Block p is a Key that is ready, of the key k. -/
def KeyAt (w : World) (p : Nat) (k : List Nat) : Prop :=
  ∃ i o, w.heap[p]? = some (.cells #[.pointer (some ⟨i, 0, none⟩), .pointer (some ⟨o, 0, none⟩)] 82 (0, 0)) ∧ Holds w i (xorb 54 (kblock k)) ∧ Holds w o (xorb 92 (kblock k))
theorem KeyAt.lt {w : World} {p : Nat} {k : List Nat} (h : KeyAt w p k) : p < w.heap.size := by
  obtain ⟨i, o, h, _, _⟩ := h
  exact (Array.getElem?_eq_some_iff.1 h).1
theorem KeyAt.below {w w' : World} {p : Nat} {k : List Nat} (h : KeyAt w p k) (hb : Below w.heap.size w w') : KeyAt w' p k := by
  obtain ⟨i, o, h, h1, h2⟩ := h
  exact ⟨i, o, heap_below hb h, h1.below hb, h2.below hb⟩
theorem pad_bytes (n : Nat) (hn : n < 256) (k : ByteArray) : Bytes (xorb n (kblock (nums k))) := xorb_bytes hn (kblock_bytes (nums_bytes k))
theorem pad_nums (n : Nat) (hn : n < 256) (k : ByteArray) : nums (bytesOf (xorb n (kblock (nums k)))) = xorb n (kblock (nums k)) := nums_bytesOf (pad_bytes n hn k)
theorem pad_size (n : Nat) (k : ByteArray) : (bytesOf (xorb n (kblock (nums k)))).size = 64 := by rw [bytesOf_size, xorb_length, kblock_length]

set_option maxHeartbeats 1000000 in
set_option maxRecDepth 100000 in
theorem hnew_any (key : ByteArray) (hl : key.size < 2305843009213693952) (w : World) (hT : Tab w) :
    Calls Tryd.prog 35 #[.string key] w fun e w' => ∃ p, e = .returned (.pointer (some ⟨p, 0, none⟩)) ∧ KeyAt w' p (nums key) ∧ w.heap.size ≤ p ∧ Below w.heap.size w w' := by
  have HT := Lib.hid hT
  have HBL := Lib.hid (block_any key hl w hT)
  have HS : Hid ((Tryd.prog.info? 75).map (·.size) = some (row .u8 (kblock (nums key))).size) := Lib.hid (by rw [row_size, kblock_length]; kernel_rfl)
  have HZ : Hid ((row .u8 (List.replicate 64 0)).size = (row .u8 (kblock (nums key))).size) := Lib.hid (by rw [row_size, row_size, kblock_length, List.length_replicate])
  have KL := Lib.hid (kblock_length (nums key))
  have KB := Lib.hid (kblock_bytes (nums_bytes key))
  have P1 := Lib.hid (fun W => begin_any (bytesOf (xorb 54 (kblock (nums key)))) (by rw [pad_size]; decide) W)
  have P2 := Lib.hid (fun W => begin_any (bytesOf (xorb 92 (kblock (nums key)))) (by rw [pad_size]; decide) W)
  have P3 := Lib.hid (pad_nums 54 (by decide) key)
  have P4 := Lib.hid (pad_nums 92 (by decide) key)
  have hz := zero64
  clear hT hl
  obtain ⟨kb, hkb⟩ : ∃ kb, kb = kblock (nums key) := ⟨_, rfl⟩
  rw [← hkb] at HBL HS HZ KL KB P1 P2 P3 P4
  have HKB := Lib.hid hkb
  clear hkb
  generalize List.replicate 64 0 = Z at *
  go_enter Tryd.func35, Tryd.ntmps35
  go_wp2_with fail
  refine HBL.out.mono ?_; rintro e w1 ⟨rfl, hb1⟩
  have N1 := Lib.hid (Go.heap_alloc_new w1 (.cells (row .u8 Z) 75))
  have B1 := Lib.hid hb1
  have T1 := Lib.hid (HT.out.below hb1)
  clear hb1
  go_wp2_with (first
    | (refine wpList_store_row rfl 75 _ _ rfl w1.heap.size (row .u8 kb) rfl rfl 75 (row .u8 Z) N1.out HS.out HZ.out (row_one _ _) ?_))
  rw [World.setRow_alloc_new]
  have B2 := Lib.hid (B1.out.alloc B1.out.size (.cells (row .u8 kb) 75))
  have T2 := Lib.hid (T1.out.below ((Below.refl w1.heap.size w1).alloc (Nat.le_refl _) (.cells (row .u8 kb) 75)))
  have C2 := Lib.hid (Go.heap_alloc_new w1 (.cells (row .u8 kb) 75))
  generalize w1.alloc (.cells (row .u8 kb) 75) = W at *
  generalize w1.heap.size = g at *
  refine (turned_any 54 (by decide) g kb KL.out KB.out W C2.out).mono ?_; rintro e w3 ⟨rfl, hb3⟩
  have B3 := Lib.hid (B2.out.trans (hb3.mono B2.out.size))
  have T3 := Lib.hid (T2.out.below hb3)
  have C3 := Lib.hid (heap_below hb3 C2.out)
  clear hb3
  go_wp2_with fail
  refine (P1.out w3 T3.out).mono ?_; rintro e w4 ⟨rfl, h4, hb4⟩
  have B4 := Lib.hid (B3.out.trans (hb4.mono B3.out.size))
  have T4 := Lib.hid (T3.out.below hb4)
  have C4 := heap_below hb4 C3.out
  rw [P3.out, HKB.out] at h4
  generalize w3.heap.size + 1 = i at *
  have H4 := Lib.hid h4
  clear h4 hb4
  go_wp2_with fail
  refine (turned_any 92 (by decide) g kb KL.out KB.out w4 C4).mono ?_; rintro e w5 ⟨rfl, hb5⟩
  have B5 := Lib.hid (B4.out.trans (hb5.mono B4.out.size))
  have T5 := Lib.hid (T4.out.below hb5)
  have H5 := Lib.hid (H4.out.below hb5)
  clear hb5 C4
  go_wp2_with fail
  refine (P2.out w5 T5.out).mono ?_; rintro e w6 ⟨rfl, h6, hb6⟩
  have B6 := Lib.hid (B5.out.trans (hb6.mono B5.out.size))
  have H6 := Lib.hid (H5.out.below hb6)
  rw [P4.out, HKB.out] at h6
  generalize w5.heap.size + 1 = o at *
  have K6 := Lib.hid h6
  clear h6 hb6
  go_wp2_with fail
  go_ret
  have hb7 : Below w6.heap.size w6 (w6.alloc (.cells #[.pointer (some ⟨i, 0, none⟩), .pointer (some ⟨o, 0, none⟩)] 82)) := (Below.refl _ _).alloc (Nat.le_refl _) _
  exact ⟨w6.heap.size, rfl, ⟨i, o, Go.heap_alloc_new _ _, H6.out.below hb7, K6.out.below hb7⟩, B6.out.size, B6.out.alloc B6.out.size _⟩
end Go.Proofs.YtbhcjdpachboaaaDoor.Pl

namespace Go.Proofs.YtbhcjdpachboaaaDoor.Pl
open Go.RowKit

end Go.Proofs.YtbhcjdpachboaaaDoor.Pl

namespace Go.Proofs.YtbhcjdpachboaaaDoor.Pl
open Go.RowKit

/-- Both keys of the key k are ready. -/
def KeysAt (w : World) (p q : Nat) (k : List Nat) : Prop := KeyAt w p (skey k) ∧ KeyAt w q (tkey k)
theorem KeysAt.below {w w' : World} {p q : Nat} {k : List Nat} (h : KeysAt w p q k) (hb : Below w.heap.size w w') : KeysAt w' p q k := ⟨h.1.below hb, h.2.below hb⟩
/-- What turns a block that is neither a key nor a hash leaves a key as it is. -/
theorem KeyAt.but {w w' : World} {p b : Nat} {k : List Nat} {cs : Array Value} {t : TypeId} {e : Nat × Nat} (h : KeyAt w p k) (hc : w.heap[b]? = some (.cells cs t e)) (h1 : t ≠ 82) (h2 : t ≠ 94) (hb : But b w w') : KeyAt w' p k := by
  obtain ⟨i, o, hp, hi, ho⟩ := h
  have ne : ∀ {j : Nat} {cs' : Array Value} {t' : TypeId} {e' : Nat × Nat}, w.heap[j]? = some (.cells cs' t' e') → t ≠ t' → j ≠ b := by
    intro j cs' t' e' hj ht hjb
    rw [hjb, hc] at hj
    injection hj with hj
    injection hj with _ hj
    exact ht hj
  refine ⟨i, o, hb.heap hp (ne hp h1), hi.but hb ?_, ho.but hb ?_⟩
  · obtain ⟨_, hh, _⟩ := hi; exact ne hh.1 h2
  · obtain ⟨_, hh, _⟩ := ho; exact ne hh.1 h2
theorem KeysAt.but {w w' : World} {p q b : Nat} {k : List Nat} {cs : Array Value} {t : TypeId} {e : Nat × Nat} (h : KeysAt w p q k) (hc : w.heap[b]? = some (.cells cs t e)) (h1 : t ≠ 82) (h2 : t ≠ 94) (hb : But b w w') : KeysAt w' p q k :=
  ⟨h.1.but hc h1 h2 hb, h.2.but hc h1 h2 hb⟩
end Go.Proofs.YtbhcjdpachboaaaDoor.Pl

namespace Go.Proofs.YtbhcjdpachboaaaDoor.Pl
open Go.RowKit

end Go.Proofs.YtbhcjdpachboaaaDoor.Pl

namespace Go.Proofs.YtbhcjdpachboaaaDoor.Pl
open Go.RowKit

end Go.Proofs.YtbhcjdpachboaaaDoor.Pl

namespace Go.Proofs.YtbhcjdpachboaaaDoor.Pl
open Go.RowKit

end Go.Proofs.YtbhcjdpachboaaaDoor.Pl
