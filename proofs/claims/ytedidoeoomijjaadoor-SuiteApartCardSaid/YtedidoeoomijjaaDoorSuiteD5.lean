/- What New's closure answers: the block's bytes, each xor a number. What hmac.New answers: a key that is ready. What Key.Sum answers: the tag. What cipher.ready answers: the two keys of a key, ready. What the document's Data, Atom, Num, Kind, Text, and what makes a term of parts, answer. What the document's made answers, of whatever parts; Row, Hash, Mac, Seal. What hmac.Sum answers: the tag. -/
import Derived.Test.YtedidoeoomijjaaDoorHmacBlock
import Derived.Laws.BitsAllLaws
import Derived.Deep.RegionHeld3
import Derived.Test.YtedidoeoomijjaaDoorSuiteD4
import Derived.Test.YtedidoeoomijjaaDoorTermRead
namespace Go.Proofs.YtedidoeoomijjaaDoor.Pl
open Go.RowKit

theorem xorb_at (n : Nat) (l : List Nat) (j : Nat) (h : j < l.length) : (xorb n l).getD j 0 = l.getD j 0 ^^^ n := by
  simp [xorb, List.getD_eq_getElem?_getD, h]
set_option maxHeartbeats 1000000 in
set_option maxRecDepth 100000 in
theorem turned_any (n : Nat) (hn : n < 256) (g : Nat) (l : List Nat) (hl : l.length = 64) (hb : Bytes l) (w : World) (h : w.heap[g]? = some (.cells (row .u8 l) 65 (0, 0))) :
    Calls Tryd.prog 37 #[.int .u8 n, .pointer (some ⟨g, 0, none⟩)] w fun e w' => e = .returned (.string (bytesOf (xorb n l))) ∧ Below w.heap.size w w' := by
  have hz := zero64
  have HS : Hid ((Tryd.prog.info? 65).map (·.size) = some (row .u8 l).size) := Lib.hid (by rw [row_size, hl]; kernel_rfl)
  have HZ : Hid ((row .u8 (List.replicate 64 0)).size = (row .u8 l).size) := Lib.hid (by rw [row_size, row_size, hl, List.length_replicate])
  have HG := Lib.hid h
  have HL := Lib.hid hl
  have HB := Lib.hid hb
  have N1 := Lib.hid (Go.heap_alloc_new w (.cells (row .u8 (List.replicate 64 0)) 65))
  have hlt := (Array.getElem?_eq_some_iff.1 h).1
  clear h hl hb
  generalize List.replicate 64 0 = Z at *
  go_enter Tryd.func37, Tryd.ntmps37
  go_wp2_with (first
    | (refine wpList_load_row rfl 65 _ rfl g rfl 65 _ _ _ HG.out Tryd.underlying65 rfl HS.out ?_)
    | (refine wpList_store_row rfl 65 _ _ rfl w.heap.size (row .u8 l) rfl rfl 65 (row .u8 Z) N1.out HS.out HZ.out (row_one _ _) ?_))
  rw [World.setRow_alloc_new]
  have M1 := Go.heap_alloc_new w (.cells (row .u8 l) 65)
  have B1 : Below w.heap.size w (w.alloc (.cells (row .u8 l) 65)) := (Below.refl _ _).alloc (Nat.le_refl _) _
  generalize w.alloc (.cells (row .u8 l) 65) = W at *
  have HM1 := Lib.hid M1
  have HB1 := Lib.hid B1
  clear M1 B1 N1 HZ hz
  go_loopw [7] (fun i wr => ∃ (k : Nat) (m : List Nat), k ≤ 64 ∧ i = .int .i64 k ∧ Hid (m.length = 64) ∧ Hid (∀ j, m.getD j 0 = if j < k then l.getD j 0 ^^^ n else l.getD j 0) ∧ Hid (wr.heap[w.heap.size]? = some (.cells (row .u8 m) 65 (0, 0))) ∧ Hid (Below w.heap.size w wr)) (fun i _ => 64 - (intOf i).toNat)
  case atStart => exact ⟨0, l, by omega, rfl, HL, Lib.hid (fun j => by rw [if_neg (by omega)]), HM1, HB1⟩
  case round =>
    clear HM1 HB1
    obtain ⟨k, m, hk, rfl, hml, hag, h1, hbw⟩ := hrel
    by_cases hlt2 : k < 64
    · obtain ⟨c1, f1⟩ := at_row h1.out k (by rw [hml.out]; exact hlt2)
      have e := hag.out k
      rw [if_neg (by omega)] at e
      obtain ⟨x, ex⟩ : ∃ x, x = l.getD k 0 := ⟨_, rfl⟩
      have hx : x < 256 := by rw [ex]; exact HB.out.at k
      rw [e, ← ex] at c1
      have EX := Lib.hid ex
      have b1 : bits .xor .u8 (x : Int) (n : Int) = ((x ^^^ n : Nat) : Int) := u8_xor_nat x n hx hn
      obtain ⟨y, ey⟩ : ∃ y, y = x ^^^ n := ⟨_, rfl⟩
      rw [← ey] at b1
      have EY := Lib.hid ey
      clear e ex ey hx
      go_wp2_with fail
      go_roundw
      case rel =>
        refine ⟨k + 1, m.set k y, by omega, by go_num, Lib.hid (by rw [List.length_set]; exact hml.out), Lib.hid (fun j => ?_), Lib.hid (heap_step h1.out y), Lib.hid (hbw.out.setCell (Nat.le_refl _) _)⟩
        rw [getD_set _ _ _ _ (by rw [hml.out]; exact hlt2), hag.out j]
        by_cases hj : j = k
        · rw [if_pos hj, if_pos (by omega), hj, EY.out, EX.out]
        · rw [if_neg hj]
          by_cases hj2 : j < k
          · rw [if_pos hj2, if_pos (by omega)]
          · rw [if_neg hj2, if_neg (by omega)]
      case measure => simp [intOf]; omega
    · obtain rfl : k = 64 := by omega
      have e : m = xorb n l := getD_ext (by rw [hml.out, xorb_length, HL.out]) (fun i hi => by
        rw [hag.out i, if_pos (by rw [hml.out] at hi; exact hi), xorb_at n l i (by rw [HL.out]; rw [hml.out] at hi; exact hi)])
      have hsl := all64 w.heap.size
      have hcv := back_string wr w.heap.size 0 64 (xorb n l) (fun j => (xorb_bytes hn HB.out).at j) (fun j hj => by
        rw [Nat.zero_add, (at_row h1.out j (by rw [e]; exact hj)).1, e])
      rw [xorb_length, HL.out] at hcv
      clear e hag hml h1
      obtain ⟨X, eX⟩ : ∃ X, X = bytesOf (xorb n l) := ⟨_, rfl⟩
      rw [← eX] at hcv
      have EX := Lib.hid eX
      clear eX
      go_wp2_with fail
      go_ret
      exact ⟨by rw [← EX.out]; rfl, hbw.out⟩
end Go.Proofs.YtedidoeoomijjaaDoor.Pl

namespace Go.Proofs.YtedidoeoomijjaaDoor.Pl
open Go.RowKit

/-- Block p is a Key that is ready, of the key k. -/
def KeyAt (w : World) (p : Nat) (k : List Nat) : Prop :=
  ∃ i o, w.heap[p]? = some (.cells #[.pointer (some ⟨i, 0, none⟩), .pointer (some ⟨o, 0, none⟩)] 73 (0, 0)) ∧ Holds w i (xorb 54 (kblock k)) ∧ Holds w o (xorb 92 (kblock k))
theorem KeyAt.lt {w : World} {p : Nat} {k : List Nat} (h : KeyAt w p k) : p < w.heap.size := by
  obtain ⟨i, o, h, _, _⟩ := h
  exact (Array.getElem?_eq_some_iff.1 h).1
theorem KeyAt.below {w w' : World} {p : Nat} {k : List Nat} (h : KeyAt w p k) (hb : Below w.heap.size w w') : KeyAt w' p k := by
  obtain ⟨i, o, h, h1, h2⟩ := h
  exact ⟨i, o, heap_below hb h, h1.below hb, h2.below hb⟩
theorem pad_bytes (n : Nat) (hn : n < 256) (k : ByteArray) : Bytes (xorb n (kblock (nums k))) := xorb_bytes hn (kblock_bytes (nums_bytes k))
theorem pad_nums (n : Nat) (hn : n < 256) (k : ByteArray) : nums (bytesOf (xorb n (kblock (nums k)))) = xorb n (kblock (nums k)) := nums_bytesOf (pad_bytes n hn k)
theorem pad_size (n : Nat) (k : ByteArray) : (bytesOf (xorb n (kblock (nums k)))).size = 64 := by rw [bytesOf_size, xorb_length, kblock_length]

set_option maxHeartbeats 1000000 in
set_option maxRecDepth 100000 in
theorem hnew_any (key : ByteArray) (hl : key.size < 2305843009213693952) (w : World) (hT : Tab w) :
    Calls Tryd.prog 26 #[.string key] w fun e w' => ∃ p, e = .returned (.pointer (some ⟨p, 0, none⟩)) ∧ KeyAt w' p (nums key) ∧ w.heap.size ≤ p ∧ Below w.heap.size w w' := by
  have HT := Lib.hid hT
  have HBL := Lib.hid (block_any key hl w hT)
  have HS : Hid ((Tryd.prog.info? 65).map (·.size) = some (row .u8 (kblock (nums key))).size) := Lib.hid (by rw [row_size, kblock_length]; kernel_rfl)
  have HZ : Hid ((row .u8 (List.replicate 64 0)).size = (row .u8 (kblock (nums key))).size) := Lib.hid (by rw [row_size, row_size, kblock_length, List.length_replicate])
  have KL := Lib.hid (kblock_length (nums key))
  have KB := Lib.hid (kblock_bytes (nums_bytes key))
  have P1 := Lib.hid (fun W => begin_any (bytesOf (xorb 54 (kblock (nums key)))) (by rw [pad_size]; decide) W)
  have P2 := Lib.hid (fun W => begin_any (bytesOf (xorb 92 (kblock (nums key)))) (by rw [pad_size]; decide) W)
  have P3 := Lib.hid (pad_nums 54 (by decide) key)
  have P4 := Lib.hid (pad_nums 92 (by decide) key)
  have hz := zero64
  clear hT hl
  obtain ⟨kb, hkb⟩ : ∃ kb, kb = kblock (nums key) := ⟨_, rfl⟩
  rw [← hkb] at HBL HS HZ KL KB P1 P2 P3 P4
  have HKB := Lib.hid hkb
  clear hkb
  generalize List.replicate 64 0 = Z at *
  go_enter Tryd.func26, Tryd.ntmps26
  go_wp2_with fail
  refine HBL.out.mono ?_; rintro e w1 ⟨rfl, hb1⟩
  have N1 := Lib.hid (Go.heap_alloc_new w1 (.cells (row .u8 Z) 65))
  have B1 := Lib.hid hb1
  have T1 := Lib.hid (HT.out.below hb1)
  clear hb1
  go_wp2_with (first
    | (refine wpList_store_row rfl 65 _ _ rfl w1.heap.size (row .u8 kb) rfl rfl 65 (row .u8 Z) N1.out HS.out HZ.out (row_one _ _) ?_))
  rw [World.setRow_alloc_new]
  have B2 := Lib.hid (B1.out.alloc B1.out.size (.cells (row .u8 kb) 65))
  have T2 := Lib.hid (T1.out.below ((Below.refl w1.heap.size w1).alloc (Nat.le_refl _) (.cells (row .u8 kb) 65)))
  have C2 := Lib.hid (Go.heap_alloc_new w1 (.cells (row .u8 kb) 65))
  generalize w1.alloc (.cells (row .u8 kb) 65) = W at *
  generalize w1.heap.size = g at *
  refine (turned_any 54 (by decide) g kb KL.out KB.out W C2.out).mono ?_; rintro e w3 ⟨rfl, hb3⟩
  have B3 := Lib.hid (B2.out.trans (hb3.mono B2.out.size))
  have T3 := Lib.hid (T2.out.below hb3)
  have C3 := Lib.hid (heap_below hb3 C2.out)
  clear hb3
  go_wp2_with fail
  refine (P1.out w3 T3.out).mono ?_; rintro e w4 ⟨rfl, h4, hb4⟩
  have B4 := Lib.hid (B3.out.trans (hb4.mono B3.out.size))
  have T4 := Lib.hid (T3.out.below hb4)
  have C4 := heap_below hb4 C3.out
  rw [P3.out, HKB.out] at h4
  generalize w3.heap.size + 1 = i at *
  have H4 := Lib.hid h4
  clear h4 hb4
  go_wp2_with fail
  refine (turned_any 92 (by decide) g kb KL.out KB.out w4 C4).mono ?_; rintro e w5 ⟨rfl, hb5⟩
  have B5 := Lib.hid (B4.out.trans (hb5.mono B4.out.size))
  have T5 := Lib.hid (T4.out.below hb5)
  have H5 := Lib.hid (H4.out.below hb5)
  clear hb5 C4
  go_wp2_with fail
  refine (P2.out w5 T5.out).mono ?_; rintro e w6 ⟨rfl, h6, hb6⟩
  have B6 := Lib.hid (B5.out.trans (hb6.mono B5.out.size))
  have H6 := Lib.hid (H5.out.below hb6)
  rw [P4.out, HKB.out] at h6
  generalize w5.heap.size + 1 = o at *
  have K6 := Lib.hid h6
  clear h6 hb6
  go_wp2_with fail
  go_ret
  have hb7 : Below w6.heap.size w6 (w6.alloc (.cells #[.pointer (some ⟨i, 0, none⟩), .pointer (some ⟨o, 0, none⟩)] 73)) := (Below.refl _ _).alloc (Nat.le_refl _) _
  exact ⟨w6.heap.size, rfl, ⟨i, o, Go.heap_alloc_new _ _, H6.out.below hb7, K6.out.below hb7⟩, B6.out.size, B6.out.alloc B6.out.size _⟩
end Go.Proofs.YtedidoeoomijjaaDoor.Pl

namespace Go.Proofs.YtedidoeoomijjaaDoor.Pl
open Go.RowKit

theorem ks_keep {w W V : World} {p i o : Nat} {a b : List Nat}
    (h : W.cell? ⟨p, 0, none⟩ = some (.pointer (some ⟨i, 0, none⟩)) ∧ W.cell? ⟨p, 1, none⟩ = some (.pointer (some ⟨o, 0, none⟩)) ∧ Hid (Tab W) ∧ Hid (Holds W i a) ∧ Hid (Holds W o b) ∧ Hid (Below w.heap.size w W)) (hb : Below W.heap.size W V) :
    V.cell? ⟨p, 0, none⟩ = some (.pointer (some ⟨i, 0, none⟩)) ∧ V.cell? ⟨p, 1, none⟩ = some (.pointer (some ⟨o, 0, none⟩)) ∧ Hid (Tab V) ∧ Hid (Holds V i a) ∧ Hid (Holds V o b) ∧ Hid (Below w.heap.size w V) := by
  obtain ⟨h0, h1, h2, h3, h4, h5⟩ := h
  exact ⟨(hb.cell (p := ⟨p, 0, none⟩) (World.block_lt_of_cell? _ _ h0)).trans h0, (hb.cell (p := ⟨p, 1, none⟩) (World.block_lt_of_cell? _ _ h1)).trans h1, Lib.hid (h2.out.below hb), Lib.hid (h3.out.below hb), Lib.hid (h4.out.below hb), Lib.hid (h5.out.trans (hb.mono h5.out.size))⟩
theorem over_in {w W : World} {p i o : Nat} {a b : List Nat} (s : ByteArray) (ha : Hid (Bytes a)) (hl : Hid (a.length + s.size < 2305843009213693952))
    (h : W.cell? ⟨p, 0, none⟩ = some (.pointer (some ⟨i, 0, none⟩)) ∧ W.cell? ⟨p, 1, none⟩ = some (.pointer (some ⟨o, 0, none⟩)) ∧ Hid (Tab W) ∧ Hid (Holds W i a) ∧ Hid (Holds W o b) ∧ Hid (Below w.heap.size w W)) :
    Calls Tryd.prog 69 #[.agg #[.pointer (some ⟨i, 0, none⟩)], .string s] W fun e w' => e = .returned (.string (bytesOf (digest (a ++ nums s)))) ∧ Below W.heap.size W w' :=
  over_any i a ha.out s hl.out W h.2.2.1.out h.2.2.2.1.out
theorem over_out {w W : World} {p i o : Nat} {a b : List Nat} (m : List Nat) (hb : Hid (Bytes b)) (hl : Hid (b.length = 64))
    (h : W.cell? ⟨p, 0, none⟩ = some (.pointer (some ⟨i, 0, none⟩)) ∧ W.cell? ⟨p, 1, none⟩ = some (.pointer (some ⟨o, 0, none⟩)) ∧ Hid (Tab W) ∧ Hid (Holds W i a) ∧ Hid (Holds W o b) ∧ Hid (Below w.heap.size w W)) :
    Calls Tryd.prog 69 #[.agg #[.pointer (some ⟨o, 0, none⟩)], .string (bytesOf (digest m))] W fun e w' => e = .returned (.string (bytesOf (digest (b ++ digest m)))) ∧ Below W.heap.size W w' := by
  have := over_any o b hb.out (bytesOf (digest m)) (by rw [bytesOf_size, digest_length, hl.out]; decide) W h.2.2.1.out h.2.2.2.2.1.out
  rwa [nums_bytesOf (digest_bytes m)] at this

theorem drew_below (w : World) : Below w.heap.size w w.drew := (Below.refl _ _).drew
set_option maxHeartbeats 1000000 in
set_option maxRecDepth 100000 in
theorem keysum_any (p : Nat) (k : ByteArray) (s : ByteArray) (hl : s.size < 2000000000000000000) (w : World) (hT : Tab w) (hK : KeyAt w p (nums k)) :
    Calls Tryd.prog 58 #[.pointer (some ⟨p, 0, none⟩), .string s] w fun e w' => e = .returned (.string (bytesOf (tagOf (nums k) (nums s)))) ∧ Below w.heap.size w w' := by
  obtain ⟨i, o, hc, hi, ho⟩ := hK
  have c0 : w.cell? ⟨p, 0, none⟩ = some (.pointer (some ⟨i, 0, none⟩)) := cell_of_row _ _ _ _ _ _ hc
  have c1 : w.cell? ⟨p, 1, none⟩ = some (.pointer (some ⟨o, 0, none⟩)) := cell_of_row _ _ _ _ _ _ hc
  have KS := ks_keep (w := w) ⟨c0, c1, Lib.hid hT, Lib.hid hi, Lib.hid ho, Lib.hid (Below.refl _ _)⟩ (drew_below w)
  have HA := Lib.hid (pad_bytes 54 (by decide) k)
  have HB := Lib.hid (pad_bytes 92 (by decide) k)
  have LB : Hid ((xorb 92 (kblock (nums k))).length = 64) := Lib.hid (by rw [xorb_length, kblock_length])
  have LA : Hid ((xorb 54 (kblock (nums k))).length + s.size < 2305843009213693952) := Lib.hid (by rw [xorb_length, kblock_length]; omega)
  have ET : Hid (tagOf (nums k) (nums s) = digest (xorb 92 (kblock (nums k)) ++ digest (xorb 54 (kblock (nums k)) ++ nums s))) := Lib.hid (by rw [tagOf])
  generalize xorb 92 (kblock (nums k)) = b at *
  generalize xorb 54 (kblock (nums k)) = a at *
  clear c0 c1 hi ho hT hc hl

  go_enter Tryd.func58, Tryd.ntmps58
  go_wp2_with fail
  go_region_held3 (fun W => W.cell? ⟨p, 0, none⟩ = some (.pointer (some ⟨i, 0, none⟩)) ∧ W.cell? ⟨p, 1, none⟩ = some (.pointer (some ⟨o, 0, none⟩)) ∧ Hid (Tab W) ∧ Hid (Holds W i a) ∧ Hid (Holds W o b) ∧ Hid (Below w.heap.size w W)) (first | assumption | with_reducible exact ks_keep ‹_› ‹_›) (first
    | (go_at_call 69; with_reducible refine (over_in s HA LA ‹_›).mono ?_; rintro e w3 ⟨rfl, hb3⟩)
    | (go_at_call 69; with_reducible refine (over_out _ HB LB ‹_›).mono ?_; rintro e w4 ⟨rfl, hb4⟩))
  go_wp2_with fail
  go_ret
  have hB : _ ∧ _ ∧ _ ∧ _ ∧ _ ∧ Hid (Below w.heap.size w w4) := ‹_ ∧ _›
  exact ⟨by rw [ET.out]; rfl, hB.2.2.2.2.2.out⟩
theorem keysum_nil (s : ByteArray) (w : World) : Calls Tryd.prog 58 #[.pointer none, .string s] w fun e w' => e = .returned (.string ⟨#[]⟩) ∧ w = w' := by
  go_enter Tryd.func58, Tryd.ntmps58
  go_wp2_with fail
  go_ret
  exact ⟨rfl, rfl⟩
end Go.Proofs.YtedidoeoomijjaaDoor.Pl

namespace Go.Proofs.YtedidoeoomijjaaDoor.Pl
open Go.RowKit

theorem zero_keys (w : World) : (zeroValue 109).run Tryd.prog w = .ok (.agg #[.pointer none, .pointer none]) w := by kernel_rfl
/-- The keys of a key, as a value. -/
def keysV (p q : Nat) : Value := .agg #[.pointer (some ⟨p, 0, none⟩), .pointer (some ⟨q, 0, none⟩)]
theorem keys_one (p q : Nat) : (#[Value.pointer (some ⟨p, 0, none⟩), .pointer (some ⟨q, 0, none⟩)]).all (·.oneCell') = true := by
  rw [Array.all_eq_true_iff_forall_mem]
  intro v hv
  simp only [List.mem_toArray, List.mem_cons, List.not_mem_nil, or_false] at hv
  rcases hv with rfl | rfl <;> rfl
/-- Both keys of the key k are ready. -/
def KeysAt (w : World) (p q : Nat) (k : List Nat) : Prop := KeyAt w p (skey k) ∧ KeyAt w q (tkey k)
theorem KeysAt.below {w w' : World} {p q : Nat} {k : List Nat} (h : KeysAt w p q k) (hb : Below w.heap.size w w') : KeysAt w' p q k := ⟨h.1.below hb, h.2.below hb⟩
/-- What turns a block that is neither a key nor a hash leaves a key as it is. -/
theorem KeyAt.but {w w' : World} {p b : Nat} {k : List Nat} {cs : Array Value} {t : TypeId} {e : Nat × Nat} (h : KeyAt w p k) (hc : w.heap[b]? = some (.cells cs t e)) (h1 : t ≠ 73) (h2 : t ≠ 103) (hb : But b w w') : KeyAt w' p k := by
  obtain ⟨i, o, hp, hi, ho⟩ := h
  have ne : ∀ {j : Nat} {cs' : Array Value} {t' : TypeId} {e' : Nat × Nat}, w.heap[j]? = some (.cells cs' t' e') → t ≠ t' → j ≠ b := by
    intro j cs' t' e' hj ht hjb
    rw [hjb, hc] at hj
    injection hj with hj
    injection hj with _ hj
    exact ht hj
  refine ⟨i, o, hb.heap hp (ne hp h1), hi.but hb ?_, ho.but hb ?_⟩
  · obtain ⟨_, hh, _⟩ := hi; exact ne hh.1 h2
  · obtain ⟨_, hh, _⟩ := ho; exact ne hh.1 h2
theorem KeysAt.but {w w' : World} {p q b : Nat} {k : List Nat} {cs : Array Value} {t : TypeId} {e : Nat × Nat} (h : KeysAt w p q k) (hc : w.heap[b]? = some (.cells cs t e)) (h1 : t ≠ 73) (h2 : t ≠ 103) (hb : But b w w') : KeysAt w' p q k :=
  ⟨h.1.but hc h1 h2 hb, h.2.but hc h1 h2 hb⟩
def ReadyPost (k : List Nat) (w : World) (e : Ending) (w' : World) : Prop := ∃ p q, e = .returned (keysV p q) ∧ KeysAt w' p q k ∧ Below w.heap.size w w'

theorem nums_stream : nums ⟨#[115, 116, 114, 101, 97, 109]⟩ = streamL := by decide
theorem nums_tag : nums ⟨#[116, 97, 103]⟩ = tagL := by decide
theorem streamkey_any (p : Nat) (k : ByteArray) (w : World) (hT : Tab w) (hK : KeyAt w p (nums k)) :
    Calls Tryd.prog 58 #[.pointer (some ⟨p, 0, none⟩), .string ⟨#[115, 116, 114, 101, 97, 109]⟩] w fun e w' => e = .returned (.string (bytesOf (skey (nums k)))) ∧ Below w.heap.size w w' := by
  have h := keysum_any p k ⟨#[115, 116, 114, 101, 97, 109]⟩ (by decide) w hT hK
  rwa [nums_stream] at h
theorem tagkey_any (p : Nat) (k : ByteArray) (w : World) (hT : Tab w) (hK : KeyAt w p (nums k)) :
    Calls Tryd.prog 58 #[.pointer (some ⟨p, 0, none⟩), .string ⟨#[116, 97, 103]⟩] w fun e w' => e = .returned (.string (bytesOf (tkey (nums k)))) ∧ Below w.heap.size w w' := by
  have h := keysum_any p k ⟨#[116, 97, 103]⟩ (by decide) w hT hK
  rwa [nums_tag] at h
theorem hnew_bytes (l : List Nat) (hb : Bytes l) (hl : l.length ≤ 1000) (w : World) (hT : Tab w) :
    Calls Tryd.prog 26 #[.string (bytesOf l)] w fun e w' => ∃ p, e = .returned (.pointer (some ⟨p, 0, none⟩)) ∧ KeyAt w' p l ∧ w.heap.size ≤ p ∧ Below w.heap.size w w' := by
  have h := hnew_any (bytesOf l) (by rw [bytesOf_size]; omega) w hT
  rwa [nums_bytesOf hb] at h

set_option maxHeartbeats 1000000 in
set_option maxRecDepth 100000 in
theorem ready_any (key : ByteArray) (hl : key.size < 2000000000000000000) (w : World) (hT : Tab w) :
    Calls Tryd.prog 72 #[.string key] w (ReadyPost (nums key) w) := by
  have hz := zero_keys
  have B1 : Hid (Below w.heap.size w (w.alloc (.cells #[.pointer none, .pointer none] 109))) := Lib.hid ((Below.refl _ _).alloc (Nat.le_refl _) _)
  have T1 := Lib.hid (hT.below B1.out)
  have C1 := Lib.hid (Go.heap_alloc_new w (.cells #[.pointer none, .pointer none] 109))
  have S1 := Lib.hid (hnew_bytes (skey (nums key)) (skey_bytes _) (by rw [skey_length]; decide))
  have S2 := Lib.hid (hnew_bytes (tkey (nums key)) (tkey_bytes _) (by rw [tkey_length]; decide))
  have HL := Lib.hid hl
  clear hT hl
  go_enter Tryd.func72, Tryd.ntmps72
  go_wp2_with fail
  generalize w.alloc (.cells #[.pointer none, .pointer none] 109) = W at *
  refine (hnew_any key (by have := HL.out; omega) W T1.out).mono ?_; rintro e w1 ⟨p0, rfl, k1, _, b1⟩
  have K1 := Lib.hid k1
  have B2 := Lib.hid (below_step B1.out b1)
  have T2 := Lib.hid (T1.out.below b1)
  have C2 := Lib.hid (heap_below b1 C1.out)
  clear k1 b1
  go_wp2_with fail
  refine (streamkey_any p0 key w1 T2.out K1.out).mono ?_; rintro e w2 ⟨rfl, b2⟩
  have B3 := Lib.hid (below_step B2.out b2)
  have T3 := Lib.hid (T2.out.below b2)
  have C3 := Lib.hid (heap_below b2 C2.out)
  have K3 := Lib.hid (K1.out.below b2)
  clear b2
  go_wp2_with fail
  refine (S1.out w2 T3.out).mono ?_; rintro e w3 ⟨p, rfl, p3, _, b3⟩
  have P3 := Lib.hid p3
  have B4 := Lib.hid (below_step B3.out b3)
  have T4 := Lib.hid (T3.out.below b3)
  have C4 := Lib.hid (heap_below b3 C3.out)
  have K4 := Lib.hid (K3.out.below b3)
  clear p3 b3
  go_wp2_with fail
  refine (tagkey_any p0 key w3 T4.out K4.out).mono ?_; rintro e w4 ⟨rfl, b4⟩
  have B5 := Lib.hid (below_step B4.out b4)
  have T5 := Lib.hid (T4.out.below b4)
  have C5 := Lib.hid (heap_below b4 C4.out)
  have P5 := Lib.hid (P3.out.below b4)
  clear b4
  go_wp2_with fail
  refine (S2.out w4 T5.out).mono ?_; rintro e w5 ⟨q, rfl, q5, _, b5⟩
  have Q5 := Lib.hid q5
  have B6 := Lib.hid (below_step B5.out b5)
  have C6 := Lib.hid (heap_below b5 C5.out)
  have P6 := Lib.hid (P5.out.below b5)
  have HS : Hid ((Tryd.prog.info? 109).map (·.size) = some (#[Value.pointer (some ⟨p, 0, none⟩), .pointer (some ⟨q, 0, none⟩)].size)) := Lib.hid (by kernel_rfl)
  have HN : Hid (w.heap.size < w5.heap.size) := Lib.hid (Array.getElem?_eq_some_iff.1 C6.out).1
  clear q5 b5
  go_wp2_with (first
    | (refine wpList_store_row rfl 109 _ _ rfl w.heap.size #[.pointer (some ⟨p, 0, none⟩), .pointer (some ⟨q, 0, none⟩)] rfl rfl 109 #[.pointer none, .pointer none] C6.out HS.out rfl (keys_one p q) ?_))
  have hbut : But w.heap.size w5 (w5.setRow w.heap.size #[.pointer (some ⟨p, 0, none⟩), .pointer (some ⟨q, 0, none⟩)]) := (But.refl _ _).setRow _
  refine bodyPost_ret (v := keysV p q) ?_ rfl (show ReadyPost (nums key) w (.returned (keysV p q)) _ from ⟨p, q, rfl, KeysAt.but ⟨P6.out, Q5.out⟩ C6.out (by decide) (by decide) hbut, hbut.below B6.out (Nat.le_refl _) B6.out.size⟩)
  exact results_cell_row rfl _ _ w.heap.size 109 _ (0, 0) _ rfl (setRow_heap _ _ _ _ _ _ C6.out) Tryd.underlying109 rfl HS.out
end Go.Proofs.YtedidoeoomijjaaDoor.Pl

namespace Go.Proofs.YtedidoeoomijjaaDoor.Pl
open Go.RowKit

def st2 (h : List UInt8 × Nat) : Value := .tuple #[.string ⟨h.1.toArray⟩, .int .i64 h.2]
theorem cat_front (b : UInt8) (l : List UInt8) : (⟨#[b]⟩ ++ ⟨l.toArray⟩ : ByteArray) = ⟨(b :: l).toArray⟩ := by
  apply bl_inj
  unfold bl
  rw [ByteArray.data_append]
  simp
theorem txt_le (t : List UInt8) : (txt t).length ≤ 9 + t.length := by rw [txt_len]; have := enc_len t.length; omega

set_option maxRecDepth 100000 in
theorem rdata_any (s : ByteArray) (hs : s.size ≤ 281474976710656) (w : World) :
    Calls Tryd.prog 23 #[.string s] w fun e w' => e = .returned (st2 (dataP (bl s))) ∧ Below w.heap.size w w' := by
  have HT := Lib.hid (fun V => reftext_any s V (by omega))
  by_cases h : 1024 < s.size
  · have HZ : Hid (dataP (bl s) = ([], 5)) := Lib.hid (by unfold dataP; rw [bl_length]; exact if_pos h)
    have h' : (1024 : Int) < (s.size : Int) := by omega
    clear h hs
    go_enter Tryd.func23, Tryd.ntmps23
    go_wp2_with fail
    go_ret2
    exact ⟨by rw [HZ.out]; rfl, Below.refl _ _⟩
  · have HZ : Hid (dataP (bl s) = (100 :: txt (bl s), 0)) := Lib.hid (by unfold dataP; rw [bl_length]; exact if_neg h)
    have h' : ¬ (1024 : Int) < (s.size : Int) := by omega
    have hcat : (⟨#[100]⟩ : ByteArray).size + (⟨(txt s.data.toList).toArray⟩ : ByteArray).size ≤ 9223372036854775807 := by
      have h4 : (⟨(txt s.data.toList).toArray⟩ : ByteArray).size = (txt s.data.toList).length := size_lit _
      have := txt_le s.data.toList
      have h2 : s.data.toList.length = s.size := bl_length s
      have h3 : (⟨#[100]⟩ : ByteArray).size = 1 := rfl
      omega
    have HC : Hid ((⟨#[100]⟩ ++ ⟨(txt s.data.toList).toArray⟩ : ByteArray) = ⟨(100 :: txt (bl s)).toArray⟩) := Lib.hid (cat_front _ _)
    generalize (⟨(txt s.data.toList).toArray⟩ : ByteArray) = t at *
    clear h hs
    go_enter Tryd.func23, Tryd.ntmps23
    go_wp2_with fail
    refine (HT.out w).mono ?_; rintro e w1 ⟨rfl, b1⟩
    have B1 := Lib.hid b1
    clear b1
    go_wp2_with fail
    go_ret2
    exact ⟨by rw [HZ.out, st2, ← HC.out]; rfl, B1.out⟩

/-- The term of a number. -/
def numP (v : Int) : List UInt8 × Nat := if 0 ≤ v ∧ v ≤ 2147483647 then (100 :: txt (enc v.toNat), 0) else ([], 2)
theorem dataP_enc (v : Nat) : dataP (enc v) = (100 :: txt (enc v), 0) := by
  unfold dataP
  exact if_neg (by have := enc_len v; omega)
end Go.Proofs.YtedidoeoomijjaaDoor.Pl

namespace Go.Proofs.YtedidoeoomijjaaDoor.Pl
open Go.RowKit

/-- A row of texts in memory, to read. -/
def TxtRow (w : World) (ao : Option Addr) (l : List ByteArray) : Prop := l = [] ∨ ∃ b off, ao = some ⟨b, off, none⟩ ∧ b < w.heap.size ∧ ∀ j, j < l.length → w.cell? ⟨b, off + j, none⟩ = some (.string (l.getD j ByteArray.empty))
theorem TxtRow.below {w w' : World} {ao : Option Addr} {l : List ByteArray} (h : TxtRow w ao l) (hb : Below w.heap.size w w') : TxtRow w' ao l := by
  rcases h with h | ⟨b, off, hg, hlt, hc⟩
  · exact .inl h
  · exact .inr ⟨b, off, hg, Nat.lt_of_lt_of_le hlt hb.size, fun j hj => (hb.cell (p := ⟨b, off + j, none⟩) hlt).trans (hc j hj)⟩
/-- The parts' bytes, one behind the other. -/
def catL (l : List ByteArray) (k : Nat) : List UInt8 := ((l.take k).map bl).flatten
theorem catL_zero (l : List ByteArray) : catL l 0 = [] := by simp [catL]
theorem catL_succ (l : List ByteArray) (k : Nat) (h : k < l.length) : catL l (k + 1) = catL l k ++ bl (l.getD k ByteArray.empty) := by
  unfold catL
  rw [List.take_succ_eq_append_getElem h, List.map_append, List.flatten_append]
  simp [List.getD_eq_getElem?_getD, h]
theorem catL_all (l : List ByteArray) (k : Nat) (h : l.length ≤ k) : catL l k = (l.map bl).flatten := by
  unfold catL; rw [List.take_of_length_le h]
theorem catL_le (l : List ByteArray) (k : Nat) : (catL l k).length ≤ ((l.map bl).flatten).length := by
  have e : (l.map bl).flatten = catL l k ++ ((l.drop k).map bl).flatten := by
    unfold catL
    rw [← List.flatten_append, ← List.map_append, List.take_append_drop]
  rw [e, List.length_append]; omega
theorem cat_bytes (a b : ByteArray) : bl (a ++ b) = bl a ++ bl b := by
  unfold bl
  rw [ByteArray.data_append, Array.toList_append]
theorem mem_getD6 {l : List ByteArray} {x : ByteArray} (h : x ∈ l) : ∃ k, k < l.length ∧ l.getD k ByteArray.empty = x := by
  obtain ⟨k, hk, rfl⟩ := List.getElem_of_mem h
  exact ⟨k, hk, by simp [List.getD_eq_getElem?_getD, hk]⟩
theorem getD_mem6 (l : List ByteArray) (k : Nat) (h : k < l.length) : l.getD k ByteArray.empty ∈ l := by
  rw [List.getD_eq_getElem?_getD, List.getElem?_eq_getElem h]; exact List.getElem_mem h

end Go.Proofs.YtedidoeoomijjaaDoor.Pl

namespace Go.Proofs.YtedidoeoomijjaaDoor.Pl
open Go.RowKit

set_option maxRecDepth 100000 in
theorem tag_any (key s : ByteArray) (hk : key.size < 2000000000000000000) (hs : s.size < 2000000000000000000) (w : World) (hT : Tab w) :
    Calls Tryd.prog 61 #[.string key, .string s] w fun e w' => e = .returned (.string (bytesOf (tagOf (nums key) (nums s)))) ∧ Below w.heap.size w w' := by
  have HT := Lib.hid hT
  have HK := Lib.hid hk
  have HL := Lib.hid hs
  clear hT hk hs
  go_enter Tryd.func61, Tryd.ntmps61
  go_wp2_with fail
  refine (hnew_any key (by have := HK.out; omega) w HT.out).mono ?_; rintro e w1 ⟨p, rfl, h1, hp, hb1⟩
  have H1 := Lib.hid h1
  have B1 := Lib.hid hb1
  have T1 := Lib.hid (HT.out.below hb1)
  clear h1 hp hb1
  go_wp2_with fail
  refine (keysum_any p key s HL.out w1 T1.out H1.out).mono ?_; rintro e w2 ⟨rfl, hb2⟩
  have B2 := Lib.hid (B1.out.trans (hb2.mono B1.out.size))
  clear hb2
  go_wp2_with fail
  go_ret
  exact ⟨rfl, B2.out⟩
end Go.Proofs.YtedidoeoomijjaaDoor.Pl
