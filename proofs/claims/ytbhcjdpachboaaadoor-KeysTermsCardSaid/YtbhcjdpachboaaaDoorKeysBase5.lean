/- What the document's xored answers; its Sum: the tag. What the document's Sum of layer 3 answers: the tag. What cipher's partAt answers: a part of the key stream. What cipher's streamed hands to a loop: the key stream's bytes, with their indices. What cipher's turned answers: a text, each byte xor the key stream's. What cipher.Seal answers: the sealed form, or why there is none. What cipher's fitting answers: the keys if the tag fits, none otherwise. What cipher.Open answers: the text, or why there is none. alive of layer 4 answers true; what long tells. -/
import Derived.Test.YtbhcjdpachboaaaDoorHmacRef
import Derived.Test.YtbhcjdpachboaaaDoorKeysBase4
import Derived.Laws.Cover3
import Derived.Lib.ConvBytes
import Derived.RangeFuncBox
import Derived.RangeFuncNested
import Derived.RangeFuncLeaves
import Derived.Shelf.Abstract
import Derived.OwnWalkIn
import Derived.TacticsInMore
import Derived.LoopNIn
import Derived.LoopIn
import Derived.Test.YtbhcjdpachboaaaDoorKeysBase2
import Derived.Deep.QuietTactic
import Derived.BigQuiet
import Derived.Test.YtbhcjdpachboaaaDoorKeysBase3
namespace Go.Proofs.YtbhcjdpachboaaaDoor.Pl
open Go.RowKit

/-- From its begin on the block g has the bytes l, which may be written. -/
def At8 (w : World) (g : Nat) (l : List Nat) : Prop := ∀ j, j < l.length → w.cell? ⟨g, j, none⟩ = some (.int .u8 ((l.getD j 0 : Nat) : Int)) ∧ w.frozen? ⟨g, j, none⟩ = false
theorem At8.set {w : World} {g : Nat} {l : List Nat} (h : At8 w g l) (k x : Nat) (hk : k < l.length) : At8 (w.setCell ⟨g, k, none⟩ (.int .u8 (x : Int))) g (l.set k x) := by
  intro j hj
  rw [List.length_set] at hj
  rw [World.frozen?_setCell, getD_set _ _ _ _ hk]
  by_cases e : j = k
  · subst e
    rw [if_pos rfl, World.cell?_setCell_same w _ _ (h j hj).1]
    exact ⟨rfl, (h j hj).2⟩
  · rw [if_neg e, World.cell?_setCell_other w _ _ _ (fun h' => e (by cases h'; rfl))]
    exact h j hj
theorem at8_bytes (w : World) (s : ByteArray) : At8 (Lib.bytesWorld w 5 s) w.heap.size (nums s) := by
  obtain ⟨g, cap, hv, _, hl, h1, h2⟩ := own_bytes w s
  injection hv with e1 e2 e3
  injection e1 with e1
  injection e1 with e1
  subst e1
  exact fun j hj => ⟨h1 j hj, (h2 j (by omega)).2⟩

set_option maxHeartbeats 1000000 in
set_option maxRecDepth 100000 in
theorem xored_any (n : Nat) (hn : n < 256) (s : ByteArray) (hs : s.size ≤ 1000) (w : World) :
    Calls Tryd.prog 52 #[.string s, .int .u8 n] w fun e w' => e = .returned (.string (bytesOf (xorb n (nums s)))) ∧ Below w.heap.size w w' := by
  have hcv := Lib.run_convert_string_bytes (P := Tryd.prog) w 9 74 5 s Tryd.underlying9 Tryd.underlying74 Tryd.underlying5
  have HO := Lib.hid (at8_bytes w s)
  have HB := Lib.hid (below_bytes w s)
  have HL := Lib.hid (nums_length s)
  have HM := Lib.hid (nums_bytes s)
  generalize grownCap w s.size 0 5 = cap at hcv
  generalize Lib.bytesWorld w 5 s = W at *
  generalize nums s = l at *
  obtain ⟨z, hz⟩ : ∃ z, z = s.size := ⟨_, rfl⟩
  rw [← hz] at hcv HL hs
  clear hz
  go_enter Tryd.func52, Tryd.ntmps52
  go_wp2_with fail
  go_loopw [6] (fun i wr => ∃ (k : Nat) (m : List Nat), k ≤ z ∧ i = .int .i64 k ∧ Hid (m.length = z) ∧ Hid (∀ j, m.getD j 0 = if j < k then l.getD j 0 ^^^ n else l.getD j 0) ∧ Hid (At8 wr w.heap.size m) ∧ Hid (Below w.heap.size w wr)) (fun i _ => z - (intOf i).toNat)
  case atStart => exact ⟨0, l, by omega, rfl, HL, Lib.hid (fun j => by rw [if_neg (by omega)]), HO, HB⟩
  case round =>
    clear HO HB
    obtain ⟨k, m, hk, rfl, hml, hag, h1, hbw⟩ := hrel
    by_cases hlt2 : k < z
    · obtain ⟨c1, f1⟩ := h1.out k (by rw [hml.out]; exact hlt2)
      have e := hag.out k
      rw [if_neg (by omega)] at e
      obtain ⟨x, ex⟩ : ∃ x, x = l.getD k 0 := ⟨_, rfl⟩
      have hx : x < 256 := by rw [ex]; exact HM.out.at k
      rw [e, ← ex] at c1
      have EX := Lib.hid ex
      have b1 : bits .xor .u8 (x : Int) (n : Int) = ((x ^^^ n : Nat) : Int) := u8_xor_nat x n hx hn
      obtain ⟨y, ey⟩ : ∃ y, y = x ^^^ n := ⟨_, rfl⟩
      rw [← ey] at b1
      have EY := Lib.hid ey
      clear e ex ey hx
      go_wp2_with fail
      go_roundw
      case rel =>
        refine ⟨k + 1, m.set k y, by omega, by go_num, Lib.hid (by rw [List.length_set]; exact hml.out), Lib.hid (fun j => ?_), Lib.hid (h1.out.set k y (by rw [hml.out]; exact hlt2)), Lib.hid (hbw.out.setCell (Nat.le_refl _) _)⟩
        rw [getD_set _ _ _ _ (by rw [hml.out]; exact hlt2), hag.out j]
        by_cases hj : j = k
        · rw [if_pos hj, if_pos (by omega), hj, EY.out, EX.out]
        · rw [if_neg hj]
          by_cases hj2 : j < k
          · rw [if_pos hj2, if_pos (by omega)]
          · rw [if_neg hj2, if_neg (by omega)]
      case measure => simp [intOf]; omega
    · obtain rfl : k = z := by omega
      have e : m = xorb n l := getD_ext (by rw [hml.out, xorb_length, HL.out]) (fun i hi => by
        rw [hag.out i, if_pos (by rw [hml.out] at hi; exact hi), xorb_at n l i (by rw [HL.out]; rw [hml.out] at hi; exact hi)])
      have hcv2 := back_string wr w.heap.size 0 cap (xorb n l) (fun j => (xorb_bytes hn HM.out).at j) (fun j hj => by
        rw [Nat.zero_add, ← e]; rw [← e] at hj; exact (h1.out j hj).1)
      rw [xorb_length, HL.out] at hcv2
      clear e hag hml h1
      obtain ⟨X, eX⟩ : ∃ X, X = bytesOf (xorb n l) := ⟨_, rfl⟩
      rw [← eX] at hcv2
      have EX := Lib.hid eX
      clear eX hcv
      go_wp2_with fail
      go_ret
      exact ⟨by rw [← EX.out]; rfl, hbw.out⟩
end Go.Proofs.YtbhcjdpachboaaaDoor.Pl

namespace Go.Proofs.YtbhcjdpachboaaaDoor.Pl
open Go.RowKit

set_option maxHeartbeats 1000000 in
set_option maxRecDepth 100000 in
theorem reftag_any (key s : ByteArray) (hk : key.size ≤ 800000) (hs : s.size ≤ 800000) (w : World) :
    Calls Tryd.prog 44 #[.string key, .string s] w fun e w' => e = .returned (.string (bytesOf (tagOf (nums key) (nums s)))) ∧ Below w.heap.size w w' := by
  have HK := Lib.hid (refblock_any key (by omega) w)
  have hsz : (bytesOf (kblock (nums key))).size = 64 := by rw [bytesOf_size, kblock_length]
  have hn : nums (bytesOf (kblock (nums key))) = kblock (nums key) := nums_bytesOf (kblock_bytes (nums_bytes key))
  have X1 := Lib.hid (xored_any 92 (by decide) (bytesOf (kblock (nums key))) (by rw [hsz]; decide))
  have X2 := Lib.hid (xored_any 54 (by decide) (bytesOf (kblock (nums key))) (by rw [hsz]; decide))
  have E1 := pad_nums 92 (by decide) key
  have E2 := pad_nums 54 (by decide) key
  have s1 : (bytesOf (xorb 92 (kblock (nums key)))).size ≤ 64 := by rw [pad_size]; decide
  have s2 : (bytesOf (xorb 54 (kblock (nums key)))).size ≤ 64 := by rw [pad_size]; decide
  have s3 : (bytesOf (digest (xorb 54 (kblock (nums key)) ++ nums s))).size ≤ 32 := by rw [bytesOf_size, digest_length]; decide
  rw [hn] at X1 X2
  have R1 : Hid (∀ W, Calls Tryd.prog 51 #[.string (bytesOf (xorb 54 (kblock (nums key))) ++ s)] W fun e w' => e = .returned (.string (bytesOf (digest (xorb 54 (kblock (nums key)) ++ nums s)))) ∧ Below W.heap.size W w') := Lib.hid (fun W => by
    have h := refsum_any (bytesOf (xorb 54 (kblock (nums key))) ++ s) (by rw [ByteArray.size_append]; exact Nat.le_trans (Nat.add_le_add s2 hs) (by decide)) W
    rwa [nums_append, E2] at h)
  have R2 : Hid (∀ W, Calls Tryd.prog 51 #[.string (bytesOf (xorb 92 (kblock (nums key))) ++ bytesOf (digest (xorb 54 (kblock (nums key)) ++ nums s)))] W fun e w' => e = .returned (.string (bytesOf (tagOf (nums key) (nums s)))) ∧ Below W.heap.size W w') := Lib.hid (fun W => by
    have h := refsum_any (bytesOf (xorb 92 (kblock (nums key))) ++ bytesOf (digest (xorb 54 (kblock (nums key)) ++ nums s))) (by rw [ByteArray.size_append]; exact Nat.le_trans (Nat.add_le_add s1 s3) (by decide)) W
    rwa [nums_append, E1, nums_bytesOf (digest_bytes _)] at h)
  clear hsz hn E1 E2
  generalize bytesOf (digest (xorb 54 (kblock (nums key)) ++ nums s)) = D at *
  generalize bytesOf (xorb 54 (kblock (nums key))) = I at *
  generalize bytesOf (xorb 92 (kblock (nums key))) = O at *
  generalize bytesOf (kblock (nums key)) = K at *
  generalize bytesOf (tagOf (nums key) (nums s)) = T at *
  go_enter Tryd.func44, Tryd.ntmps44
  go_wp2_with fail
  refine HK.out.mono ?_; rintro e w1 ⟨rfl, hb1⟩
  have B1 := Lib.hid hb1
  clear hb1
  go_wp2_with fail
  refine (X1.out w1).mono ?_; rintro e w2 ⟨rfl, hb2⟩
  have B2 := Lib.hid (below_step B1.out hb2)
  clear hb2
  go_wp2_with fail
  refine (X2.out w2).mono ?_; rintro e w3 ⟨rfl, hb3⟩
  have B3 := Lib.hid (below_step B2.out hb3)
  clear hb3
  go_wp2_with fail
  refine (R1.out w3).mono ?_; rintro e w4 ⟨rfl, hb4⟩
  have B4 := Lib.hid (below_step B3.out hb4)
  clear hb4
  go_wp2_with fail
  refine (R2.out w4).mono ?_; rintro e w5 ⟨rfl, hb5⟩
  have B5 := Lib.hid (below_step B4.out hb5)
  clear hb5
  go_wp2_with fail
  go_ret
  exact ⟨rfl, B5.out⟩
end Go.Proofs.YtbhcjdpachboaaaDoor.Pl

namespace Go.Proofs.YtbhcjdpachboaaaDoor.Pl
open Go.RowKit

end Go.Proofs.YtbhcjdpachboaaaDoor.Pl

namespace Go.Proofs.YtbhcjdpachboaaaDoor.Pl
open Go.RowKit Go.Shelf
attribute [local go_sem] Oper.semAt_some

/-- What a round keeps: all that lay below M, but block g; and no block is gone. -/
structure KeepG (g M : Nat) (U V : World) : Prop where
  os : V.os = U.os
  tape : V.tape = U.tape
  output : V.output = U.output
  size : U.heap.size ≤ V.heap.size
  block : ∀ b, b < M → b ≠ g → V.heap[b]? = U.heap[b]?
theorem KeepG.refl (g M : Nat) (W : World) : KeepG g M W W := ⟨rfl, rfl, rfl, Nat.le_refl _, fun _ _ _ => rfl⟩
theorem KeepG.trans {g M : Nat} {U V W : World} (h : KeepG g M U V) (k : KeepG g M V W) : KeepG g M U W :=
  ⟨k.os.trans h.os, k.tape.trans h.tape, k.output.trans h.output, Nat.le_trans h.size k.size, fun b hb hg => (k.block b hb hg).trans (h.block b hb hg)⟩
theorem KeepG.of_below {g M n : Nat} {U V : World} (h : Below n U V) (hM : M ≤ n) : KeepG g M U V := ⟨h.os, h.tape, h.output, h.size, fun b hb _ => h.block b (Nat.lt_of_lt_of_le hb hM)⟩
theorem KeepG.below {g M B : Nat} {w U V : World} (h : KeepG g M U V) (k : Below B w U) (hM : B ≤ M) (hg : B ≤ g) : Below B w V :=
  ⟨h.os.trans k.os, h.tape.trans k.tape, h.output.trans k.output, Nat.le_trans k.size h.size, fun b hb => (h.block b (by omega) (by omega)).trans (k.block b hb)⟩
theorem KeepG.heap {g M b : Nat} {U V : World} {o : Obj} (h : KeepG g M U V) (hb : b < M) (hg : b ≠ g) (k : U.heap[b]? = some o) : V.heap[b]? = some o := (h.block b hb hg).trans k

end Go.Proofs.YtbhcjdpachboaaaDoor.Pl

namespace Go.Proofs.YtbhcjdpachboaaaDoor.Pl
open Go.RowKit Go.Shelf
attribute [local go_sem] Oper.semAt_some

end Go.Proofs.YtbhcjdpachboaaaDoor.Pl

namespace Go.Proofs.YtbhcjdpachboaaaDoor.Pl
open Go.RowKit

end Go.Proofs.YtbhcjdpachboaaaDoor.Pl

namespace Go.Proofs.YtbhcjdpachboaaaDoor.Pl
open Go.RowKit

end Go.Proofs.YtbhcjdpachboaaaDoor.Pl

namespace Go.Proofs.YtbhcjdpachboaaaDoor.Pl
open Go.RowKit

/-- What is hidden in a sealed form, and its tag. -/
def hidOf (x : ByteArray) : ByteArray := x.extract 0 (x.size - 32)
def tagAt (x : ByteArray) : ByteArray := x.extract (x.size - 32) x.size
/-- The tag is right. -/
def Fits (key x : ByteArray) : Prop := tagAt x = bytesOf (tagOf (tkey (nums key)) (nums (hidOf x)))
/-- The text, whose nonce and whose hidden bytes stand in y. -/
noncomputable def shown (key y : ByteArray) : ByteArray := bytesOf (hide (skey (nums key)) (nums (y.extract 0 12)) (nums (y.extract 12 y.size)))

end Go.Proofs.YtbhcjdpachboaaaDoor.Pl

namespace Go.Proofs.YtbhcjdpachboaaaDoor.Pl
open Go.RowKit

end Go.Proofs.YtbhcjdpachboaaaDoor.Pl
