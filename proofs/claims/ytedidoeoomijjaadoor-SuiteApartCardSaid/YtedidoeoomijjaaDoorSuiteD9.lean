/- CipherOpens answers true, whatever it is given. What is sealed and opened again, over texts. The suite's sums, tags and seals over plain bytes are those of the stages before. -/
import Derived.Test.YtedidoeoomijjaaDoorCipherRef
import Derived.Test.YtedidoeoomijjaaDoorCipherAlive
import Derived.Test.YtedidoeoomijjaaDoorCipherXor
import Derived.Test.YtedidoeoomijjaaDoorSuiteD2
import Derived.Test.YtedidoeoomijjaaDoorSuiteD1
namespace Go.Proofs.YtedidoeoomijjaaDoor.Pl
open Go.RowKit

theorem cut_at (x : ByteArray) (m : Nat) (h : m ≤ x.size) : x.extract 0 m ++ x.extract m x.size = x := by
  apply ByteArray.ext
  have h' : m ≤ x.data.size := h
  simp
theorem ext_size (x : ByteArray) (a b : Nat) (h : b ≤ x.size) : (x.extract a b).size = b - a := by
  simp [Nat.min_eq_left h]
theorem shown_nums (key y : ByteArray) : nums (shown key y) = hide (skey (nums key)) (nums (y.extract 0 12)) (nums (y.extract 12 y.size)) := by
  unfold shown
  exact nums_bytesOf (hide_bytes _ _ (nums_bytes _))
theorem shown_size (key y : ByteArray) : (shown key y).size = y.size - 12 := by
  unfold shown
  rw [bytesOf_size, hide_length, nums_length, ext_size _ _ _ (Nat.le_refl _)]
/-- What is opened is what would be sealed. -/
theorem reseal (key x : ByteArray) (h : 44 ≤ x.size) (hf : Fits key x) : bytesOf (sealedL (nums key) (nums (x.extract 0 12)) (nums (shown key (hidOf x)))) = x := by
  have hy : (hidOf x).size = x.size - 32 := by unfold hidOf; rw [ext_size _ _ _ (Nat.sub_le _ _)]; omega
  have e1 : x.extract 0 12 = (hidOf x).extract 0 12 := (extract_extract x _ 0 12 (by omega)).symm
  have e2 : nums (x.extract 0 12) ++ hide (skey (nums key)) (nums (x.extract 0 12)) (nums (shown key (hidOf x))) = nums (hidOf x) := by
    rw [shown_nums, e1, hide_hide, ← nums_append, cut_at _ _ (by omega)]
  have e3 : tagOf (tkey (nums key)) (nums (hidOf x)) = nums (tagAt x) := by
    rw [hf, nums_bytesOf (tagOf_bytes _ _)]
  have e4 : hidOf x ++ tagAt x = x := by unfold hidOf tagAt; exact cut_at _ _ (Nat.sub_le _ _)
  rw [sealedL, hiddenL, e2, e3, ← nums_append, e4, bytesOf_nums]

end Go.Proofs.YtedidoeoomijjaaDoor.Pl

namespace Go.Proofs.YtedidoeoomijjaaDoor.Pl
open Go.RowKit

/-- The sealed form, as a text. -/
noncomputable def sealedT (key nonce s : ByteArray) : ByteArray := bytesOf (sealedL (nums key) (nums nonce) (nums s))
theorem sealedT_size (key nonce s : ByteArray) (h : nonce.size = 12) : (sealedT key nonce s).size = s.size + 44 := by
  rw [sealedT, bytesOf_size, sealedL_length, nums_length, nums_length, h]; omega
theorem sealedT_nums (key nonce s : ByteArray) : nums (sealedT key nonce s) = sealedL (nums key) (nums nonce) (nums s) := nums_bytesOf (sealedL_bytes _ (nums_bytes _) (nums_bytes _))
theorem sealedT_hid (key nonce s : ByteArray) (h : nonce.size = 12) : nums (hidOf (sealedT key nonce s)) = hiddenL (nums key) (nums nonce) (nums s) := by
  unfold hidOf
  rw [nums_extract, sealedT_nums, sealedT_size _ _ _ h, List.drop_zero, Nat.sub_zero, sealedL, List.take_append_of_le_length (by rw [hiddenL_length, nums_length, nums_length]; omega),
    List.take_of_length_le (by rw [hiddenL_length, nums_length, nums_length]; omega)]
theorem sealedT_tag (key nonce s : ByteArray) (h : nonce.size = 12) : nums (tagAt (sealedT key nonce s)) = tagOf (tkey (nums key)) (hiddenL (nums key) (nums nonce) (nums s)) := by
  unfold tagAt
  rw [nums_extract, sealedT_nums, sealedT_size _ _ _ h, sealedL, List.drop_left' (by rw [hiddenL_length, nums_length, nums_length]; omega), List.take_of_length_le (by rw [tagOf_length]; omega)]
theorem sealedT_fits (key nonce s : ByteArray) (h : nonce.size = 12) : Fits key (sealedT key nonce s) := by
  apply nums_inj
  rw [nums_bytesOf (tagOf_bytes _ _), sealedT_hid _ _ _ h, sealedT_tag _ _ _ h]
theorem sealedT_shown (key nonce s : ByteArray) (h : nonce.size = 12) : shown key (hidOf (sealedT key nonce s)) = s := by
  apply nums_inj
  have hl : (nums nonce).length = 12 := by rw [nums_length]; exact h
  have hz : (hidOf (sealedT key nonce s)).size = s.size + 12 := by unfold hidOf; rw [ext_size _ _ _ (Nat.sub_le _ _), sealedT_size _ _ _ h]; omega
  rw [shown_nums, nums_extract, nums_extract, sealedT_hid _ _ _ h, hiddenL, List.drop_zero, Nat.sub_zero, List.take_left' hl, List.drop_left' hl,
    List.take_of_length_le (by rw [hide_length, nums_length, hz]; omega), hide_hide]
theorem sealedT_nonce (key nonce s : ByteArray) (h : nonce.size = 12) : (sealedT key nonce s).extract 0 12 = nonce := by
  apply nums_inj
  have hl : (nums nonce).length = 12 := by rw [nums_length]; exact h
  rw [nums_extract, sealedT_nums, List.drop_zero, Nat.sub_zero, sealedL, hiddenL, List.append_assoc, List.take_left' hl]
theorem hid_append (y d : ByteArray) (h : d.size = 32) : hidOf (y ++ d) = y := by
  apply nums_inj
  unfold hidOf
  rw [nums_extract, nums_append, ByteArray.size_append, h, List.drop_zero, Nat.sub_zero, Nat.add_sub_cancel, List.take_left' (nums_length y)]
theorem tag_append (y d : ByteArray) (h : d.size = 32) : tagAt (y ++ d) = d := by
  apply nums_inj
  unfold tagAt
  rw [nums_extract, nums_append, ByteArray.size_append, h, Nat.add_sub_cancel, List.drop_left' (nums_length y), List.take_of_length_le (by rw [nums_length, h]; omega)]
theorem hid_tag (x : ByteArray) : hidOf x ++ tagAt x = x := by unfold hidOf tagAt; exact cut_at _ _ (Nat.sub_le _ _)
/-- What has been spoilt fits just if it is as it was. -/
theorem spoilt_fits (key nonce s d : ByteArray) (h : nonce.size = 12) (hd : d.size = 32) : Fits key (hidOf (sealedT key nonce s) ++ d) ↔ hidOf (sealedT key nonce s) ++ d = sealedT key nonce s := by
  have hf : tagAt (sealedT key nonce s) = bytesOf (tagOf (tkey (nums key)) (nums (hidOf (sealedT key nonce s)))) := sealedT_fits key nonce s h
  unfold Fits
  rw [tag_append _ _ hd, hid_append _ _ hd, ← hf]
  constructor
  · intro e
    rw [e, hid_tag]
  · intro e
    have h2 := congrArg tagAt e
    rwa [tag_append _ _ hd] at h2
theorem xorT_size (a b : ByteArray) : (xorT a b).size = a.size := by rw [xorT, bytesOf_size, xorf_length, nums_length]
end Go.Proofs.YtedidoeoomijjaaDoor.Pl

namespace Go.Proofs.YtedidoeoomijjaaDoor.Pl
open Go.RowKit

/-- The text of bytes. -/
def ba (l : List UInt8) : ByteArray := ⟨l.toArray⟩
theorem bl_ba (l : List UInt8) : bl (ba l) = l := by simp [bl, ba]
theorem ba_bl (s : ByteArray) : ba (bl s) = s := by simp [bl, ba]
theorem ba_size (l : List UInt8) : (ba l).size = l.length := by simp [ba, ByteArray.size]

open Classical in
/-- The sums, tags and seals of the document's standards, as plain bytes. -/
noncomputable def cryP : Cry where
  hash t := bl (bytesOf (digest (nums (ba t))))
  mac k t := bl (bytesOf (tagOf (nums (ba k)) (nums (ba t))))
  shut k n t := bl (sealedT (ba k) (ba n) (ba t))
  see k x := if 44 ≤ x.length ∧ Fits (ba k) (ba x) then some (bl (shown (ba k) (hidOf (ba x)))) else none
  hash_len t := by rw [bl_length, bytesOf_size, digest_length]
  mac_len k t := by rw [bl_length, bytesOf_size, tagOf_length]
  shut_len k n t := by rw [bl_length, sealedT, bytesOf_size, sealedL_length, nums_length, nums_length, ba_size, ba_size]
  see_shut k n t h _ := by
    have hn : (ba n).size = 12 := by rw [ba_size, h]
    rw [if_pos, ba_bl, sealedT_shown _ _ _ hn, bl_ba]
    refine ⟨?_, ?_⟩
    · rw [bl_length, sealedT_size _ _ _ hn]; omega
    · rw [ba_bl]; exact sealedT_fits _ _ _ hn
theorem cry_hash (t : ByteArray) : cryP.hash (bl t) = bl (bytesOf (digest (nums t))) := by show bl (bytesOf (digest (nums (ba (bl t))))) = _; rw [ba_bl]
theorem cry_mac (k t : ByteArray) : cryP.mac (bl k) (bl t) = bl (bytesOf (tagOf (nums k) (nums t))) := by show bl (bytesOf (tagOf (nums (ba (bl k))) (nums (ba (bl t))))) = _; rw [ba_bl, ba_bl]
theorem cry_shut (k n t : ByteArray) : cryP.shut (bl k) (bl n) (bl t) = bl (sealedT k n t) := by show bl (sealedT (ba (bl k)) (ba (bl n)) (ba (bl t))) = _; rw [ba_bl, ba_bl, ba_bl]
open Classical in
theorem cry_see_yes {k x : ByteArray} (h : 44 ≤ x.size) (hf : Fits k x) : cryP.see (bl k) (bl x) = some (bl (shown k (hidOf x))) := by
  show (if 44 ≤ (bl x).length ∧ Fits (ba (bl k)) (ba (bl x)) then some (bl (shown (ba (bl k)) (hidOf (ba (bl x))))) else none) = _
  rw [ba_bl, ba_bl, if_pos ⟨by rw [bl_length]; exact h, hf⟩]
open Classical in
theorem cry_see_no {k x : ByteArray} (h : ¬ (44 ≤ x.size ∧ Fits k x)) : cryP.see (bl k) (bl x) = none := by
  show (if 44 ≤ (bl x).length ∧ Fits (ba (bl k)) (ba (bl x)) then some (bl (shown (ba (bl k)) (hidOf (ba (bl x))))) else none) = _
  rw [ba_bl, ba_bl, bl_length, if_neg h]
end Go.Proofs.YtedidoeoomijjaaDoor.Pl
