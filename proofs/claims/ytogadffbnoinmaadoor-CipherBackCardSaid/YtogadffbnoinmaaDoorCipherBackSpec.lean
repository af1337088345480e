/- What is sealed and opened again, over texts. -/
import Derived.Test.YtogadffbnoinmaaDoorCipherOpens
import Derived.Test.YtogadffbnoinmaaDoorCipherXor
namespace Go.Proofs.YtogadffbnoinmaaDoor.Pl
open Go.RowKit

/-- The sealed form, as a text. -/
noncomputable def sealedT (key nonce s : ByteArray) : ByteArray := bytesOf (sealedL (nums key) (nums nonce) (nums s))
theorem sealedT_size (key nonce s : ByteArray) (h : nonce.size = 12) : (sealedT key nonce s).size = s.size + 44 := by
  rw [sealedT, bytesOf_size, sealedL_length, nums_length, nums_length, h]; omega
theorem sealedT_nums (key nonce s : ByteArray) : nums (sealedT key nonce s) = sealedL (nums key) (nums nonce) (nums s) := nums_bytesOf (sealedL_bytes _ (nums_bytes _) (nums_bytes _))
theorem sealedT_hid (key nonce s : ByteArray) (h : nonce.size = 12) : nums (hidOf (sealedT key nonce s)) = hiddenL (nums key) (nums nonce) (nums s) := by
  unfold hidOf
  rw [nums_extract, sealedT_nums, sealedT_size _ _ _ h, List.drop_zero, Nat.sub_zero, sealedL, List.take_append_of_le_length (by rw [hiddenL_length, nums_length, nums_length]; omega),
    List.take_of_length_le (by rw [hiddenL_length, nums_length, nums_length]; omega)]
theorem sealedT_tag (key nonce s : ByteArray) (h : nonce.size = 12) : nums (tagAt (sealedT key nonce s)) = tagOf (tkey (nums key)) (hiddenL (nums key) (nums nonce) (nums s)) := by
  unfold tagAt
  rw [nums_extract, sealedT_nums, sealedT_size _ _ _ h, sealedL, List.drop_left' (by rw [hiddenL_length, nums_length, nums_length]; omega), List.take_of_length_le (by rw [tagOf_length]; omega)]
theorem sealedT_fits (key nonce s : ByteArray) (h : nonce.size = 12) : Fits key (sealedT key nonce s) := by
  apply nums_inj
  rw [nums_bytesOf (tagOf_bytes _ _), sealedT_hid _ _ _ h, sealedT_tag _ _ _ h]
theorem sealedT_shown (key nonce s : ByteArray) (h : nonce.size = 12) : shown key (hidOf (sealedT key nonce s)) = s := by
  apply nums_inj
  have hl : (nums nonce).length = 12 := by rw [nums_length]; exact h
  have hz : (hidOf (sealedT key nonce s)).size = s.size + 12 := by unfold hidOf; rw [ext_size _ _ _ (Nat.sub_le _ _), sealedT_size _ _ _ h]; omega
  rw [shown_nums, nums_extract, nums_extract, sealedT_hid _ _ _ h, hiddenL, List.drop_zero, Nat.sub_zero, List.take_left' hl, List.drop_left' hl,
    List.take_of_length_le (by rw [hide_length, nums_length, hz]; omega), hide_hide]
theorem sealedT_nonce (key nonce s : ByteArray) (h : nonce.size = 12) : (sealedT key nonce s).extract 0 12 = nonce := by
  apply nums_inj
  have hl : (nums nonce).length = 12 := by rw [nums_length]; exact h
  rw [nums_extract, sealedT_nums, List.drop_zero, Nat.sub_zero, sealedL, hiddenL, List.append_assoc, List.take_left' hl]
theorem hid_append (y d : ByteArray) (h : d.size = 32) : hidOf (y ++ d) = y := by
  apply nums_inj
  unfold hidOf
  rw [nums_extract, nums_append, ByteArray.size_append, h, List.drop_zero, Nat.sub_zero, Nat.add_sub_cancel, List.take_left' (nums_length y)]
theorem tag_append (y d : ByteArray) (h : d.size = 32) : tagAt (y ++ d) = d := by
  apply nums_inj
  unfold tagAt
  rw [nums_extract, nums_append, ByteArray.size_append, h, Nat.add_sub_cancel, List.drop_left' (nums_length y), List.take_of_length_le (by rw [nums_length, h]; omega)]
theorem hid_tag (x : ByteArray) : hidOf x ++ tagAt x = x := by unfold hidOf tagAt; exact cut_at _ _ (Nat.sub_le _ _)
/-- What has been spoilt fits just if it is as it was. -/
theorem spoilt_fits (key nonce s d : ByteArray) (h : nonce.size = 12) (hd : d.size = 32) : Fits key (hidOf (sealedT key nonce s) ++ d) ↔ hidOf (sealedT key nonce s) ++ d = sealedT key nonce s := by
  have hf : tagAt (sealedT key nonce s) = bytesOf (tagOf (tkey (nums key)) (nums (hidOf (sealedT key nonce s)))) := sealedT_fits key nonce s h
  unfold Fits
  rw [tag_append _ _ hd, hid_append _ _ hd, ← hf]
  constructor
  · intro e
    rw [e, hid_tag]
  · intro e
    have h2 := congrArg tagAt e
    rwa [tag_append _ _ hd] at h2
theorem xorT_size (a b : ByteArray) : (xorT a b).size = a.size := by rw [xorT, bytesOf_size, xorf_length, nums_length]
end Go.Proofs.YtogadffbnoinmaaDoor.Pl
