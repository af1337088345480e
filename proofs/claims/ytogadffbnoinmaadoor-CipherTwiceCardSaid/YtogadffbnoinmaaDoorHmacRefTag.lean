/- What the document's Sum of layer 3 answers: the tag. -/
import Derived.Test.YtogadffbnoinmaaDoorHmacXored
import Derived.Test.YtogadffbnoinmaaDoorHmacNew
namespace Go.Proofs.YtogadffbnoinmaaDoor.Pl
open Go.RowKit

set_option maxHeartbeats 1000000 in
set_option maxRecDepth 100000 in
theorem reftag_any (key s : ByteArray) (hk : key.size ≤ 800000) (hs : s.size ≤ 800000) (w : World) :
    Calls Tryd.prog 23 #[.string key, .string s] w fun e w' => e = .returned (.string (bytesOf (tagOf (nums key) (nums s)))) ∧ Below w.heap.size w w' := by
  have HK := Lib.hid (refblock_any key (by omega) w)
  have hsz : (bytesOf (kblock (nums key))).size = 64 := by rw [bytesOf_size, kblock_length]
  have hn : nums (bytesOf (kblock (nums key))) = kblock (nums key) := nums_bytesOf (kblock_bytes (nums_bytes key))
  have X1 := Lib.hid (xored_any 92 (by decide) (bytesOf (kblock (nums key))) (by rw [hsz]; decide))
  have X2 := Lib.hid (xored_any 54 (by decide) (bytesOf (kblock (nums key))) (by rw [hsz]; decide))
  have E1 := pad_nums 92 (by decide) key
  have E2 := pad_nums 54 (by decide) key
  have s1 : (bytesOf (xorb 92 (kblock (nums key)))).size ≤ 64 := by rw [pad_size]; decide
  have s2 : (bytesOf (xorb 54 (kblock (nums key)))).size ≤ 64 := by rw [pad_size]; decide
  have s3 : (bytesOf (digest (xorb 54 (kblock (nums key)) ++ nums s))).size ≤ 32 := by rw [bytesOf_size, digest_length]; decide
  rw [hn] at X1 X2
  have R1 : Hid (∀ W, Calls Tryd.prog 34 #[.string (bytesOf (xorb 54 (kblock (nums key))) ++ s)] W fun e w' => e = .returned (.string (bytesOf (digest (xorb 54 (kblock (nums key)) ++ nums s)))) ∧ Below W.heap.size W w') := Lib.hid (fun W => by
    have h := refsum_any (bytesOf (xorb 54 (kblock (nums key))) ++ s) (by rw [ByteArray.size_append]; exact Nat.le_trans (Nat.add_le_add s2 hs) (by decide)) W
    rwa [nums_append, E2] at h)
  have R2 : Hid (∀ W, Calls Tryd.prog 34 #[.string (bytesOf (xorb 92 (kblock (nums key))) ++ bytesOf (digest (xorb 54 (kblock (nums key)) ++ nums s)))] W fun e w' => e = .returned (.string (bytesOf (tagOf (nums key) (nums s)))) ∧ Below W.heap.size W w') := Lib.hid (fun W => by
    have h := refsum_any (bytesOf (xorb 92 (kblock (nums key))) ++ bytesOf (digest (xorb 54 (kblock (nums key)) ++ nums s))) (by rw [ByteArray.size_append]; exact Nat.le_trans (Nat.add_le_add s1 s3) (by decide)) W
    rwa [nums_append, E1, nums_bytesOf (digest_bytes _)] at h)
  clear hsz hn E1 E2
  generalize bytesOf (digest (xorb 54 (kblock (nums key)) ++ nums s)) = D at *
  generalize bytesOf (xorb 54 (kblock (nums key))) = I at *
  generalize bytesOf (xorb 92 (kblock (nums key))) = O at *
  generalize bytesOf (kblock (nums key)) = K at *
  generalize bytesOf (tagOf (nums key) (nums s)) = T at *
  go_enter Tryd.func23, Tryd.ntmps23
  go_wp2_with fail
  refine HK.out.mono ?_; rintro e w1 ⟨rfl, hb1⟩
  have B1 := Lib.hid hb1
  clear hb1
  go_wp2_with fail
  refine (X1.out w1).mono ?_; rintro e w2 ⟨rfl, hb2⟩
  have B2 := Lib.hid (below_step B1.out hb2)
  clear hb2
  go_wp2_with fail
  refine (X2.out w2).mono ?_; rintro e w3 ⟨rfl, hb3⟩
  have B3 := Lib.hid (below_step B2.out hb3)
  clear hb3
  go_wp2_with fail
  refine (R1.out w3).mono ?_; rintro e w4 ⟨rfl, hb4⟩
  have B4 := Lib.hid (below_step B3.out hb4)
  clear hb4
  go_wp2_with fail
  refine (R2.out w4).mono ?_; rintro e w5 ⟨rfl, hb5⟩
  have B5 := Lib.hid (below_step B4.out hb5)
  clear hb5
  go_wp2_with fail
  go_ret
  exact ⟨rfl, B5.out⟩
end Go.Proofs.YtogadffbnoinmaaDoor.Pl
