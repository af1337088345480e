/- What the document's Block, xored and Sum of layer 3 answer. -/
import Derived.Test.YtbhcjdpachboaaaDoorKeysBase3
import Derived.Test.YtbhcjdpachboaaaDoorHmacBlock
import Derived.Test.YtbhcjdpachboaaaDoorKeysBase4
import Derived.Test.YtbhcjdpachboaaaDoorShaRefSum
namespace Go.Proofs.YtbhcjdpachboaaaDoor.Pl
open Go.RowKit

set_option maxHeartbeats 1000000 in
set_option maxRecDepth 100000 in
theorem refblock_any (key : ByteArray) (hk : key.size ≤ 900000) (w : World) :
    Calls Tryd.prog 50 #[.string key] w fun e w' => e = .returned (.string (bytesOf (kblock (nums key)))) ∧ Below w.heap.size w w' := by
  by_cases h : key.size ≤ 64
  · obtain ⟨n, hn⟩ : ∃ n, n = 64 - key.size := ⟨_, rfl⟩
    have E : Hid (key ++ bytesOf (List.replicate n 0) = bytesOf (kblock (nums key))) := Lib.hid (by
      rw [kblock_short _ (by rw [nums_length]; exact h), bytesOf_append, bytesOf_nums, nums_length, ← hn])
    have q1 : (64 : Int) - (key.size : Int) = (n : Int) := by omega
    have hmk := zeros_made n (by omega) w
    have hcv := zeros_string n w
    have HB := Lib.hid ((Below.refl w.heap.size w).alloc (Nat.le_refl _) (.cells (row .u8 (List.replicate n 0)) 5))
    have hX : (bytesOf (List.replicate n 0)).size ≤ 64 := by rw [zeros_size]; omega
    generalize w.alloc (.cells (row .u8 (List.replicate n 0)) 5) = W at *
    generalize bytesOf (List.replicate n 0) = X at *
    clear hn
    go_enter Tryd.func50, Tryd.ntmps50
    go_wp2_with fail
    go_ret
    exact ⟨by rw [← E.out]; rfl, HB.out⟩
  · have hgt : 64 < (nums key).length := by rw [nums_length]; exact Nat.lt_of_not_le h
    have E : Hid (bytesOf (digest (nums key)) ++ bytesOf (List.replicate 32 0) = bytesOf (kblock (nums key))) := Lib.hid (by
      rw [kblock_of_long _ hgt, bytesOf_append, digest_length])
    have hY : (bytesOf (digest (nums key))).size = 32 := by rw [bytesOf_size, digest_length]
    have HR := Lib.hid (refsum_any key hk w)
    have hX : (bytesOf (List.replicate 32 0)).size ≤ 64 := by rw [zeros_size]; decide
    have q1 : (64 : Int) - ((bytesOf (digest (nums key))).size : Int) = ((32 : Nat) : Int) := by rw [hY]; rfl
    have q2 : (bytesOf (digest (nums key))).size ≤ 64 := by rw [hY]; decide
    have HMK := Lib.hid (zeros_made 32 (by decide))
    have HCV := Lib.hid (zeros_string 32)
    clear hY hgt
    generalize bytesOf (List.replicate 32 0) = X at *
    generalize List.replicate 32 0 = Z at *
    generalize bytesOf (digest (nums key)) = Y at *
    generalize 32 = n at HMK HCV q1
    go_enter Tryd.func50, Tryd.ntmps50
    go_wp2_with fail
    refine HR.out.mono ?_; rintro e w1 ⟨rfl, hb1⟩
    have hmk := HMK.out w1
    have hcv := HCV.out w1
    have HB := Lib.hid (hb1.alloc hb1.size (.cells (row .u8 Z) 5))
    clear hb1
    generalize w1.alloc (.cells (row .u8 Z) 5) = W at *
    go_wp2_with fail
    go_ret
    exact ⟨by rw [← E.out]; rfl, HB.out⟩
end Go.Proofs.YtbhcjdpachboaaaDoor.Pl
