/- HmacKeys answers true, whatever it is given. -/
import Derived.Test.YtghldnnnhlgmkaaDoorHmacAlive
import Derived.Test.YtghldnnnhlgmkaaDoorHmacZeros
import Derived.Test.YtghldnnnhlgmkaaDoorShaRefSum
namespace Go.Proofs.YtghldnnnhlgmkaaDoor.Pl
open Go.RowKit

set_option maxRecDepth 100000 in
theorem hkeys_large (k s : ByteArray) (n : Nat) (w : World) (hT : Tab w) (h : 4096 < k.size ∨ (¬ 4096 < k.size ∧ 4096 < s.size)) :
    Calls Tryd.prog 6 #[.string k, .string s, .int .u8 (n : Int)] w fun e w' => e = .returned (.bool true) ∧ Below w.heap.size w w' := by
  have HT := Lib.hid hT
  clear hT
  rcases h with h | ⟨h0, h⟩
  all_goals
    go_enter Tryd.func6, Tryd.ntmps6
    go_wp2_with fail
    refine (alive_any _ HT.out).mono ?_; rintro e w' ⟨rfl, hb⟩
    go_wp2_with fail
    go_ret
    exact ⟨rfl, hb⟩
set_option maxRecDepth 100000 in
theorem hkeys_long (k s : ByteArray) (n : Nat) (w : World) (hT : Tab w) (h0 : ¬ 4096 < k.size) (h1 : ¬ 4096 < s.size) (hk : 64 < k.size) :
    Calls Tryd.prog 6 #[.string k, .string s, .int .u8 (n : Int)] w fun e w' => e = .returned (.bool true) ∧ Below w.heap.size w w' := by
  have HT := Lib.hid hT
  have P1 := Lib.hid (tag_any k s (by omega) (by omega) w hT)
  have P2 := Lib.hid (fun W => refsum_any k (by omega) W)
  have P3 : Hid (∀ W, Tab W → Calls Tryd.prog 9 #[.string (bytesOf (digest (nums k))), .string s] W fun e w' => e = .returned (.string (bytesOf (tagOf (nums k) (nums s)))) ∧ Below W.heap.size W w') := Lib.hid (fun W hW => by
    have h := tag_any (bytesOf (digest (nums k))) s (by rw [bytesOf_size, digest_length]; decide) (by omega) W hW
    rwa [nums_bytesOf (digest_bytes _), tagOf_long _ _ (by rw [nums_length]; exact hk)] at h)
  clear hT
  generalize bytesOf (tagOf (nums k) (nums s)) = T at *
  generalize bytesOf (digest (nums k)) = D at *
  go_enter Tryd.func6, Tryd.ntmps6
  go_wp2_with fail
  refine P1.out.mono ?_; rintro e w1 ⟨rfl, hb1⟩
  have B1 := Lib.hid hb1
  have T1 := Lib.hid (HT.out.below hb1)
  clear hb1
  go_wp2_with fail
  refine (P2.out w1).mono ?_; rintro e w2 ⟨rfl, hb2⟩
  have B2 := Lib.hid (below_step B1.out hb2)
  have T2 := Lib.hid (T1.out.below hb2)
  clear hb2
  go_wp2_with fail
  refine (P3.out w2 T2.out).mono ?_; rintro e w3 ⟨rfl, hb3⟩
  have B3 := Lib.hid (below_step B2.out hb3)
  have T3 := Lib.hid (T2.out.below hb3)
  clear hb3
  go_wp2_with fail
  refine (alive_any _ T3.out).mono ?_; rintro e w4 ⟨rfl, hb4⟩
  have B4 := Lib.hid (below_step B3.out hb4)
  clear hb4
  go_wp2_with fail
  go_ret
  exact ⟨rfl, B4.out⟩
set_option maxRecDepth 100000 in
theorem hkeys_short (k s : ByteArray) (n : Nat) (hn : n < 256) (w : World) (hT : Tab w) (h1 : ¬ 4096 < s.size) (hk : ¬ 64 < k.size) :
    Calls Tryd.prog 6 #[.string k, .string s, .int .u8 (n : Int)] w fun e w' => e = .returned (.bool true) ∧ Below w.heap.size w w' := by
  have HT := Lib.hid hT
  obtain ⟨d, hd⟩ : ∃ d, d = 65 - k.size := ⟨_, rfl⟩
  obtain ⟨z, hz⟩ : ∃ z, z = n % d := ⟨_, rfl⟩
  have hd1 : 0 < d := by omega
  have hz1 : z < d := by rw [hz]; exact Nat.mod_lt _ hd1
  have q1 : (65 : Int) - (k.size : Int) = (d : Int) := by omega
  have q2 : Int.tmod (n : Int) (d : Int) = (z : Int) := by rw [Int.tmod_eq_emod_of_nonneg (by omega), hz]; exact (Int.natCast_emod n d).symm
  have q3 : ((d : Int) == 0) = false := by simp; omega
  have q4 : IntKind.i64.wrap (n : Int) = (n : Int) := by rw [IntKind.wrap_i64]; omega
  have q5 : (n : Int) % (d : Int) = (z : Int) := by rw [hz]; exact (Int.natCast_emod n d).symm
  have hX : (bytesOf (List.replicate z 0)).size ≤ 64 := by rw [zeros_size]; omega
  have hmk := zeros_made z (by omega) w
  have hcv := zeros_string z w
  have B0 := Lib.hid ((Below.refl w.heap.size w).alloc (Nat.le_refl _) (.cells (row .u8 (List.replicate z 0)) 5))
  have T0 := Lib.hid (hT.below B0.out)
  have P1 := Lib.hid (fun W hW => tag_any k s (by omega) (by omega) W hW)
  have P2 : Hid (∀ W, Tab W → Calls Tryd.prog 9 #[.string (k ++ bytesOf (List.replicate z 0)), .string s] W fun e w' => e = .returned (.string (bytesOf (tagOf (nums k) (nums s)))) ∧ Below W.heap.size W w') := Lib.hid (fun W hW => by
    have h := tag_any (k ++ bytesOf (List.replicate z 0)) s (by rw [ByteArray.size_append]; omega) (by omega) W hW
    rwa [nums_append, nums_bytesOf (l := List.replicate z 0) (fun x hx => by rw [List.eq_of_mem_replicate hx]; decide), tagOf_more _ _ _ (by rw [nums_length]; omega)] at h)
  have q6 : ((65 - k.size : Nat) : Int) = (d : Int) := by omega
  clear hT hz hd
  generalize w.alloc (.cells (row .u8 (List.replicate z 0)) 5) = W at *
  generalize bytesOf (List.replicate z 0) = X at *
  generalize bytesOf (tagOf (nums k) (nums s)) = T at *
  go_enter Tryd.func6, Tryd.ntmps6
  go_wp2_with fail
  refine (P1.out W T0.out).mono ?_; rintro e w1 ⟨rfl, hb1⟩
  have B1 := Lib.hid (below_step B0.out hb1)
  have T1 := Lib.hid (T0.out.below hb1)
  clear hb1
  go_wp2_with fail
  refine (P2.out w1 T1.out).mono ?_; rintro e w2 ⟨rfl, hb2⟩
  have B2 := Lib.hid (below_step B1.out hb2)
  have T2 := Lib.hid (T1.out.below hb2)
  clear hb2
  go_wp2_with fail
  refine (alive_any _ T2.out).mono ?_; rintro e w3 ⟨rfl, hb3⟩
  have B3 := Lib.hid (below_step B2.out hb3)
  clear hb3
  go_wp2_with fail
  go_ret
  exact ⟨rfl, B3.out⟩
theorem hkeys_all (k s : ByteArray) (n : Nat) (hn : n < 256) (w : World) (hT : Tab w) :
    Calls Tryd.prog 6 #[.string k, .string s, .int .u8 (n : Int)] w fun e w' => e = .returned (.bool true) ∧ Below w.heap.size w w' := by
  by_cases h0 : 4096 < k.size
  · exact hkeys_large k s n w hT (.inl h0)
  · by_cases h1 : 4096 < s.size
    · exact hkeys_large k s n w hT (.inr ⟨h0, h1⟩)
    · by_cases hk : 64 < k.size
      · exact hkeys_long k s n w hT h0 h1 hk
      · exact hkeys_short k s n hn w hT h1 hk
end Go.Proofs.YtghldnnnhlgmkaaDoor.Pl
