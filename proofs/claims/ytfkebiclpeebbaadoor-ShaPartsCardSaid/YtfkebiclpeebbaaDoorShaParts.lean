/- ShaParts answers true, whatever it is given. -/
import Derived.Test.YtfkebiclpeebbaaDoorShaCopies
import Derived.Test.YtfkebiclpeebbaaDoorShaArgs
namespace Go.Proofs.YtfkebiclpeebbaaDoor.Pl
open Go.RowKit

set_option maxRecDepth 100000 in
theorem parts_large (p q : Option Addr) (n c n' c' : Nat) (w : World) (hT : Tab w) (h : 100 < n) :
    Calls Tryd.prog 5 #[.slice p n c, .slice q n' c'] w fun e w' => e = .returned (.bool true) ∧ Below w.heap.size w w' := by
  have HT := Lib.hid hT
  clear hT
  go_enter Tryd.func5, Tryd.ntmps5
  go_wp2_with fail
  refine (alive_any _ HT.out).mono ?_; rintro e w' ⟨rfl, hb⟩
  go_wp2_with fail
  go_ret
  exact ⟨rfl, hb⟩

set_option maxHeartbeats 2000000 in
set_option maxRecDepth 100000 in
theorem parts_small (p q : Option Addr) (n c n' c' : Nat) (ss : List ByteArray) (f : Nat → Bool) (w : World) (hT : Tab w) (h : ¬ 100 < n) (hs : TextsIn w p n ss) (hq : BoolsIn w q n' f) :
    Calls Tryd.prog 5 #[.slice p n c, .slice q n' c'] w fun e w' => e = .returned (.bool true) ∧ Below w.heap.size w w' := by
  have HT := Lib.hid hT
  have HZ := Lib.hid hT.1
  have HS := Lib.hid hs
  have HQ := Lib.hid hq
  clear hT hs hq
  go_enter Tryd.func5, Tryd.ntmps5
  go_wp2_with fail
  refine (new_holds w).mono ?_; rintro e w1 ⟨rfl, k1, z1, b1⟩
  have K1 := Lib.hid k1
  have Z1 := Lib.hid z1
  have B1 := Lib.hid b1
  clear k1 z1 b1
  go_wp2_with fail
  refine (len_holds w1 w.heap.size [] K1.out (by decide)).mono ?_; rintro e w' ⟨rfl, rfl⟩
  rw [show ((([] : List Nat).length : Nat) : Int) = 0 from rfl]
  go_wp2_with fail
  go_loopw [6, 7] (fun wv i wr => ∃ (j : Nat) (x : ByteArray), j ≤ n ∧ i = .int .i64 j ∧ wv = .string x ∧ Hid (x.size ≤ 12288) ∧ Hid (Holds wr w.heap.size (nums x)) ∧ Hid (Below w.heap.size w wr)) (fun _ i _ => n - (intOf i).toNat)
  case atStart => exact ⟨0, ⟨#[]⟩, by omega, rfl, rfl, Lib.hid (by decide), K1, B1⟩
  case round =>
    obtain ⟨j, x, hj, rfl, rfl, hx, K, B⟩ := hrel
    have T := Lib.hid (HT.out.below B.out)
    by_cases hlt : j < n
    · obtain ⟨b, off, rfl, hc⟩ := (HS.out.below B.out).2.resolve_left (by omega)
      have g1 := hc j hlt
      clear hc
      generalize hy : ss.getD j ⟨#[]⟩ = y at g1
      have HY := Lib.hid hy
      clear hy
      by_cases hy1 : 4096 < y.size
      · go_wp2_with fail
        refine (alive_any _ T.out).mono ?_; rintro e w' ⟨rfl, hb⟩
        go_wp2_with fail
        go_ret
        exact ⟨rfl, B.out.trans (hb.mono B.out.size)⟩
      · by_cases hx1 : 8192 < x.size
        · go_wp2_with fail
          refine (alive_any _ T.out).mono ?_; rintro e w' ⟨rfl, hb⟩
          go_wp2_with fail
          go_ret
          exact ⟨rfl, B.out.trans (hb.mono B.out.size)⟩
        · go_wp2_with fail
          refine (write_any wr w.heap.size HZ.out (nums x) (nums_bytes x) y (by rw [nums_length]; omega) T.out K.out).mono ?_; rintro e w4 ⟨rfl, k4, b4⟩
          rw [← nums_append] at k4
          have K4 := Lib.hid k4
          have B4 := Lib.hid (b4.below B.out (Nat.le_refl _) B.out.size)
          have T4 := Lib.hid (HT.out.below B4.out)
          have g2 : w4.cell? ⟨b, off + j, none⟩ = some (.string y) := by
            obtain ⟨b', off', e, hc⟩ := (HS.out.below B4.out).2.resolve_left (by omega)
            cases e
            have := hc j hlt
            rwa [HY.out] at this
          clear k4 b4
          have hxy : Hid ((x ++ y).size ≤ 12288) := Lib.hid (by simp; omega)
          by_cases hjq : j < n'
          · obtain ⟨b', off', rfl, hc⟩ := (HQ.out.below B4.out).resolve_left (by omega)
            have g3 := hc j hjq
            clear hc
            cases hf : f j with
            | false =>
              rw [hf] at g3
              clear hf
              go_wp2_with fail
              refine (len_holds w4 w.heap.size _ K4.out (by rw [nums_length]; have := hxy.out; omega)).mono ?_; rintro e w' ⟨rfl, rfl⟩
              rw [nums_length]
              go_wp2_with fail
              go_roundw
              case rel => exact ⟨j + 1, x ++ y, by omega, by go_num, rfl, hxy, K4, B4⟩
              case measure => simp [intOf]; omega
            | true =>
              rw [hf] at g3
              clear hf
              go_wp2_with fail
              refine (len_holds w4 w.heap.size _ K4.out (by rw [nums_length]; have := hxy.out; omega)).mono ?_; rintro e w' ⟨rfl, rfl⟩
              rw [nums_length]
              go_wp2_with fail
              refine (hsum_any w4 w.heap.size _ (nums_bytes _) (by rw [nums_length]; have := hxy.out; omega) T4.out K4.out).mono ?_; rintro e w7 ⟨rfl, b7⟩
              have K7 := Lib.hid (K4.out.below b7)
              have B7 := Lib.hid (B4.out.trans (b7.mono B4.out.size))
              have T7 := Lib.hid (T4.out.below b7)
              clear b7
              go_wp2_with fail
              refine (sum_any (x ++ y) (by have := hxy.out; omega) w7 T7.out).mono ?_; rintro e w8 ⟨rfl, b8⟩
              have K8 := Lib.hid (K7.out.below b8)
              have B8 := Lib.hid (B7.out.trans (b8.mono B7.out.size))
              clear b8
              go_wp2_with fail
              go_roundw
              case rel => exact ⟨j + 1, x ++ y, by omega, by go_num, rfl, hxy, K8, B8⟩
              case measure => simp [intOf]; omega
          · go_wp2_with fail
            refine (len_holds w4 w.heap.size _ K4.out (by rw [nums_length]; have := hxy.out; omega)).mono ?_; rintro e w' ⟨rfl, rfl⟩
            rw [nums_length]
            go_wp2_with fail
            go_roundw
            case rel => exact ⟨j + 1, x ++ y, by omega, by go_num, rfl, hxy, K4, B4⟩
            case measure => simp [intOf]; omega
    · obtain rfl : j = n := by omega
      have hlx : Hid ((nums x).length < 2305843009213693952) := Lib.hid (by rw [nums_length]; have := hx.out; omega)
      have hsx : Hid (x.size < 2305843009213693952) := Lib.hid (by have := hx.out; omega)
      go_wp2_with fail
      refine (hsum_any wr w.heap.size _ (nums_bytes _) hlx.out T.out K.out).mono ?_; rintro e w5 ⟨rfl, b5⟩
      have K5 := Lib.hid (K.out.below b5)
      have B5 := Lib.hid (B.out.trans (b5.mono B.out.size))
      have T5 := Lib.hid (T.out.below b5)
      clear b5
      go_wp2_with fail
      refine (sum_any x hsx.out w5 T5.out).mono ?_; rintro e w6 ⟨rfl, b6⟩
      have K6 := Lib.hid (K5.out.below b6)
      have B6 := Lib.hid (B5.out.trans (b6.mono B5.out.size))
      have T6 := Lib.hid (T5.out.below b6)
      clear b6
      go_wp2_with fail
      refine (hsum_any w6 w.heap.size _ (nums_bytes _) hlx.out T6.out K6.out).mono ?_; rintro e w7 ⟨rfl, b7⟩
      have K7 := Lib.hid (K6.out.below b7)
      have B7 := Lib.hid (B6.out.trans (b7.mono B6.out.size))
      have T7 := Lib.hid (T6.out.below b7)
      clear b7
      go_wp2_with fail
      refine (sum_any x hsx.out w7 T7.out).mono ?_; rintro e w8 ⟨rfl, b8⟩
      have K8 := Lib.hid (K7.out.below b8)
      have B8 := Lib.hid (B7.out.trans (b8.mono B7.out.size))
      have T8 := Lib.hid (T7.out.below b8)
      clear b8
      go_wp2_with fail
      refine (hsum_any w8 w.heap.size _ (nums_bytes _) hlx.out T8.out K8.out).mono ?_; rintro e w9 ⟨rfl, b9⟩
      have B9 := Lib.hid (B8.out.trans (b9.mono B8.out.size))
      have T9 := Lib.hid (T8.out.below b9)
      clear b9
      have h32 : (bytesOf (digest (nums x))).size = 32 := by rw [bytesOf_size, digest_length]
      go_wp2_with fail
      refine (alive_any _ T9.out).mono ?_; rintro e w10 ⟨rfl, b10⟩
      have B10 := Lib.hid (B9.out.trans (b10.mono B9.out.size))
      clear b10
      go_wp2_with fail
      go_ret
      exact ⟨rfl, B10.out⟩
theorem parts_all (p q : Option Addr) (n c n' c' : Nat) (ss : List ByteArray) (f : Nat → Bool) (w : World) (hT : Tab w) (hs : TextsIn w p n ss) (hq : BoolsIn w q n' f) :
    Calls Tryd.prog 5 #[.slice p n c, .slice q n' c'] w fun e w' => e = .returned (.bool true) ∧ Below w.heap.size w w' := by
  by_cases h : 100 < n
  · exact parts_large p q n c n' c' w hT h
  · exact parts_small p q n c n' c' ss f w hT h hs hq
end Go.Proofs.YtfkebiclpeebbaaDoor.Pl
