/- ShaCopies answers true, whatever it is given. -/
import Derived.Test.YtfkebiclpeebbaaDoorShaAlive
namespace Go.Proofs.YtfkebiclpeebbaaDoor.Pl
open Go.RowKit

theorem nums_append (s t : ByteArray) : nums (s ++ t) = nums s ++ nums t := by simp [nums]
theorem copy_holds (w : World) (b : Nat) (m : List Nat) (h : Holds w b m) :
    Calls Tryd.prog 13 #[.pointer (some ⟨b, 0, none⟩)] w fun e w' => e = .returned (.pointer (some ⟨w.heap.size, 0, none⟩)) ∧ Holds w' w.heap.size m ∧ w.heap.size < w'.heap.size ∧ Below w.heap.size w w' := by
  obtain ⟨wt, h1, h2, h3⟩ := h
  exact (copy_any w b (st m) wt m.length h1).mono fun _ _ ⟨k1, k2, k3, k4⟩ => ⟨k1, ⟨wt, k2, h2, h3⟩, k3, k4⟩
theorem len_holds (w : World) (b : Nat) (m : List Nat) (h : Holds w b m) (hm : m.length < 9223372036854775808) :
    Calls Tryd.prog 12 #[.pointer (some ⟨b, 0, none⟩)] w fun e w' => e = .returned (.int .i64 (m.length : Int)) ∧ w = w' := by
  obtain ⟨wt, h1, _, _⟩ := h
  exact len_any w b (st m) wt m.length h1 hm

set_option maxRecDepth 100000 in
theorem copies_large (s a b : ByteArray) (w : World) (hT : Tab w) (h : 4096 < s.size ∨ (¬ 4096 < s.size ∧ 4096 < a.size) ∨ (¬ 4096 < s.size ∧ ¬ 4096 < a.size ∧ 4096 < b.size)) :
    Calls Tryd.prog 6 #[.string s, .string a, .string b] w fun e w' => e = .returned (.bool true) ∧ Below w.heap.size w w' := by
  have HT := Lib.hid hT
  clear hT
  rcases h with h | ⟨h0, h⟩ | ⟨h0, h1, h⟩
  all_goals
    go_enter Tryd.func6, Tryd.ntmps6
    go_wp2_with fail
    refine (alive_any _ HT.out).mono ?_; rintro e w' ⟨rfl, hb⟩
    go_wp2_with fail
    go_ret
    exact ⟨rfl, hb⟩

set_option maxHeartbeats 1000000 in
set_option maxRecDepth 100000 in
theorem copies_small (s a b : ByteArray) (w : World) (hT : Tab w) (h0 : ¬ 4096 < s.size) (h1 : ¬ 4096 < a.size) (h2 : ¬ 4096 < b.size) :
    Calls Tryd.prog 6 #[.string s, .string a, .string b] w fun e w' => e = .returned (.bool true) ∧ Below w.heap.size w w' := by
  have HT := Lib.hid hT
  clear hT
  have HZ := Lib.hid HT.out.1
  go_enter Tryd.func6, Tryd.ntmps6
  go_wp2_with fail
  refine (new_holds w).mono ?_; rintro e w1 ⟨rfl, k1, z1, b1⟩
  have K1 := Lib.hid k1
  have Z1 := Lib.hid z1
  have B1 := Lib.hid b1
  have T1 := Lib.hid (HT.out.below b1)
  clear k1 z1 b1
  go_wp2_with fail
  refine (write_any w1 w.heap.size HZ.out [] nums_nil s (by simp; omega) T1.out K1.out).mono ?_; rintro e w2 ⟨rfl, k2, b2⟩
  rw [List.nil_append] at k2
  have K2 := Lib.hid k2
  have B2 := Lib.hid (b2.below B1.out (Nat.le_refl _) B1.out.size)
  have T2 := Lib.hid (b2.tab HZ.out T1.out)
  clear k2 b2
  go_wp2_with fail
  refine (copy_holds w2 w.heap.size (nums s) K2.out).mono ?_; rintro e w3 ⟨rfl, k3, z3, b3⟩
  have K3 := Lib.hid k3
  have K3' := Lib.hid (K2.out.below b3)
  have B3 := Lib.hid (B2.out.trans (b3.mono B2.out.size))
  have T3 := Lib.hid (T2.out.below b3)
  have hne : w.heap.size < w2.heap.size := K2.out.lt
  have HNE := Lib.hid hne
  have Z3 := Lib.hid z3
  clear k3 b3 z3 hne
  go_wp2_with fail
  refine (write_any w3 w.heap.size HZ.out (nums s) (nums_bytes s) a (by rw [nums_length]; omega) T3.out K3'.out).mono ?_; rintro e w4 ⟨rfl, k4, b4⟩
  have K4 := Lib.hid k4
  have K4' := Lib.hid (K3.out.but b4 (by have := HNE.out; omega))
  have B4 := Lib.hid (b4.below B3.out (Nat.le_refl _) B3.out.size)
  have T4 := Lib.hid (b4.tab HZ.out T3.out)
  clear k4 b4
  go_wp2_with fail
  refine (write_any w4 w2.heap.size (by have := HNE.out; omega) (nums s) (nums_bytes s) b (by rw [nums_length]; omega) T4.out K4'.out).mono ?_; rintro e w5 ⟨rfl, k5, b5⟩
  have K5 := Lib.hid k5
  have K5' := Lib.hid (K4.out.but b5 (by have := HNE.out; omega))
  have B5 := Lib.hid (b5.below B4.out (by have := HNE.out; omega) B4.out.size)
  have T5 := Lib.hid (b5.tab (by have := HNE.out; omega) T4.out)
  clear k5 b5
  go_wp2_with fail
  refine (write_any w5 w.heap.size HZ.out (nums s ++ nums a) ((nums_bytes s).append (nums_bytes a)) b (by rw [List.length_append, nums_length, nums_length]; omega) T5.out K5'.out).mono ?_; rintro e w6 ⟨rfl, k6, b6⟩
  have K6 := Lib.hid k6
  have K6' := Lib.hid (K5.out.but b6 (by have := HNE.out; omega))
  have B6 := Lib.hid (b6.below B5.out (Nat.le_refl _) B5.out.size)
  have T6 := Lib.hid (b6.tab HZ.out T5.out)
  clear k6 b6
  go_wp2_with fail
  refine (hsum_any w6 w.heap.size _ (((nums_bytes s).append (nums_bytes a)).append (nums_bytes b)) (by rw [List.length_append, List.length_append, nums_length, nums_length, nums_length]; omega) T6.out K6.out).mono ?_; rintro e w7 ⟨rfl, b7⟩
  rw [← nums_append, ← nums_append]
  have K7 := Lib.hid (K6.out.below b7)
  have K7' := Lib.hid (K6'.out.below b7)
  have B7 := Lib.hid (B6.out.trans (b7.mono B6.out.size))
  have T7 := Lib.hid (T6.out.below b7)
  clear b7
  go_wp2_with fail
  refine (sum_any (s ++ a ++ b) (by simp; omega) w7 T7.out).mono ?_; rintro e w8 ⟨rfl, b8⟩
  have K8 := Lib.hid (K7.out.below b8)
  have K8' := Lib.hid (K7'.out.below b8)
  have B8 := Lib.hid (B7.out.trans (b8.mono B7.out.size))
  have T8 := Lib.hid (T7.out.below b8)
  clear b8
  go_wp2_with fail
  refine (hsum_any w8 w2.heap.size _ ((nums_bytes s).append (nums_bytes b)) (by rw [List.length_append, nums_length, nums_length]; omega) T8.out K8'.out).mono ?_; rintro e w9 ⟨rfl, b9⟩
  rw [← nums_append]
  have K9 := Lib.hid (K8.out.below b9)
  have K9' := Lib.hid (K8'.out.below b9)
  have B9 := Lib.hid (B8.out.trans (b9.mono B8.out.size))
  have T9 := Lib.hid (T8.out.below b9)
  clear b9
  go_wp2_with fail
  refine (sum_any (s ++ b) (by simp; omega) w9 T9.out).mono ?_; rintro e w10 ⟨rfl, b10⟩
  have K10 := Lib.hid (K9.out.below b10)
  have K10' := Lib.hid (K9'.out.below b10)
  have B10 := Lib.hid (B9.out.trans (b10.mono B9.out.size))
  have T10 := Lib.hid (T9.out.below b10)
  clear b10
  go_wp2_with fail
  refine (len_holds w10 w.heap.size _ K10.out (by rw [List.length_append, List.length_append, nums_length, nums_length, nums_length]; omega)).mono ?_; rintro e w' ⟨rfl, rfl⟩
  rw [List.length_append, List.length_append, nums_length, nums_length, nums_length]
  go_wp2_with fail
  refine (len_holds w10 w2.heap.size _ K10'.out (by rw [List.length_append, nums_length, nums_length]; omega)).mono ?_; rintro e w' ⟨rfl, rfl⟩
  rw [List.length_append, nums_length, nums_length]
  go_wp2_with fail
  refine (alive_any _ T10.out).mono ?_; rintro e w11 ⟨rfl, b11⟩
  have B11 := Lib.hid (B10.out.trans (b11.mono B10.out.size))
  clear b11
  go_wp2_with fail
  go_ret
  exact ⟨rfl, B11.out⟩
theorem copies_all (s a b : ByteArray) (w : World) (hT : Tab w) :
    Calls Tryd.prog 6 #[.string s, .string a, .string b] w fun e w' => e = .returned (.bool true) ∧ Below w.heap.size w w' := by
  by_cases h0 : 4096 < s.size
  · exact copies_large s a b w hT (.inl h0)
  · by_cases h1 : 4096 < a.size
    · exact copies_large s a b w hT (.inr (.inl ⟨h0, h1⟩))
    · by_cases h2 : 4096 < b.size
      · exact copies_large s a b w hT (.inr (.inr ⟨h0, h1, h2⟩))
      · exact copies_small s a b w hT h0 h1 h2
end Go.Proofs.YtfkebiclpeebbaaDoor.Pl
