/- The document's Decode of layer 12, as a whole. -/
import Derived.Test.YthemopejebioaaaGreatWireY27
import Derived.Test.YthemopejebioaaaGreatWireY28
import Derived.Test.YthemopejebioaaaGreatWireY29
import Derived.Test.YthemopejebioaaaGreatWireY30
import Derived.Test.YthemopejebioaaaGreatWireY31
import Derived.Test.YthemopejebioaaaGreatWireY32
import Derived.Test.YthemopejebioaaaGreatWireY33
import Derived.Test.YthemopejebioaaaGreatWireY34
import Derived.Test.YthemopejebioaaaGreatWireY35
namespace Go.Proofs.YthemopejebioaaaGreat.Pl
open Go.RowKit

set_option maxHeartbeats 8000000 in
set_option maxRecDepth 100000 in
theorem rdec_not (t : ByteArray) (ht : t.size ≤ 281474976710656) (h : ¬ kindP (bl t) = 3 ∨ partsB t = []) (w : World) :
    Calls Tryz.prog 17 #[.string t] w (DecOut w (decP t)) := by
  have HZ := Lib.hid (dec_rowless h)
  have HP := fun V => rparts12_any t ht V
  have HK := fun V => rkind_any t ht V
  have h6 := kindP_le (bl t)
  obtain ⟨W0, hW0⟩ : ∃ V, V = w.alloc (.cells #[.int .u8 0, .int .i64 0, .int .i64 0, .int .i64 0, .int .i64 0, .slice none 0 0, .string ⟨#[]⟩, .bool false, .string ⟨#[]⟩] 26) := ⟨_, rfl⟩
  have L0 : Hid (DecL w w.heap.size 0 [] W0) := Lib.hid (by
    rw [hW0]
    exact ⟨fun j hj => absurd hj (Nat.not_lt_zero _), by simp, Go.heap_alloc_new _ _, (Below.refl _ _).alloc (Nat.le_refl _) _⟩)
  have HW0 := Lib.hid hW0
  generalize (partsP (bl t)).2 = isp at *
  by_cases hk : kindP (bl t) = 3
  · have hp : partsB t = [] := by
      rcases h with h | h
      · exact absurd hk h
      · exact h
    rw [hk] at HK
    rw [hp, show ([] : List ByteArray).length = 0 from rfl] at HP
    have HP := Lib.hid HP
    have HK := Lib.hid HK
    clear h hk hp h6 hW0
    go_enter Tryz.func17, Tryz.ntmps17
    go_wp2_with fail
    rw [← HW0.out]
    refine (HP.out _).mono ?_; rintro e1 w1 ⟨ao, cap, rfl, hcap, hrow, b1⟩
    have L1 : Hid (DecL w w.heap.size 0 [] w1) := Lib.hid (L0.out.later b1)
    clear hcap hrow b1
    go_wp2_with fail
    refine (HK.out _).mono ?_; rintro e2 w2 ⟨rfl, b2⟩
    have L2 : Hid (DecL w w.heap.size 0 [] w2) := Lib.hid (L1.out.later b2)
    clear b2 L1
    go_wp2_with (refine wpList_store_row rfl 26 _ _ rfl w.heap.size #[.int .u8 0, .int .i64 0, .int .i64 0, .int .i64 0, .int .i64 0, .slice none 0 0, .string ⟨#[]⟩, .bool false, .string ⟨#[]⟩] rfl rfl 26 #[.int .u8 0, .int .i64 0, .int .i64 0, .int .i64 0, .int .i64 0, .slice none 0 0, .string ⟨#[]⟩, .bool false, .string ⟨#[]⟩] L2.out.res (ms_info _ _ _ _ _ _ _ _ _) rfl (ms_one9 _ _ _ _ _ _ _ _ _ _ _) ?_)
    refine bodyPost_ret (results_row_tmp (fn := Tryz.f17) (p := 2) (u := 3) (ty := 26) rfl _ _ w.heap.size 26 #[.int .u8 0, .int .i64 0, .int .i64 0, .int .i64 0, .int .i64 0, .slice none 0 0, .string ⟨#[]⟩, .bool false, .string ⟨#[]⟩] (0, 0) _ rfl (setRow_heap _ _ _ _ _ _ L2.out.res) Tryz.underlying26 rfl (ms_info _ _ _ _ _ _ _ _ _)) rfl ?_
    rw [HZ.out]
    exact L2.out.none
  · have hk2 : ((kindP (bl t) : Nat) : Int) ≠ 3 := by omega
    have hk3 : (((kindP (bl t) : Nat) : Int) != 3) = true := by rw [bne_iff_ne]; exact hk2
    have HP := Lib.hid HP
    have HK := Lib.hid HK
    clear h hk h6 hW0
    generalize kindP (bl t) = kd at *
    generalize partsB t = ps at *
    generalize ps.length = n at *
    go_enter Tryz.func17, Tryz.ntmps17
    go_wp2_with fail
    rw [← HW0.out]
    refine (HP.out _).mono ?_; rintro e1 w1 ⟨ao, cap, rfl, hcap, hrow, b1⟩
    have L1 : Hid (DecL w w.heap.size 0 [] w1) := Lib.hid (L0.out.later b1)
    clear hcap hrow b1
    go_wp2_with fail
    refine (HK.out _).mono ?_; rintro e2 w2 ⟨rfl, b2⟩
    have L2 : Hid (DecL w w.heap.size 0 [] w2) := Lib.hid (L1.out.later b2)
    clear b2 L1
    go_wp2_with (refine wpList_store_row rfl 26 _ _ rfl w.heap.size #[.int .u8 0, .int .i64 0, .int .i64 0, .int .i64 0, .int .i64 0, .slice none 0 0, .string ⟨#[]⟩, .bool false, .string ⟨#[]⟩] rfl rfl 26 #[.int .u8 0, .int .i64 0, .int .i64 0, .int .i64 0, .int .i64 0, .slice none 0 0, .string ⟨#[]⟩, .bool false, .string ⟨#[]⟩] L2.out.res (ms_info _ _ _ _ _ _ _ _ _) rfl (ms_one9 _ _ _ _ _ _ _ _ _ _ _) ?_)
    refine bodyPost_ret (results_row_tmp (fn := Tryz.f17) (p := 2) (u := 3) (ty := 26) rfl _ _ w.heap.size 26 #[.int .u8 0, .int .i64 0, .int .i64 0, .int .i64 0, .int .i64 0, .slice none 0 0, .string ⟨#[]⟩, .bool false, .string ⟨#[]⟩] (0, 0) _ rfl (setRow_heap _ _ _ _ _ _ L2.out.res) Tryz.underlying26 rfl (ms_info _ _ _ _ _ _ _ _ _)) rfl ?_
    rw [HZ.out]
    exact L2.out.none
theorem rdecode12_any (t : ByteArray) (ht : t.size ≤ 281474976710656) (w : World) : Calls Tryz.prog 17 #[.string t] w (DecOut w (decP t)) := by
  by_cases hk3 : kindP (bl t) = 3
  · cases hp : partsB t with
    | nil => exact rdec_not t ht (.inr hp) w
    | cons p0 r =>
      by_cases h1 : (textP (bl p0)).1 = wordP 1
      · by_cases k : r.length = 4
        · exact rdec_k1b t ht p0 r hp hk3 h1 k w
        · exact rdec_k1a t ht p0 r hp hk3 h1 k w
      by_cases h2 : (textP (bl p0)).1 = wordP 2
      · by_cases k : r.length ≤ 1
        · exact rdec_k2a t ht p0 r hp hk3 h2 k w
        by_cases k' : r.length = 2
        · exact rdec_k2b t ht p0 r hp hk3 h2 k' w
        · exact rdec_k2c t ht p0 r hp hk3 h2 (by omega) w
      by_cases h3 : (textP (bl p0)).1 = wordP 3
      · by_cases k : r.length ≤ 1
        · exact rdec_k3a t ht p0 r hp hk3 h3 k w
        · exact rdec_k3b t ht p0 r hp hk3 h3 (by omega) w
      by_cases h4 : (textP (bl p0)).1 = wordP 4
      · exact rdec_k4 t ht p0 r hp hk3 4 (by decide) h4 w
      by_cases h5 : (textP (bl p0)).1 = wordP 5
      · exact rdec_k4 t ht p0 r hp hk3 5 (by decide) h5 w
      by_cases h6 : (textP (bl p0)).1 = wordP 6
      · exact rdec_k4 t ht p0 r hp hk3 6 (by decide) h6 w
      refine rdec_k0 t ht p0 r hp hk3 (fun k hk e => ?_) w
      have hc : k = 1 ∨ k = 2 ∨ k = 3 ∨ k = 4 ∨ k = 5 ∨ k = 6 := by omega
      rcases hc with rfl | rfl | rfl | rfl | rfl | rfl
      · exact h1 e
      · exact h2 e
      · exact h3 e
      · exact h4 e
      · exact h5 e
      · exact h6 e
  · exact rdec_not t ht (.inl hk3) w
end Go.Proofs.YthemopejebioaaaGreat.Pl
