/- What the reader's next reads: data and atoms. -/
import Derived.Test.YtiehhlolhhjgpaaGreatDoorShowPartsM
import Derived.Test.YtiehhlolhhjgpaaGreatDoorShowZ4
import Derived.Test.YtiehhlolhhjgpaaGreatDoorShowBytesM
namespace Go.Proofs.YtiehhlolhhjgpaaGreatDoor.Pl
open Go.RowKit

/-- A goal that is wanted twice. -/
theorem share7 {T G : Prop} (main : T → G) (tail : T) : G := main tail
theorem pre_no (m c : UInt8) (r : List UInt8) (h : c ≠ m) : ([m] : List UInt8).isPrefixOf (c :: r) = false := by rw [prefix_one]; exact decide_eq_false (fun e => h (Option.some.inj e))
theorem pre_yes (m : UInt8) (r : List UInt8) : ([m] : List UInt8).isPrefixOf (m :: r) = true := by rw [prefix_one]; exact decide_eq_true rfl
set_option maxHeartbeats 8000000 in
set_option maxRecDepth 100000 in
theorem next_quote (B : Nat) (hB : B ≠ 0) (r : List UInt8) (hS : (34 :: r).length ≤ 1000000000) (D : Int) (hD : D ≤ 16) (w : World) (h : At7 B (34 :: r) w) :
    Calls Tryz.prog 38 #[rdV B, .int .i64 D] w (RdPost B w (nPlain r)) := by
  have HS := Lib.hid hS
  have HB0 := Lib.hid hB
  clear hS hB
  obtain ⟨hk, h0, hk0, m0⟩ := boxed7 B (34 :: r) w h
  have A0 := Lib.hid h0
  have K0 := Lib.hid hk0
  have M0 := Lib.hid m0
  have HKB := Lib.hid hk
  clear h0 hk0 m0 hk h
  have SK34 := skip_of B (34 :: r) [34] true (pre_yes _ _)
  simp only [if_true, List.length_cons, List.length_nil, Nat.reduceAdd, List.drop_succ_cons, List.drop_zero] at SK34
  obtain ⟨z, hz⟩ : ∃ z, z = (nPlain r) := ⟨_, rfl⟩
  rw [← hz]
  have PM : Hid (∀ V, At7 B r V → Calls Tryz.prog 65 #[rdV B] V (RdPost B V z)) := Lib.hid (fun V hV => by rw [hz]; exact plainm_any B r (by have := HS.out; simp only [List.length_cons] at this; omega) V hV)
  clear hz
  cases z with
  | none =>
    go_enter Tryz.func38, Tryz.ntmps38
    go_wp2_with (go_at_call 39; refine (need7_ok _).mono ?_; rintro e w0 ⟨rfl, rfl⟩)
    refine (SK34.out _ A0.out).mono ?_; rintro e w1 ⟨rfl, a, m⟩
    have K1 := Lib.hid (m.heap HKB.out K0.out); obtain ⟨c0, c1⟩ := rd_cells K1.out; have A1 := Lib.hid a; have M1 := Lib.hid (M0.out.trans m); clear a m
    go_wp2_with (first | (refine wpList_load_row rfl 47 _ rfl w.heap.size rfl 47 _ _ _ K1.out Tryz.underlying47 rfl (boxed_load B) ?_) | (go_at_call 65; refine (PM.out _ A1.out).mono ?_; rintro e v1 ⟨m1, rfl⟩))
    exact ⟨rfl, RdPost.no (M1.out.trans m1)⟩
  | some y =>
    obtain ⟨t, q⟩ := y
    go_enter Tryz.func38, Tryz.ntmps38
    go_wp2_with (go_at_call 39; refine (need7_ok _).mono ?_; rintro e w0 ⟨rfl, rfl⟩)
    refine (SK34.out _ A0.out).mono ?_; rintro e w1 ⟨rfl, a, m⟩
    have K1 := Lib.hid (m.heap HKB.out K0.out); obtain ⟨c0, c1⟩ := rd_cells K1.out; have A1 := Lib.hid a; have M1 := Lib.hid (M0.out.trans m); clear a m
    go_wp2_with (first | (refine wpList_load_row rfl 47 _ rfl w.heap.size rfl 47 _ _ _ K1.out Tryz.underlying47 rfl (boxed_load B) ?_) | (go_at_call 65; refine (PM.out _ A1.out).mono ?_; rintro e v1 ⟨m1, rfl, a1⟩; have AE := Lib.hid a1; have ME := Lib.hid (M1.out.trans m1); clear a1 m1))
    go_ret
    exact RdPost.yes ME.out AE.out
set_option maxHeartbeats 8000000 in
set_option maxRecDepth 100000 in
theorem next_x (B : Nat) (hB : B ≠ 0) (r : List UInt8) (hS : (120 :: r).length ≤ 1000000000) (D : Int) (hD : D ≤ 16) (w : World) (h : At7 B (120 :: r) w) :
    Calls Tryz.prog 38 #[rdV B, .int .i64 D] w (RdPost B w (nBytes r)) := by
  have HS := Lib.hid hS
  have HB0 := Lib.hid hB
  clear hS hB
  obtain ⟨hk, h0, hk0, m0⟩ := boxed7 B (120 :: r) w h
  have A0 := Lib.hid h0
  have K0 := Lib.hid hk0
  have M0 := Lib.hid m0
  have HKB := Lib.hid hk
  clear h0 hk0 m0 hk h
  have SK34 := skip_of B (120 :: r) [34] false (pre_no _ _ _ (by decide))
  simp only [Bool.false_eq_true, if_false] at SK34
  have SK120 := skip_of B (120 :: r) [120] true (pre_yes _ _)
  simp only [if_true, List.length_cons, List.length_nil, Nat.reduceAdd, List.drop_succ_cons, List.drop_zero] at SK120
  obtain ⟨z, hz⟩ : ∃ z, z = (nBytes r) := ⟨_, rfl⟩
  rw [← hz]
  have PM : Hid (∀ V, At7 B r V → Calls Tryz.prog 66 #[rdV B] V (RdPost B V z)) := Lib.hid (fun V hV => by rw [hz]; exact bytesm_any B r (by have := HS.out; simp only [List.length_cons] at this; omega) V hV)
  clear hz
  cases z with
  | none =>
    go_enter Tryz.func38, Tryz.ntmps38
    go_wp2_with (go_at_call 39; refine (need7_ok _).mono ?_; rintro e w0 ⟨rfl, rfl⟩)
    refine (SK34.out _ A0.out).mono ?_; rintro e w1 ⟨rfl, a, m⟩
    have K1 := Lib.hid (m.heap HKB.out K0.out); obtain ⟨c0, c1⟩ := rd_cells K1.out; have A1 := Lib.hid a; have M1 := Lib.hid (M0.out.trans m); clear a m
    go_wp2_with fail
    refine (SK120.out _ A1.out).mono ?_; rintro e w2 ⟨rfl, a, m⟩
    have K2 := Lib.hid (m.heap HKB.out K1.out); obtain ⟨c0, c1⟩ := rd_cells K2.out; have A2 := Lib.hid a; have M2 := Lib.hid (M1.out.trans m); clear a m
    go_wp2_with (first | (refine wpList_load_row rfl 47 _ rfl w.heap.size rfl 47 _ _ _ K2.out Tryz.underlying47 rfl (boxed_load B) ?_) | (go_at_call 66; refine (PM.out _ A2.out).mono ?_; rintro e v1 ⟨m1, rfl⟩))
    exact ⟨rfl, RdPost.no (M2.out.trans m1)⟩
  | some y =>
    obtain ⟨t, q⟩ := y
    go_enter Tryz.func38, Tryz.ntmps38
    go_wp2_with (go_at_call 39; refine (need7_ok _).mono ?_; rintro e w0 ⟨rfl, rfl⟩)
    refine (SK34.out _ A0.out).mono ?_; rintro e w1 ⟨rfl, a, m⟩
    have K1 := Lib.hid (m.heap HKB.out K0.out); obtain ⟨c0, c1⟩ := rd_cells K1.out; have A1 := Lib.hid a; have M1 := Lib.hid (M0.out.trans m); clear a m
    go_wp2_with fail
    refine (SK120.out _ A1.out).mono ?_; rintro e w2 ⟨rfl, a, m⟩
    have K2 := Lib.hid (m.heap HKB.out K1.out); obtain ⟨c0, c1⟩ := rd_cells K2.out; have A2 := Lib.hid a; have M2 := Lib.hid (M1.out.trans m); clear a m
    go_wp2_with (first | (refine wpList_load_row rfl 47 _ rfl w.heap.size rfl 47 _ _ _ K2.out Tryz.underlying47 rfl (boxed_load B) ?_) | (go_at_call 66; refine (PM.out _ A2.out).mono ?_; rintro e v1 ⟨m1, rfl, a1⟩; have AE := Lib.hid a1; have ME := Lib.hid (M2.out.trans m1); clear a1 m1))
    go_ret
    exact RdPost.yes ME.out AE.out
set_option maxHeartbeats 8000000 in
set_option maxRecDepth 100000 in
theorem next_atom (B : Nat) (hB : B ≠ 0) (r : List UInt8) (hS : (36 :: r).length ≤ 1000000000) (D : Int) (hD : D ≤ 16) (w : World) (h : At7 B (36 :: r) w) :
    Calls Tryz.prog 38 #[rdV B, .int .i64 D] w (RdPost B w (nAtom r)) := by
  have HS := Lib.hid hS
  have HB0 := Lib.hid hB
  clear hS hB
  obtain ⟨hk, h0, hk0, m0⟩ := boxed7 B (36 :: r) w h
  have A0 := Lib.hid h0
  have K0 := Lib.hid hk0
  have M0 := Lib.hid m0
  have HKB := Lib.hid hk
  clear h0 hk0 m0 hk h
  have SK34 := skip_of B (36 :: r) [34] false (pre_no _ _ _ (by decide))
  simp only [Bool.false_eq_true, if_false] at SK34
  have SK120 := skip_of B (36 :: r) [120] false (pre_no _ _ _ (by decide))
  simp only [Bool.false_eq_true, if_false] at SK120
  have SK36 := skip_of B (36 :: r) [36] true (pre_yes _ _)
  simp only [if_true, List.length_cons, List.length_nil, Nat.reduceAdd, List.drop_succ_cons, List.drop_zero] at SK36
  obtain ⟨z, hz⟩ : ∃ z, z = nAtom r := ⟨_, rfl⟩
  rw [← hz]
  unfold nAtom at hz
  have UP := up_of B r [44, 93, 41] goB goB_ends (by decide) (by have := HS.out; simp only [List.length_cons] at this; omega)
  have AT := Lib.hid (fun V => atom6_any ⟨(r.take (runL goB r)).toArray⟩ (by rw [size_lit, List.length_take]; have := HS.out; simp only [List.length_cons] at this; omega) V)
  rw [bl_mk, st2_eq] at AT
  generalize r.drop (runL goB r) = r1 at *
  generalize r.take (runL goB r) = x at *
  generalize atomP x = dx at *
  obtain ⟨t, e⟩ := dx
  simp only at hz AT
  by_cases he : e = 0
  · subst he
    have HZ : Hid (z = some (t, r1)) := Lib.hid (hz.trans (if_pos rfl))
    clear hz
    go_enter Tryz.func38, Tryz.ntmps38
    go_wp2_with (go_at_call 39; refine (need7_ok _).mono ?_; rintro e w0 ⟨rfl, rfl⟩)
    refine (SK34.out _ A0.out).mono ?_; rintro e w1 ⟨rfl, a, m⟩
    have K1 := Lib.hid (m.heap HKB.out K0.out); obtain ⟨c0, c1⟩ := rd_cells K1.out; have A1 := Lib.hid a; have M1 := Lib.hid (M0.out.trans m); clear a m
    go_wp2_with fail
    refine (SK120.out _ A1.out).mono ?_; rintro e w2 ⟨rfl, a, m⟩
    have K2 := Lib.hid (m.heap HKB.out K1.out); obtain ⟨c0, c1⟩ := rd_cells K2.out; have A2 := Lib.hid a; have M2 := Lib.hid (M1.out.trans m); clear a m
    go_wp2_with fail
    refine (SK36.out _ A2.out).mono ?_; rintro e w3 ⟨rfl, a, m⟩
    have K3 := Lib.hid (m.heap HKB.out K2.out); obtain ⟨c0, c1⟩ := rd_cells K3.out; have A3 := Lib.hid a; have M3 := Lib.hid (M2.out.trans m); clear a m
    go_wp2_with (first | (go_at_call 63; refine (UP.out _ A3.out).mono ?_; rintro e v1 ⟨rfl, a1, m1⟩; have A4 := Lib.hid a1; have M4 := Lib.hid (M3.out.trans m1); clear a1 m1) | (go_at_call 20; refine (AT.out _).mono ?_; rintro e v2 ⟨rfl, b2⟩; have A5 := Lib.hid (A4.out.below b2); have M5 := Lib.hid (M4.out.trans (Moved.of_below b2)); clear b2) | (go_at_call 67; refine (made7_ok _ _).mono ?_; rintro e v3 ⟨rfl, rfl⟩))
    go_ret
    rw [HZ.out]
    exact RdPost.yes M5.out A5.out
  · have HZ : Hid (z = none) := Lib.hid (hz.trans (if_neg he))
    have HE := Lib.hid he
    clear hz he
    go_enter Tryz.func38, Tryz.ntmps38
    go_wp2_with (go_at_call 39; refine (need7_ok _).mono ?_; rintro e w0 ⟨rfl, rfl⟩)
    refine (SK34.out _ A0.out).mono ?_; rintro e w1 ⟨rfl, a, m⟩
    have K1 := Lib.hid (m.heap HKB.out K0.out); obtain ⟨c0, c1⟩ := rd_cells K1.out; have A1 := Lib.hid a; have M1 := Lib.hid (M0.out.trans m); clear a m
    go_wp2_with fail
    refine (SK120.out _ A1.out).mono ?_; rintro e w2 ⟨rfl, a, m⟩
    have K2 := Lib.hid (m.heap HKB.out K1.out); obtain ⟨c0, c1⟩ := rd_cells K2.out; have A2 := Lib.hid a; have M2 := Lib.hid (M1.out.trans m); clear a m
    go_wp2_with fail
    refine (SK36.out _ A2.out).mono ?_; rintro e w3 ⟨rfl, a, m⟩
    have K3 := Lib.hid (m.heap HKB.out K2.out); obtain ⟨c0, c1⟩ := rd_cells K3.out; have A3 := Lib.hid a; have M3 := Lib.hid (M2.out.trans m); clear a m
    go_wp2_with (first | (go_at_call 63; refine (UP.out _ A3.out).mono ?_; rintro e v1 ⟨rfl, a1, m1⟩; have A4 := Lib.hid a1; have M4 := Lib.hid (M3.out.trans m1); clear a1 m1) | (go_at_call 20; refine (AT.out _).mono ?_; rintro e v2 ⟨rfl, b2⟩; have A5 := Lib.hid (A4.out.below b2); have M5 := Lib.hid (M4.out.trans (Moved.of_below b2)); clear b2) | (go_at_call 67; refine (made7_bad _ _ HE.out _).mono ?_; rintro e v3 ⟨rfl, rfl⟩))
    exact ⟨rfl, by rw [HZ.out]; exact RdPost.no M5.out⟩
set_option maxHeartbeats 8000000 in
set_option maxRecDepth 100000 in
theorem next_deep (B : Nat) (s : List UInt8) (w : World) (h : At7 B s w) :
    Calls Tryz.prog 38 #[rdV B, .int .i64 17] w (RdPost B w none) := by
  obtain ⟨_, _, _, m0⟩ := boxed7 B s w h
  go_enter Tryz.func38, Tryz.ntmps38
  go_wp2_with fail
  refine (need7_bad _).mono ?_; rintro e w0 ⟨rfl, rfl⟩
  exact ⟨rfl, RdPost.no m0⟩
end Go.Proofs.YtiehhlolhhjgpaaGreatDoor.Pl
