/- The program's map of looks, as it is made; Look; the document's Look. -/
import Derived.Test.YtkipnbhejokbeaaDoorNameLook
namespace Go.Proofs.YtkipnbhejokbeaaDoor.Pl
open Go.RowKit Go.Maps

theorem grown_below {w w' : World} {B m : Nat} {a : World} (h : Below B a w) (hg : w.grownBy w' (some m)) (hB : B ≤ w.heap.size) (hm : B ≤ m) : Below B a w' :=
  h.grown hg hB (fun k hk => by cases hk; exact hm)
theorem look_put (w : World) (m n : Nat) (D : DataW Unit) (h : w.ownsMap Tryd.prog 21 (plainElem (H := Unit) Tryd.prog 21) m n D) (hn : n < 100) (k v : Int) (hk : (Lit.int .i32 k).wf = true) (hv : (Lit.int .i32 v).wf = true) :
    ∃ w', (Instr.mapUpdate 37 (.map (some m)) (.int .i32 k) (.int .i32 v)).run Tryd.prog w = .ok () w' ∧ w'.ownsMap Tryd.prog 21 (plainElem (H := Unit) Tryd.prog 21) m (n + 1) (D.put (.int .i32 k) (.lit (.int .i32 v))) ∧ w.grownBy w' (some m) :=
  h.update keyLaw Tryd.underlying37 (by unfold maxLen; omega) (keyOf_int_mk Tryd.underlying21 hk) (plainElem_int Tryd.underlying21 hv)

set_option maxHeartbeats 4000000 in
set_option maxRecDepth 100000 in
theorem table_any (w : World) :
    Calls Tryd.prog 21 #[] w fun e w' => ∃ m, e = .returned (.map (some m)) ∧ LooksAt w' m ∧ m < w'.heap.size ∧ w.heap.size ≤ m ∧ Below w.heap.size w w' := by
  have hmm := @run_makeMap Tryd.prog
  have o0 := World.ownsMap_made w Tryd.prog 21 (plainElem (H := Unit) Tryd.prog 21)
  have z0 : w.heap.size ≤ (w.alloc (.map #[] 0)).heap.size := by simp
  have b0 : Below w.heap.size w (w.alloc (.map #[] 0)) := (Below.refl _ _).alloc (Nat.le_refl _) _
  obtain ⟨w1, r1, o1, g1⟩ := look_put _ _ _ _ o0 (by decide) 945 97 (by decide) (by decide)
  have b1 := grown_below b0 g1 b0.size (Nat.le_refl _)
  clear o0 b0 g1
  obtain ⟨w2, r2, o2, g2⟩ := look_put _ _ _ _ o1 (by decide) 1072 97 (by decide) (by decide)
  have b2 := grown_below b1 g2 b1.size (Nat.le_refl _)
  clear o1 b1 g2
  obtain ⟨w3, r3, o3, g3⟩ := look_put _ _ _ _ o2 (by decide) 1074 98 (by decide) (by decide)
  have b3 := grown_below b2 g3 b2.size (Nat.le_refl _)
  clear o2 b2 g3
  obtain ⟨w4, r4, o4, g4⟩ := look_put _ _ _ _ o3 (by decide) 1089 99 (by decide) (by decide)
  have b4 := grown_below b3 g4 b3.size (Nat.le_refl _)
  clear o3 b3 g4
  obtain ⟨w5, r5, o5, g5⟩ := look_put _ _ _ _ o4 (by decide) 1077 101 (by decide) (by decide)
  have b5 := grown_below b4 g5 b4.size (Nat.le_refl _)
  clear o4 b4 g5
  obtain ⟨w6, r6, o6, g6⟩ := look_put _ _ _ _ o5 (by decide) 953 105 (by decide) (by decide)
  have b6 := grown_below b5 g6 b5.size (Nat.le_refl _)
  clear o5 b5 g6
  obtain ⟨w7, r7, o7, g7⟩ := look_put _ _ _ _ o6 (by decide) 954 107 (by decide) (by decide)
  have b7 := grown_below b6 g7 b6.size (Nat.le_refl _)
  clear o6 b6 g7
  obtain ⟨w8, r8, o8, g8⟩ := look_put _ _ _ _ o7 (by decide) 1082 107 (by decide) (by decide)
  have b8 := grown_below b7 g8 b7.size (Nat.le_refl _)
  clear o7 b7 g8
  obtain ⟨w9, r9, o9, g9⟩ := look_put _ _ _ _ o8 (by decide) 1084 109 (by decide) (by decide)
  have b9 := grown_below b8 g9 b8.size (Nat.le_refl _)
  clear o8 b8 g9
  obtain ⟨w10, r10, o10, g10⟩ := look_put _ _ _ _ o9 (by decide) 951 110 (by decide) (by decide)
  have b10 := grown_below b9 g10 b9.size (Nat.le_refl _)
  clear o9 b9 g10
  obtain ⟨w11, r11, o11, g11⟩ := look_put _ _ _ _ o10 (by decide) 1085 110 (by decide) (by decide)
  have b11 := grown_below b10 g11 b10.size (Nat.le_refl _)
  clear o10 b10 g11
  obtain ⟨w12, r12, o12, g12⟩ := look_put _ _ _ _ o11 (by decide) 959 111 (by decide) (by decide)
  have b12 := grown_below b11 g12 b11.size (Nat.le_refl _)
  clear o11 b11 g12
  obtain ⟨w13, r13, o13, g13⟩ := look_put _ _ _ _ o12 (by decide) 1086 111 (by decide) (by decide)
  have b13 := grown_below b12 g13 b12.size (Nat.le_refl _)
  clear o12 b12 g13
  obtain ⟨w14, r14, o14, g14⟩ := look_put _ _ _ _ o13 (by decide) 48 111 (by decide) (by decide)
  have b14 := grown_below b13 g14 b13.size (Nat.le_refl _)
  clear o13 b13 g14
  obtain ⟨w15, r15, o15, g15⟩ := look_put _ _ _ _ o14 (by decide) 961 112 (by decide) (by decide)
  have b15 := grown_below b14 g15 b14.size (Nat.le_refl _)
  clear o14 b14 g15
  obtain ⟨w16, r16, o16, g16⟩ := look_put _ _ _ _ o15 (by decide) 1088 112 (by decide) (by decide)
  have b16 := grown_below b15 g16 b15.size (Nat.le_refl _)
  clear o15 b15 g16
  obtain ⟨w17, r17, o17, g17⟩ := look_put _ _ _ _ o16 (by decide) 1090 116 (by decide) (by decide)
  have b17 := grown_below b16 g17 b16.size (Nat.le_refl _)
  clear o16 b16 g17
  obtain ⟨w18, r18, o18, g18⟩ := look_put _ _ _ _ o17 (by decide) 964 116 (by decide) (by decide)
  have b18 := grown_below b17 g18 b17.size (Nat.le_refl _)
  clear o17 b17 g18
  obtain ⟨w19, r19, o19, g19⟩ := look_put _ _ _ _ o18 (by decide) 965 117 (by decide) (by decide)
  have b19 := grown_below b18 g19 b18.size (Nat.le_refl _)
  clear o18 b18 g19
  obtain ⟨w20, r20, o20, g20⟩ := look_put _ _ _ _ o19 (by decide) 957 118 (by decide) (by decide)
  have b20 := grown_below b19 g20 b19.size (Nat.le_refl _)
  clear o19 b19 g20
  obtain ⟨w21, r21, o21, g21⟩ := look_put _ _ _ _ o20 (by decide) 967 120 (by decide) (by decide)
  have b21 := grown_below b20 g21 b20.size (Nat.le_refl _)
  clear o20 b20 g21
  obtain ⟨w22, r22, o22, g22⟩ := look_put _ _ _ _ o21 (by decide) 1093 120 (by decide) (by decide)
  have b22 := grown_below b21 g22 b21.size (Nat.le_refl _)
  clear o21 b21 g22
  obtain ⟨w23, r23, o23, g23⟩ := look_put _ _ _ _ o22 (by decide) 947 121 (by decide) (by decide)
  have b23 := grown_below b22 g23 b22.size (Nat.le_refl _)
  clear o22 b22 g23
  obtain ⟨w24, r24, o24, g24⟩ := look_put _ _ _ _ o23 (by decide) 1091 121 (by decide) (by decide)
  have b24 := grown_below b23 g24 b23.size (Nat.le_refl _)
  clear o23 b23 g24
  obtain ⟨w25, r25, o25, g25⟩ := look_put _ _ _ _ o24 (by decide) 49 108 (by decide) (by decide)
  have b25 := grown_below b24 g25 b24.size (Nat.le_refl _)
  clear o24 b24 g25
  have HO : Hid (LooksAt w25 w.heap.size) := Lib.hid o25
  have HB := Lib.hid b25
  have HS := Lib.hid o25.lt
  clear o25 b25 z0
  go_enter Tryd.func21, Tryd.ntmps21
  go_wp2_with fail
  go_ret
  exact ⟨w.heap.size, rfl, HO.out, HS.out, Nat.le_refl _, HB.out⟩

set_option maxRecDepth 100000 in
theorem look_any (r : Int) (h0 : -2147483648 ≤ r) (h1 : r ≤ 2147483647) (w : World) :
    Calls Tryd.prog 15 #[.int .i32 r] w fun e w' => e = .returned (.int .i32 (lookZ r)) ∧ Below w.heap.size w w' := by
  have H0 := Lib.hid h0
  have H1 := Lib.hid h1
  clear h0 h1
  go_enter Tryd.func15, Tryd.ntmps15
  go_wp2_with fail
  refine (table_any w).mono ?_; rintro e w1 ⟨m, rfl, l1, _, _, b1⟩
  have L1 := Lib.hid l1
  have B1 := Lib.hid b1
  clear l1 b1
  go_wp2_with fail
  refine (of_any m r H0.out H1.out w1 L1.out).mono ?_; rintro e w2 ⟨rfl, rfl⟩
  go_wp2_with fail
  go_ret
  exact ⟨rfl, B1.out⟩

theorem rlook_key : ∀ p ∈ lookT, ∀ w : World, Calls Tryd.prog 16 #[.int .i32 p.1] w fun e w' => e = .returned (.int .i32 p.2) ∧ w = w' := by
  intro p hp w
  simp only [lookT, List.mem_cons, List.not_mem_nil, or_false] at hp
  rcases hp with rfl | rfl | rfl | rfl | rfl | rfl | rfl | rfl | rfl | rfl | rfl | rfl | rfl | rfl | rfl | rfl | rfl | rfl | rfl | rfl | rfl | rfl | rfl | rfl | rfl
  all_goals go_enter Tryd.func16, Tryd.ntmps16
  all_goals go_wp2_with fail
  all_goals go_ret
  all_goals exact ⟨rfl, rfl⟩

set_option maxRecDepth 100000 in
theorem rlook_none (r : Int) (h : lookR lookT r = none) (w : World) : Calls Tryd.prog 16 #[.int .i32 r] w fun e w' => e = .returned (.int .i32 r) ∧ w = w' := by
  have hm : ∀ p ∈ lookT, (r == p.1) = false := by
    intro p hp
    rw [beq_eq_false_iff_ne]
    rintro rfl
    have hall : ∀ p ∈ lookT, (lookR lookT p.1).isSome = true := by decide
    have := hall p hp
    rw [h] at this
    exact absurd this (by decide)
  have e0 : (r == 945) = false := hm (945, 97) (by decide)
  have e1 : (r == 1072) = false := hm (1072, 97) (by decide)
  have e2 : (r == 1074) = false := hm (1074, 98) (by decide)
  have e3 : (r == 1089) = false := hm (1089, 99) (by decide)
  have e4 : (r == 1077) = false := hm (1077, 101) (by decide)
  have e5 : (r == 953) = false := hm (953, 105) (by decide)
  have e6 : (r == 954) = false := hm (954, 107) (by decide)
  have e7 : (r == 1082) = false := hm (1082, 107) (by decide)
  have e8 : (r == 1084) = false := hm (1084, 109) (by decide)
  have e9 : (r == 951) = false := hm (951, 110) (by decide)
  have e10 : (r == 1085) = false := hm (1085, 110) (by decide)
  have e11 : (r == 959) = false := hm (959, 111) (by decide)
  have e12 : (r == 1086) = false := hm (1086, 111) (by decide)
  have e13 : (r == 48) = false := hm (48, 111) (by decide)
  have e14 : (r == 961) = false := hm (961, 112) (by decide)
  have e15 : (r == 1088) = false := hm (1088, 112) (by decide)
  have e16 : (r == 1090) = false := hm (1090, 116) (by decide)
  have e17 : (r == 964) = false := hm (964, 116) (by decide)
  have e18 : (r == 965) = false := hm (965, 117) (by decide)
  have e19 : (r == 957) = false := hm (957, 118) (by decide)
  have e20 : (r == 967) = false := hm (967, 120) (by decide)
  have e21 : (r == 1093) = false := hm (1093, 120) (by decide)
  have e22 : (r == 947) = false := hm (947, 121) (by decide)
  have e23 : (r == 1091) = false := hm (1091, 121) (by decide)
  have e24 : (r == 49) = false := hm (49, 108) (by decide)
  clear hm h
  go_enter Tryd.func16, Tryd.ntmps16
  go_wp2_with fail
  go_ret
  exact ⟨rfl, rfl⟩

theorem rlook_any (r : Int) (w : World) :
    Calls Tryd.prog 16 #[.int .i32 r] w fun e w' => e = .returned (.int .i32 (lookZ r)) ∧ w = w' := by
  rcases lookZ_or r with ⟨h, hn⟩ | ⟨p, hp, rfl, h⟩
  · rw [h]; exact rlook_none r hn w
  · rw [h]; exact rlook_key p hp w
end Go.Proofs.YtkipnbhejokbeaaDoor.Pl
