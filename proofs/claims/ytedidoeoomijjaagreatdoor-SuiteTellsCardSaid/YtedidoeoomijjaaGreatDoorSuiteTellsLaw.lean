/- SuiteTells answers true, whatever it is given. -/
import Derived.Test.YtedidoeoomijjaaGreatDoorSuiteY2
namespace Go.Proofs.YtedidoeoomijjaaGreatDoor.Pl
open Go.RowKit

theorem rbox_info (c : Int) (m : ByteArray) : (Tryz.prog.info? 31).map (·.size) = some (#[Value.int .u8 c, .string m].size) := by
  rw [show (#[Value.int .u8 c, .string m] : Array Value).size = 2 from rfl]
  kernel_rfl

set_option maxRecDepth 100000 in
theorem tells_long (c : Nat) (m k n t x : ByteArray) (h : longB k n t x = true ∨ (longB k n t x = false ∧ 1000 < m.size)) (w : World) (hT : Tab w) :
    Calls Tryz.prog 3 #[.int .u8 c, .string m, .string k, .string n, .string t, .string x] w fun e w' => e = .returned (.bool true) ∧ Below w.heap.size w w' := by
  have T0 := Lib.hid hT
  have HA := Lib.hid (fun V h => alive8_any V h)
  have HL := Lib.hid (fun V => long8_any k n t x V)
  rcases h with h | ⟨h, h2⟩
  · rw [h] at HL
    clear hT h
    go_enter Tryz.func3, Tryz.ntmps3
    go_wp2_with fail
    refine (HL.out _).mono ?_; rintro e w1 ⟨rfl, rfl⟩
    go_wp2_with fail
    refine (HA.out _ T0.out).mono ?_; rintro e w2 ⟨rfl, b2⟩
    have B2 := Lib.hid b2
    have T2 := Lib.hid (T0.out.below b2)
    clear b2
    go_wp2_with fail
    go_ret
    exact ⟨rfl, B2.out⟩
  · rw [h] at HL
    have q : (1000 : Int) < (m.size : Int) := by omega
    clear hT h h2
    go_enter Tryz.func3, Tryz.ntmps3
    go_wp2_with fail
    refine (HL.out _).mono ?_; rintro e w1 ⟨rfl, rfl⟩
    go_wp2_with fail
    refine (HA.out _ T0.out).mono ?_; rintro e w2 ⟨rfl, b2⟩
    have B2 := Lib.hid b2
    have T2 := Lib.hid (T0.out.below b2)
    clear b2
    go_wp2_with fail
    go_ret
    exact ⟨rfl, B2.out⟩
set_option maxRecDepth 100000 in
theorem tells_none (c : Nat) (m k n t x : ByteArray) (hl : longB k n t x = false) (hm : m.size ≤ 1000) (h1 : c ≠ 1) (h2 : ¬ (c = 2 ∧ 1 ≤ m.size ∧ m.size ≤ 64)) (w : World) (hT : Tab w) :
    Calls Tryz.prog 3 #[.int .u8 c, .string m, .string k, .string n, .string t, .string x] w fun e w' => e = .returned (.bool true) ∧ Below w.heap.size w w' := by
  have T0 := Lib.hid hT
  have HN := Lib.hid (new_none c m h1 h2)
  have HA := Lib.hid (fun V h => alive8_any V h)
  have HL := Lib.hid (fun V => long8_any k n t x V)
  have HM := Lib.hid (fun V => rmay8_any c m V)
  have hmay : may8 c m.size = false := by
    unfold may8
    rw [Bool.or_eq_false_iff, beq_eq_false_iff_ne]
    refine ⟨h1, ?_⟩
    rw [Bool.eq_false_iff]
    intro e
    simp only [Bool.and_eq_true, beq_iff_eq, decide_eq_true_eq] at e
    exact h2 ⟨e.1.1, e.1.2, e.2⟩
  rw [hl] at HL
  rw [hmay] at HM
  have q : ¬ (1000 : Int) < (m.size : Int) := by omega
  clear hT hl hm h1 h2 hmay
  go_enter Tryz.func3, Tryz.ntmps3
  go_wp2_with fail
  refine (HL.out _).mono ?_; rintro e w1 ⟨rfl, rfl⟩
  go_wp2_with fail
  refine (HN.out _).mono ?_; rintro e w2 ⟨rfl, rfl⟩
  go_wp2_with fail
  refine (HM.out _).mono ?_; rintro e w3 ⟨rfl, rfl⟩
  go_wp2_with fail
  refine (nothing8_any _).mono ?_; rintro e w4 ⟨rfl, rfl⟩
  go_wp2_with fail
  refine (HA.out _ T0.out).mono ?_; rintro e w5 ⟨rfl, b5⟩
  have B5 := Lib.hid b5
  have T5 := Lib.hid (T0.out.below b5)
  clear b5
  go_wp2_with fail
  go_ret
  exact ⟨rfl, B5.out⟩
set_option maxHeartbeats 8000000 in
set_option maxRecDepth 100000 in
theorem tells_true (m k n t x : ByteArray) (hl : longB k n t x = false) (hm : m.size ≤ 1000) (w : World) (hT : Tab w) :
    Calls Tryz.prog 3 #[.int .u8 1, .string m, .string k, .string n, .string t, .string x] w fun e w' => e = .returned (.bool true) ∧ Below w.heap.size w w' := by
  have T0 := Lib.hid hT
  have HN := Lib.hid (fun V h => new_terms m V h)
  have HA := Lib.hid (fun V h => alive8_any V h)
  have HL := Lib.hid (fun V => long8_any k n t x V)
  have HM := Lib.hid (fun V => rmay8_any 1 m V)
  rw [show may8 1 m.size = true from by unfold may8; rfl] at HM
  obtain ⟨hk, hn, ht, hx⟩ := longB_no hl
  rw [hl] at HL
  have HKd := Lib.hid (fun p V (h : SuiteAt V p true m) => skind_any true m p V h)
  have K1 := Lib.hid (fun p V (h : SuiteAt V p true m) => key8_any true m x hx p V h)
  have K2 := Lib.hid (fun V => rkey8_any 1 m x hm hx V)
  have K3 := Lib.hid (fun p V (h : SuiteAt V p true m) => hash8_any true m t ht p V h)
  have K4 := Lib.hid (fun V => rhash8_any 1 m t ht V)
  have K5 := Lib.hid (fun p V (h : SuiteAt V p true m) => mac8_any true m k hk t ht p V h)
  have K6 := Lib.hid (fun V => rmac8_any 1 (.inl rfl) m k t hk ht V)
  have K7 := Lib.hid (fun p V (h : SuiteAt V p true m) => seal8_any true m k hk n hn t ht p V h)
  have K8 := Lib.hid (fun V => rseal8_any 1 (.inl rfl) m k n t hk hn ht V)
  have K9 := Lib.hid (fun p V (h : SuiteAt V p true m) => open8_any true m k hk x hx p V h)
  have K10 := Lib.hid (fun V => ropen8_any 1 (.inl rfl) m k x hk hx V)
  have K11 := Lib.hid (fun p V (h : SuiteAt V p true m) => pimage8_any true m t ht p V h)
  have K12 := Lib.hid (fun V => rimage8_any 1 (.inl rfl) m t hm ht V)
  have HS1 := Lib.hid (fun p V => ssame8_any k t hk p V)
  have HS2 := Lib.hid (fun p V => ssame8_any t t ht p V)
  rw [show decide (t = t) = true from decide_eq_true rfl] at HS2
  rw [show ((1 : Nat) == 1) = true from rfl] at K2 K4 K6 K8 K10 K12
  generalize keyP cryP true (bl m) (bl x) = R1 at *
  generalize hash8P cryP true (bl t) = R2 at *
  generalize mac8P cryP true (bl k) (bl t) = R3 at *
  generalize seal8P cryP true (bl k) (bl n) (bl t) = R4 at *
  generalize open8P cryP true (bl k) (bl x) = R5 at *
  generalize image8P cryP true (bl m) (bl t) = R6 at *
  obtain ⟨r1, x1⟩ := R1
  obtain ⟨r2, x2⟩ := R2
  obtain ⟨r3, x3⟩ := R3
  obtain ⟨r4, x4⟩ := R4
  obtain ⟨r5, x5⟩ := R5
  obtain ⟨r6, x6⟩ := R6
  unfold st2 at K1 K2 K3 K4 K5 K6 K7 K8 K9 K10 K11 K12
  unfold suiteV at K2 K4 K6 K8 K10 K12
  dsimp only at K1 K2 K3 K4 K5 K6 K7 K8 K9 K10 K11 K12
  generalize (⟨r1.toArray⟩ : ByteArray) = a1 at *
  generalize (⟨r2.toArray⟩ : ByteArray) = a2 at *
  generalize (⟨r3.toArray⟩ : ByteArray) = a3 at *
  generalize (⟨r4.toArray⟩ : ByteArray) = a4 at *
  generalize (⟨r5.toArray⟩ : ByteArray) = a5 at *
  generalize (⟨r6.toArray⟩ : ByteArray) = a6 at *
  have q : ¬ (1000 : Int) < (m.size : Int) := by omega
  clear hT hl hm hk hn ht hx
  by_cases hkt : k = t
  · subst hkt
    rw [show decide (k = k) = true from decide_eq_true rfl] at HS1
    go_enter Tryz.func3, Tryz.ntmps3
    go_wp2_with fail
    refine (HL.out _).mono ?_; rintro e w1 ⟨rfl, rfl⟩
    go_wp2_with fail
    refine (HN.out _ T0.out).mono ?_; rintro e w2 ⟨⟨p, rfl, s2⟩, b2⟩
    have B2 := Lib.hid b2
    have T2 := Lib.hid (T0.out.below b2)
    have S2 := Lib.hid s2
    clear b2 s2
    go_wp2_with fail
    refine (HM.out _).mono ?_; rintro e w3 ⟨rfl, rfl⟩
    go_wp2_with fail
    refine (HKd.out _ _ S2.out).mono ?_; rintro e w4 ⟨rfl, b4⟩
    have A4 := (Below.refl w4.heap.size w4).alloc (Nat.le_refl _) (.cells #[.int .u8 1, .string m] 31)
    have B4 := Lib.hid (below_step (below_step B2.out b4) A4)
    have T4 := Lib.hid ((T2.out.below b4).below A4)
    have S4 := Lib.hid ((S2.out.below b4).below A4)
    have C4 := Lib.hid (Go.heap_alloc_new w4 (.cells #[.int .u8 1, .string m] 31))
    clear b4 A4
    go_wp2_with (first | (refine wpList_load_row rfl 31 _ rfl w4.heap.size rfl 31 _ _ _ C4.out Tryz.underlying31 rfl (rbox_info 1 m) ?_))
    refine (K1.out _ _ S4.out).mono ?_; rintro e w5 ⟨rfl, b5⟩
    have B5 := Lib.hid (below_step B4.out b5)
    have T5 := Lib.hid (T4.out.below b5)
    have S5 := Lib.hid (S4.out.below b5)
    have C5 := Lib.hid (heap_below b5 C4.out)
    clear b5
    go_wp2_with (first | (refine wpList_load_row rfl 31 _ rfl w4.heap.size rfl 31 _ _ _ C5.out Tryz.underlying31 rfl (rbox_info 1 m) ?_))
    refine (K2.out _).mono ?_; rintro e w6 ⟨rfl, b6⟩
    have B6 := Lib.hid (below_step B5.out b6)
    have T6 := Lib.hid (T5.out.below b6)
    have S6 := Lib.hid (S5.out.below b6)
    have C6 := Lib.hid (heap_below b6 C5.out)
    clear b6
    go_wp2_with (first | (refine wpList_load_row rfl 31 _ rfl w4.heap.size rfl 31 _ _ _ C6.out Tryz.underlying31 rfl (rbox_info 1 m) ?_))
    refine (K3.out _ _ S6.out).mono ?_; rintro e w7 ⟨rfl, b7⟩
    have B7 := Lib.hid (below_step B6.out b7)
    have T7 := Lib.hid (T6.out.below b7)
    have S7 := Lib.hid (S6.out.below b7)
    have C7 := Lib.hid (heap_below b7 C6.out)
    clear b7
    go_wp2_with (first | (refine wpList_load_row rfl 31 _ rfl w4.heap.size rfl 31 _ _ _ C7.out Tryz.underlying31 rfl (rbox_info 1 m) ?_))
    refine (K4.out _).mono ?_; rintro e w8 ⟨rfl, b8⟩
    have B8 := Lib.hid (below_step B7.out b8)
    have T8 := Lib.hid (T7.out.below b8)
    have S8 := Lib.hid (S7.out.below b8)
    have C8 := Lib.hid (heap_below b8 C7.out)
    clear b8
    go_wp2_with (first | (refine wpList_load_row rfl 31 _ rfl w4.heap.size rfl 31 _ _ _ C8.out Tryz.underlying31 rfl (rbox_info 1 m) ?_))
    refine (K5.out _ _ S8.out).mono ?_; rintro e w9 ⟨rfl, b9⟩
    have B9 := Lib.hid (below_step B8.out b9)
    have T9 := Lib.hid (T8.out.below b9)
    have S9 := Lib.hid (S8.out.below b9)
    have C9 := Lib.hid (heap_below b9 C8.out)
    clear b9
    go_wp2_with (first | (refine wpList_load_row rfl 31 _ rfl w4.heap.size rfl 31 _ _ _ C9.out Tryz.underlying31 rfl (rbox_info 1 m) ?_))
    refine (K6.out _).mono ?_; rintro e w10 ⟨rfl, b10⟩
    have B10 := Lib.hid (below_step B9.out b10)
    have T10 := Lib.hid (T9.out.below b10)
    have S10 := Lib.hid (S9.out.below b10)
    have C10 := Lib.hid (heap_below b10 C9.out)
    clear b10
    go_wp2_with (first | (refine wpList_load_row rfl 31 _ rfl w4.heap.size rfl 31 _ _ _ C10.out Tryz.underlying31 rfl (rbox_info 1 m) ?_))
    refine (K7.out _ _ S10.out).mono ?_; rintro e w11 ⟨rfl, b11⟩
    have B11 := Lib.hid (below_step B10.out b11)
    have T11 := Lib.hid (T10.out.below b11)
    have S11 := Lib.hid (S10.out.below b11)
    have C11 := Lib.hid (heap_below b11 C10.out)
    clear b11
    go_wp2_with (first | (refine wpList_load_row rfl 31 _ rfl w4.heap.size rfl 31 _ _ _ C11.out Tryz.underlying31 rfl (rbox_info 1 m) ?_))
    refine (K8.out _).mono ?_; rintro e w12 ⟨rfl, b12⟩
    have B12 := Lib.hid (below_step B11.out b12)
    have T12 := Lib.hid (T11.out.below b12)
    have S12 := Lib.hid (S11.out.below b12)
    have C12 := Lib.hid (heap_below b12 C11.out)
    clear b12
    go_wp2_with (first | (refine wpList_load_row rfl 31 _ rfl w4.heap.size rfl 31 _ _ _ C12.out Tryz.underlying31 rfl (rbox_info 1 m) ?_))
    refine (K9.out _ _ S12.out).mono ?_; rintro e w13 ⟨rfl, b13⟩
    have B13 := Lib.hid (below_step B12.out b13)
    have T13 := Lib.hid (T12.out.below b13)
    have S13 := Lib.hid (S12.out.below b13)
    have C13 := Lib.hid (heap_below b13 C12.out)
    clear b13
    go_wp2_with (first | (refine wpList_load_row rfl 31 _ rfl w4.heap.size rfl 31 _ _ _ C13.out Tryz.underlying31 rfl (rbox_info 1 m) ?_))
    refine (K10.out _).mono ?_; rintro e w14 ⟨rfl, b14⟩
    have B14 := Lib.hid (below_step B13.out b14)
    have T14 := Lib.hid (T13.out.below b14)
    have S14 := Lib.hid (S13.out.below b14)
    have C14 := Lib.hid (heap_below b14 C13.out)
    clear b14
    go_wp2_with (first | (refine wpList_load_row rfl 31 _ rfl w4.heap.size rfl 31 _ _ _ C14.out Tryz.underlying31 rfl (rbox_info 1 m) ?_))
    refine (K11.out _ _ S14.out).mono ?_; rintro e w15 ⟨rfl, b15⟩
    have B15 := Lib.hid (below_step B14.out b15)
    have T15 := Lib.hid (T14.out.below b15)
    have S15 := Lib.hid (S14.out.below b15)
    have C15 := Lib.hid (heap_below b15 C14.out)
    clear b15
    go_wp2_with (first | (refine wpList_load_row rfl 31 _ rfl w4.heap.size rfl 31 _ _ _ C15.out Tryz.underlying31 rfl (rbox_info 1 m) ?_))
    refine (K12.out _).mono ?_; rintro e w16 ⟨rfl, b16⟩
    have B16 := Lib.hid (below_step B15.out b16)
    have T16 := Lib.hid (T15.out.below b16)
    have S16 := Lib.hid (S15.out.below b16)
    have C16 := Lib.hid (heap_below b16 C15.out)
    clear b16
    go_wp2_with (first | (refine wpList_load_row rfl 31 _ rfl w4.heap.size rfl 31 _ _ _ C16.out Tryz.underlying31 rfl (rbox_info 1 m) ?_))
    refine (HS1.out _ _).mono ?_; rintro e w17 ⟨rfl, b17⟩
    have B17 := Lib.hid (below_step B16.out b17)
    have T17 := Lib.hid (T16.out.below b17)
    have S17 := Lib.hid (S16.out.below b17)
    have C17 := Lib.hid (heap_below b17 C16.out)
    clear b17
    go_wp2_with (first | (refine wpList_load_row rfl 31 _ rfl w4.heap.size rfl 31 _ _ _ C17.out Tryz.underlying31 rfl (rbox_info 1 m) ?_))
    refine (HS2.out _ _).mono ?_; rintro e w18 ⟨rfl, b18⟩
    have B18 := Lib.hid (below_step B17.out b18)
    have T18 := Lib.hid (T17.out.below b18)
    have S18 := Lib.hid (S17.out.below b18)
    have C18 := Lib.hid (heap_below b18 C17.out)
    clear b18
    go_wp2_with (first | (refine wpList_load_row rfl 31 _ rfl w4.heap.size rfl 31 _ _ _ C18.out Tryz.underlying31 rfl (rbox_info 1 m) ?_))
    refine (HA.out _ T18.out).mono ?_; rintro e w19 ⟨rfl, b19⟩
    have B19 := Lib.hid (below_step B18.out b19)
    have T19 := Lib.hid (T18.out.below b19)
    have S19 := Lib.hid (S18.out.below b19)
    have C19 := Lib.hid (heap_below b19 C18.out)
    clear b19
    go_wp2_with (first | (refine wpList_load_row rfl 31 _ rfl w4.heap.size rfl 31 _ _ _ C19.out Tryz.underlying31 rfl (rbox_info 1 m) ?_))
    go_ret
    exact ⟨rfl, B19.out⟩
  · rw [show decide (k = t) = false from decide_eq_false hkt] at HS1
    obtain ⟨g1, g2⟩ := str_ne8 hkt
    go_enter Tryz.func3, Tryz.ntmps3
    go_wp2_with fail
    refine (HL.out _).mono ?_; rintro e w1 ⟨rfl, rfl⟩
    go_wp2_with fail
    refine (HN.out _ T0.out).mono ?_; rintro e w2 ⟨⟨p, rfl, s2⟩, b2⟩
    have B2 := Lib.hid b2
    have T2 := Lib.hid (T0.out.below b2)
    have S2 := Lib.hid s2
    clear b2 s2
    go_wp2_with fail
    refine (HM.out _).mono ?_; rintro e w3 ⟨rfl, rfl⟩
    go_wp2_with fail
    refine (HKd.out _ _ S2.out).mono ?_; rintro e w4 ⟨rfl, b4⟩
    have A4 := (Below.refl w4.heap.size w4).alloc (Nat.le_refl _) (.cells #[.int .u8 1, .string m] 31)
    have B4 := Lib.hid (below_step (below_step B2.out b4) A4)
    have T4 := Lib.hid ((T2.out.below b4).below A4)
    have S4 := Lib.hid ((S2.out.below b4).below A4)
    have C4 := Lib.hid (Go.heap_alloc_new w4 (.cells #[.int .u8 1, .string m] 31))
    clear b4 A4
    go_wp2_with (first | (refine wpList_load_row rfl 31 _ rfl w4.heap.size rfl 31 _ _ _ C4.out Tryz.underlying31 rfl (rbox_info 1 m) ?_))
    refine (K1.out _ _ S4.out).mono ?_; rintro e w5 ⟨rfl, b5⟩
    have B5 := Lib.hid (below_step B4.out b5)
    have T5 := Lib.hid (T4.out.below b5)
    have S5 := Lib.hid (S4.out.below b5)
    have C5 := Lib.hid (heap_below b5 C4.out)
    clear b5
    go_wp2_with (first | (refine wpList_load_row rfl 31 _ rfl w4.heap.size rfl 31 _ _ _ C5.out Tryz.underlying31 rfl (rbox_info 1 m) ?_))
    refine (K2.out _).mono ?_; rintro e w6 ⟨rfl, b6⟩
    have B6 := Lib.hid (below_step B5.out b6)
    have T6 := Lib.hid (T5.out.below b6)
    have S6 := Lib.hid (S5.out.below b6)
    have C6 := Lib.hid (heap_below b6 C5.out)
    clear b6
    go_wp2_with (first | (refine wpList_load_row rfl 31 _ rfl w4.heap.size rfl 31 _ _ _ C6.out Tryz.underlying31 rfl (rbox_info 1 m) ?_))
    refine (K3.out _ _ S6.out).mono ?_; rintro e w7 ⟨rfl, b7⟩
    have B7 := Lib.hid (below_step B6.out b7)
    have T7 := Lib.hid (T6.out.below b7)
    have S7 := Lib.hid (S6.out.below b7)
    have C7 := Lib.hid (heap_below b7 C6.out)
    clear b7
    go_wp2_with (first | (refine wpList_load_row rfl 31 _ rfl w4.heap.size rfl 31 _ _ _ C7.out Tryz.underlying31 rfl (rbox_info 1 m) ?_))
    refine (K4.out _).mono ?_; rintro e w8 ⟨rfl, b8⟩
    have B8 := Lib.hid (below_step B7.out b8)
    have T8 := Lib.hid (T7.out.below b8)
    have S8 := Lib.hid (S7.out.below b8)
    have C8 := Lib.hid (heap_below b8 C7.out)
    clear b8
    go_wp2_with (first | (refine wpList_load_row rfl 31 _ rfl w4.heap.size rfl 31 _ _ _ C8.out Tryz.underlying31 rfl (rbox_info 1 m) ?_))
    refine (K5.out _ _ S8.out).mono ?_; rintro e w9 ⟨rfl, b9⟩
    have B9 := Lib.hid (below_step B8.out b9)
    have T9 := Lib.hid (T8.out.below b9)
    have S9 := Lib.hid (S8.out.below b9)
    have C9 := Lib.hid (heap_below b9 C8.out)
    clear b9
    go_wp2_with (first | (refine wpList_load_row rfl 31 _ rfl w4.heap.size rfl 31 _ _ _ C9.out Tryz.underlying31 rfl (rbox_info 1 m) ?_))
    refine (K6.out _).mono ?_; rintro e w10 ⟨rfl, b10⟩
    have B10 := Lib.hid (below_step B9.out b10)
    have T10 := Lib.hid (T9.out.below b10)
    have S10 := Lib.hid (S9.out.below b10)
    have C10 := Lib.hid (heap_below b10 C9.out)
    clear b10
    go_wp2_with (first | (refine wpList_load_row rfl 31 _ rfl w4.heap.size rfl 31 _ _ _ C10.out Tryz.underlying31 rfl (rbox_info 1 m) ?_))
    refine (K7.out _ _ S10.out).mono ?_; rintro e w11 ⟨rfl, b11⟩
    have B11 := Lib.hid (below_step B10.out b11)
    have T11 := Lib.hid (T10.out.below b11)
    have S11 := Lib.hid (S10.out.below b11)
    have C11 := Lib.hid (heap_below b11 C10.out)
    clear b11
    go_wp2_with (first | (refine wpList_load_row rfl 31 _ rfl w4.heap.size rfl 31 _ _ _ C11.out Tryz.underlying31 rfl (rbox_info 1 m) ?_))
    refine (K8.out _).mono ?_; rintro e w12 ⟨rfl, b12⟩
    have B12 := Lib.hid (below_step B11.out b12)
    have T12 := Lib.hid (T11.out.below b12)
    have S12 := Lib.hid (S11.out.below b12)
    have C12 := Lib.hid (heap_below b12 C11.out)
    clear b12
    go_wp2_with (first | (refine wpList_load_row rfl 31 _ rfl w4.heap.size rfl 31 _ _ _ C12.out Tryz.underlying31 rfl (rbox_info 1 m) ?_))
    refine (K9.out _ _ S12.out).mono ?_; rintro e w13 ⟨rfl, b13⟩
    have B13 := Lib.hid (below_step B12.out b13)
    have T13 := Lib.hid (T12.out.below b13)
    have S13 := Lib.hid (S12.out.below b13)
    have C13 := Lib.hid (heap_below b13 C12.out)
    clear b13
    go_wp2_with (first | (refine wpList_load_row rfl 31 _ rfl w4.heap.size rfl 31 _ _ _ C13.out Tryz.underlying31 rfl (rbox_info 1 m) ?_))
    refine (K10.out _).mono ?_; rintro e w14 ⟨rfl, b14⟩
    have B14 := Lib.hid (below_step B13.out b14)
    have T14 := Lib.hid (T13.out.below b14)
    have S14 := Lib.hid (S13.out.below b14)
    have C14 := Lib.hid (heap_below b14 C13.out)
    clear b14
    go_wp2_with (first | (refine wpList_load_row rfl 31 _ rfl w4.heap.size rfl 31 _ _ _ C14.out Tryz.underlying31 rfl (rbox_info 1 m) ?_))
    refine (K11.out _ _ S14.out).mono ?_; rintro e w15 ⟨rfl, b15⟩
    have B15 := Lib.hid (below_step B14.out b15)
    have T15 := Lib.hid (T14.out.below b15)
    have S15 := Lib.hid (S14.out.below b15)
    have C15 := Lib.hid (heap_below b15 C14.out)
    clear b15
    go_wp2_with (first | (refine wpList_load_row rfl 31 _ rfl w4.heap.size rfl 31 _ _ _ C15.out Tryz.underlying31 rfl (rbox_info 1 m) ?_))
    refine (K12.out _).mono ?_; rintro e w16 ⟨rfl, b16⟩
    have B16 := Lib.hid (below_step B15.out b16)
    have T16 := Lib.hid (T15.out.below b16)
    have S16 := Lib.hid (S15.out.below b16)
    have C16 := Lib.hid (heap_below b16 C15.out)
    clear b16
    go_wp2_with (first | (refine wpList_load_row rfl 31 _ rfl w4.heap.size rfl 31 _ _ _ C16.out Tryz.underlying31 rfl (rbox_info 1 m) ?_))
    refine (HS1.out _ _).mono ?_; rintro e w17 ⟨rfl, b17⟩
    have B17 := Lib.hid (below_step B16.out b17)
    have T17 := Lib.hid (T16.out.below b17)
    have S17 := Lib.hid (S16.out.below b17)
    have C17 := Lib.hid (heap_below b17 C16.out)
    clear b17
    go_wp2_with (first | (refine wpList_load_row rfl 31 _ rfl w4.heap.size rfl 31 _ _ _ C17.out Tryz.underlying31 rfl (rbox_info 1 m) ?_))
    refine (HS2.out _ _).mono ?_; rintro e w18 ⟨rfl, b18⟩
    have B18 := Lib.hid (below_step B17.out b18)
    have T18 := Lib.hid (T17.out.below b18)
    have S18 := Lib.hid (S17.out.below b18)
    have C18 := Lib.hid (heap_below b18 C17.out)
    clear b18
    go_wp2_with (first | (refine wpList_load_row rfl 31 _ rfl w4.heap.size rfl 31 _ _ _ C18.out Tryz.underlying31 rfl (rbox_info 1 m) ?_))
    refine (HA.out _ T18.out).mono ?_; rintro e w19 ⟨rfl, b19⟩
    have B19 := Lib.hid (below_step B18.out b19)
    have T19 := Lib.hid (T18.out.below b19)
    have S19 := Lib.hid (S18.out.below b19)
    have C19 := Lib.hid (heap_below b19 C18.out)
    clear b19
    go_wp2_with (first | (refine wpList_load_row rfl 31 _ rfl w4.heap.size rfl 31 _ _ _ C19.out Tryz.underlying31 rfl (rbox_info 1 m) ?_))
    go_ret
    exact ⟨rfl, B19.out⟩
set_option maxHeartbeats 8000000 in
set_option maxRecDepth 100000 in
theorem tells_false (m k n t x : ByteArray) (hl : longB k n t x = false) (hm : m.size ≤ 1000) (h1 : 1 ≤ m.size) (h2 : m.size ≤ 64) (w : World) (hT : Tab w) :
    Calls Tryz.prog 3 #[.int .u8 2, .string m, .string k, .string n, .string t, .string x] w fun e w' => e = .returned (.bool true) ∧ Below w.heap.size w w' := by
  have T0 := Lib.hid hT
  have HN := Lib.hid (fun V h => new_bytes m h1 h2 V h)
  have HA := Lib.hid (fun V h => alive8_any V h)
  have HL := Lib.hid (fun V => long8_any k n t x V)
  have HM := Lib.hid (fun V => rmay8_any 2 m V)
  rw [show may8 2 m.size = true from by unfold may8; simp [h1, h2]] at HM
  obtain ⟨hk, hn, ht, hx⟩ := longB_no hl
  rw [hl] at HL
  have HKd := Lib.hid (fun p V (h : SuiteAt V p false m) => skind_any false m p V h)
  have K1 := Lib.hid (fun p V (h : SuiteAt V p false m) => key8_any false m x hx p V h)
  have K2 := Lib.hid (fun V => rkey8_any 2 m x hm hx V)
  have K3 := Lib.hid (fun p V (h : SuiteAt V p false m) => hash8_any false m t ht p V h)
  have K4 := Lib.hid (fun V => rhash8_any 2 m t ht V)
  have K5 := Lib.hid (fun p V (h : SuiteAt V p false m) => mac8_any false m k hk t ht p V h)
  have K6 := Lib.hid (fun V => rmac8_any 2 (.inr rfl) m k t hk ht V)
  have K7 := Lib.hid (fun p V (h : SuiteAt V p false m) => seal8_any false m k hk n hn t ht p V h)
  have K8 := Lib.hid (fun V => rseal8_any 2 (.inr rfl) m k n t hk hn ht V)
  have K9 := Lib.hid (fun p V (h : SuiteAt V p false m) => open8_any false m k hk x hx p V h)
  have K10 := Lib.hid (fun V => ropen8_any 2 (.inr rfl) m k x hk hx V)
  have K11 := Lib.hid (fun p V (h : SuiteAt V p false m) => pimage8_any false m t ht p V h)
  have K12 := Lib.hid (fun V => rimage8_any 2 (.inr rfl) m t hm ht V)
  have HS1 := Lib.hid (fun p V => ssame8_any k t hk p V)
  have HS2 := Lib.hid (fun p V => ssame8_any t t ht p V)
  rw [show decide (t = t) = true from decide_eq_true rfl] at HS2
  rw [show ((2 : Nat) == 1) = false from rfl] at K2 K4 K6 K8 K10 K12
  generalize keyP cryP false (bl m) (bl x) = R1 at *
  generalize hash8P cryP false (bl t) = R2 at *
  generalize mac8P cryP false (bl k) (bl t) = R3 at *
  generalize seal8P cryP false (bl k) (bl n) (bl t) = R4 at *
  generalize open8P cryP false (bl k) (bl x) = R5 at *
  generalize image8P cryP false (bl m) (bl t) = R6 at *
  obtain ⟨r1, x1⟩ := R1
  obtain ⟨r2, x2⟩ := R2
  obtain ⟨r3, x3⟩ := R3
  obtain ⟨r4, x4⟩ := R4
  obtain ⟨r5, x5⟩ := R5
  obtain ⟨r6, x6⟩ := R6
  unfold st2 at K1 K2 K3 K4 K5 K6 K7 K8 K9 K10 K11 K12
  unfold suiteV at K2 K4 K6 K8 K10 K12
  dsimp only at K1 K2 K3 K4 K5 K6 K7 K8 K9 K10 K11 K12
  generalize (⟨r1.toArray⟩ : ByteArray) = a1 at *
  generalize (⟨r2.toArray⟩ : ByteArray) = a2 at *
  generalize (⟨r3.toArray⟩ : ByteArray) = a3 at *
  generalize (⟨r4.toArray⟩ : ByteArray) = a4 at *
  generalize (⟨r5.toArray⟩ : ByteArray) = a5 at *
  generalize (⟨r6.toArray⟩ : ByteArray) = a6 at *
  have q : ¬ (1000 : Int) < (m.size : Int) := by omega
  clear hT hl hm hk hn ht hx h1 h2
  by_cases hkt : k = t
  · subst hkt
    rw [show decide (k = k) = true from decide_eq_true rfl] at HS1
    go_enter Tryz.func3, Tryz.ntmps3
    go_wp2_with fail
    refine (HL.out _).mono ?_; rintro e w1 ⟨rfl, rfl⟩
    go_wp2_with fail
    refine (HN.out _ T0.out).mono ?_; rintro e w2 ⟨⟨p, rfl, s2⟩, b2⟩
    have B2 := Lib.hid b2
    have T2 := Lib.hid (T0.out.below b2)
    have S2 := Lib.hid s2
    clear b2 s2
    go_wp2_with fail
    refine (HM.out _).mono ?_; rintro e w3 ⟨rfl, rfl⟩
    go_wp2_with fail
    refine (HKd.out _ _ S2.out).mono ?_; rintro e w4 ⟨rfl, b4⟩
    have A4 := (Below.refl w4.heap.size w4).alloc (Nat.le_refl _) (.cells #[.int .u8 2, .string m] 31)
    have B4 := Lib.hid (below_step (below_step B2.out b4) A4)
    have T4 := Lib.hid ((T2.out.below b4).below A4)
    have S4 := Lib.hid ((S2.out.below b4).below A4)
    have C4 := Lib.hid (Go.heap_alloc_new w4 (.cells #[.int .u8 2, .string m] 31))
    clear b4 A4
    go_wp2_with (first | (refine wpList_load_row rfl 31 _ rfl w4.heap.size rfl 31 _ _ _ C4.out Tryz.underlying31 rfl (rbox_info 2 m) ?_))
    refine (K1.out _ _ S4.out).mono ?_; rintro e w5 ⟨rfl, b5⟩
    have B5 := Lib.hid (below_step B4.out b5)
    have T5 := Lib.hid (T4.out.below b5)
    have S5 := Lib.hid (S4.out.below b5)
    have C5 := Lib.hid (heap_below b5 C4.out)
    clear b5
    go_wp2_with (first | (refine wpList_load_row rfl 31 _ rfl w4.heap.size rfl 31 _ _ _ C5.out Tryz.underlying31 rfl (rbox_info 2 m) ?_))
    refine (K2.out _).mono ?_; rintro e w6 ⟨rfl, b6⟩
    have B6 := Lib.hid (below_step B5.out b6)
    have T6 := Lib.hid (T5.out.below b6)
    have S6 := Lib.hid (S5.out.below b6)
    have C6 := Lib.hid (heap_below b6 C5.out)
    clear b6
    go_wp2_with (first | (refine wpList_load_row rfl 31 _ rfl w4.heap.size rfl 31 _ _ _ C6.out Tryz.underlying31 rfl (rbox_info 2 m) ?_))
    refine (K3.out _ _ S6.out).mono ?_; rintro e w7 ⟨rfl, b7⟩
    have B7 := Lib.hid (below_step B6.out b7)
    have T7 := Lib.hid (T6.out.below b7)
    have S7 := Lib.hid (S6.out.below b7)
    have C7 := Lib.hid (heap_below b7 C6.out)
    clear b7
    go_wp2_with (first | (refine wpList_load_row rfl 31 _ rfl w4.heap.size rfl 31 _ _ _ C7.out Tryz.underlying31 rfl (rbox_info 2 m) ?_))
    refine (K4.out _).mono ?_; rintro e w8 ⟨rfl, b8⟩
    have B8 := Lib.hid (below_step B7.out b8)
    have T8 := Lib.hid (T7.out.below b8)
    have S8 := Lib.hid (S7.out.below b8)
    have C8 := Lib.hid (heap_below b8 C7.out)
    clear b8
    go_wp2_with (first | (refine wpList_load_row rfl 31 _ rfl w4.heap.size rfl 31 _ _ _ C8.out Tryz.underlying31 rfl (rbox_info 2 m) ?_))
    refine (K5.out _ _ S8.out).mono ?_; rintro e w9 ⟨rfl, b9⟩
    have B9 := Lib.hid (below_step B8.out b9)
    have T9 := Lib.hid (T8.out.below b9)
    have S9 := Lib.hid (S8.out.below b9)
    have C9 := Lib.hid (heap_below b9 C8.out)
    clear b9
    go_wp2_with (first | (refine wpList_load_row rfl 31 _ rfl w4.heap.size rfl 31 _ _ _ C9.out Tryz.underlying31 rfl (rbox_info 2 m) ?_))
    refine (K6.out _).mono ?_; rintro e w10 ⟨rfl, b10⟩
    have B10 := Lib.hid (below_step B9.out b10)
    have T10 := Lib.hid (T9.out.below b10)
    have S10 := Lib.hid (S9.out.below b10)
    have C10 := Lib.hid (heap_below b10 C9.out)
    clear b10
    go_wp2_with (first | (refine wpList_load_row rfl 31 _ rfl w4.heap.size rfl 31 _ _ _ C10.out Tryz.underlying31 rfl (rbox_info 2 m) ?_))
    refine (K7.out _ _ S10.out).mono ?_; rintro e w11 ⟨rfl, b11⟩
    have B11 := Lib.hid (below_step B10.out b11)
    have T11 := Lib.hid (T10.out.below b11)
    have S11 := Lib.hid (S10.out.below b11)
    have C11 := Lib.hid (heap_below b11 C10.out)
    clear b11
    go_wp2_with (first | (refine wpList_load_row rfl 31 _ rfl w4.heap.size rfl 31 _ _ _ C11.out Tryz.underlying31 rfl (rbox_info 2 m) ?_))
    refine (K8.out _).mono ?_; rintro e w12 ⟨rfl, b12⟩
    have B12 := Lib.hid (below_step B11.out b12)
    have T12 := Lib.hid (T11.out.below b12)
    have S12 := Lib.hid (S11.out.below b12)
    have C12 := Lib.hid (heap_below b12 C11.out)
    clear b12
    go_wp2_with (first | (refine wpList_load_row rfl 31 _ rfl w4.heap.size rfl 31 _ _ _ C12.out Tryz.underlying31 rfl (rbox_info 2 m) ?_))
    refine (K9.out _ _ S12.out).mono ?_; rintro e w13 ⟨rfl, b13⟩
    have B13 := Lib.hid (below_step B12.out b13)
    have T13 := Lib.hid (T12.out.below b13)
    have S13 := Lib.hid (S12.out.below b13)
    have C13 := Lib.hid (heap_below b13 C12.out)
    clear b13
    go_wp2_with (first | (refine wpList_load_row rfl 31 _ rfl w4.heap.size rfl 31 _ _ _ C13.out Tryz.underlying31 rfl (rbox_info 2 m) ?_))
    refine (K10.out _).mono ?_; rintro e w14 ⟨rfl, b14⟩
    have B14 := Lib.hid (below_step B13.out b14)
    have T14 := Lib.hid (T13.out.below b14)
    have S14 := Lib.hid (S13.out.below b14)
    have C14 := Lib.hid (heap_below b14 C13.out)
    clear b14
    go_wp2_with (first | (refine wpList_load_row rfl 31 _ rfl w4.heap.size rfl 31 _ _ _ C14.out Tryz.underlying31 rfl (rbox_info 2 m) ?_))
    refine (K11.out _ _ S14.out).mono ?_; rintro e w15 ⟨rfl, b15⟩
    have B15 := Lib.hid (below_step B14.out b15)
    have T15 := Lib.hid (T14.out.below b15)
    have S15 := Lib.hid (S14.out.below b15)
    have C15 := Lib.hid (heap_below b15 C14.out)
    clear b15
    go_wp2_with (first | (refine wpList_load_row rfl 31 _ rfl w4.heap.size rfl 31 _ _ _ C15.out Tryz.underlying31 rfl (rbox_info 2 m) ?_))
    refine (K12.out _).mono ?_; rintro e w16 ⟨rfl, b16⟩
    have B16 := Lib.hid (below_step B15.out b16)
    have T16 := Lib.hid (T15.out.below b16)
    have S16 := Lib.hid (S15.out.below b16)
    have C16 := Lib.hid (heap_below b16 C15.out)
    clear b16
    go_wp2_with (first | (refine wpList_load_row rfl 31 _ rfl w4.heap.size rfl 31 _ _ _ C16.out Tryz.underlying31 rfl (rbox_info 2 m) ?_))
    refine (HS1.out _ _).mono ?_; rintro e w17 ⟨rfl, b17⟩
    have B17 := Lib.hid (below_step B16.out b17)
    have T17 := Lib.hid (T16.out.below b17)
    have S17 := Lib.hid (S16.out.below b17)
    have C17 := Lib.hid (heap_below b17 C16.out)
    clear b17
    go_wp2_with (first | (refine wpList_load_row rfl 31 _ rfl w4.heap.size rfl 31 _ _ _ C17.out Tryz.underlying31 rfl (rbox_info 2 m) ?_))
    refine (HS2.out _ _).mono ?_; rintro e w18 ⟨rfl, b18⟩
    have B18 := Lib.hid (below_step B17.out b18)
    have T18 := Lib.hid (T17.out.below b18)
    have S18 := Lib.hid (S17.out.below b18)
    have C18 := Lib.hid (heap_below b18 C17.out)
    clear b18
    go_wp2_with (first | (refine wpList_load_row rfl 31 _ rfl w4.heap.size rfl 31 _ _ _ C18.out Tryz.underlying31 rfl (rbox_info 2 m) ?_))
    refine (HA.out _ T18.out).mono ?_; rintro e w19 ⟨rfl, b19⟩
    have B19 := Lib.hid (below_step B18.out b19)
    have T19 := Lib.hid (T18.out.below b19)
    have S19 := Lib.hid (S18.out.below b19)
    have C19 := Lib.hid (heap_below b19 C18.out)
    clear b19
    go_wp2_with (first | (refine wpList_load_row rfl 31 _ rfl w4.heap.size rfl 31 _ _ _ C19.out Tryz.underlying31 rfl (rbox_info 2 m) ?_))
    go_ret
    exact ⟨rfl, B19.out⟩
  · rw [show decide (k = t) = false from decide_eq_false hkt] at HS1
    obtain ⟨g1, g2⟩ := str_ne8 hkt
    go_enter Tryz.func3, Tryz.ntmps3
    go_wp2_with fail
    refine (HL.out _).mono ?_; rintro e w1 ⟨rfl, rfl⟩
    go_wp2_with fail
    refine (HN.out _ T0.out).mono ?_; rintro e w2 ⟨⟨p, rfl, s2⟩, b2⟩
    have B2 := Lib.hid b2
    have T2 := Lib.hid (T0.out.below b2)
    have S2 := Lib.hid s2
    clear b2 s2
    go_wp2_with fail
    refine (HM.out _).mono ?_; rintro e w3 ⟨rfl, rfl⟩
    go_wp2_with fail
    refine (HKd.out _ _ S2.out).mono ?_; rintro e w4 ⟨rfl, b4⟩
    have A4 := (Below.refl w4.heap.size w4).alloc (Nat.le_refl _) (.cells #[.int .u8 2, .string m] 31)
    have B4 := Lib.hid (below_step (below_step B2.out b4) A4)
    have T4 := Lib.hid ((T2.out.below b4).below A4)
    have S4 := Lib.hid ((S2.out.below b4).below A4)
    have C4 := Lib.hid (Go.heap_alloc_new w4 (.cells #[.int .u8 2, .string m] 31))
    clear b4 A4
    go_wp2_with (first | (refine wpList_load_row rfl 31 _ rfl w4.heap.size rfl 31 _ _ _ C4.out Tryz.underlying31 rfl (rbox_info 2 m) ?_))
    refine (K1.out _ _ S4.out).mono ?_; rintro e w5 ⟨rfl, b5⟩
    have B5 := Lib.hid (below_step B4.out b5)
    have T5 := Lib.hid (T4.out.below b5)
    have S5 := Lib.hid (S4.out.below b5)
    have C5 := Lib.hid (heap_below b5 C4.out)
    clear b5
    go_wp2_with (first | (refine wpList_load_row rfl 31 _ rfl w4.heap.size rfl 31 _ _ _ C5.out Tryz.underlying31 rfl (rbox_info 2 m) ?_))
    refine (K2.out _).mono ?_; rintro e w6 ⟨rfl, b6⟩
    have B6 := Lib.hid (below_step B5.out b6)
    have T6 := Lib.hid (T5.out.below b6)
    have S6 := Lib.hid (S5.out.below b6)
    have C6 := Lib.hid (heap_below b6 C5.out)
    clear b6
    go_wp2_with (first | (refine wpList_load_row rfl 31 _ rfl w4.heap.size rfl 31 _ _ _ C6.out Tryz.underlying31 rfl (rbox_info 2 m) ?_))
    refine (K3.out _ _ S6.out).mono ?_; rintro e w7 ⟨rfl, b7⟩
    have B7 := Lib.hid (below_step B6.out b7)
    have T7 := Lib.hid (T6.out.below b7)
    have S7 := Lib.hid (S6.out.below b7)
    have C7 := Lib.hid (heap_below b7 C6.out)
    clear b7
    go_wp2_with (first | (refine wpList_load_row rfl 31 _ rfl w4.heap.size rfl 31 _ _ _ C7.out Tryz.underlying31 rfl (rbox_info 2 m) ?_))
    refine (K4.out _).mono ?_; rintro e w8 ⟨rfl, b8⟩
    have B8 := Lib.hid (below_step B7.out b8)
    have T8 := Lib.hid (T7.out.below b8)
    have S8 := Lib.hid (S7.out.below b8)
    have C8 := Lib.hid (heap_below b8 C7.out)
    clear b8
    go_wp2_with (first | (refine wpList_load_row rfl 31 _ rfl w4.heap.size rfl 31 _ _ _ C8.out Tryz.underlying31 rfl (rbox_info 2 m) ?_))
    refine (K5.out _ _ S8.out).mono ?_; rintro e w9 ⟨rfl, b9⟩
    have B9 := Lib.hid (below_step B8.out b9)
    have T9 := Lib.hid (T8.out.below b9)
    have S9 := Lib.hid (S8.out.below b9)
    have C9 := Lib.hid (heap_below b9 C8.out)
    clear b9
    go_wp2_with (first | (refine wpList_load_row rfl 31 _ rfl w4.heap.size rfl 31 _ _ _ C9.out Tryz.underlying31 rfl (rbox_info 2 m) ?_))
    refine (K6.out _).mono ?_; rintro e w10 ⟨rfl, b10⟩
    have B10 := Lib.hid (below_step B9.out b10)
    have T10 := Lib.hid (T9.out.below b10)
    have S10 := Lib.hid (S9.out.below b10)
    have C10 := Lib.hid (heap_below b10 C9.out)
    clear b10
    go_wp2_with (first | (refine wpList_load_row rfl 31 _ rfl w4.heap.size rfl 31 _ _ _ C10.out Tryz.underlying31 rfl (rbox_info 2 m) ?_))
    refine (K7.out _ _ S10.out).mono ?_; rintro e w11 ⟨rfl, b11⟩
    have B11 := Lib.hid (below_step B10.out b11)
    have T11 := Lib.hid (T10.out.below b11)
    have S11 := Lib.hid (S10.out.below b11)
    have C11 := Lib.hid (heap_below b11 C10.out)
    clear b11
    go_wp2_with (first | (refine wpList_load_row rfl 31 _ rfl w4.heap.size rfl 31 _ _ _ C11.out Tryz.underlying31 rfl (rbox_info 2 m) ?_))
    refine (K8.out _).mono ?_; rintro e w12 ⟨rfl, b12⟩
    have B12 := Lib.hid (below_step B11.out b12)
    have T12 := Lib.hid (T11.out.below b12)
    have S12 := Lib.hid (S11.out.below b12)
    have C12 := Lib.hid (heap_below b12 C11.out)
    clear b12
    go_wp2_with (first | (refine wpList_load_row rfl 31 _ rfl w4.heap.size rfl 31 _ _ _ C12.out Tryz.underlying31 rfl (rbox_info 2 m) ?_))
    refine (K9.out _ _ S12.out).mono ?_; rintro e w13 ⟨rfl, b13⟩
    have B13 := Lib.hid (below_step B12.out b13)
    have T13 := Lib.hid (T12.out.below b13)
    have S13 := Lib.hid (S12.out.below b13)
    have C13 := Lib.hid (heap_below b13 C12.out)
    clear b13
    go_wp2_with (first | (refine wpList_load_row rfl 31 _ rfl w4.heap.size rfl 31 _ _ _ C13.out Tryz.underlying31 rfl (rbox_info 2 m) ?_))
    refine (K10.out _).mono ?_; rintro e w14 ⟨rfl, b14⟩
    have B14 := Lib.hid (below_step B13.out b14)
    have T14 := Lib.hid (T13.out.below b14)
    have S14 := Lib.hid (S13.out.below b14)
    have C14 := Lib.hid (heap_below b14 C13.out)
    clear b14
    go_wp2_with (first | (refine wpList_load_row rfl 31 _ rfl w4.heap.size rfl 31 _ _ _ C14.out Tryz.underlying31 rfl (rbox_info 2 m) ?_))
    refine (K11.out _ _ S14.out).mono ?_; rintro e w15 ⟨rfl, b15⟩
    have B15 := Lib.hid (below_step B14.out b15)
    have T15 := Lib.hid (T14.out.below b15)
    have S15 := Lib.hid (S14.out.below b15)
    have C15 := Lib.hid (heap_below b15 C14.out)
    clear b15
    go_wp2_with (first | (refine wpList_load_row rfl 31 _ rfl w4.heap.size rfl 31 _ _ _ C15.out Tryz.underlying31 rfl (rbox_info 2 m) ?_))
    refine (K12.out _).mono ?_; rintro e w16 ⟨rfl, b16⟩
    have B16 := Lib.hid (below_step B15.out b16)
    have T16 := Lib.hid (T15.out.below b16)
    have S16 := Lib.hid (S15.out.below b16)
    have C16 := Lib.hid (heap_below b16 C15.out)
    clear b16
    go_wp2_with (first | (refine wpList_load_row rfl 31 _ rfl w4.heap.size rfl 31 _ _ _ C16.out Tryz.underlying31 rfl (rbox_info 2 m) ?_))
    refine (HS1.out _ _).mono ?_; rintro e w17 ⟨rfl, b17⟩
    have B17 := Lib.hid (below_step B16.out b17)
    have T17 := Lib.hid (T16.out.below b17)
    have S17 := Lib.hid (S16.out.below b17)
    have C17 := Lib.hid (heap_below b17 C16.out)
    clear b17
    go_wp2_with (first | (refine wpList_load_row rfl 31 _ rfl w4.heap.size rfl 31 _ _ _ C17.out Tryz.underlying31 rfl (rbox_info 2 m) ?_))
    refine (HS2.out _ _).mono ?_; rintro e w18 ⟨rfl, b18⟩
    have B18 := Lib.hid (below_step B17.out b18)
    have T18 := Lib.hid (T17.out.below b18)
    have S18 := Lib.hid (S17.out.below b18)
    have C18 := Lib.hid (heap_below b18 C17.out)
    clear b18
    go_wp2_with (first | (refine wpList_load_row rfl 31 _ rfl w4.heap.size rfl 31 _ _ _ C18.out Tryz.underlying31 rfl (rbox_info 2 m) ?_))
    refine (HA.out _ T18.out).mono ?_; rintro e w19 ⟨rfl, b19⟩
    have B19 := Lib.hid (below_step B18.out b19)
    have T19 := Lib.hid (T18.out.below b19)
    have S19 := Lib.hid (S18.out.below b19)
    have C19 := Lib.hid (heap_below b19 C18.out)
    clear b19
    go_wp2_with (first | (refine wpList_load_row rfl 31 _ rfl w4.heap.size rfl 31 _ _ _ C19.out Tryz.underlying31 rfl (rbox_info 2 m) ?_))
    go_ret
    exact ⟨rfl, B19.out⟩
theorem suitetells_any (c : Nat) (m k n t x : ByteArray) (w : World) (hT : Tab w) :
    Calls Tryz.prog 3 #[.int .u8 c, .string m, .string k, .string n, .string t, .string x] w fun e w' => e = .returned (.bool true) ∧ Below w.heap.size w w' := by
  cases hl : longB k n t x with
  | true => exact tells_long c m k n t x (.inl hl) w hT
  | false =>
    by_cases hm : m.size ≤ 1000
    · by_cases h1 : c = 1
      · subst h1
        exact tells_true m k n t x hl hm w hT
      · by_cases h2 : c = 2 ∧ 1 ≤ m.size ∧ m.size ≤ 64
        · obtain ⟨rfl, h3, h4⟩ := h2
          exact tells_false m k n t x hl hm h3 h4 w hT
        · exact tells_none c m k n t x hl hm h1 h2 w hT
    · exact tells_long c m k n t x (.inr ⟨hl, by omega⟩) w hT
end Go.Proofs.YtedidoeoomijjaaGreatDoor.Pl
