/- The program's own ballot: what Read answers. -/
import Derived.Test.YtbdlegjklfkdmaaGreatDoorBallA26
namespace Go.Proofs.YtbdlegjklfkdmaaGreatDoor.Pl
open Go.RowKit

set_option maxHeartbeats 1000000 in
set_option maxRecDepth 100000 in
theorem pread13_any (t : ByteArray) (ht : t.size ≤ 281474976710656) (w : World) : Calls Tryz.prog 15 #[.string t] w (RdOw w (readBt t)) := by
  have HP := Lib.hid (fun V => parts13_any t ht V)
  obtain ⟨Z, hZ⟩ : ∃ Z, Z = readBt t := ⟨_, rfl⟩
  have hR := own_read t
  rw [← hZ] at hR ⊢
  unfold ownBt at hR
  have HR := Lib.hid hR
  clear hZ hR ht
  obtain ⟨W0, hW0⟩ : ∃ V, V = (w.alloc (.cells #[.int .i64 0, .int .i64 0, .int .i64 0, .int .i64 0, .slice none 0 0, .int .i64 0] 26)).alloc (.cells #[.int .i64 0, .int .i64 0, .int .i64 0, .int .i64 0, .slice none 0 0, .int .i64 0] 26) := ⟨_, rfl⟩
  have sz0 : W0.heap.size = w.heap.size + 2 := by rw [hW0]; simp
  have r0 : W0.heap[w.heap.size]? = some (.cells #[.int .i64 0, .int .i64 0, .int .i64 0, .int .i64 0, .slice none 0 0, .int .i64 0] 26 (0, 0)) := by
    rw [hW0]; exact (Below.heap_alloc _ _ _ (by simp)).trans (heap_alloc_new _ _)
  have q0 : BAt W0 (w.heap.size + 1) zeroBt (.slice none 0 0) := by
    have h := bat_new (w.alloc (.cells #[.int .i64 0, .int .i64 0, .int .i64 0, .int .i64 0, .slice none 0 0, .int .i64 0] 26)) zeroBt (.slice none 0 0)
    rw [World.size_alloc] at h
    rw [hW0]; exact h
  have b0 : Below w.heap.size w W0 := by rw [hW0]; exact ((Below.refl _ w).alloc (Nat.le_refl _) _).alloc (by simp) _
  have HW0 := Lib.hid hW0
  have SZ0 := Lib.hid sz0
  have R0 := Lib.hid r0
  have Q0 := Lib.hid q0
  have B0 := Lib.hid b0
  clear hW0 sz0 r0 q0 b0
  go_enter Tryz.func15, Tryz.ntmps15
  go_wp2_with fail
  rw [← HW0.out]
  refine (HP.out _).mono ?_; rintro e1 w1 ⟨⟨ao, cap, rfl, hc, hT, hlo⟩, b1⟩
  have hsz := partsB_size t
  have hln := partsB_len t
  obtain ⟨W1, hW1⟩ : ∃ V, V = (w1.alloc (.cells #[.slice ao (partsB t).length cap] 53)).alloc (.cells #[.bool (partsP (bl t)).2] 4) := ⟨_, rfl⟩
  have sle := b1.size
  have sz0 := SZ0.out
  have bR : Boxed W1 w1.heap.size 53 (.slice ao (partsB t).length cap) := by rw [hW1]; exact (Boxed.new w1 _ _).alloc _
  have bI : Boxed W1 (w1.heap.size + 1) 4 (.bool (partsP (bl t)).2) := by
    have h := Boxed.new (w1.alloc (.cells #[.slice ao (partsB t).length cap] 53)) 4 (.bool (partsP (bl t)).2)
    rw [World.size_alloc] at h
    rw [hW1]; exact h
  have bb1 : Below w1.heap.size w1 W1 := by rw [hW1]; exact ((Below.refl _ w1).alloc (Nat.le_refl _) _).alloc (by simp) _
  have S0 := Lib.hid (show St13 w w1.heap.size ⟨(partsP (bl t)).2, partsB t, zeroBt⟩ W1 from by
    refine ⟨by omega, ⟨.slice none 0 0, (Q0.out.below b1).below bb1, ownM_nil _ _⟩, ⟨ao, cap, bR, hc, hT.below bb1, fun hn g off e => ?_⟩, bI, hsz, by show (partsB t).length ≤ _; omega, (B0.out.trans ((b1.mono (by omega)))).trans (bb1.mono (by omega)), heap_below bb1 (heap_below b1 R0.out), (fun x hx => absurd hx (List.not_mem_nil)), Nat.zero_le _⟩
    refine ⟨by have := hlo g off e; omega, ?_⟩
    rcases hT with hT | ⟨g', off', e', hlt, _⟩
    · exact absurd hT hn
    · rw [e] at e'
      cases e'
      omega)
  have HW1 := Lib.hid hW1
  generalize (partsB t).length = n at *
  generalize partsB t = ps at *
  generalize (partsP (bl t)).2 = z at *
  clear hW1 sle sz0 bR bI bb1 hsz hln hc hT hlo b1 HW0 SZ0 R0 Q0 B0 HP
  go_wp2_with fail
  rw [← HW1.out]
  clear HW1
  refine (nx0_any w w1.heap.size _ _ S0.out).mono ?_; rintro e2 w2 ⟨⟨v2, rfl⟩, s1⟩
  have S1 := Lib.hid s1
  clear s1
  go_wp2_with fail
  refine (nx1_any w w1.heap.size _ _ S1.out).mono ?_; rintro e3 w3 ⟨⟨v3, rfl⟩, s2⟩
  have S2 := Lib.hid s2
  clear s2
  go_wp2_with fail
  refine (nx2_any w w1.heap.size _ _ S2.out).mono ?_; rintro e4 w4 ⟨⟨v4, rfl⟩, s3⟩
  have S3 := Lib.hid s3
  clear s3
  go_wp2_with fail
  refine (nx3_any w w1.heap.size _ _ S3.out).mono ?_; rintro e5 w5 ⟨⟨v5, rfl⟩, s4⟩
  have S4 := Lib.hid s4
  clear s4
  go_wp2_with fail
  refine (nx4_any w w1.heap.size _ _ S4.out).mono ?_; rintro e6 w6 ⟨⟨v6, rfl⟩, s5⟩
  have S5 := Lib.hid s5
  clear s5
  obtain ⟨s5, hs5⟩ : ∃ s, s = nextS f4 (nextS f3 (nextS f2 (nextS f1 (nextS f0 ⟨z, ps, zeroBt⟩)))) := ⟨_, rfl⟩
  rw [← hs5] at S5 HR
  clear hs5 S0 S1 S2 S3 S4
  generalize w1.heap.size = R at *
  generalize w6 = V5 at *
  obtain ⟨z, qs, b⟩ := s5
  have hI := S5.out.2.2.2.1
  have c1 := hI.cell
  obtain ⟨ao2, cap2, hB2, -, -, -⟩ := S5.out.2.2.1
  have c2 := hB2.cell
  dsimp only at c1 c2 HR
  clear hI hB2
  cases z with
  | false =>
    have HZ := Lib.hid (HR.out.trans (if_neg (fun e => by cases e.1)))
    have r2 := Lib.hid (show V5.heap[w.heap.size]? = some (.cells #[.int .i64 0, .int .i64 0, .int .i64 0, .int .i64 0, .slice none 0 0, .int .i64 0] 26 (0, 0)) from S5.out.2.2.2.2.2.2.2.1)
    have BB := Lib.hid S5.out.2.2.2.2.2.2.1
    go_wp2_with (refine wpList_store_row rfl 26 _ _ rfl w.heap.size #[.int .i64 0, .int .i64 0, .int .i64 0, .int .i64 0, .slice none 0 0, .int .i64 0] rfl rfl 26 #[.int .i64 0, .int .i64 0, .int .i64 0, .int .i64 0, .slice none 0 0, .int .i64 0] r2.out (bt_info _ _ _ _ _ _) rfl (bt_one6 _ _ _ _ _ _ _ _) ?_)
    refine bodyPost_ret (results_row_tmp (fn := Tryz.f15) (p := 2) (u := 3) (ty := 26) rfl _ _ w.heap.size 26 #[.int .i64 0, .int .i64 0, .int .i64 0, .int .i64 0, .slice none 0 0, .int .i64 0] (0, 0) _ rfl (setRow_heap _ _ _ _ _ _ r2.out) Tryz.underlying26 rfl (bt_info _ _ _ _ _ _)) rfl ?_
    rw [HZ.out]
    exact bo_none BB.out
  | true =>
    cases qs with
    | cons q r =>
      have HZ := Lib.hid (HR.out.trans (if_neg (fun e => by cases e.2.1)))
      have r2 := Lib.hid (show V5.heap[w.heap.size]? = some (.cells #[.int .i64 0, .int .i64 0, .int .i64 0, .int .i64 0, .slice none 0 0, .int .i64 0] 26 (0, 0)) from S5.out.2.2.2.2.2.2.2.1)
      have BB := Lib.hid S5.out.2.2.2.2.2.2.1
      have hl1 : (0 : Int) < ((q :: r).length : Int) := by rw [List.length_cons]; omega
      generalize (q :: r).length = n at *
      go_wp2_with (refine wpList_store_row rfl 26 _ _ rfl w.heap.size #[.int .i64 0, .int .i64 0, .int .i64 0, .int .i64 0, .slice none 0 0, .int .i64 0] rfl rfl 26 #[.int .i64 0, .int .i64 0, .int .i64 0, .int .i64 0, .slice none 0 0, .int .i64 0] r2.out (bt_info _ _ _ _ _ _) rfl (bt_one6 _ _ _ _ _ _ _ _) ?_)
      refine bodyPost_ret (results_row_tmp (fn := Tryz.f15) (p := 2) (u := 3) (ty := 26) rfl _ _ w.heap.size 26 #[.int .i64 0, .int .i64 0, .int .i64 0, .int .i64 0, .slice none 0 0, .int .i64 0] (0, 0) _ rfl (setRow_heap _ _ _ _ _ _ r2.out) Tryz.underlying26 rfl (bt_info _ _ _ _ _ _)) rfl ?_
      rw [HZ.out]
      exact bo_none BB.out
    | nil =>
      rw [List.length_nil] at c2
      obtain ⟨-, ⟨v, hB, hO⟩, -, -, -, -, hbb, hres, hfa, hfl⟩ := S5.out
      dsimp only at hB hO hfa hfl
      obtain ⟨uo, uc, rfl, hrow, -⟩ := ownM_row hO
      have HC := Lib.hid (pcheck13_any b uo uc hfa hfl V5 hrow)
      obtain ⟨x0, x1, x2, x3, x4, x5⟩ := hB.cells
      have HB := Lib.hid hB
      have HO := Lib.hid hO
      have HRES := Lib.hid hres
      have BB := Lib.hid hbb
      have HSZ := Lib.hid (show w.heap.size + 1 ≤ R + 2 by have := S5.out.1; omega)
      clear hB hO hfa hfl hrow hbb hres S5
      cases hm : mayBt b with
      | true =>
        have HZ := Lib.hid (HR.out.trans (if_pos ⟨rfl, rfl, hm⟩))
        rw [hm] at HC
        simp only [if_true] at HC
        clear hm HR
        obtain ⟨c, e, q, aud, mem, org⟩ := b
        dsimp only [btC] at *
        generalize hn : mem.length = n at *
        have HN := Lib.hid hn
        clear hn
        go_wp2_with fail
        refine HC.out.mono ?_; rintro e7 w7 ⟨rfl, b7⟩
        have g7 := HB.out.below b7
        obtain ⟨x0, x1, x2, x3, x4, x5⟩ := g7.cells
        dsimp only at x0 x1 x2 x3 x4 x5
        have r2 := Lib.hid (show w7.heap[w.heap.size]? = some (.cells #[.int .i64 0, .int .i64 0, .int .i64 0, .int .i64 0, .slice none 0 0, .int .i64 0] 26 (0, 0)) from HRES.out.below b7)
        have BB := Lib.hid (below_step BB.out b7)
        have OA := Lib.hid (ownM_below HO.out b7)
        clear b7 g7 HC HB HO HRES c1 c2
        go_wp2_with (refine wpList_store_row rfl 26 _ _ rfl w.heap.size #[.int .i64 c, .int .i64 e, .int .i64 q, .int .i64 aud, .slice uo n uc, .int .i64 org] rfl rfl 26 #[.int .i64 0, .int .i64 0, .int .i64 0, .int .i64 0, .slice none 0 0, .int .i64 0] r2.out (bt_info _ _ _ _ _ _) rfl (bt_one6 _ _ _ _ _ _ _ _) ?_)
        refine bodyPost_ret (results_row_tmp (fn := Tryz.f15) (p := 2) (u := 3) (ty := 26) rfl _ _ w.heap.size 26 #[.int .i64 c, .int .i64 e, .int .i64 q, .int .i64 aud, .slice uo n uc, .int .i64 org] (0, 0) _ rfl (setRow_heap _ _ _ _ _ _ r2.out) Tryz.underlying26 rfl (bt_info _ _ _ _ _ _)) rfl ?_
        rw [HZ.out]
        have hN := HN.out
        subst hN
        exact bo_some (b := ⟨c, e, q, aud, mem, org⟩) BB.out (ownM_low OA.out HSZ.out)
      | false =>
        have HZ := Lib.hid (HR.out.trans (if_neg (fun e => by rw [hm] at e; cases e.2.2)))
        rw [hm] at HC
        simp only [Bool.false_eq_true, if_false] at HC
        clear hm HR
        obtain ⟨c, e, q, aud, mem, org⟩ := b
        dsimp only [btC] at *
        generalize mem.length = n at *
        go_wp2_with fail
        refine HC.out.mono ?_; rintro e7 w7 ⟨rfl, b7⟩
        have r2 := Lib.hid (show w7.heap[w.heap.size]? = some (.cells #[.int .i64 0, .int .i64 0, .int .i64 0, .int .i64 0, .slice none 0 0, .int .i64 0] 26 (0, 0)) from HRES.out.below b7)
        have BB := Lib.hid (below_step BB.out b7)
        clear b7 HC HB HO HRES
        go_wp2_with (refine wpList_store_row rfl 26 _ _ rfl w.heap.size #[.int .i64 0, .int .i64 0, .int .i64 0, .int .i64 0, .slice none 0 0, .int .i64 0] rfl rfl 26 #[.int .i64 0, .int .i64 0, .int .i64 0, .int .i64 0, .slice none 0 0, .int .i64 0] r2.out (bt_info _ _ _ _ _ _) rfl (bt_one6 _ _ _ _ _ _ _ _) ?_)
        refine bodyPost_ret (results_row_tmp (fn := Tryz.f15) (p := 2) (u := 3) (ty := 26) rfl _ _ w.heap.size 26 #[.int .i64 0, .int .i64 0, .int .i64 0, .int .i64 0, .slice none 0 0, .int .i64 0] (0, 0) _ rfl (setRow_heap _ _ _ _ _ _ r2.out) Tryz.underlying26 rfl (bt_info _ _ _ _ _ _)) rfl ?_
        rw [HZ.out]
        exact bo_none BB.out

end Go.Proofs.YtbdlegjklfkdmaaGreatDoor.Pl
