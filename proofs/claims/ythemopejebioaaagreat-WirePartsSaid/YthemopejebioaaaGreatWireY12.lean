/- Whether a message may be, kind by kind. -/
import Derived.Test.YthemopejebioaaaGreatWireY11
namespace Go.Proofs.YthemopejebioaaaGreat.Pl
open Go.RowKit

theorem isEmpty12 {s : ByteArray} (h : s.size ≠ 0) : s.toList.isEmpty = false := by
  rw [Lib.toList_data]
  cases e : s.data.toList with
  | nil => exact absurd (by have := congrArg List.length e; simpa using this) h
  | cons x y => rfl
theorem text_cases (s : ByteArray) : s = ⟨#[]⟩ ∨ (s.toList.isEmpty = false ∧ s.size ≠ 0) := by
  by_cases h : s.size = 0
  · exact .inl (empty_of h)
  · exact .inr ⟨isEmpty12 h, h⟩
theorem gat_new (w : World) (m : Ms) (v : Value) : GAt (w.alloc (.cells (msC m v) 26)) w.heap.size m v := Go.heap_alloc_new _ _

set_option maxHeartbeats 4000000 in
set_option maxRecDepth 100000 in
theorem asks_any (m : Ms) (ao : Option Addr) (cap : Nat) (w : World) : Calls Tryz.prog 106 #[.agg (msC m (.slice ao m.mem.length cap))] w fun x w' => x = .returned (.bool (asksP m)) ∧ Below w.heap.size w w' := by
  have hz : asksP m = (!(m.aud == 0) || decide (0 < m.mem.length) || decide (0 < m.body.size)) := rfl
  have B := Lib.hid ((Below.refl w.heap.size w).alloc (Nat.le_refl _) (.cells (msC m (.slice ao m.mem.length cap)) 26))
  generalize asksP m = z at *
  have HZ := Lib.hid hz
  clear hz
  obtain ⟨k, c, e, q, aud, mem, body, yes, tag⟩ := m
  dsimp only [msC] at *
  generalize mem.length = n at *
  by_cases ha : aud = 0
  · subst ha
    by_cases hn : 0 < n
    · have hn' : (0 : Int) < (n : Int) := by omega
      go_enter Tryz.func106, Tryz.ntmps106
      go_wp2_with fail
      go_ret
      exact ⟨by rw [HZ.out]; simp [hn], B.out⟩
    · obtain rfl : n = 0 := by omega
      rcases text_cases body with rfl | ⟨hb, hb2⟩
      · go_enter Tryz.func106, Tryz.ntmps106
        go_wp2_with fail
        go_ret
        exact ⟨by rw [HZ.out]; rfl, B.out⟩
      · go_enter Tryz.func106, Tryz.ntmps106
        go_wp2_with fail
        go_ret
        exact ⟨by rw [HZ.out]; simp; omega, B.out⟩
  · have ha' : (aud == 0) = false := beq_eq_false_iff_ne.2 ha
    have ha2 : (aud != 0) = true := by rw [bne_iff_ne]; exact ha
    go_enter Tryz.func106, Tryz.ntmps106
    go_wp2_with fail
    go_ret
    exact ⟨by rw [HZ.out]; simp [ha'], B.out⟩
set_option maxHeartbeats 4000000 in
set_option maxRecDepth 100000 in
theorem votes_any (m : Ms) (ao : Option Addr) (cap : Nat) (w : World) : Calls Tryz.prog 105 #[.agg (msC m (.slice ao m.mem.length cap))] w fun x w' => x = .returned (.bool (votesP m)) ∧ Below w.heap.size w w' := by
  have hz : votesP m = (m.yes || decide (0 < m.tag.size)) := rfl
  have B := Lib.hid ((Below.refl w.heap.size w).alloc (Nat.le_refl _) (.cells (msC m (.slice ao m.mem.length cap)) 26))
  generalize votesP m = z at *
  have HZ := Lib.hid hz
  clear hz
  obtain ⟨k, c, e, q, aud, mem, body, yes, tag⟩ := m
  dsimp only [msC] at *
  generalize mem.length = n at *
  cases yes with
  | true =>
    go_enter Tryz.func105, Tryz.ntmps105
    go_wp2_with fail
    go_ret
    exact ⟨by rw [HZ.out]; rfl, B.out⟩
  | false =>
    rcases text_cases tag with rfl | ⟨hb, hb2⟩
    · go_enter Tryz.func105, Tryz.ntmps105
      go_wp2_with fail
      go_ret
      exact ⟨by rw [HZ.out]; rfl, B.out⟩
    · go_enter Tryz.func105, Tryz.ntmps105
      go_wp2_with fail
      go_ret
      exact ⟨by rw [HZ.out]; simp; omega, B.out⟩
set_option maxHeartbeats 4000000 in
set_option maxRecDepth 100000 in
theorem mayprep_any (m : Ms) (ao : Option Addr) (cap : Nat) (hb : m.body.size ≤ 281474976710656) (_ht : m.tag.size ≤ 281474976710656) (hms : ∀ x ∈ m.mem, x.2.size ≤ 281474976710656) (hml : m.mem.length ≤ 9223372036854775807) (w : World) (hrow : MemRow w ao m.mem) :
    Calls Tryz.prog 67 #[.agg (msC m (.slice ao m.mem.length cap))] w fun x w' => x = .returned (.bool (mayX m.c m.e m.q && orgP m.aud && mayL m.c m.mem && termP m.body && !votesP m)) ∧ Below w.heap.size w w' := by
  obtain ⟨z, hz⟩ : ∃ z, z = (mayX m.c m.e m.q && orgP m.aud && mayL m.c m.mem && termP m.body && !votesP m) := ⟨_, rfl⟩
  rw [← hz]
  have H_x := fun V => maytxn_any m.c m.e m.q V
  have H_o := fun V => isorg_any m.aud V
  have H_m := fun V (hV : Below w.heap.size w V) => maymems_any m.c m.e m.q m.mem ao cap hms hml V (hrow.below hV)
  have H_t := fun V => isterm_any m.body hb V
  have H_v := fun V => votes_any m ao cap V
  obtain ⟨W0, hW0⟩ : ∃ V, V = w.alloc (.cells (msC m (.slice ao m.mem.length cap)) 26) := ⟨_, rfl⟩
  have g0 : GAt W0 w.heap.size m (.slice ao m.mem.length cap) := by rw [hW0]; exact gat_new _ _ _
  have B0 : Hid (Below w.heap.size w W0) := Lib.hid (by rw [hW0]; exact (Below.refl _ _).alloc (Nat.le_refl _) _)
  have HCE : Hid (∀ V, GAt V w.heap.size m (.slice ao m.mem.length cap) → V.cell? ⟨w.heap.size, 0, none⟩ = some (.int .u8 m.kind) ∧ V.cell? ⟨w.heap.size, 1, none⟩ = some (.int .i64 m.c) ∧ V.cell? ⟨w.heap.size, 2, none⟩ = some (.int .i64 m.e) ∧ V.cell? ⟨w.heap.size, 3, none⟩ = some (.int .i64 m.q) ∧ V.cell? ⟨w.heap.size, 4, none⟩ = some (.int .i64 m.aud) ∧ V.cell? ⟨w.heap.size, 5, none⟩ = some (.slice ao m.mem.length cap) ∧ V.cell? ⟨w.heap.size, 6, none⟩ = some (.string m.body) ∧ V.cell? ⟨w.heap.size, 7, none⟩ = some (.bool m.yes) ∧ V.cell? ⟨w.heap.size, 8, none⟩ = some (.string m.tag)) := Lib.hid (fun V h => h.cells)
  have HGB : Hid (∀ V V2, GAt V w.heap.size m (.slice ao m.mem.length cap) → Below V.heap.size V V2 → GAt V2 w.heap.size m (.slice ao m.mem.length cap)) := Lib.hid (fun V V2 h b => h.below b)
  generalize e_x : mayX m.c m.e m.q = v_x at *
  generalize e_o : orgP m.aud = v_o at *
  generalize e_m : mayL m.c m.mem = v_m at *
  generalize e_t : termP m.body = v_t at *
  generalize e_v : votesP m = v_v at *
  have HZ := Lib.hid hz
  have HW0 := Lib.hid hW0
  have G0 := Lib.hid g0
  clear hz hW0 g0 hrow hms hml hb _ht e_x e_o e_m e_t e_v
  obtain ⟨k, c, e, q, aud, mem, body, yes, tag⟩ := m
  dsimp only [msC] at *
  generalize mem.length = n at *
  cases v_x with
  | false =>
    have H_x := Lib.hid H_x
    go_enter Tryz.func67, Tryz.ntmps67
    go_wp2_with (first | (go_at_call 23; rw [← HW0.out]; refine (H_x.out _).mono ?_; rintro e w1 ⟨rfl, b1⟩; have G1 := HGB.out _ _ (G0.out) b1; have BB1 := below_step B0.out b1; obtain ⟨x10, x11, x12, x13, x14, x15, x16, x17, x18⟩ := HCE.out _ G1) | fail)
    go_ret
    exact ⟨by rw [HZ.out]; first | rfl | simp, BB1⟩
  | true =>
    have H_x := Lib.hid H_x
    cases v_o with
    | false =>
      have H_o := Lib.hid H_o
      go_enter Tryz.func67, Tryz.ntmps67
      go_wp2_with (first | (go_at_call 23; rw [← HW0.out]; refine (H_x.out _).mono ?_; rintro e w1 ⟨rfl, b1⟩; have G1 := HGB.out _ _ (G0.out) b1; have BB1 := below_step B0.out b1; obtain ⟨x10, x11, x12, x13, x14, x15, x16, x17, x18⟩ := HCE.out _ G1) | (go_at_call 58; refine (H_o.out _).mono ?_; rintro e wo ⟨rfl, ho⟩; rw [ho]; clear ho wo; have G2 := G1; have BB2 := BB1) | fail)
      go_ret
      exact ⟨by rw [HZ.out]; first | rfl | simp, BB2⟩
    | true =>
      have H_o := Lib.hid H_o
      cases v_m with
      | false =>
        have H_m := Lib.hid H_m
        go_enter Tryz.func67, Tryz.ntmps67
        go_wp2_with (first | (go_at_call 23; rw [← HW0.out]; refine (H_x.out _).mono ?_; rintro e w1 ⟨rfl, b1⟩; have G1 := HGB.out _ _ (G0.out) b1; have BB1 := below_step B0.out b1; obtain ⟨x10, x11, x12, x13, x14, x15, x16, x17, x18⟩ := HCE.out _ G1) | (go_at_call 58; refine (H_o.out _).mono ?_; rintro e wo ⟨rfl, ho⟩; rw [ho]; clear ho wo; have G2 := G1; have BB2 := BB1) | (go_at_call 25; refine (H_m.out _ BB2).mono ?_; rintro e w3 ⟨rfl, b3⟩; have G3 := HGB.out _ _ (G2) b3; have BB3 := below_step BB2 b3; obtain ⟨x30, x31, x32, x33, x34, x35, x36, x37, x38⟩ := HCE.out _ G3) | fail)
        go_ret
        exact ⟨by rw [HZ.out]; first | rfl | simp, BB3⟩
      | true =>
        have H_m := Lib.hid H_m
        cases v_t with
        | false =>
          have H_t := Lib.hid H_t
          go_enter Tryz.func67, Tryz.ntmps67
          go_wp2_with (first | (go_at_call 23; rw [← HW0.out]; refine (H_x.out _).mono ?_; rintro e w1 ⟨rfl, b1⟩; have G1 := HGB.out _ _ (G0.out) b1; have BB1 := below_step B0.out b1; obtain ⟨x10, x11, x12, x13, x14, x15, x16, x17, x18⟩ := HCE.out _ G1) | (go_at_call 58; refine (H_o.out _).mono ?_; rintro e wo ⟨rfl, ho⟩; rw [ho]; clear ho wo; have G2 := G1; have BB2 := BB1) | (go_at_call 25; refine (H_m.out _ BB2).mono ?_; rintro e w3 ⟨rfl, b3⟩; have G3 := HGB.out _ _ (G2) b3; have BB3 := below_step BB2 b3; obtain ⟨x30, x31, x32, x33, x34, x35, x36, x37, x38⟩ := HCE.out _ G3) | (go_at_call 59; refine (H_t.out _).mono ?_; rintro e w4 ⟨rfl, b4⟩; have G4 := HGB.out _ _ (G3) b4; have BB4 := below_step BB3 b4; obtain ⟨x40, x41, x42, x43, x44, x45, x46, x47, x48⟩ := HCE.out _ G4) | fail)
          go_ret
          exact ⟨by rw [HZ.out]; first | rfl | simp, BB4⟩
        | true =>
          have H_t := Lib.hid H_t
          cases v_v with
          | false =>
            have H_v := Lib.hid H_v
            go_enter Tryz.func67, Tryz.ntmps67
            go_wp2_with (first | (go_at_call 23; rw [← HW0.out]; refine (H_x.out _).mono ?_; rintro e w1 ⟨rfl, b1⟩; have G1 := HGB.out _ _ (G0.out) b1; have BB1 := below_step B0.out b1; obtain ⟨x10, x11, x12, x13, x14, x15, x16, x17, x18⟩ := HCE.out _ G1) | (go_at_call 58; refine (H_o.out _).mono ?_; rintro e wo ⟨rfl, ho⟩; rw [ho]; clear ho wo; have G2 := G1; have BB2 := BB1) | (go_at_call 25; refine (H_m.out _ BB2).mono ?_; rintro e w3 ⟨rfl, b3⟩; have G3 := HGB.out _ _ (G2) b3; have BB3 := below_step BB2 b3; obtain ⟨x30, x31, x32, x33, x34, x35, x36, x37, x38⟩ := HCE.out _ G3) | (go_at_call 59; refine (H_t.out _).mono ?_; rintro e w4 ⟨rfl, b4⟩; have G4 := HGB.out _ _ (G3) b4; have BB4 := below_step BB3 b4; obtain ⟨x40, x41, x42, x43, x44, x45, x46, x47, x48⟩ := HCE.out _ G4) | (go_at_call 105; refine (H_v.out _).mono ?_; rintro e w5 ⟨rfl, b5⟩; have G5 := HGB.out _ _ (G4) b5; have BB5 := below_step BB4 b5; obtain ⟨x50, x51, x52, x53, x54, x55, x56, x57, x58⟩ := HCE.out _ G5) | fail)
            go_ret
            exact ⟨by rw [HZ.out]; first | rfl | simp, BB5⟩
          | true =>
            have H_v := Lib.hid H_v
            go_enter Tryz.func67, Tryz.ntmps67
            go_wp2_with (first | (go_at_call 23; rw [← HW0.out]; refine (H_x.out _).mono ?_; rintro e w1 ⟨rfl, b1⟩; have G1 := HGB.out _ _ (G0.out) b1; have BB1 := below_step B0.out b1; obtain ⟨x10, x11, x12, x13, x14, x15, x16, x17, x18⟩ := HCE.out _ G1) | (go_at_call 58; refine (H_o.out _).mono ?_; rintro e wo ⟨rfl, ho⟩; rw [ho]; clear ho wo; have G2 := G1; have BB2 := BB1) | (go_at_call 25; refine (H_m.out _ BB2).mono ?_; rintro e w3 ⟨rfl, b3⟩; have G3 := HGB.out _ _ (G2) b3; have BB3 := below_step BB2 b3; obtain ⟨x30, x31, x32, x33, x34, x35, x36, x37, x38⟩ := HCE.out _ G3) | (go_at_call 59; refine (H_t.out _).mono ?_; rintro e w4 ⟨rfl, b4⟩; have G4 := HGB.out _ _ (G3) b4; have BB4 := below_step BB3 b4; obtain ⟨x40, x41, x42, x43, x44, x45, x46, x47, x48⟩ := HCE.out _ G4) | (go_at_call 105; refine (H_v.out _).mono ?_; rintro e w5 ⟨rfl, b5⟩; have G5 := HGB.out _ _ (G4) b5; have BB5 := below_step BB4 b5; obtain ⟨x50, x51, x52, x53, x54, x55, x56, x57, x58⟩ := HCE.out _ G5) | fail)
            go_ret
            exact ⟨by rw [HZ.out]; first | rfl | simp, BB5⟩
set_option maxHeartbeats 4000000 in
set_option maxRecDepth 100000 in
theorem mayvote_any (m : Ms) (ao : Option Addr) (cap : Nat) (_hb : m.body.size ≤ 281474976710656) (ht : m.tag.size ≤ 281474976710656) (_hms : ∀ x ∈ m.mem, x.2.size ≤ 281474976710656) (_hml : m.mem.length ≤ 9223372036854775807) (w : World) (_hrow : MemRow w ao m.mem) :
    Calls Tryz.prog 70 #[.agg (msC m (.slice ao m.mem.length cap))] w fun x w' => x = .returned (.bool (mayX m.c m.e m.q && !asksP m && ((m.yes && termP m.tag) || !votesP m))) ∧ Below w.heap.size w w' := by
  obtain ⟨z, hz⟩ : ∃ z, z = (mayX m.c m.e m.q && !asksP m && ((m.yes && termP m.tag) || !votesP m)) := ⟨_, rfl⟩
  rw [← hz]
  have H_x := fun V => maytxn_any m.c m.e m.q V
  have H_a := fun V => asks_any m ao cap V
  have H_g := fun V => isterm_any m.tag ht V
  have H_v := fun V => votes_any m ao cap V
  obtain ⟨W0, hW0⟩ : ∃ V, V = w.alloc (.cells (msC m (.slice ao m.mem.length cap)) 26) := ⟨_, rfl⟩
  have g0 : GAt W0 w.heap.size m (.slice ao m.mem.length cap) := by rw [hW0]; exact gat_new _ _ _
  have B0 : Hid (Below w.heap.size w W0) := Lib.hid (by rw [hW0]; exact (Below.refl _ _).alloc (Nat.le_refl _) _)
  have HCE : Hid (∀ V, GAt V w.heap.size m (.slice ao m.mem.length cap) → V.cell? ⟨w.heap.size, 0, none⟩ = some (.int .u8 m.kind) ∧ V.cell? ⟨w.heap.size, 1, none⟩ = some (.int .i64 m.c) ∧ V.cell? ⟨w.heap.size, 2, none⟩ = some (.int .i64 m.e) ∧ V.cell? ⟨w.heap.size, 3, none⟩ = some (.int .i64 m.q) ∧ V.cell? ⟨w.heap.size, 4, none⟩ = some (.int .i64 m.aud) ∧ V.cell? ⟨w.heap.size, 5, none⟩ = some (.slice ao m.mem.length cap) ∧ V.cell? ⟨w.heap.size, 6, none⟩ = some (.string m.body) ∧ V.cell? ⟨w.heap.size, 7, none⟩ = some (.bool m.yes) ∧ V.cell? ⟨w.heap.size, 8, none⟩ = some (.string m.tag)) := Lib.hid (fun V h => h.cells)
  have HGB : Hid (∀ V V2, GAt V w.heap.size m (.slice ao m.mem.length cap) → Below V.heap.size V V2 → GAt V2 w.heap.size m (.slice ao m.mem.length cap)) := Lib.hid (fun V V2 h b => h.below b)
  generalize e_x : mayX m.c m.e m.q = v_x at *
  generalize e_a : asksP m = v_a at *
  generalize e_g : termP m.tag = v_g at *
  generalize e_v : votesP m = v_v at *
  have HZ := Lib.hid hz
  have HW0 := Lib.hid hW0
  have G0 := Lib.hid g0
  clear hz hW0 g0 _hrow _hms _hml _hb ht e_x e_a e_g e_v
  obtain ⟨k, c, e, q, aud, mem, body, yes, tag⟩ := m
  dsimp only [msC] at *
  generalize mem.length = n at *
  cases v_x with
  | false =>
    have H_x := Lib.hid H_x
    go_enter Tryz.func70, Tryz.ntmps70
    go_wp2_with (first | (go_at_call 23; rw [← HW0.out]; refine (H_x.out _).mono ?_; rintro e w1 ⟨rfl, b1⟩; have G1 := HGB.out _ _ (G0.out) b1; have BB1 := below_step B0.out b1; obtain ⟨x10, x11, x12, x13, x14, x15, x16, x17, x18⟩ := HCE.out _ G1) | fail)
    go_ret
    exact ⟨by rw [HZ.out]; first | rfl | simp, BB1⟩
  | true =>
    have H_x := Lib.hid H_x
    cases v_a with
    | false =>
      have H_a := Lib.hid H_a
      cases yes with
      | false =>
        cases v_v with
        | false =>
          have H_v := Lib.hid H_v
          go_enter Tryz.func70, Tryz.ntmps70
          go_wp2_with (first | (go_at_call 23; rw [← HW0.out]; refine (H_x.out _).mono ?_; rintro e w1 ⟨rfl, b1⟩; have G1 := HGB.out _ _ (G0.out) b1; have BB1 := below_step B0.out b1; obtain ⟨x10, x11, x12, x13, x14, x15, x16, x17, x18⟩ := HCE.out _ G1) | (go_at_call 106; refine (H_a.out _).mono ?_; rintro e w2 ⟨rfl, b2⟩; have G2 := HGB.out _ _ (G1) b2; have BB2 := below_step BB1 b2; obtain ⟨x20, x21, x22, x23, x24, x25, x26, x27, x28⟩ := HCE.out _ G2) | (go_at_call 105; refine (H_v.out _).mono ?_; rintro e w3 ⟨rfl, b3⟩; have G3 := HGB.out _ _ (G2) b3; have BB3 := below_step BB2 b3; obtain ⟨x30, x31, x32, x33, x34, x35, x36, x37, x38⟩ := HCE.out _ G3) | fail)
          go_ret
          exact ⟨by rw [HZ.out]; first | rfl | simp, BB3⟩
        | true =>
          have H_v := Lib.hid H_v
          go_enter Tryz.func70, Tryz.ntmps70
          go_wp2_with (first | (go_at_call 23; rw [← HW0.out]; refine (H_x.out _).mono ?_; rintro e w1 ⟨rfl, b1⟩; have G1 := HGB.out _ _ (G0.out) b1; have BB1 := below_step B0.out b1; obtain ⟨x10, x11, x12, x13, x14, x15, x16, x17, x18⟩ := HCE.out _ G1) | (go_at_call 106; refine (H_a.out _).mono ?_; rintro e w2 ⟨rfl, b2⟩; have G2 := HGB.out _ _ (G1) b2; have BB2 := below_step BB1 b2; obtain ⟨x20, x21, x22, x23, x24, x25, x26, x27, x28⟩ := HCE.out _ G2) | (go_at_call 105; refine (H_v.out _).mono ?_; rintro e w3 ⟨rfl, b3⟩; have G3 := HGB.out _ _ (G2) b3; have BB3 := below_step BB2 b3; obtain ⟨x30, x31, x32, x33, x34, x35, x36, x37, x38⟩ := HCE.out _ G3) | fail)
          go_ret
          exact ⟨by rw [HZ.out]; first | rfl | simp, BB3⟩
      | true =>
        cases v_g with
        | false =>
          have H_g := Lib.hid H_g
          cases v_v with
          | false =>
            have H_v := Lib.hid H_v
            go_enter Tryz.func70, Tryz.ntmps70
            go_wp2_with (first | (go_at_call 23; rw [← HW0.out]; refine (H_x.out _).mono ?_; rintro e w1 ⟨rfl, b1⟩; have G1 := HGB.out _ _ (G0.out) b1; have BB1 := below_step B0.out b1; obtain ⟨x10, x11, x12, x13, x14, x15, x16, x17, x18⟩ := HCE.out _ G1) | (go_at_call 106; refine (H_a.out _).mono ?_; rintro e w2 ⟨rfl, b2⟩; have G2 := HGB.out _ _ (G1) b2; have BB2 := below_step BB1 b2; obtain ⟨x20, x21, x22, x23, x24, x25, x26, x27, x28⟩ := HCE.out _ G2) | (go_at_call 59; refine (H_g.out _).mono ?_; rintro e w3 ⟨rfl, b3⟩; have G3 := HGB.out _ _ (G2) b3; have BB3 := below_step BB2 b3; obtain ⟨x30, x31, x32, x33, x34, x35, x36, x37, x38⟩ := HCE.out _ G3) | (go_at_call 105; refine (H_v.out _).mono ?_; rintro e w4 ⟨rfl, b4⟩; have G4 := HGB.out _ _ (G3) b4; have BB4 := below_step BB3 b4; obtain ⟨x40, x41, x42, x43, x44, x45, x46, x47, x48⟩ := HCE.out _ G4) | fail)
            go_ret
            exact ⟨by rw [HZ.out]; first | rfl | simp, BB4⟩
          | true =>
            have H_v := Lib.hid H_v
            go_enter Tryz.func70, Tryz.ntmps70
            go_wp2_with (first | (go_at_call 23; rw [← HW0.out]; refine (H_x.out _).mono ?_; rintro e w1 ⟨rfl, b1⟩; have G1 := HGB.out _ _ (G0.out) b1; have BB1 := below_step B0.out b1; obtain ⟨x10, x11, x12, x13, x14, x15, x16, x17, x18⟩ := HCE.out _ G1) | (go_at_call 106; refine (H_a.out _).mono ?_; rintro e w2 ⟨rfl, b2⟩; have G2 := HGB.out _ _ (G1) b2; have BB2 := below_step BB1 b2; obtain ⟨x20, x21, x22, x23, x24, x25, x26, x27, x28⟩ := HCE.out _ G2) | (go_at_call 59; refine (H_g.out _).mono ?_; rintro e w3 ⟨rfl, b3⟩; have G3 := HGB.out _ _ (G2) b3; have BB3 := below_step BB2 b3; obtain ⟨x30, x31, x32, x33, x34, x35, x36, x37, x38⟩ := HCE.out _ G3) | (go_at_call 105; refine (H_v.out _).mono ?_; rintro e w4 ⟨rfl, b4⟩; have G4 := HGB.out _ _ (G3) b4; have BB4 := below_step BB3 b4; obtain ⟨x40, x41, x42, x43, x44, x45, x46, x47, x48⟩ := HCE.out _ G4) | fail)
            go_ret
            exact ⟨by rw [HZ.out]; first | rfl | simp, BB4⟩
        | true =>
          have H_g := Lib.hid H_g
          go_enter Tryz.func70, Tryz.ntmps70
          go_wp2_with (first | (go_at_call 23; rw [← HW0.out]; refine (H_x.out _).mono ?_; rintro e w1 ⟨rfl, b1⟩; have G1 := HGB.out _ _ (G0.out) b1; have BB1 := below_step B0.out b1; obtain ⟨x10, x11, x12, x13, x14, x15, x16, x17, x18⟩ := HCE.out _ G1) | (go_at_call 106; refine (H_a.out _).mono ?_; rintro e w2 ⟨rfl, b2⟩; have G2 := HGB.out _ _ (G1) b2; have BB2 := below_step BB1 b2; obtain ⟨x20, x21, x22, x23, x24, x25, x26, x27, x28⟩ := HCE.out _ G2) | (go_at_call 59; refine (H_g.out _).mono ?_; rintro e w3 ⟨rfl, b3⟩; have G3 := HGB.out _ _ (G2) b3; have BB3 := below_step BB2 b3; obtain ⟨x30, x31, x32, x33, x34, x35, x36, x37, x38⟩ := HCE.out _ G3) | fail)
          go_ret
          exact ⟨by rw [HZ.out]; first | rfl | simp, BB3⟩
    | true =>
      have H_a := Lib.hid H_a
      go_enter Tryz.func70, Tryz.ntmps70
      go_wp2_with (first | (go_at_call 23; rw [← HW0.out]; refine (H_x.out _).mono ?_; rintro e w1 ⟨rfl, b1⟩; have G1 := HGB.out _ _ (G0.out) b1; have BB1 := below_step B0.out b1; obtain ⟨x10, x11, x12, x13, x14, x15, x16, x17, x18⟩ := HCE.out _ G1) | (go_at_call 106; refine (H_a.out _).mono ?_; rintro e w2 ⟨rfl, b2⟩; have G2 := HGB.out _ _ (G1) b2; have BB2 := below_step BB1 b2; obtain ⟨x20, x21, x22, x23, x24, x25, x26, x27, x28⟩ := HCE.out _ G2) | fail)
      go_ret
      exact ⟨by rw [HZ.out]; first | rfl | simp, BB2⟩
set_option maxHeartbeats 4000000 in
set_option maxRecDepth 100000 in
theorem maydec_any (m : Ms) (ao : Option Addr) (cap : Nat) (_hb : m.body.size ≤ 281474976710656) (_ht : m.tag.size ≤ 281474976710656) (_hms : ∀ x ∈ m.mem, x.2.size ≤ 281474976710656) (_hml : m.mem.length ≤ 9223372036854775807) (w : World) (_hrow : MemRow w ao m.mem) :
    Calls Tryz.prog 73 #[.agg (msC m (.slice ao m.mem.length cap))] w fun x w' => x = .returned (.bool (mayX m.c m.e m.q && !asksP m && decide (m.tag.size = 0))) ∧ Below w.heap.size w w' := by
  obtain ⟨z, hz⟩ : ∃ z, z = (mayX m.c m.e m.q && !asksP m && decide (m.tag.size = 0)) := ⟨_, rfl⟩
  rw [← hz]
  have H_x := fun V => maytxn_any m.c m.e m.q V
  have H_a := fun V => asks_any m ao cap V
  obtain ⟨W0, hW0⟩ : ∃ V, V = w.alloc (.cells (msC m (.slice ao m.mem.length cap)) 26) := ⟨_, rfl⟩
  have g0 : GAt W0 w.heap.size m (.slice ao m.mem.length cap) := by rw [hW0]; exact gat_new _ _ _
  have B0 : Hid (Below w.heap.size w W0) := Lib.hid (by rw [hW0]; exact (Below.refl _ _).alloc (Nat.le_refl _) _)
  have HCE : Hid (∀ V, GAt V w.heap.size m (.slice ao m.mem.length cap) → V.cell? ⟨w.heap.size, 0, none⟩ = some (.int .u8 m.kind) ∧ V.cell? ⟨w.heap.size, 1, none⟩ = some (.int .i64 m.c) ∧ V.cell? ⟨w.heap.size, 2, none⟩ = some (.int .i64 m.e) ∧ V.cell? ⟨w.heap.size, 3, none⟩ = some (.int .i64 m.q) ∧ V.cell? ⟨w.heap.size, 4, none⟩ = some (.int .i64 m.aud) ∧ V.cell? ⟨w.heap.size, 5, none⟩ = some (.slice ao m.mem.length cap) ∧ V.cell? ⟨w.heap.size, 6, none⟩ = some (.string m.body) ∧ V.cell? ⟨w.heap.size, 7, none⟩ = some (.bool m.yes) ∧ V.cell? ⟨w.heap.size, 8, none⟩ = some (.string m.tag)) := Lib.hid (fun V h => h.cells)
  have HGB : Hid (∀ V V2, GAt V w.heap.size m (.slice ao m.mem.length cap) → Below V.heap.size V V2 → GAt V2 w.heap.size m (.slice ao m.mem.length cap)) := Lib.hid (fun V V2 h b => h.below b)
  generalize e_x : mayX m.c m.e m.q = v_x at *
  generalize e_a : asksP m = v_a at *
  have HZ := Lib.hid hz
  have HW0 := Lib.hid hW0
  have G0 := Lib.hid g0
  clear hz hW0 g0 _hrow _hms _hml _hb _ht e_x e_a
  obtain ⟨k, c, e, q, aud, mem, body, yes, tag⟩ := m
  dsimp only [msC] at *
  generalize mem.length = n at *
  cases v_x with
  | false =>
    have H_x := Lib.hid H_x
    go_enter Tryz.func73, Tryz.ntmps73
    go_wp2_with (first | (go_at_call 23; rw [← HW0.out]; refine (H_x.out _).mono ?_; rintro e w1 ⟨rfl, b1⟩; have G1 := HGB.out _ _ (G0.out) b1; have BB1 := below_step B0.out b1; obtain ⟨x10, x11, x12, x13, x14, x15, x16, x17, x18⟩ := HCE.out _ G1) | fail)
    go_ret
    exact ⟨by rw [HZ.out]; first | rfl | simp, BB1⟩
  | true =>
    have H_x := Lib.hid H_x
    cases v_a with
    | false =>
      have H_a := Lib.hid H_a
      rcases text_cases tag with rfl | ⟨hb, hb2⟩
      · go_enter Tryz.func73, Tryz.ntmps73
        go_wp2_with (first | (go_at_call 23; rw [← HW0.out]; refine (H_x.out _).mono ?_; rintro e w1 ⟨rfl, b1⟩; have G1 := HGB.out _ _ (G0.out) b1; have BB1 := below_step B0.out b1; obtain ⟨x10, x11, x12, x13, x14, x15, x16, x17, x18⟩ := HCE.out _ G1) | (go_at_call 106; refine (H_a.out _).mono ?_; rintro e w2 ⟨rfl, b2⟩; have G2 := HGB.out _ _ (G1) b2; have BB2 := below_step BB1 b2; obtain ⟨x20, x21, x22, x23, x24, x25, x26, x27, x28⟩ := HCE.out _ G2) | fail)
        go_ret
        exact ⟨by rw [HZ.out]; first | rfl | simp, BB2⟩
      · go_enter Tryz.func73, Tryz.ntmps73
        go_wp2_with (first | (go_at_call 23; rw [← HW0.out]; refine (H_x.out _).mono ?_; rintro e w1 ⟨rfl, b1⟩; have G1 := HGB.out _ _ (G0.out) b1; have BB1 := below_step B0.out b1; obtain ⟨x10, x11, x12, x13, x14, x15, x16, x17, x18⟩ := HCE.out _ G1) | (go_at_call 106; refine (H_a.out _).mono ?_; rintro e w2 ⟨rfl, b2⟩; have G2 := HGB.out _ _ (G1) b2; have BB2 := below_step BB1 b2; obtain ⟨x20, x21, x22, x23, x24, x25, x26, x27, x28⟩ := HCE.out _ G2) | fail)
        go_ret
        exact ⟨by rw [HZ.out]; first | rfl | simp [hb2], BB2⟩
    | true =>
      have H_a := Lib.hid H_a
      go_enter Tryz.func73, Tryz.ntmps73
      go_wp2_with (first | (go_at_call 23; rw [← HW0.out]; refine (H_x.out _).mono ?_; rintro e w1 ⟨rfl, b1⟩; have G1 := HGB.out _ _ (G0.out) b1; have BB1 := below_step B0.out b1; obtain ⟨x10, x11, x12, x13, x14, x15, x16, x17, x18⟩ := HCE.out _ G1) | (go_at_call 106; refine (H_a.out _).mono ?_; rintro e w2 ⟨rfl, b2⟩; have G2 := HGB.out _ _ (G1) b2; have BB2 := below_step BB1 b2; obtain ⟨x20, x21, x22, x23, x24, x25, x26, x27, x28⟩ := HCE.out _ G2) | fail)
      go_ret
      exact ⟨by rw [HZ.out]; first | rfl | simp, BB2⟩
set_option maxHeartbeats 4000000 in
set_option maxRecDepth 100000 in
theorem mayack_any (m : Ms) (ao : Option Addr) (cap : Nat) (_hb : m.body.size ≤ 281474976710656) (_ht : m.tag.size ≤ 281474976710656) (_hms : ∀ x ∈ m.mem, x.2.size ≤ 281474976710656) (_hml : m.mem.length ≤ 9223372036854775807) (w : World) (_hrow : MemRow w ao m.mem) :
    Calls Tryz.prog 76 #[.agg (msC m (.slice ao m.mem.length cap))] w fun x w' => x = .returned (.bool (mayX m.c m.e m.q && !asksP m && !votesP m)) ∧ Below w.heap.size w w' := by
  obtain ⟨z, hz⟩ : ∃ z, z = (mayX m.c m.e m.q && !asksP m && !votesP m) := ⟨_, rfl⟩
  rw [← hz]
  have H_x := fun V => maytxn_any m.c m.e m.q V
  have H_a := fun V => asks_any m ao cap V
  have H_v := fun V => votes_any m ao cap V
  obtain ⟨W0, hW0⟩ : ∃ V, V = w.alloc (.cells (msC m (.slice ao m.mem.length cap)) 26) := ⟨_, rfl⟩
  have g0 : GAt W0 w.heap.size m (.slice ao m.mem.length cap) := by rw [hW0]; exact gat_new _ _ _
  have B0 : Hid (Below w.heap.size w W0) := Lib.hid (by rw [hW0]; exact (Below.refl _ _).alloc (Nat.le_refl _) _)
  have HCE : Hid (∀ V, GAt V w.heap.size m (.slice ao m.mem.length cap) → V.cell? ⟨w.heap.size, 0, none⟩ = some (.int .u8 m.kind) ∧ V.cell? ⟨w.heap.size, 1, none⟩ = some (.int .i64 m.c) ∧ V.cell? ⟨w.heap.size, 2, none⟩ = some (.int .i64 m.e) ∧ V.cell? ⟨w.heap.size, 3, none⟩ = some (.int .i64 m.q) ∧ V.cell? ⟨w.heap.size, 4, none⟩ = some (.int .i64 m.aud) ∧ V.cell? ⟨w.heap.size, 5, none⟩ = some (.slice ao m.mem.length cap) ∧ V.cell? ⟨w.heap.size, 6, none⟩ = some (.string m.body) ∧ V.cell? ⟨w.heap.size, 7, none⟩ = some (.bool m.yes) ∧ V.cell? ⟨w.heap.size, 8, none⟩ = some (.string m.tag)) := Lib.hid (fun V h => h.cells)
  have HGB : Hid (∀ V V2, GAt V w.heap.size m (.slice ao m.mem.length cap) → Below V.heap.size V V2 → GAt V2 w.heap.size m (.slice ao m.mem.length cap)) := Lib.hid (fun V V2 h b => h.below b)
  generalize e_x : mayX m.c m.e m.q = v_x at *
  generalize e_a : asksP m = v_a at *
  generalize e_v : votesP m = v_v at *
  have HZ := Lib.hid hz
  have HW0 := Lib.hid hW0
  have G0 := Lib.hid g0
  clear hz hW0 g0 _hrow _hms _hml _hb _ht e_x e_a e_v
  obtain ⟨k, c, e, q, aud, mem, body, yes, tag⟩ := m
  dsimp only [msC] at *
  generalize mem.length = n at *
  cases v_x with
  | false =>
    have H_x := Lib.hid H_x
    go_enter Tryz.func76, Tryz.ntmps76
    go_wp2_with (first | (go_at_call 23; rw [← HW0.out]; refine (H_x.out _).mono ?_; rintro e w1 ⟨rfl, b1⟩; have G1 := HGB.out _ _ (G0.out) b1; have BB1 := below_step B0.out b1; obtain ⟨x10, x11, x12, x13, x14, x15, x16, x17, x18⟩ := HCE.out _ G1) | fail)
    go_ret
    exact ⟨by rw [HZ.out]; first | rfl | simp, BB1⟩
  | true =>
    have H_x := Lib.hid H_x
    cases v_a with
    | false =>
      have H_a := Lib.hid H_a
      cases v_v with
      | false =>
        have H_v := Lib.hid H_v
        go_enter Tryz.func76, Tryz.ntmps76
        go_wp2_with (first | (go_at_call 23; rw [← HW0.out]; refine (H_x.out _).mono ?_; rintro e w1 ⟨rfl, b1⟩; have G1 := HGB.out _ _ (G0.out) b1; have BB1 := below_step B0.out b1; obtain ⟨x10, x11, x12, x13, x14, x15, x16, x17, x18⟩ := HCE.out _ G1) | (go_at_call 106; refine (H_a.out _).mono ?_; rintro e w2 ⟨rfl, b2⟩; have G2 := HGB.out _ _ (G1) b2; have BB2 := below_step BB1 b2; obtain ⟨x20, x21, x22, x23, x24, x25, x26, x27, x28⟩ := HCE.out _ G2) | (go_at_call 105; refine (H_v.out _).mono ?_; rintro e w3 ⟨rfl, b3⟩; have G3 := HGB.out _ _ (G2) b3; have BB3 := below_step BB2 b3; obtain ⟨x30, x31, x32, x33, x34, x35, x36, x37, x38⟩ := HCE.out _ G3) | fail)
        go_ret
        exact ⟨by rw [HZ.out]; first | rfl | simp, BB3⟩
      | true =>
        have H_v := Lib.hid H_v
        go_enter Tryz.func76, Tryz.ntmps76
        go_wp2_with (first | (go_at_call 23; rw [← HW0.out]; refine (H_x.out _).mono ?_; rintro e w1 ⟨rfl, b1⟩; have G1 := HGB.out _ _ (G0.out) b1; have BB1 := below_step B0.out b1; obtain ⟨x10, x11, x12, x13, x14, x15, x16, x17, x18⟩ := HCE.out _ G1) | (go_at_call 106; refine (H_a.out _).mono ?_; rintro e w2 ⟨rfl, b2⟩; have G2 := HGB.out _ _ (G1) b2; have BB2 := below_step BB1 b2; obtain ⟨x20, x21, x22, x23, x24, x25, x26, x27, x28⟩ := HCE.out _ G2) | (go_at_call 105; refine (H_v.out _).mono ?_; rintro e w3 ⟨rfl, b3⟩; have G3 := HGB.out _ _ (G2) b3; have BB3 := below_step BB2 b3; obtain ⟨x30, x31, x32, x33, x34, x35, x36, x37, x38⟩ := HCE.out _ G3) | fail)
        go_ret
        exact ⟨by rw [HZ.out]; first | rfl | simp, BB3⟩
    | true =>
      have H_a := Lib.hid H_a
      go_enter Tryz.func76, Tryz.ntmps76
      go_wp2_with (first | (go_at_call 23; rw [← HW0.out]; refine (H_x.out _).mono ?_; rintro e w1 ⟨rfl, b1⟩; have G1 := HGB.out _ _ (G0.out) b1; have BB1 := below_step B0.out b1; obtain ⟨x10, x11, x12, x13, x14, x15, x16, x17, x18⟩ := HCE.out _ G1) | (go_at_call 106; refine (H_a.out _).mono ?_; rintro e w2 ⟨rfl, b2⟩; have G2 := HGB.out _ _ (G1) b2; have BB2 := below_step BB1 b2; obtain ⟨x20, x21, x22, x23, x24, x25, x26, x27, x28⟩ := HCE.out _ G2) | fail)
      go_ret
      exact ⟨by rw [HZ.out]; first | rfl | simp, BB2⟩
set_option maxHeartbeats 4000000 in
set_option maxRecDepth 100000 in
theorem maynone_any (m : Ms) (ao : Option Addr) (cap : Nat) (_hb : m.body.size ≤ 281474976710656) (_ht : m.tag.size ≤ 281474976710656) (_hms : ∀ x ∈ m.mem, x.2.size ≤ 281474976710656) (_hml : m.mem.length ≤ 9223372036854775807) (w : World) (_hrow : MemRow w ao m.mem) :
    Calls Tryz.prog 79 #[.agg (msC m (.slice ao m.mem.length cap))] w fun x w' => x = .returned (.bool (decide (m.c = 0 ∧ m.e = 0 ∧ m.q = 0) && !asksP m && !votesP m)) ∧ Below w.heap.size w w' := by
  obtain ⟨z, hz⟩ : ∃ z, z = (decide (m.c = 0 ∧ m.e = 0 ∧ m.q = 0) && !asksP m && !votesP m) := ⟨_, rfl⟩
  rw [← hz]
  have H_a := fun V => asks_any m ao cap V
  have H_v := fun V => votes_any m ao cap V
  obtain ⟨W0, hW0⟩ : ∃ V, V = w.alloc (.cells (msC m (.slice ao m.mem.length cap)) 26) := ⟨_, rfl⟩
  have g0 : GAt W0 w.heap.size m (.slice ao m.mem.length cap) := by rw [hW0]; exact gat_new _ _ _
  have B0 : Hid (Below w.heap.size w W0) := Lib.hid (by rw [hW0]; exact (Below.refl _ _).alloc (Nat.le_refl _) _)
  have HCE : Hid (∀ V, GAt V w.heap.size m (.slice ao m.mem.length cap) → V.cell? ⟨w.heap.size, 0, none⟩ = some (.int .u8 m.kind) ∧ V.cell? ⟨w.heap.size, 1, none⟩ = some (.int .i64 m.c) ∧ V.cell? ⟨w.heap.size, 2, none⟩ = some (.int .i64 m.e) ∧ V.cell? ⟨w.heap.size, 3, none⟩ = some (.int .i64 m.q) ∧ V.cell? ⟨w.heap.size, 4, none⟩ = some (.int .i64 m.aud) ∧ V.cell? ⟨w.heap.size, 5, none⟩ = some (.slice ao m.mem.length cap) ∧ V.cell? ⟨w.heap.size, 6, none⟩ = some (.string m.body) ∧ V.cell? ⟨w.heap.size, 7, none⟩ = some (.bool m.yes) ∧ V.cell? ⟨w.heap.size, 8, none⟩ = some (.string m.tag)) := Lib.hid (fun V h => h.cells)
  have HGB : Hid (∀ V V2, GAt V w.heap.size m (.slice ao m.mem.length cap) → Below V.heap.size V V2 → GAt V2 w.heap.size m (.slice ao m.mem.length cap)) := Lib.hid (fun V V2 h b => h.below b)
  generalize e_a : asksP m = v_a at *
  generalize e_v : votesP m = v_v at *
  have HZ := Lib.hid hz
  have HW0 := Lib.hid hW0
  have G0 := Lib.hid g0
  clear hz hW0 g0 _hrow _hms _hml _hb _ht e_a e_v
  obtain ⟨k, c, e, q, aud, mem, body, yes, tag⟩ := m
  dsimp only [msC] at *
  generalize mem.length = n at *
  by_cases hc : c = 0
  · subst hc
    by_cases he : e = 0
    · subst he
      by_cases hq : q = 0
      · subst hq
        cases v_a with
        | false =>
          have H_a := Lib.hid H_a
          cases v_v with
          | false =>
            have H_v := Lib.hid H_v
            go_enter Tryz.func79, Tryz.ntmps79
            go_wp2_with (first | (go_at_call 106; rw [← HW0.out]; refine (H_a.out _).mono ?_; rintro e w1 ⟨rfl, b1⟩; have G1 := HGB.out _ _ (G0.out) b1; have BB1 := below_step B0.out b1; obtain ⟨x10, x11, x12, x13, x14, x15, x16, x17, x18⟩ := HCE.out _ G1) | (go_at_call 105; refine (H_v.out _).mono ?_; rintro e w2 ⟨rfl, b2⟩; have G2 := HGB.out _ _ (G1) b2; have BB2 := below_step BB1 b2; obtain ⟨x20, x21, x22, x23, x24, x25, x26, x27, x28⟩ := HCE.out _ G2) | fail)
            go_ret
            exact ⟨by rw [HZ.out]; first | rfl | simp, BB2⟩
          | true =>
            have H_v := Lib.hid H_v
            go_enter Tryz.func79, Tryz.ntmps79
            go_wp2_with (first | (go_at_call 106; rw [← HW0.out]; refine (H_a.out _).mono ?_; rintro e w1 ⟨rfl, b1⟩; have G1 := HGB.out _ _ (G0.out) b1; have BB1 := below_step B0.out b1; obtain ⟨x10, x11, x12, x13, x14, x15, x16, x17, x18⟩ := HCE.out _ G1) | (go_at_call 105; refine (H_v.out _).mono ?_; rintro e w2 ⟨rfl, b2⟩; have G2 := HGB.out _ _ (G1) b2; have BB2 := below_step BB1 b2; obtain ⟨x20, x21, x22, x23, x24, x25, x26, x27, x28⟩ := HCE.out _ G2) | fail)
            go_ret
            exact ⟨by rw [HZ.out]; first | rfl | simp, BB2⟩
        | true =>
          have H_a := Lib.hid H_a
          go_enter Tryz.func79, Tryz.ntmps79
          go_wp2_with (first | (go_at_call 106; rw [← HW0.out]; refine (H_a.out _).mono ?_; rintro e w1 ⟨rfl, b1⟩; have G1 := HGB.out _ _ (G0.out) b1; have BB1 := below_step B0.out b1; obtain ⟨x10, x11, x12, x13, x14, x15, x16, x17, x18⟩ := HCE.out _ G1) | fail)
          go_ret
          exact ⟨by rw [HZ.out]; first | rfl | simp, BB1⟩
      · have hq' : (q == 0) = false := beq_eq_false_iff_ne.2 hq
        go_enter Tryz.func79, Tryz.ntmps79
        go_wp2_with fail
        (try rw [← HW0.out])
        go_ret
        exact ⟨by rw [HZ.out]; first | rfl | simp [hq], B0.out⟩
    · have he' : (e == 0) = false := beq_eq_false_iff_ne.2 he
      go_enter Tryz.func79, Tryz.ntmps79
      go_wp2_with fail
      (try rw [← HW0.out])
      go_ret
      exact ⟨by rw [HZ.out]; first | rfl | simp [he], B0.out⟩
  · have hc' : (c == 0) = false := beq_eq_false_iff_ne.2 hc
    go_enter Tryz.func79, Tryz.ntmps79
    go_wp2_with fail
    (try rw [← HW0.out])
    go_ret
    exact ⟨by rw [HZ.out]; first | rfl | simp [hc], B0.out⟩
end Go.Proofs.YthemopejebioaaaGreat.Pl
