/- What was decoded is encoded as it was; unlike messages have unlike terms: the walk. -/
import Derived.Test.YthemopejebioaaaWireF16
namespace Go.Proofs.Ythemopejebioaaa.Pl
open Go.RowKit

/-- How two messages came in. -/
structure In2 (w : World) (m n : Ms) (ao bo : Option Addr) (c1 c2 : Nat) : Prop where
  row1 : MemRow w ao m.mem
  row2 : MemRow w bo n.mem
  nil1 : ao = none → c1 = 0
  nil2 : bo = none → c2 = 0
  kind1 : m.kind ≤ 255
  kind2 : n.kind ≤ 255
  len1 : m.mem.length ≤ 9223372036854775807
  len2 : n.mem.length ≤ 9223372036854775807
/-- The cells of the two boxes. -/
def Bx (m n : Ms) (v u : Value) (b : Nat) (W : World) : Prop := GAt W b m v ∧ GAt W (b + 1) n u
theorem Bx.below {m n : Ms} {v u : Value} {b : Nat} {W W' : World} (h : Bx m n v u b W) (hb : Below W.heap.size W W') : Bx m n v u b W' := ⟨h.1.below hb, h.2.below hb⟩
theorem enc_zero_or {m : Ms} : (encP m).2 = 0 ∨ ((encP m).2 ≠ 0) := by
  by_cases h : (encP m).2 = 0
  · exact .inl h
  · exact .inr h
theorem enc_kind {m : Ms} (h : (encP m).2 = 0) : kindP (encP m).1 = 3 ∧ (encP m).1.length ≤ 16384 := by
  obtain ⟨s, hs⟩ : ∃ s, encP m = (s, 0) := ⟨_, Prod.ext rfl h⟩
  rw [hs]
  unfold encP at hs
  split at hs
  · cases hs
  · split at hs
    · cases hs
    · have h2 := row_read (by rw [List.length_cons]; have := fields_len m; omega) hs
      exact ⟨h2.1, check_len h2.2.2⟩
theorem dec_fit {t : ByteArray} {m : Ms} (h : decP t = some m) : m.Fit ∧ m.kind ≤ 255 := by
  unfold decP at h
  split at h
  · rename_i m' k
    split at h
    · obtain rfl := Option.some.inj h
      exact msgG_fit (rowR_again k).1 (partsB_size t)
    · cases h
  · cases h
theorem strings_same {a b : List UInt8} : ((tb a).toList == (tb b).toList) = decide (a = b) := by
  by_cases h : a = b
  · subst h; simp
  · rw [decide_eq_false h]
    exact (str_ne12 (fun e => h (tb_inj e))).1
theorem enc_both {m n : Ms} (h1 : (encP m).2 = 0) (h2 : (encP n).2 = 0) : decide ((encP m).1 = (encP n).1) = eqM m n := by
  by_cases h : m = n
  · subst h; rw [eqM_yes rfl]; simp
  · rw [eqM_no h]
    exact decide_eq_false (fun e => h (enc_same (s := (encP m).1) (Prod.ext rfl h1) (Prod.ext e.symm h2)))
set_option maxHeartbeats 8000000 in
set_option maxRecDepth 100000 in
theorem wireback_any (t : ByteArray) (m n : Ms) (ao bo : Option Addr) (c1 c2 : Nat) (w : World) (ht : t.size ≤ 281474976710656) (h : In2 w m n ao bo c1 c2) :
    Calls Try.prog 3 #[.string t, .agg (msC m (.slice ao m.mem.length c1)), .agg (msC n (.slice bo n.mem.length c2))] w fun x w' => x = .returned (.bool true) ∧ Below w.heap.size w w' := by
  obtain ⟨W0, hW0⟩ : ∃ V, V = (w.alloc (.cells (msC m (.slice ao m.mem.length c1)) 26)).alloc (.cells (msC n (.slice bo n.mem.length c2)) 26) := ⟨_, rfl⟩
  have g1 : GAt W0 w.heap.size m (.slice ao m.mem.length c1) := by rw [hW0]; exact (gat_new _ _ _).below ((Below.refl _ _).alloc (Nat.le_refl _) _)
  have g2 : GAt W0 (w.heap.size + 1) n (.slice bo n.mem.length c2) := by
    rw [hW0]
    have := gat_new (w.alloc (.cells (msC m (.slice ao m.mem.length c1)) 26)) n (.slice bo n.mem.length c2)
    rwa [World.size_alloc] at this
  have b0 : Below w.heap.size w W0 := by rw [hW0]; exact ((Below.refl _ _).alloc (Nat.le_refl _) _).alloc (by simp) _
  have HA := Lib.hid alive12_any
  have LM := Lib.hid (fun V (hV : Below w.heap.size w V) => longm_any m ao c1 h.len1 V (h.row1.below hV))
  have LN := Lib.hid (fun V (hV : Below w.heap.size w V) => longm_any n bo c2 h.len2 V (h.row2.below hV))
  have HC : Hid (∀ V, Below W0.heap.size W0 V → V.cell? ⟨w.heap.size, 0, none⟩ = some (.int .u8 m.kind) ∧ V.cell? ⟨w.heap.size, 1, none⟩ = some (.int .i64 m.c) ∧ V.cell? ⟨w.heap.size, 2, none⟩ = some (.int .i64 m.e) ∧ V.cell? ⟨w.heap.size, 3, none⟩ = some (.int .i64 m.q) ∧ V.cell? ⟨w.heap.size, 4, none⟩ = some (.int .i64 m.aud) ∧ V.cell? ⟨w.heap.size, 5, none⟩ = some (.slice ao m.mem.length c1) ∧ V.cell? ⟨w.heap.size, 6, none⟩ = some (.string m.body) ∧ V.cell? ⟨w.heap.size, 7, none⟩ = some (.bool m.yes) ∧ V.cell? ⟨w.heap.size, 8, none⟩ = some (.string m.tag)) := Lib.hid (fun V hV => (g1.below hV).cells)
  have HC' : Hid (∀ V, Below W0.heap.size W0 V → V.cell? ⟨w.heap.size + 1, 0, none⟩ = some (.int .u8 n.kind) ∧ V.cell? ⟨w.heap.size + 1, 1, none⟩ = some (.int .i64 n.c) ∧ V.cell? ⟨w.heap.size + 1, 2, none⟩ = some (.int .i64 n.e) ∧ V.cell? ⟨w.heap.size + 1, 3, none⟩ = some (.int .i64 n.q) ∧ V.cell? ⟨w.heap.size + 1, 4, none⟩ = some (.int .i64 n.aud) ∧ V.cell? ⟨w.heap.size + 1, 5, none⟩ = some (.slice bo n.mem.length c2) ∧ V.cell? ⟨w.heap.size + 1, 6, none⟩ = some (.string n.body) ∧ V.cell? ⟨w.heap.size + 1, 7, none⟩ = some (.bool n.yes) ∧ V.cell? ⟨w.heap.size + 1, 8, none⟩ = some (.string n.tag)) := Lib.hid (fun V hV => (g2.below hV).cells)
  have B0 := Lib.hid b0
  have HH := Lib.hid h
  obtain ⟨x0, x1, x2, x3, x4, x5, x6, x7, x8⟩ := HC.out W0 (Below.refl _ _)
  rw [hW0] at x0 x1 x2 x3 x4 x5 x6 x7 x8
  have HW0 := Lib.hid hW0
  clear hW0 g1 g2 b0 h
  by_cases hlong : 20000 < t.size ∨ longM m = true ∨ longM n = true
  · have fin : Hid (∀ V, Below w.heap.size w V → Calls Try.prog 5 #[] V fun x w' => x = .returned (.bool true) ∧ Below w.heap.size w w') := Lib.hid (fun V hV => (HA.out V).mono (fun x w' ⟨e, b⟩ => ⟨e, below_step hV b⟩))
    by_cases hts : 20000 < t.size
    · have hts' : (20000 : Int) < (t.size : Int) := by omega
      go_enter Try.func3, Try.ntmps3
      go_wp2_with fail
      rw [← HW0.out]
      refine (fin.out _ B0.out).mono ?_; rintro e V ⟨rfl, b1⟩
      go_wp2_with fail
      go_ret
      exact ⟨rfl, b1⟩
    · have hts' : ¬ (20000 : Int) < (t.size : Int) := by omega
      cases hlm : longM m with
      | true =>
        rw [hlm] at LM
        go_enter Try.func3, Try.ntmps3
        go_wp2_with fail
        rw [← HW0.out]
        refine (LM.out _ B0.out).mono ?_; rintro e V1 ⟨rfl, b1⟩
        have BB := Lib.hid (below_step B0.out b1)
        clear b1
        go_wp2_with fail
        refine (fin.out _ BB.out).mono ?_; rintro e V ⟨rfl, b1⟩
        go_wp2_with fail
        go_ret
        exact ⟨rfl, b1⟩
      | false =>
        have hln : longM n = true := by
          rcases hlong with h | h | h
          · exact absurd h hts
          · rw [hlm] at h; cases h
          · exact h
        rw [hlm] at LM
        rw [hln] at LN
        clear hlm hln hlong
        go_enter Try.func3, Try.ntmps3
        go_wp2_with fail
        rw [← HW0.out]
        refine (LM.out _ B0.out).mono ?_; rintro e V1 ⟨rfl, b1⟩
        have BB := Lib.hid (below_step B0.out b1)
        obtain ⟨y0, y1, y2, y3, y4, y5, y6, y7, y8⟩ := HC'.out _ b1
        clear b1
        go_wp2_with fail
        refine (LN.out _ BB.out).mono ?_; rintro e V2 ⟨rfl, b1⟩
        have BB := Lib.hid (below_step BB.out b1)
        clear b1
        go_wp2_with fail
        refine (fin.out _ BB.out).mono ?_; rintro e V ⟨rfl, b1⟩
        go_wp2_with fail
        go_ret
        exact ⟨rfl, b1⟩
  · have hts : t.size ≤ 20000 := by
      by_cases k : 20000 < t.size
      · exact absurd (.inl k) hlong
      · omega
    have hts' : ¬ (20000 : Int) < (t.size : Int) := by omega
    have hlm : longM m = false := by
      cases k : longM m with
      | true => exact absurd (.inr (.inl k)) hlong
      | false => rfl
    have hln : longM n = false := by
      cases k : longM n with
      | true => exact absurd (.inr (.inr k)) hlong
      | false => rfl
    rw [hlm] at LM
    rw [hln] at LN
    obtain ⟨p1, p2, p3, p4⟩ := longM_no hlm
    obtain ⟨q1, q2, q3, q4⟩ := longM_no hln
    have HD := Lib.hid (fun V => dec12_any t (by omega) V)
    have HOM := Lib.hid (fun V (hV : Below w.heap.size w V) => own12_any m ao c1 HH.out.nil1 (by omega) V (HH.out.row1.below hV))
    have HON := Lib.hid (fun V (hV : Below w.heap.size w V) => own12_any n bo c2 HH.out.nil2 (by omega) V (HH.out.row2.below hV))
    have HEM := Lib.hid (fun o cc V (hr : MemRow V o m.mem) => enc12_any m HH.out.kind1 o cc (by omega) (by omega) (fun x hx => by have := p2 x hx; omega) (by omega) V hr)
    have HEN := Lib.hid (fun o cc V (hr : MemRow V o n.mem) => enc12_any n HH.out.kind2 o cc (by omega) (by omega) (fun x hx => by have := q2 x hx; omega) (by omega) V hr)
    have HSM := Lib.hid (fun V (hV : Below w.heap.size w V) => same_any m n ao bo c1 c2 (by omega) V (HH.out.row1.below hV) (HH.out.row2.below hV))
    clear hlong hlm hln p1 p2 p3 p4 q1 q2 q3 q4
    go_enter Try.func3, Try.ntmps3
    go_wp2_with fail
    rw [← HW0.out]
    refine (LM.out _ B0.out).mono ?_; rintro e V1 ⟨rfl, b1⟩
    have BZ := Lib.hid b1
    have BB := Lib.hid (below_step B0.out b1)
    obtain ⟨y0, y1, y2, y3, y4, y5, y6, y7, y8⟩ := HC'.out _ b1
    clear b1 x0 x1 x2 x3 x4 x5 x6 x7 x8
    go_wp2_with fail
    refine (LN.out _ BB.out).mono ?_; rintro e V2 ⟨rfl, b1⟩
    have BZ := Lib.hid (below_step BZ.out b1)
    have BB := Lib.hid (below_step BB.out b1)
    clear b1 y0 y1 y2 y3 y4 y5 y6 y7 y8
    go_wp2_with fail
    refine (HD.out _).mono ?_; rintro e V3 ⟨⟨xo, xc, rfl, hO⟩, b3⟩
    have BZ := Lib.hid (below_step BZ.out b3)
    have BB := Lib.hid (below_step BB.out b3)
    obtain ⟨mo, mc, me, hrow, -, -⟩ := ownM_row hO
    cases me
    obtain ⟨W4, hW4, n0, k4, b4, s4⟩ := row_box V3 #[.int .u8 0, .int .i64 0, .int .i64 0, .int .i64 0, .int .i64 0, .slice none 0 0, .string ⟨#[]⟩, .bool false, .string ⟨#[]⟩] (msC (msGet (decP t)) (.slice xo (msGet (decP t)).mem.length xc)) 26
    have N0 := Lib.hid n0
    have HW4 := Lib.hid hW4
    have G4 := Lib.hid (show GAt W4 V3.heap.size (msGet (decP t)) (.slice xo (msGet (decP t)).mem.length xc) from k4)
    have R4 := Lib.hid (hrow.below b4)
    have BZ := Lib.hid (below_step BZ.out b4)
    have BB := Lib.hid (below_step BB.out b4)
    clear n0 hW4 k4 hrow hO b3 b4 s4 HD LM LN
    cases hdec : decP t with
    | none =>
      rw [hdec] at G4 R4 HW4
      (try rw [hdec])
      have HSZ := fun V => same_any (zeroM 0) (zeroM 0) xo none xc 0 (by decide) V (.inl rfl) (.inl rfl)
      rw [eqM_yes rfl] at HSZ
      have HSZ := Lib.hid HSZ
      have HXC := Lib.hid (fun V (hV : Below W4.heap.size W4 V) => (G4.out.below hV).cells)
      go_wp2_with (refine wpList_store_row rfl 26 _ _ rfl V3.heap.size (msC (msGet none) (.slice xo (msGet none).mem.length xc)) rfl rfl 26 #[.int .u8 0, .int .i64 0, .int .i64 0, .int .i64 0, .int .i64 0, .slice none 0 0, .string ⟨#[]⟩, .bool false, .string ⟨#[]⟩] N0.out (ms_info _ _ _ _ _ _ _ _ _) rfl (ms_one _ _ _ _) ?_; rw [← HW4.out]; obtain ⟨x0, x1, x2, x3, x4, x5, x6, x7, x8⟩ := G4.out.cells)
      refine (HSZ.out _).mono ?_; rintro e WS ⟨rfl, bS⟩
      have BZ := Lib.hid (below_step BZ.out bS)
      have BB := Lib.hid (below_step BB.out bS)
      clear bS x0 x1 x2 x3 x4 x5 x6 x7 x8 HSZ HXC N0 HW4 G4 R4
      obtain ⟨x0, x1, x2, x3, x4, x5, x6, x7, x8⟩ := HC.out _ BZ.out
      go_wp2_with fail
      refine (HOM.out _ BB.out).mono ?_; rintro e W5 ⟨⟨o5, c5, rfl, hO5⟩, b5⟩
      obtain ⟨mo5, mc5, me5, hrow5, -, -⟩ := ownM_row hO5
      cases me5
      have BZ := Lib.hid (below_step BZ.out b5)
      have BB := Lib.hid (below_step BB.out b5)
      have HE5 := HEM.out _ c5 W5 hrow5
      clear hO5 hrow5 b5
      (try clear x0 x1 x2 x3 x4 x5 x6 x7 x8)
      rw [show st2 (encP m) = .tuple #[.string (tb (encP m).1), .int .i64 ((encP m).2 : Nat)] from rfl] at HE5
      have HE5 := Lib.hid HE5
      go_wp2_with fail
      refine HE5.out.mono ?_; rintro e W6 ⟨rfl, b6⟩
      have BZ := Lib.hid (below_step BZ.out b6)
      have BB := Lib.hid (below_step BB.out b6)
      clear b6 HE5
      obtain ⟨y0, y1, y2, y3, y4, y5, y6, y7, y8⟩ := HC'.out _ BZ.out
      go_wp2_with fail
      refine (HON.out _ BB.out).mono ?_; rintro e W7 ⟨⟨o7, c7, rfl, hO7⟩, b7⟩
      obtain ⟨mo7, mc7, me7, hrow7, -, -⟩ := ownM_row hO7
      cases me7
      have BZ := Lib.hid (below_step BZ.out b7)
      have BB := Lib.hid (below_step BB.out b7)
      have HE7 := HEN.out _ c7 W7 hrow7
      clear hO7 hrow7 b7 y0 y1 y2 y3 y4 y5 y6 y7 y8
      rw [show st2 (encP n) = .tuple #[.string (tb (encP n).1), .int .i64 ((encP n).2 : Nat)] from rfl] at HE7
      have HE7 := Lib.hid HE7
      go_wp2_with fail
      refine HE7.out.mono ?_; rintro e W8 ⟨rfl, b8⟩
      have BZ := Lib.hid (below_step BZ.out b8)
      have BB := Lib.hid (below_step BB.out b8)
      clear b8 HE7
      by_cases fm : (encP m).2 = 0
      · have HK3 := fun V => tkind_any (tb (encP m).1) (by have := (enc_kind fm).2; unfold tb; rw [size_lit]; omega) V
        rw [bl_tb, (enc_kind fm).1] at HK3
        have HK3 := Lib.hid HK3
        by_cases fn : (encP n).2 = 0
        · have hq := (strings_same (a := (encP m).1) (b := (encP n).1)).trans (enc_both fm fn)
          have HS8 := HSM.out _ BB.out
          obtain ⟨x0, x1, x2, x3, x4, x5, x6, x7, x8⟩ := HC.out _ BZ.out
          obtain ⟨y0, y1, y2, y3, y4, y5, y6, y7, y8⟩ := HC'.out _ BZ.out
          rw [fm, fn]
          clear fm fn
          cases hE : eqM m n with
          | false =>
            rw [hE] at hq HS8
            have HS8 := Lib.hid HS8
            clear hE
            generalize tb (encP m).1 = am at *
            generalize tb (encP n).1 = an at *
            go_wp2_with fail
            refine HS8.out.mono ?_; rintro e WS ⟨rfl, bS⟩
            have BB := Lib.hid (below_step BB.out bS)
            clear bS x0 x1 x2 x3 x4 x5 x6 x7 x8 y0 y1 y2 y3 y4 y5 y6 y7 y8
            go_wp2_with fail
            refine (HK3.out _).mono ?_; rintro e W9 ⟨rfl, b9⟩
            have BB := Lib.hid (below_step BB.out b9)
            clear b9
            go_wp2_with fail
            refine (HA.out _).mono ?_; rintro e WA ⟨rfl, bA⟩
            go_wp2_with fail
            go_ret
            exact ⟨rfl, below_step BB.out bA⟩
          | true =>
            rw [hE] at hq HS8
            have HS8 := Lib.hid HS8
            clear hE
            generalize tb (encP m).1 = am at *
            generalize tb (encP n).1 = an at *
            go_wp2_with fail
            refine HS8.out.mono ?_; rintro e WS ⟨rfl, bS⟩
            have BB := Lib.hid (below_step BB.out bS)
            clear bS x0 x1 x2 x3 x4 x5 x6 x7 x8 y0 y1 y2 y3 y4 y5 y6 y7 y8
            go_wp2_with fail
            refine (HK3.out _).mono ?_; rintro e W9 ⟨rfl, b9⟩
            have BB := Lib.hid (below_step BB.out b9)
            clear b9
            go_wp2_with fail
            refine (HA.out _).mono ?_; rintro e WA ⟨rfl, bA⟩
            go_wp2_with fail
            go_ret
            exact ⟨rfl, below_step BB.out bA⟩
        · have fn' : (((encP n).2 : Nat) : Int) ≠ 0 := by omega
          have fn2 : ((((encP n).2 : Nat) : Int) == 0) = false := beq_eq_false_iff_ne.2 fn'
          rw [fm]
          generalize tb (encP m).1 = am at *
          generalize (encP n).2 = zn at *
          clear fm
          go_wp2_with fail
          refine (HK3.out _).mono ?_; rintro e W9 ⟨rfl, b9⟩
          have BB := Lib.hid (below_step BB.out b9)
          clear b9
          go_wp2_with fail
          refine (HA.out _).mono ?_; rintro e WA ⟨rfl, bA⟩
          go_wp2_with fail
          go_ret
          exact ⟨rfl, below_step BB.out bA⟩
      · have fm' : (((encP m).2 : Nat) : Int) ≠ 0 := by omega
        have fm2 : ((((encP m).2 : Nat) : Int) == 0) = false := beq_eq_false_iff_ne.2 fm'
        have fm3 : ((((encP m).2 : Nat) : Int) != 0) = true := by rw [bne_iff_ne]; exact fm'
        generalize (encP m).2 = zm at *
        go_wp2_with fail
        refine (HA.out _).mono ?_; rintro e WA ⟨rfl, bA⟩
        go_wp2_with fail
        go_ret
        exact ⟨rfl, below_step BB.out bA⟩
    | some X =>
      obtain ⟨hmX, heX⟩ := enc_dec hdec
      obtain ⟨hfX, hkX⟩ := dec_fit hdec
      rw [hdec] at G4 R4 HW4
      (try rw [hdec])
      have HEX := fun V hr => enc12_any X hkX xo xc (by have := hfX.1; omega) (by have := hfX.2.1; omega) (fun x hx => by have := hfX.2.2.1 x hx; omega) (by have := hfX.2.2.2; omega) V hr
      have HCX := fun V hr => check12_any X hkX xo xc (by have := hfX.1; omega) (by have := hfX.2.1; omega) (fun x hx => by have := hfX.2.2.1 x hx; omega) (by have := hfX.2.2.2; omega) V hr
      rw [heX, show st2 (bl t, 0) = .tuple #[.string t, .int .i64 0] from rfl] at HEX
      simp only [hmX, if_true] at HCX
      have HEX := Lib.hid HEX
      have HCX := Lib.hid HCX
      have HXC := Lib.hid (fun V (hV : Below W4.heap.size W4 V) => (show GAt W4 V3.heap.size X (.slice xo X.mem.length xc) from G4.out).below hV |>.cells)
      have HXR := Lib.hid (fun V (hV : Below W4.heap.size W4 V) => (show MemRow W4 xo X.mem from R4.out).below hV)
      have HXS : Hid (W4 = (V3.alloc (.cells #[.int .u8 0, .int .i64 0, .int .i64 0, .int .i64 0, .int .i64 0, .slice none 0 0, .string ⟨#[]⟩, .bool false, .string ⟨#[]⟩] 26)).setRow V3.heap.size (msC X (.slice xo X.mem.length xc))) := HW4
      clear hmX heX hfX hkX hdec HW4 G4 R4
      go_wp2_with (refine wpList_store_row rfl 26 _ _ rfl V3.heap.size (msC X (.slice xo X.mem.length xc)) rfl rfl 26 #[.int .u8 0, .int .i64 0, .int .i64 0, .int .i64 0, .int .i64 0, .slice none 0 0, .string ⟨#[]⟩, .bool false, .string ⟨#[]⟩] N0.out (ms_info _ _ _ _ _ _ _ _ _) rfl (ms_one _ _ _ _) ?_; rw [← HXS.out]; obtain ⟨x0, x1, x2, x3, x4, x5, x6, x7, x8⟩ := HXC.out _ (Below.refl _ _))
      refine (HEX.out _ (HXR.out _ (Below.refl _ _))).mono ?_; rintro e W5 ⟨rfl, b5⟩
      have BX := Lib.hid b5
      have BZ := Lib.hid (below_step BZ.out b5)
      have BB := Lib.hid (below_step BB.out b5)
      clear b5 x0 x1 x2 x3 x4 x5 x6 x7 x8 HEX
      obtain ⟨x0, x1, x2, x3, x4, x5, x6, x7, x8⟩ := HXC.out _ BX.out
      go_wp2_with fail
      refine (HCX.out _ (HXR.out _ BX.out)).mono ?_; rintro e W6 ⟨rfl, b6⟩
      have BZ := Lib.hid (below_step BZ.out b6)
      have BB := Lib.hid (below_step BB.out b6)
      clear b6 x0 x1 x2 x3 x4 x5 x6 x7 x8 HCX HXC HXR HXS BX N0
      obtain ⟨x0, x1, x2, x3, x4, x5, x6, x7, x8⟩ := HC.out _ BZ.out
      go_wp2_with fail
      refine (HOM.out _ BB.out).mono ?_; rintro e W5 ⟨⟨o5, c5, rfl, hO5⟩, b5⟩
      obtain ⟨mo5, mc5, me5, hrow5, -, -⟩ := ownM_row hO5
      cases me5
      have BZ := Lib.hid (below_step BZ.out b5)
      have BB := Lib.hid (below_step BB.out b5)
      have HE5 := HEM.out _ c5 W5 hrow5
      clear hO5 hrow5 b5
      (try clear x0 x1 x2 x3 x4 x5 x6 x7 x8)
      rw [show st2 (encP m) = .tuple #[.string (tb (encP m).1), .int .i64 ((encP m).2 : Nat)] from rfl] at HE5
      have HE5 := Lib.hid HE5
      go_wp2_with fail
      refine HE5.out.mono ?_; rintro e W6 ⟨rfl, b6⟩
      have BZ := Lib.hid (below_step BZ.out b6)
      have BB := Lib.hid (below_step BB.out b6)
      clear b6 HE5
      obtain ⟨y0, y1, y2, y3, y4, y5, y6, y7, y8⟩ := HC'.out _ BZ.out
      go_wp2_with fail
      refine (HON.out _ BB.out).mono ?_; rintro e W7 ⟨⟨o7, c7, rfl, hO7⟩, b7⟩
      obtain ⟨mo7, mc7, me7, hrow7, -, -⟩ := ownM_row hO7
      cases me7
      have BZ := Lib.hid (below_step BZ.out b7)
      have BB := Lib.hid (below_step BB.out b7)
      have HE7 := HEN.out _ c7 W7 hrow7
      clear hO7 hrow7 b7 y0 y1 y2 y3 y4 y5 y6 y7 y8
      rw [show st2 (encP n) = .tuple #[.string (tb (encP n).1), .int .i64 ((encP n).2 : Nat)] from rfl] at HE7
      have HE7 := Lib.hid HE7
      go_wp2_with fail
      refine HE7.out.mono ?_; rintro e W8 ⟨rfl, b8⟩
      have BZ := Lib.hid (below_step BZ.out b8)
      have BB := Lib.hid (below_step BB.out b8)
      clear b8 HE7
      by_cases fm : (encP m).2 = 0
      · have HK3 := fun V => tkind_any (tb (encP m).1) (by have := (enc_kind fm).2; unfold tb; rw [size_lit]; omega) V
        rw [bl_tb, (enc_kind fm).1] at HK3
        have HK3 := Lib.hid HK3
        by_cases fn : (encP n).2 = 0
        · have hq := (strings_same (a := (encP m).1) (b := (encP n).1)).trans (enc_both fm fn)
          have HS8 := HSM.out _ BB.out
          obtain ⟨x0, x1, x2, x3, x4, x5, x6, x7, x8⟩ := HC.out _ BZ.out
          obtain ⟨y0, y1, y2, y3, y4, y5, y6, y7, y8⟩ := HC'.out _ BZ.out
          rw [fm, fn]
          clear fm fn
          cases hE : eqM m n with
          | false =>
            rw [hE] at hq HS8
            have HS8 := Lib.hid HS8
            clear hE
            generalize tb (encP m).1 = am at *
            generalize tb (encP n).1 = an at *
            go_wp2_with fail
            refine HS8.out.mono ?_; rintro e WS ⟨rfl, bS⟩
            have BB := Lib.hid (below_step BB.out bS)
            clear bS x0 x1 x2 x3 x4 x5 x6 x7 x8 y0 y1 y2 y3 y4 y5 y6 y7 y8
            go_wp2_with fail
            refine (HK3.out _).mono ?_; rintro e W9 ⟨rfl, b9⟩
            have BB := Lib.hid (below_step BB.out b9)
            clear b9
            go_wp2_with fail
            refine (HA.out _).mono ?_; rintro e WA ⟨rfl, bA⟩
            go_wp2_with fail
            go_ret
            exact ⟨rfl, below_step BB.out bA⟩
          | true =>
            rw [hE] at hq HS8
            have HS8 := Lib.hid HS8
            clear hE
            generalize tb (encP m).1 = am at *
            generalize tb (encP n).1 = an at *
            go_wp2_with fail
            refine HS8.out.mono ?_; rintro e WS ⟨rfl, bS⟩
            have BB := Lib.hid (below_step BB.out bS)
            clear bS x0 x1 x2 x3 x4 x5 x6 x7 x8 y0 y1 y2 y3 y4 y5 y6 y7 y8
            go_wp2_with fail
            refine (HK3.out _).mono ?_; rintro e W9 ⟨rfl, b9⟩
            have BB := Lib.hid (below_step BB.out b9)
            clear b9
            go_wp2_with fail
            refine (HA.out _).mono ?_; rintro e WA ⟨rfl, bA⟩
            go_wp2_with fail
            go_ret
            exact ⟨rfl, below_step BB.out bA⟩
        · have fn' : (((encP n).2 : Nat) : Int) ≠ 0 := by omega
          have fn2 : ((((encP n).2 : Nat) : Int) == 0) = false := beq_eq_false_iff_ne.2 fn'
          rw [fm]
          generalize tb (encP m).1 = am at *
          generalize (encP n).2 = zn at *
          clear fm
          go_wp2_with fail
          refine (HK3.out _).mono ?_; rintro e W9 ⟨rfl, b9⟩
          have BB := Lib.hid (below_step BB.out b9)
          clear b9
          go_wp2_with fail
          refine (HA.out _).mono ?_; rintro e WA ⟨rfl, bA⟩
          go_wp2_with fail
          go_ret
          exact ⟨rfl, below_step BB.out bA⟩
      · have fm' : (((encP m).2 : Nat) : Int) ≠ 0 := by omega
        have fm2 : ((((encP m).2 : Nat) : Int) == 0) = false := beq_eq_false_iff_ne.2 fm'
        have fm3 : ((((encP m).2 : Nat) : Int) != 0) = true := by rw [bne_iff_ne]; exact fm'
        generalize (encP m).2 = zm at *
        go_wp2_with fail
        refine (HA.out _).mono ?_; rintro e WA ⟨rfl, bA⟩
        go_wp2_with fail
        go_ret
        exact ⟨rfl, below_step BB.out bA⟩
end Go.Proofs.Ythemopejebioaaa.Pl
