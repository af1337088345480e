/- Which messages may be, and which term any has, or why it has none; what was encoded is decoded: the walk. -/
import Derived.Test.YthemopejebioaaaGreatWireY23
import Derived.Test.YthemopejebioaaaGreatWireY17
import Derived.Test.YthemopejebioaaaGreatWireY14
import Derived.Test.YthemopejebioaaaGreatWireY13
import Derived.Test.YthemopejebioaaaGreatWireY10
namespace Go.Proofs.YthemopejebioaaaGreat.Pl
open Go.RowKit

theorem enc_short12 {m : Ms} : (encP m).1.length ≤ 16384 := by
  unfold encP
  split
  · exact Nat.zero_le _
  · split
    · exact Nat.zero_le _
    · exact rowP_size _

set_option maxHeartbeats 8000000 in
set_option maxRecDepth 100000 in
theorem wiretells_any (m : Ms) (kd : Nat) (hkd : kd ≤ 255) (ao : Option Addr) (cap : Nat) (w : World) (hrow : MemRow w ao m.mem) (hnil : ao = none → cap = 0) (hkm : m.kind ≤ 255) (hlen : m.mem.length ≤ 9223372036854775807) :
    Calls Tryz.prog 3 #[.agg (msC m (.slice ao m.mem.length cap)), .int .u8 kd] w fun x w' => x = .returned (.bool true) ∧ Below w.heap.size w w' := by
  have HA := Lib.hid alive12_any
  have LM := fun V (hV : Below w.heap.size w V) => longm_any m ao cap hlen V (hrow.below hV)
  obtain ⟨W0, hW0⟩ : ∃ V, V = w.alloc (.cells (msC m (.slice ao m.mem.length cap)) 26) := ⟨_, rfl⟩
  have g0 : GAt W0 w.heap.size m (.slice ao m.mem.length cap) := by rw [hW0]; exact gat_new _ _ _
  have b0 : Below w.heap.size w W0 := by rw [hW0]; exact (Below.refl _ _).alloc (Nat.le_refl _) _
  have G0 := Lib.hid g0
  have B0 := Lib.hid b0
  cases hlm : longM m with
  | true =>
    rw [hlm] at LM
    obtain ⟨k, c, e, q, aud, mem, body, yes, tag⟩ := m
    dsimp only [msC] at *
    have LM := Lib.hid LM
    have HW0 := Lib.hid hW0
    obtain ⟨n, hn⟩ : ∃ n, n = mem.length := ⟨_, rfl⟩
    rw [← hn] at LM HW0
    rw [← hn]
    clear hW0 g0 b0 hrow hn hlen hlm
    go_enter Tryz.func3, Tryz.ntmps3
    go_wp2_with fail
    rw [← HW0.out]
    refine (LM.out _ B0.out).mono ?_; rintro e1 V1 ⟨rfl, b1⟩
    have BB := Lib.hid (below_step B0.out b1)
    clear b1
    go_wp2_with fail
    refine (HA.out _).mono ?_; rintro e V ⟨rfl, b2⟩
    go_wp2_with fail
    go_ret
    exact ⟨rfl, below_step BB.out b2⟩
  | false =>
    rw [hlm] at LM
    obtain ⟨p1, p2, p3, p4⟩ := longM_no hlm
    have HOM := fun V (hV : Below w.heap.size w V) => own12_any m ao cap hnil (by omega) V (hrow.below hV)
    have HEM := fun o cc V (hr : MemRow V o m.mem) => enc12_any m hkm o cc (by omega) (by omega) (fun x hx => by have := p2 x hx; omega) (by omega) V hr
    have HER := fun V (hV : Below w.heap.size w V) => rencode12_any m ao cap (by omega) (by omega) (fun x hx => by have := p2 x hx; omega) (by omega) V (hrow.below hV)
    have HCK := fun o cc V (hr : MemRow V o m.mem) => check12_any m hkm o cc (by omega) (by omega) (fun x hx => by have := p2 x hx; omega) (by omega) V hr
    have HMY := fun V (hV : Below w.heap.size w V) => rmay12_any m ao cap (by omega) (by omega) (fun x hx => by have := p2 x hx; omega) (by omega) V (hrow.below hV)
    have HSM := fun o cc V (hr : MemRow V o m.mem) (hV : Below w.heap.size w V) => same_any m m o ao cc cap (by omega) V hr (hrow.below hV)
    rw [eqM_yes rfl] at HSM
    have HWA := Lib.hid (fun V => word12_any kd hkd V)
    have HWB := Lib.hid (fun V => rword_any kd V)
    have HDC := fun V => dec12_any (tb (encP m).1) (by have := @enc_short12 m; unfold tb; rw [size_lit]; omega) V
    have HDE : (encP m).2 = 0 → decP (tb (encP m).1) = some m := fun h => (dec_enc (s := (encP m).1) (Prod.ext rfl h)).2
    rw [show st2 (encP m) = .tuple #[.string (tb (encP m).1), .int .i64 ((encP m).2 : Nat)] from rfl] at HEM HER
    generalize hrs : tb (encP m).1 = rs at *
    generalize (encP m).2 = re at *
    generalize mayP m = my at *
    generalize tb (wordP kd) = wk at *
    obtain ⟨k, c, e, q, aud, mem, body, yes, tag⟩ := m
    dsimp only [msC] at *
    obtain ⟨n, hn⟩ : ∃ n, n = mem.length := ⟨_, rfl⟩
    have HN := Lib.hid hn
    rw [← hn] at LM HOM HEM HER HCK HMY HSM hW0 g0
    rw [← hn]
    have G0 := Lib.hid g0
    have LM := Lib.hid LM
    have HOM := Lib.hid HOM
    have HEM := Lib.hid HEM
    have HER := Lib.hid HER
    have HCK := Lib.hid HCK
    have HMY := Lib.hid HMY
    have HSM := Lib.hid HSM
    have HC : Hid (∀ V, Below W0.heap.size W0 V → V.cell? ⟨w.heap.size, 0, none⟩ = some (.int .u8 k) ∧ V.cell? ⟨w.heap.size, 1, none⟩ = some (.int .i64 c) ∧ V.cell? ⟨w.heap.size, 2, none⟩ = some (.int .i64 e) ∧ V.cell? ⟨w.heap.size, 3, none⟩ = some (.int .i64 q) ∧ V.cell? ⟨w.heap.size, 4, none⟩ = some (.int .i64 aud) ∧ V.cell? ⟨w.heap.size, 5, none⟩ = some (.slice ao n cap) ∧ V.cell? ⟨w.heap.size, 6, none⟩ = some (.string body) ∧ V.cell? ⟨w.heap.size, 7, none⟩ = some (.bool yes) ∧ V.cell? ⟨w.heap.size, 8, none⟩ = some (.string tag)) := Lib.hid (fun V hV => (G0.out.below hV).cells)
    have HROW := Lib.hid (fun V (hV : Below w.heap.size w V) => hrow.below hV)
    have HW0 := Lib.hid hW0
    clear hW0 g0 b0 hrow hn hlm p1 p2 p3 p4 hlen hnil hkm hrs
    go_enter Tryz.func3, Tryz.ntmps3
    go_wp2_with fail
    rw [← HW0.out]
    refine (LM.out _ B0.out).mono ?_; rintro e1 V1 ⟨rfl, b1⟩
    have BZ := Lib.hid b1
    have BB := Lib.hid (below_step B0.out b1)
    obtain ⟨z0, z1, z2, z3, z4, z5, z6, z7, z8⟩ := HC.out _ BZ.out
    clear b1 HW0
    go_wp2_with fail
    refine (HOM.out _ BB.out).mono ?_; rintro e2 V2 ⟨⟨o2, c2, rfl, hO⟩, b2⟩
    have hr2 : MemRow V2 o2 mem := by obtain ⟨mo, mc, me, hr, -, -⟩ := ownM_row hO; cases me; exact hr
    obtain ⟨W2, hW2⟩ : ∃ V, V = V2.alloc (.cells #[.int .u8 k, .int .i64 c, .int .i64 e, .int .i64 q, .int .i64 aud, .slice o2 n c2, .string body, .bool yes, .string tag] 26) := ⟨_, rfl⟩
    have ba : Below V2.heap.size V2 W2 := by rw [hW2]; exact (Below.refl _ _).alloc (Nat.le_refl _) _
    have g2 : GAt W2 V2.heap.size ⟨k, c, e, q, aud, mem, body, yes, tag⟩ (.slice o2 n c2) := by rw [hW2]; exact gat_new V2 ⟨k, c, e, q, aud, mem, body, yes, tag⟩ (.slice o2 n c2)
    have HX : Hid (∀ V, Below W2.heap.size W2 V → V.cell? ⟨V2.heap.size, 0, none⟩ = some (.int .u8 k) ∧ V.cell? ⟨V2.heap.size, 1, none⟩ = some (.int .i64 c) ∧ V.cell? ⟨V2.heap.size, 2, none⟩ = some (.int .i64 e) ∧ V.cell? ⟨V2.heap.size, 3, none⟩ = some (.int .i64 q) ∧ V.cell? ⟨V2.heap.size, 4, none⟩ = some (.int .i64 aud) ∧ V.cell? ⟨V2.heap.size, 5, none⟩ = some (.slice o2 n c2) ∧ V.cell? ⟨V2.heap.size, 6, none⟩ = some (.string body) ∧ V.cell? ⟨V2.heap.size, 7, none⟩ = some (.bool yes) ∧ V.cell? ⟨V2.heap.size, 8, none⟩ = some (.string tag)) := Lib.hid (fun V hV => (g2.below hV).cells)
    have HR2 := Lib.hid (fun V (hV : Below W2.heap.size W2 V) => (hr2.below ba).below hV)
    have BZ := Lib.hid (below_step (below_step BZ.out b2) ba)
    have BB := Lib.hid (below_step (below_step BB.out b2) ba)
    have BX := Lib.hid (Below.refl W2.heap.size W2)
    have HW2 := Lib.hid hW2
    clear hO hr2 b2 hW2 ba g2 z0 z1 z2 z3 z4 z5 z6 z7 z8
    go_wp2_with fail
    rw [← HW2.out]
    refine (HEM.out _ _ _ (HR2.out _ BX.out)).mono ?_; rintro e3 V3 ⟨rfl, b3⟩
    have BZ := Lib.hid (below_step BZ.out b3)
    have BB := Lib.hid (below_step BB.out b3)
    have BX := Lib.hid (below_step BX.out b3)
    obtain ⟨z0, z1, z2, z3, z4, z5, z6, z7, z8⟩ := HC.out _ BZ.out
    clear b3 HW2
    go_wp2_with fail
    refine (HER.out _ BB.out).mono ?_; rintro e4 V4 ⟨rfl, b4⟩
    have BZ := Lib.hid (below_step BZ.out b4)
    have BB := Lib.hid (below_step BB.out b4)
    have BX := Lib.hid (below_step BX.out b4)
    clear b4 z0 z1 z2 z3 z4 z5 z6 z7 z8
    obtain ⟨z0, z1, z2, z3, z4, z5, z6, z7, z8⟩ := HX.out _ BX.out
    go_wp2_with fail
    have HCK5 := Lib.hid (HCK.out _ c2 _ (HR2.out _ BX.out))
    refine HCK5.out.mono ?_; rintro e5 V5 ⟨rfl, b5⟩
    have BZ := Lib.hid (below_step BZ.out b5)
    have BB := Lib.hid (below_step BB.out b5)
    have BX := Lib.hid (below_step BX.out b5)
    clear b5 z0 z1 z2 z3 z4 z5 z6 z7 z8 HCK5
    obtain ⟨y0, y1, y2, y3, y4, y5, y6, y7, y8⟩ := HC.out _ BZ.out
    have hs1 : (rs.toList != rs.toList) = false := by simp
    have hs2 : ((re : Int) != (re : Int)) = false := by simp
    cases my with
    | true =>
      dsimp only [if_true, Bool.false_eq_true, if_false]
      go_wp2_with fail
      refine (HMY.out _ BB.out).mono ?_; rintro e6 V6 ⟨rfl, b6⟩
      have BZ := Lib.hid (below_step BZ.out b6)
      have BB := Lib.hid (below_step BB.out b6)
      have BX := Lib.hid (below_step BX.out b6)
      clear b6 y0 y1 y2 y3 y4 y5 y6 y7 y8
      obtain ⟨z0, z1, z2, z3, z4, z5, z6, z7, z8⟩ := HX.out _ BX.out
      obtain ⟨y0, y1, y2, y3, y4, y5, y6, y7, y8⟩ := HC.out _ BZ.out
      go_wp2_with fail
      refine (HSM.out _ c2 _ (HR2.out _ BX.out) BB.out).mono ?_; rintro e7 V7 ⟨rfl, b7⟩
      have BZ := Lib.hid (below_step BZ.out b7)
      have BB := Lib.hid (below_step BB.out b7)
      have BX := Lib.hid (below_step BX.out b7)
      clear b7 y0 y1 y2 y3 y4 y5 y6 y7 y8 z0 z1 z2 z3 z4 z5 z6 z7 z8
      go_wp2_with fail
      refine (HWA.out _).mono ?_; rintro e8 V8 ⟨rfl, b8⟩
      have BZ := Lib.hid (below_step BZ.out b8)
      have BB := Lib.hid (below_step BB.out b8)
      clear b8
      go_wp2_with fail
      refine (HWB.out _).mono ?_; rintro e9 V9 ⟨rfl, hw9⟩; rw [hw9]; clear hw9 V9
      have hs3 : (wk.toList != wk.toList) = false := by simp
      by_cases hre : re = 0
      · subst hre
        have hz := HDE rfl
        rw [hz] at HDC
        have HDC := Lib.hid HDC
        clear HDE hz
        go_wp2_with fail
        refine (HDC.out _).mono ?_; rintro e10 VA ⟨⟨o3, c3, rfl, hO⟩, b10⟩
        have BZ := Lib.hid (below_step BZ.out b10)
        have BB := Lib.hid (below_step BB.out b10)
        have hr3 : MemRow VA o3 mem := by obtain ⟨mo, mc, me, hr, -, -⟩ := ownM_row hO; cases me; exact hr
        dsimp only [msGet, Option.getD_some, msC]
        obtain ⟨WA, hWA⟩ : ∃ V, V = VA.alloc (.cells #[.int .u8 k, .int .i64 c, .int .i64 e, .int .i64 q, .int .i64 aud, .slice o3 n c3, .string body, .bool yes, .string tag] 26) := ⟨_, rfl⟩
        have ba : Below VA.heap.size VA WA := by rw [hWA]; exact (Below.refl _ _).alloc (Nat.le_refl _) _
        have BZ := Lib.hid (below_step BZ.out ba)
        have BB := Lib.hid (below_step BB.out ba)
        have R3 := Lib.hid (hr3.below ba)
        obtain ⟨y0, y1, y2, y3, y4, y5, y6, y7, y8⟩ := HC.out _ BZ.out
        rw [hWA] at y0 y1 y2 y3 y4 y5 y6 y7 y8
        have HWA2 := Lib.hid hWA
        simp only [← HN.out]
        clear hO b10 hr3 hWA ba HDC
        go_wp2_with fail
        rw [← HWA2.out]
        clear y0 y1 y2 y3 y4 y5 y6 y7 y8
        refine (HSM.out _ c3 _ R3.out BB.out).mono ?_; rintro e11 VB ⟨rfl, b11⟩
        have BB := Lib.hid (below_step BB.out b11)
        clear b11
        go_wp2_with fail
        refine (HA.out _).mono ?_; rintro e12 VC ⟨rfl, b12⟩
        go_wp2_with fail
        go_ret
        exact ⟨rfl, below_step BB.out b12⟩
      · have hre2 : ((re : Int) != 0) = true := by rw [bne_iff_ne]; omega
        have hre3 : ¬ (re : Int) = 0 := by omega
        clear HDE HDC
        go_wp2_with fail
        refine (HA.out _).mono ?_; rintro e12 VC ⟨rfl, b12⟩
        go_wp2_with fail
        go_ret
        exact ⟨rfl, below_step BB.out b12⟩
    | false =>
      dsimp only [if_true, Bool.false_eq_true, if_false]
      go_wp2_with fail
      refine (HMY.out _ BB.out).mono ?_; rintro e6 V6 ⟨rfl, b6⟩
      have BZ := Lib.hid (below_step BZ.out b6)
      have BB := Lib.hid (below_step BB.out b6)
      have BX := Lib.hid (below_step BX.out b6)
      clear b6 y0 y1 y2 y3 y4 y5 y6 y7 y8
      obtain ⟨z0, z1, z2, z3, z4, z5, z6, z7, z8⟩ := HX.out _ BX.out
      obtain ⟨y0, y1, y2, y3, y4, y5, y6, y7, y8⟩ := HC.out _ BZ.out
      go_wp2_with fail
      refine (HSM.out _ c2 _ (HR2.out _ BX.out) BB.out).mono ?_; rintro e7 V7 ⟨rfl, b7⟩
      have BZ := Lib.hid (below_step BZ.out b7)
      have BB := Lib.hid (below_step BB.out b7)
      have BX := Lib.hid (below_step BX.out b7)
      clear b7 y0 y1 y2 y3 y4 y5 y6 y7 y8 z0 z1 z2 z3 z4 z5 z6 z7 z8
      go_wp2_with fail
      refine (HWA.out _).mono ?_; rintro e8 V8 ⟨rfl, b8⟩
      have BZ := Lib.hid (below_step BZ.out b8)
      have BB := Lib.hid (below_step BB.out b8)
      clear b8
      go_wp2_with fail
      refine (HWB.out _).mono ?_; rintro e9 V9 ⟨rfl, hw9⟩; rw [hw9]; clear hw9 V9
      have hs3 : (wk.toList != wk.toList) = false := by simp
      by_cases hre : re = 0
      · subst hre
        have hz := HDE rfl
        rw [hz] at HDC
        have HDC := Lib.hid HDC
        clear HDE hz
        go_wp2_with fail
        refine (HDC.out _).mono ?_; rintro e10 VA ⟨⟨o3, c3, rfl, hO⟩, b10⟩
        have BZ := Lib.hid (below_step BZ.out b10)
        have BB := Lib.hid (below_step BB.out b10)
        have hr3 : MemRow VA o3 mem := by obtain ⟨mo, mc, me, hr, -, -⟩ := ownM_row hO; cases me; exact hr
        dsimp only [msGet, Option.getD_some, msC]
        obtain ⟨WA, hWA⟩ : ∃ V, V = VA.alloc (.cells #[.int .u8 k, .int .i64 c, .int .i64 e, .int .i64 q, .int .i64 aud, .slice o3 n c3, .string body, .bool yes, .string tag] 26) := ⟨_, rfl⟩
        have ba : Below VA.heap.size VA WA := by rw [hWA]; exact (Below.refl _ _).alloc (Nat.le_refl _) _
        have BZ := Lib.hid (below_step BZ.out ba)
        have BB := Lib.hid (below_step BB.out ba)
        have R3 := Lib.hid (hr3.below ba)
        obtain ⟨y0, y1, y2, y3, y4, y5, y6, y7, y8⟩ := HC.out _ BZ.out
        rw [hWA] at y0 y1 y2 y3 y4 y5 y6 y7 y8
        have HWA2 := Lib.hid hWA
        simp only [← HN.out]
        clear hO b10 hr3 hWA ba HDC
        go_wp2_with fail
        rw [← HWA2.out]
        clear y0 y1 y2 y3 y4 y5 y6 y7 y8
        refine (HSM.out _ c3 _ R3.out BB.out).mono ?_; rintro e11 VB ⟨rfl, b11⟩
        have BB := Lib.hid (below_step BB.out b11)
        clear b11
        go_wp2_with fail
        refine (HA.out _).mono ?_; rintro e12 VC ⟨rfl, b12⟩
        go_wp2_with fail
        go_ret
        exact ⟨rfl, below_step BB.out b12⟩
      · have hre2 : ((re : Int) != 0) = true := by rw [bne_iff_ne]; omega
        have hre3 : ¬ (re : Int) = 0 := by omega
        clear HDE HDC
        go_wp2_with fail
        refine (HA.out _).mono ?_; rintro e12 VC ⟨rfl, b12⟩
        go_wp2_with fail
        go_ret
        exact ⟨rfl, below_step BB.out b12⟩
end Go.Proofs.YthemopejebioaaaGreat.Pl
