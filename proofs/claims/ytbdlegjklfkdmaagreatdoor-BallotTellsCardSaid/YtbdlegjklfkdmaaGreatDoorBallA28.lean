/- Which ballots may be, which body any has, and which digest; of which any text is the body: the walk. -/
import Derived.Test.YtbdlegjklfkdmaaGreatDoorBallA27
import Derived.Test.YtbdlegjklfkdmaaGreatDoorBallA24
import Derived.Test.YtbdlegjklfkdmaaGreatDoorBallA25
import Derived.Test.YtbdlegjklfkdmaaGreatDoorBallA20
import Derived.Test.YtbdlegjklfkdmaaGreatDoorBallA21
import Derived.Test.YtbdlegjklfkdmaaGreatDoorBallA15
namespace Go.Proofs.YtbdlegjklfkdmaaGreatDoor.Pl
open Go.RowKit

theorem body_short {b : Bt} : (bodyP b).1.length ≤ 16384 := by
  unfold bodyP
  split
  · exact Nat.zero_le _
  · split
    · exact Nat.zero_le _
    · exact rowP_size _
theorem read_len {t : ByteArray} : (btGet (readBt t)).mem.length ≤ 1000000 := by
  cases h : readBt t with
  | none => exact Nat.zero_le _
  | some b =>
    have := (mayL_iff.1 (mayBt_iff.1 (read_body h).2).2.2.1).2.1
    show b.mem.length ≤ _
    omega
set_option maxHeartbeats 8000000 in
set_option maxRecDepth 100000 in
theorem ballottells_any (b : Bt) (t : ByteArray) (ao : Option Addr) (cap : Nat) (w : World) (hT : KeyTab w) (hrow : MemRow w ao b.mem) (hnil : ao = none → cap = 0) (hlen : b.mem.length ≤ 9223372036854775807) :
    Calls Tryz.prog 3 #[.agg (btC b (.slice ao b.mem.length cap)), .string t] w fun x w' => x = .returned (.bool true) ∧ Below w.heap.size w w' := by
  have HA := Lib.hid (fun V (hV : Below w.heap.size w V) => alive13_any V (hT.below hV))
  clear hT
  have LL := fun V (hV : Below w.heap.size w V) => longl_any b.mem ao cap hlen V (hrow.below hV)
  obtain ⟨W0, hW0⟩ : ∃ V, V = w.alloc (.cells (btC b (.slice ao b.mem.length cap)) 26) := ⟨_, rfl⟩
  have g0 : BAt W0 w.heap.size b (.slice ao b.mem.length cap) := by rw [hW0]; exact bat_new _ _ _
  have b0 : Below w.heap.size w W0 := by rw [hW0]; exact (Below.refl _ _).alloc (Nat.le_refl _) _
  have B0 := Lib.hid b0
  by_cases hlong : longL b.mem = true ∨ 20000 < t.size
  · obtain ⟨z, hz⟩ : ∃ z, z = longL b.mem := ⟨_, rfl⟩
    rw [← hz] at LL hlong
    obtain ⟨c, e, q, aud, mem, org⟩ := b
    dsimp only [btC] at *
    generalize mem.length = n at *
    have LL := Lib.hid LL
    have HW0 := Lib.hid hW0
    clear hW0 g0 b0 hrow hz
    cases z with
    | true =>
      go_enter Tryz.func3, Tryz.ntmps3
      go_wp2_with fail
      rw [← HW0.out]
      refine (LL.out _ B0.out).mono ?_; rintro e1 V1 ⟨rfl, hw⟩; rw [hw]; clear hw V1
      go_wp2_with fail
      refine (HA.out _ (by first | exact BB.out | exact B0.out)).mono ?_; rintro e V ⟨rfl, b2⟩
      go_wp2_with fail
      go_ret
      exact ⟨rfl, below_step B0.out b2⟩
    | false =>
      have hts' : (20000 : Int) < (t.size : Int) := by
        rcases hlong with h | h
        · cases h
        · omega
      go_enter Tryz.func3, Tryz.ntmps3
      go_wp2_with fail
      rw [← HW0.out]
      refine (LL.out _ B0.out).mono ?_; rintro e1 V1 ⟨rfl, hw⟩; rw [hw]; clear hw V1
      go_wp2_with fail
      refine (HA.out _ (by first | exact BB.out | exact B0.out)).mono ?_; rintro e V ⟨rfl, b2⟩
      go_wp2_with fail
      go_ret
      exact ⟨rfl, below_step B0.out b2⟩
  · have hll : longL b.mem = false := by
      cases k : longL b.mem with
      | true => exact absurd (.inl k) hlong
      | false => rfl
    have hts' : ¬ (20000 : Int) < (t.size : Int) := fun h => hlong (.inr (by omega))
    rw [hll] at LL
    obtain ⟨p1, p2⟩ := longL_no hll
    have hms : ∀ x ∈ b.mem, x.2.size ≤ 30000 := fun x hx => by have := p2 x hx; omega
    have HPB := fun o cc V (hr : MemRow V o b.mem) => pbody13_any b o cc hms (by omega) V hr
    have HRB := fun V (hV : Below w.heap.size w V) => rbody13_any b ao cap hms (by omega) V (hrow.below hV)
    have HPC := fun o cc V (hr : MemRow V o b.mem) => pcheck13_any b o cc hms (by omega) V hr
    have HPD := fun o cc V (hr : MemRow V o b.mem) => pdigest13_any b o cc hms (by omega) V hr
    have HRD := fun V (hV : Below w.heap.size w V) => rdigest13_any b ao cap (fun x hx => by have := p2 x hx; omega) (by omega) V (hrow.below hV)
    have HRM := fun V (hV : Below w.heap.size w V) => rmay13_any b ao cap (fun x hx => by have := p2 x hx; omega) (by omega) V (hrow.below hV)
    have HSB := fun o cc V (hr : MemRow V o b.mem) (hV : Below w.heap.size w V) => rsame13_any b b o ao cc cap (by omega) V hr (hrow.below hV)
    rw [eqB_yes rfl] at HSB
    have HR1 := fun V => pread13_any t (by omega) V
    have HR2 := fun V => rread13_any t (by omega) V
    unfold RdBt at HR2
    unfold RdOw at HR1
    have hrl := @read_len t
    have HR3 := fun V => pread13_any (tb (bodyP b).1) (by have := @body_short b; unfold tb; rw [size_lit]; omega) V
    unfold RdOw at HR3
    have HRZ : (bodyP b).2 = 0 → readBt (tb (bodyP b).1) = some b := fun h => body_read (s := (bodyP b).1) (Prod.ext rfl h)
    rw [show st2 (bodyP b) = .tuple #[.string (tb (bodyP b).1), .int .i64 ((bodyP b).2 : Nat)] from rfl] at HPB HRB
    generalize hrs : tb (bodyP b).1 = rs at *
    generalize (bodyP b).2 = re at *
    generalize mayBt b = my at *
    generalize digestP b = dg at *
    generalize btGet (readBt t) = M at *
    generalize (readBt t).isSome = ix at *
    have HSM := fun o cc o2 c2 V (h1 : MemRow V o M.mem) (h2 : MemRow V o2 M.mem) => rsame13_any M M o o2 cc c2 hrl V h1 h2
    rw [eqB_yes rfl] at HSM
    obtain ⟨c, e, q, aud, mem, org⟩ := b
    obtain ⟨mc, me, mq, maud, mmem, morg⟩ := M
    dsimp only [btC] at *
    obtain ⟨n, hn⟩ : ∃ n, n = mem.length := ⟨_, rfl⟩
    obtain ⟨mn, hmn⟩ : ∃ n, n = mmem.length := ⟨_, rfl⟩
    have HN := Lib.hid hn
    have HNL : Hid (mem.length ≤ 20) := Lib.hid p1
    have HNIL := Lib.hid hnil
    rw [← hn] at LL HPB HRB HPC HPD HRD HRM HSB hW0 g0
    rw [← hmn] at HR1 HR2 HSM
    rw [← hn]
    have LL := Lib.hid LL
    have HPB := Lib.hid HPB
    have HRB := Lib.hid HRB
    have HPC := Lib.hid HPC
    have HPD := Lib.hid HPD
    have HRD := Lib.hid HRD
    have HRM := Lib.hid HRM
    have HSB := Lib.hid HSB
    have HR1 := Lib.hid HR1
    have HR2 := Lib.hid HR2
    have HSM := Lib.hid HSM
    have HRZ := Lib.hid HRZ
    have HR3 := Lib.hid HR3
    have HROW := Lib.hid (fun V (hV : Below w.heap.size w V) => hrow.below hV)
    obtain ⟨W1, hW1⟩ : ∃ V, V = W0.alloc (.cells #[.int .i64 c, .int .i64 e, .int .i64 q, .int .i64 aud, .slice ao n cap, .int .i64 org] 26) := ⟨_, rfl⟩
    have g1 : BAt W1 W0.heap.size ⟨c, e, q, aud, mem, org⟩ (.slice ao n cap) := by rw [hW1]; exact bat_new W0 ⟨c, e, q, aud, mem, org⟩ (.slice ao n cap)
    have b1 : Below W0.heap.size W0 W1 := by rw [hW1]; exact (Below.refl _ _).alloc (Nat.le_refl _) _
    have s1 : W1.heap.size = W0.heap.size + 1 := by rw [hW1]; simp
    have G0 := Lib.hid g0
    have G1 := Lib.hid g1
    have B1 := Lib.hid b1
    have S1 := Lib.hid s1
    have HW0 := Lib.hid hW0
    have HW1 := Lib.hid hW1
    clear hW0 g0 b0 hrow hn hmn hll p1 p2 hlen hnil hms hrl hrs hlong hW1 g1 b1 s1
    go_enter Tryz.func3, Tryz.ntmps3
    go_wp2_with fail
    rw [← HW0.out]
    refine (LL.out _ B0.out).mono ?_; rintro e1 V1 ⟨rfl, hw⟩; rw [hw]; clear hw V1
    obtain ⟨z0, z1, z2, z3, z4, z5⟩ := G0.out.cells
    obtain ⟨y0, y1, y2, y3, y4, y5⟩ := (G0.out.below B1.out).cells
    dsimp only at z0 z1 z2 z3 z4 z5 y0 y1 y2 y3 y4 y5
    rw [HW1.out] at y0 y1 y2 y3 y4 y5
    go_wp2_with (at_builtin; rw [← HW1.out]; refine wpList_appM (B := W1.heap.size) (v := .slice none 0 0) (l := []) (m := mem) (ao := ao) (cap := cap) rfl _ _ rfl rfl rfl (by rw [← HN.out]; rfl) (ownM_nil _ _) (Nat.le_refl _) (HROW.out _ (below_step B0.out B1.out)) HNIL.out (by have := HNL.out; simp only [List.length_nil]; omega) ?_; intro v3 w3 ho hg; have b3 := below_of_grown12 hg; rw [List.nil_append] at ho; obtain ⟨o3, c3, rfl, hr3, -, -⟩ := ownM_row ho; rw [← HN.out] at ho ⊢; clear y0 y1 y2 y3 y4 y5 z0 z1 z2 z3 z4 z5; have g3 := G1.out.below b3; obtain ⟨y0, y1, y2, y3, y4, y5⟩ := g3.cells; dsimp only at y0 y1 y2 y3 y4 y5; have f4 : w3.frozen? ⟨W0.heap.size, 4, none⟩ = false := (by unfold BAt at g3; simp [World.frozen?, g3]); obtain ⟨W4, hW4⟩ : ∃ V, V = w3.setCell ⟨W0.heap.size, 4, none⟩ (.slice o3 n c3) := ⟨_, rfl⟩; have t4 := turn_cell w3 W0.heap.size 4 (.slice o3 n c3); have g4 : BAt W4 W0.heap.size ⟨c, e, q, aud, mem, org⟩ (.slice o3 n c3) := (by rw [hW4]; exact gset13 g3 4 _); have r4 : Hid (MemRow W4 o3 mem) := Lib.hid (by rw [hW4]; obtain ⟨a1, a2, a3, a4, -, -⟩ := ownM_row (ownM_turn ho t4 (fun k e => by have := S1.out; omega)); cases a3; exact a4); have z4g : BAt W4 w.heap.size ⟨c, e, q, aud, mem, org⟩ (.slice ao n cap) := (by rw [hW4]; exact ((t4.block _ (((G0.out.below B1.out).below b3).lt) (by have := G0.out.lt; omega)).trans ((G0.out.below B1.out).below b3))); have B4 : Hid (Below w.heap.size w W4) := Lib.hid (by rw [hW4]; exact (below_step (below_step B0.out B1.out) b3).trans (turn_to t4 (fun b e => by have := G0.out.lt; omega) ((below_step (below_step B0.out B1.out) b3).size))); have G4 := Lib.hid g4; have Z4 := Lib.hid z4g; obtain ⟨u0, u1, u2, u3, u4, u5⟩ := g4.cells; dsimp only at u0 u1 u2 u3 u4 u5; rw [hW4] at u0 u1 u2 u3 u4 u5; have HW4 := Lib.hid hW4; clear ho hg b3 hr3 g3 t4 g4 z4g hW4)
    rw [← HW4.out]
    clear y0 y1 y2 y3 y4 y5 u0 u1 u2 u3 u4 u5 f4
    have HX : Hid (∀ V, Below W4.heap.size W4 V → V.cell? ⟨W0.heap.size, 0, none⟩ = some (.int .i64 c) ∧ V.cell? ⟨W0.heap.size, 1, none⟩ = some (.int .i64 e) ∧ V.cell? ⟨W0.heap.size, 2, none⟩ = some (.int .i64 q) ∧ V.cell? ⟨W0.heap.size, 3, none⟩ = some (.int .i64 aud) ∧ V.cell? ⟨W0.heap.size, 4, none⟩ = some (.slice o3 n c3) ∧ V.cell? ⟨W0.heap.size, 5, none⟩ = some (.int .i64 org)) := Lib.hid (fun V hV => (G4.out.below hV).cells)
    have HC : Hid (∀ V, Below W4.heap.size W4 V → V.cell? ⟨w.heap.size, 0, none⟩ = some (.int .i64 c) ∧ V.cell? ⟨w.heap.size, 1, none⟩ = some (.int .i64 e) ∧ V.cell? ⟨w.heap.size, 2, none⟩ = some (.int .i64 q) ∧ V.cell? ⟨w.heap.size, 3, none⟩ = some (.int .i64 aud) ∧ V.cell? ⟨w.heap.size, 4, none⟩ = some (.slice ao n cap) ∧ V.cell? ⟨w.heap.size, 5, none⟩ = some (.int .i64 org)) := Lib.hid (fun V hV => (Z4.out.below hV).cells)
    have BZ := Lib.hid (Below.refl W4.heap.size W4)
    have BB := Lib.hid B4.out
    have HR4 := Lib.hid (fun V (hV : Below W4.heap.size W4 V) => r4.out.below hV)
    refine (HPB.out _ _ _ (HR4.out _ BZ.out)).mono ?_; rintro e5 w5 ⟨rfl, b5⟩
    have BZ := Lib.hid (below_step BZ.out b5)
    have BB := Lib.hid (below_step BB.out b5)
    clear b5
    obtain ⟨y0, y1, y2, y3, y4, y5⟩ := HC.out _ BZ.out
    go_wp2_with fail
    clear y0 y1 y2 y3 y4 y5
    refine (HRB.out _ BB.out).mono ?_; rintro e6 w6 ⟨rfl, b6⟩
    have BZ := Lib.hid (below_step BZ.out b6)
    have BB := Lib.hid (below_step BB.out b6)
    clear b6
    obtain ⟨x0, x1, x2, x3, x4, x5⟩ := HX.out _ BZ.out
    go_wp2_with fail
    clear x0 x1 x2 x3 x4 x5
    have hs1 : (rs.toList != rs.toList) = false := by simp
    have hs2 : (dg.toList != dg.toList) = false := by simp
    have hix : (ix != ix) = false := by cases ix <;> rfl
    have HPC6 := HPC.out _ c3 _ (HR4.out _ BZ.out)
    cases my with
    | true =>
      simp only [if_true] at HPC6
      have HPC6 := Lib.hid HPC6
      refine HPC6.out.mono ?_; rintro e7 w7 ⟨rfl, b7⟩
      have BZ := Lib.hid (below_step BZ.out b7)
      have BB := Lib.hid (below_step BB.out b7)
      clear b7
      clear HPC6
      obtain ⟨x0, x1, x2, x3, x4, x5⟩ := HX.out _ BZ.out
      go_wp2_with fail
      clear x0 x1 x2 x3 x4 x5
      have HPD7 := Lib.hid (HPD.out _ c3 _ (HR4.out _ BZ.out))
      refine HPD7.out.mono ?_; rintro e8 w8 ⟨rfl, b8⟩
      have BZ := Lib.hid (below_step BZ.out b8)
      have BB := Lib.hid (below_step BB.out b8)
      clear b8
      clear HPD7
      obtain ⟨y0, y1, y2, y3, y4, y5⟩ := HC.out _ BZ.out
      go_wp2_with fail
      clear y0 y1 y2 y3 y4 y5
      refine (HRD.out _ BB.out).mono ?_; rintro e9 w9 ⟨rfl, b9⟩
      have BZ := Lib.hid (below_step BZ.out b9)
      have BB := Lib.hid (below_step BB.out b9)
      clear b9
      obtain ⟨y0, y1, y2, y3, y4, y5⟩ := HC.out _ BZ.out
      go_wp2_with fail
      clear y0 y1 y2 y3 y4 y5
      refine (HRM.out _ BB.out).mono ?_; rintro ea wa ⟨rfl, ba⟩
      have BZ := Lib.hid (below_step BZ.out ba)
      have BB := Lib.hid (below_step BB.out ba)
      clear ba
      obtain ⟨x0, x1, x2, x3, x4, x5⟩ := HX.out _ BZ.out
      obtain ⟨y0, y1, y2, y3, y4, y5⟩ := HC.out _ BZ.out
      go_wp2_with fail
      clear x0 x1 x2 x3 x4 x5
      clear y0 y1 y2 y3 y4 y5
      have HS7 := Lib.hid (HSB.out _ c3 _ (HR4.out _ BZ.out) BB.out)
      refine HS7.out.mono ?_; rintro eb wb ⟨rfl, bb⟩
      have BZ := Lib.hid (below_step BZ.out bb)
      have BB := Lib.hid (below_step BB.out bb)
      clear bb
      clear HS7
      go_wp2_with fail
      refine (HR1.out _).mono ?_; rintro ec wc ⟨⟨o5, c5, rfl, ho5⟩, bc⟩
      have hr5 : MemRow wc o5 mmem := by obtain ⟨a1, a2, a3, a4, -, -⟩ := ownM_row ho5; cases a3; exact a4
      clear ho5
      obtain ⟨Wc, hWc⟩ : ∃ V, V = wc.alloc (.cells #[.int .i64 mc, .int .i64 me, .int .i64 mq, .int .i64 maud, .slice o5 mn c5, .int .i64 morg] 26) := ⟨_, rfl⟩
      have bx : Below wc.heap.size wc Wc := by rw [hWc]; exact (Below.refl _ _).alloc (Nat.le_refl _) _
      have GP := Lib.hid (show BAt Wc wc.heap.size ⟨mc, me, mq, maud, mmem, morg⟩ (.slice o5 mn c5) from hWc ▸ bat_new wc ⟨mc, me, mq, maud, mmem, morg⟩ (.slice o5 mn c5))
      have HLC : Hid (W4.heap.size ≤ wc.heap.size) := Lib.hid (by have := (below_step BZ.out bc).size; omega)
      have R5 := Lib.hid (hr5.below bx)
      have BZ := Lib.hid (below_step (below_step BZ.out bc) bx)
      have BB := Lib.hid (below_step (below_step BB.out bc) bx)
      have HWc := Lib.hid hWc
      clear bc bx hWc hr5
      go_wp2_with fail
      rw [← HWc.out]
      refine (HR2.out _).mono ?_; rintro ed wd ⟨⟨o6, c6, rfl, hr6⟩, bd⟩
      obtain ⟨Wd, hWd⟩ : ∃ V, V = wd.alloc (.cells #[.int .i64 mc, .int .i64 me, .int .i64 mq, .int .i64 maud, .slice o6 mn c6, .int .i64 morg] 26) := ⟨_, rfl⟩
      have bx : Below wd.heap.size wd Wd := by rw [hWd]; exact (Below.refl _ _).alloc (Nat.le_refl _) _
      have GP := Lib.hid ((GP.out.below bd).below bx)
      have R5 := Lib.hid ((R5.out.below bd).below bx)
      have R6 := Lib.hid (hr6.below bx)
      have BZ := Lib.hid (below_step (below_step BZ.out bd) bx)
      have BB := Lib.hid (below_step (below_step BB.out bd) bx)
      obtain ⟨x0, x1, x2, x3, x4, x5⟩ := GP.out.cells
      dsimp only at x0 x1 x2 x3 x4 x5
      rw [hWd] at x0 x1 x2 x3 x4 x5
      have HWd := Lib.hid hWd
      clear bd bx hWd hr6 HWc
      go_wp2_with fail
      rw [← HWd.out]
      clear x0 x1 x2 x3 x4 x5
      refine (HSM.out _ _ _ _ _ R5.out R6.out).mono ?_; rintro ee we ⟨rfl, be⟩
      have GP := Lib.hid (GP.out.below be)
      have BZ := Lib.hid (below_step BZ.out be)
      have BB := Lib.hid (below_step BB.out be)
      clear be
      clear R5 R6 HWd
      by_cases hre : re = 0
      · subst hre
        have hz := HRZ.out rfl
        have HR3 := HR3.out
        rw [hz] at HR3
        dsimp only [btGet, Option.getD_some, btC, Option.isSome] at HR3
        rw [← HN.out] at HR3
        have HR3 := Lib.hid HR3
        clear hz HRZ
        go_wp2_with fail
        refine (HR3.out _).mono ?_; rintro ef wf ⟨⟨o7, c7, rfl, ho7⟩, bf⟩
        have gp := GP.out.below bf
        have hlw : wc.heap.size < we.heap.size := GP.out.lt
        have tf := turn_row wf wc.heap.size (#[.int .i64 c, .int .i64 e, .int .i64 q, .int .i64 aud, .slice o7 n c7, .int .i64 org] : Array Value)
        obtain ⟨Wf, hWf⟩ : ∃ V, V = wf.setRow wc.heap.size #[.int .i64 c, .int .i64 e, .int .i64 q, .int .i64 aud, .slice o7 n c7, .int .i64 org] := ⟨_, rfl⟩
        have gf : BAt Wf wc.heap.size ⟨c, e, q, aud, mem, org⟩ (.slice o7 n c7) := by rw [hWf]; exact setRow_heap _ _ _ _ _ _ gp
        have R7 : Hid (MemRow Wf o7 mem) := Lib.hid (by rw [hWf]; obtain ⟨a1, a2, a3, a4, -, -⟩ := ownM_row (ownM_turn ho7 tf (fun k e => by omega)); cases a3; exact a4)
        have zf : BAt Wf w.heap.size ⟨c, e, q, aud, mem, org⟩ (.slice ao n cap) := by rw [hWf]; exact ((tf.block _ ((Z4.out.below (below_step BZ.out bf)).lt) (by have := Z4.out.lt; have := HLC.out; omega)).trans (Z4.out.below (below_step BZ.out bf)))
        have BF : Hid (Below w.heap.size w Wf) := Lib.hid (by rw [hWf]; exact (below_step BB.out bf).trans (turn_to tf (fun b e => by have := Z4.out.lt; have := HLC.out; omega) (below_step BB.out bf).size))
        have N9 := Lib.hid gp
        have HWf := Lib.hid hWf
        obtain ⟨x0, x1, x2, x3, x4, x5⟩ := gf.cells
        obtain ⟨y0, y1, y2, y3, y4, y5⟩ := zf.cells
        dsimp only at x0 x1 x2 x3 x4 x5 y0 y1 y2 y3 y4 y5
        clear gp tf hWf gf zf ho7 bf hlw
        go_wp2_with (refine wpList_store_row rfl 26 _ _ rfl wc.heap.size #[.int .i64 c, .int .i64 e, .int .i64 q, .int .i64 aud, .slice o7 n c7, .int .i64 org] rfl rfl 26 #[.int .i64 mc, .int .i64 me, .int .i64 mq, .int .i64 maud, .slice o5 mn c5, .int .i64 morg] N9.out (bt_info _ _ _ _ _ _) rfl (bt_one6 _ _ _ _ _ _ _ _) ?_; rw [← HWf.out])
        refine (HSB.out _ c7 _ R7.out BF.out).mono ?_; rintro eh wh ⟨rfl, bh⟩
        have BB := Lib.hid (below_step BF.out bh)
        clear bh x0 x1 x2 x3 x4 x5 y0 y1 y2 y3 y4 y5
        go_wp2_with fail
        refine (HA.out _ (by first | exact BB.out | exact B0.out)).mono ?_; rintro eg wg ⟨rfl, bg⟩
        go_wp2_with fail
        go_ret
        exact ⟨rfl, below_step BB.out bg⟩
      · have hre2 : ((re : Int) != 0) = true := by rw [bne_iff_ne]; omega
        have hre3 : ¬ (re : Int) = 0 := by omega
        clear HRZ HR3
        go_wp2_with fail
        refine (HA.out _ (by first | exact BB.out | exact B0.out)).mono ?_; rintro eg wg ⟨rfl, bg⟩
        go_wp2_with fail
        go_ret
        exact ⟨rfl, below_step BB.out bg⟩
    | false =>
      simp only [Bool.false_eq_true, if_false] at HPC6
      have HPC6 := Lib.hid HPC6
      refine HPC6.out.mono ?_; rintro e7 w7 ⟨rfl, b7⟩
      have BZ := Lib.hid (below_step BZ.out b7)
      have BB := Lib.hid (below_step BB.out b7)
      clear b7
      clear HPC6
      obtain ⟨x0, x1, x2, x3, x4, x5⟩ := HX.out _ BZ.out
      go_wp2_with fail
      clear x0 x1 x2 x3 x4 x5
      have HPD7 := Lib.hid (HPD.out _ c3 _ (HR4.out _ BZ.out))
      refine HPD7.out.mono ?_; rintro e8 w8 ⟨rfl, b8⟩
      have BZ := Lib.hid (below_step BZ.out b8)
      have BB := Lib.hid (below_step BB.out b8)
      clear b8
      clear HPD7
      obtain ⟨y0, y1, y2, y3, y4, y5⟩ := HC.out _ BZ.out
      go_wp2_with fail
      clear y0 y1 y2 y3 y4 y5
      refine (HRD.out _ BB.out).mono ?_; rintro e9 w9 ⟨rfl, b9⟩
      have BZ := Lib.hid (below_step BZ.out b9)
      have BB := Lib.hid (below_step BB.out b9)
      clear b9
      obtain ⟨y0, y1, y2, y3, y4, y5⟩ := HC.out _ BZ.out
      go_wp2_with fail
      clear y0 y1 y2 y3 y4 y5
      refine (HRM.out _ BB.out).mono ?_; rintro ea wa ⟨rfl, ba⟩
      have BZ := Lib.hid (below_step BZ.out ba)
      have BB := Lib.hid (below_step BB.out ba)
      clear ba
      obtain ⟨x0, x1, x2, x3, x4, x5⟩ := HX.out _ BZ.out
      obtain ⟨y0, y1, y2, y3, y4, y5⟩ := HC.out _ BZ.out
      go_wp2_with fail
      clear x0 x1 x2 x3 x4 x5
      clear y0 y1 y2 y3 y4 y5
      have HS7 := Lib.hid (HSB.out _ c3 _ (HR4.out _ BZ.out) BB.out)
      refine HS7.out.mono ?_; rintro eb wb ⟨rfl, bb⟩
      have BZ := Lib.hid (below_step BZ.out bb)
      have BB := Lib.hid (below_step BB.out bb)
      clear bb
      clear HS7
      go_wp2_with fail
      refine (HR1.out _).mono ?_; rintro ec wc ⟨⟨o5, c5, rfl, ho5⟩, bc⟩
      have hr5 : MemRow wc o5 mmem := by obtain ⟨a1, a2, a3, a4, -, -⟩ := ownM_row ho5; cases a3; exact a4
      clear ho5
      obtain ⟨Wc, hWc⟩ : ∃ V, V = wc.alloc (.cells #[.int .i64 mc, .int .i64 me, .int .i64 mq, .int .i64 maud, .slice o5 mn c5, .int .i64 morg] 26) := ⟨_, rfl⟩
      have bx : Below wc.heap.size wc Wc := by rw [hWc]; exact (Below.refl _ _).alloc (Nat.le_refl _) _
      have GP := Lib.hid (show BAt Wc wc.heap.size ⟨mc, me, mq, maud, mmem, morg⟩ (.slice o5 mn c5) from hWc ▸ bat_new wc ⟨mc, me, mq, maud, mmem, morg⟩ (.slice o5 mn c5))
      have HLC : Hid (W4.heap.size ≤ wc.heap.size) := Lib.hid (by have := (below_step BZ.out bc).size; omega)
      have R5 := Lib.hid (hr5.below bx)
      have BZ := Lib.hid (below_step (below_step BZ.out bc) bx)
      have BB := Lib.hid (below_step (below_step BB.out bc) bx)
      have HWc := Lib.hid hWc
      clear bc bx hWc hr5
      go_wp2_with fail
      rw [← HWc.out]
      refine (HR2.out _).mono ?_; rintro ed wd ⟨⟨o6, c6, rfl, hr6⟩, bd⟩
      obtain ⟨Wd, hWd⟩ : ∃ V, V = wd.alloc (.cells #[.int .i64 mc, .int .i64 me, .int .i64 mq, .int .i64 maud, .slice o6 mn c6, .int .i64 morg] 26) := ⟨_, rfl⟩
      have bx : Below wd.heap.size wd Wd := by rw [hWd]; exact (Below.refl _ _).alloc (Nat.le_refl _) _
      have GP := Lib.hid ((GP.out.below bd).below bx)
      have R5 := Lib.hid ((R5.out.below bd).below bx)
      have R6 := Lib.hid (hr6.below bx)
      have BZ := Lib.hid (below_step (below_step BZ.out bd) bx)
      have BB := Lib.hid (below_step (below_step BB.out bd) bx)
      obtain ⟨x0, x1, x2, x3, x4, x5⟩ := GP.out.cells
      dsimp only at x0 x1 x2 x3 x4 x5
      rw [hWd] at x0 x1 x2 x3 x4 x5
      have HWd := Lib.hid hWd
      clear bd bx hWd hr6 HWc
      go_wp2_with fail
      rw [← HWd.out]
      clear x0 x1 x2 x3 x4 x5
      refine (HSM.out _ _ _ _ _ R5.out R6.out).mono ?_; rintro ee we ⟨rfl, be⟩
      have GP := Lib.hid (GP.out.below be)
      have BZ := Lib.hid (below_step BZ.out be)
      have BB := Lib.hid (below_step BB.out be)
      clear be
      clear R5 R6 HWd
      by_cases hre : re = 0
      · subst hre
        have hz := HRZ.out rfl
        have HR3 := HR3.out
        rw [hz] at HR3
        dsimp only [btGet, Option.getD_some, btC, Option.isSome] at HR3
        rw [← HN.out] at HR3
        have HR3 := Lib.hid HR3
        clear hz HRZ
        go_wp2_with fail
        refine (HR3.out _).mono ?_; rintro ef wf ⟨⟨o7, c7, rfl, ho7⟩, bf⟩
        have gp := GP.out.below bf
        have hlw : wc.heap.size < we.heap.size := GP.out.lt
        have tf := turn_row wf wc.heap.size (#[.int .i64 c, .int .i64 e, .int .i64 q, .int .i64 aud, .slice o7 n c7, .int .i64 org] : Array Value)
        obtain ⟨Wf, hWf⟩ : ∃ V, V = wf.setRow wc.heap.size #[.int .i64 c, .int .i64 e, .int .i64 q, .int .i64 aud, .slice o7 n c7, .int .i64 org] := ⟨_, rfl⟩
        have gf : BAt Wf wc.heap.size ⟨c, e, q, aud, mem, org⟩ (.slice o7 n c7) := by rw [hWf]; exact setRow_heap _ _ _ _ _ _ gp
        have R7 : Hid (MemRow Wf o7 mem) := Lib.hid (by rw [hWf]; obtain ⟨a1, a2, a3, a4, -, -⟩ := ownM_row (ownM_turn ho7 tf (fun k e => by omega)); cases a3; exact a4)
        have zf : BAt Wf w.heap.size ⟨c, e, q, aud, mem, org⟩ (.slice ao n cap) := by rw [hWf]; exact ((tf.block _ ((Z4.out.below (below_step BZ.out bf)).lt) (by have := Z4.out.lt; have := HLC.out; omega)).trans (Z4.out.below (below_step BZ.out bf)))
        have BF : Hid (Below w.heap.size w Wf) := Lib.hid (by rw [hWf]; exact (below_step BB.out bf).trans (turn_to tf (fun b e => by have := Z4.out.lt; have := HLC.out; omega) (below_step BB.out bf).size))
        have N9 := Lib.hid gp
        have HWf := Lib.hid hWf
        obtain ⟨x0, x1, x2, x3, x4, x5⟩ := gf.cells
        obtain ⟨y0, y1, y2, y3, y4, y5⟩ := zf.cells
        dsimp only at x0 x1 x2 x3 x4 x5 y0 y1 y2 y3 y4 y5
        clear gp tf hWf gf zf ho7 bf hlw
        go_wp2_with (refine wpList_store_row rfl 26 _ _ rfl wc.heap.size #[.int .i64 c, .int .i64 e, .int .i64 q, .int .i64 aud, .slice o7 n c7, .int .i64 org] rfl rfl 26 #[.int .i64 mc, .int .i64 me, .int .i64 mq, .int .i64 maud, .slice o5 mn c5, .int .i64 morg] N9.out (bt_info _ _ _ _ _ _) rfl (bt_one6 _ _ _ _ _ _ _ _) ?_; rw [← HWf.out])
        refine (HSB.out _ c7 _ R7.out BF.out).mono ?_; rintro eh wh ⟨rfl, bh⟩
        have BB := Lib.hid (below_step BF.out bh)
        clear bh x0 x1 x2 x3 x4 x5 y0 y1 y2 y3 y4 y5
        go_wp2_with fail
        refine (HA.out _ (by first | exact BB.out | exact B0.out)).mono ?_; rintro eg wg ⟨rfl, bg⟩
        go_wp2_with fail
        go_ret
        exact ⟨rfl, below_step BB.out bg⟩
      · have hre2 : ((re : Int) != 0) = true := by rw [bne_iff_ne]; omega
        have hre3 : ¬ (re : Int) = 0 := by omega
        clear HRZ HR3
        go_wp2_with fail
        refine (HA.out _ (by first | exact BB.out | exact B0.out)).mono ?_; rintro eg wg ⟨rfl, bg⟩
        go_wp2_with fail
        go_ret
        exact ⟨rfl, below_step BB.out bg⟩
end Go.Proofs.YtbdlegjklfkdmaaGreatDoor.Pl
