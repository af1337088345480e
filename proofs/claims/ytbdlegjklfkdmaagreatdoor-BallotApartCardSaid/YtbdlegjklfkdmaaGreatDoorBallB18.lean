/- Of a suite of terms a tag fits one ballot alone: the walk. -/
import Derived.Test.YtbdlegjklfkdmaaGreatDoorBallB17
import Derived.Test.YtbdlegjklfkdmaaGreatDoorBallB12
namespace Go.Proofs.YtbdlegjklfkdmaaGreatDoor.Pl
open Go.RowKit

set_option maxHeartbeats 8000000 in
set_option maxRecDepth 100000 in
theorem apart_long (a b : Bt) (yo zo : Option Addr) (ycap zcap : Nat) (w : World) (hT : KeyTab w) (hra : MemRow w yo a.mem) (hrb : MemRow w zo b.mem) (hla : a.mem.length ≤ 9223372036854775807) (hlb : b.mem.length ≤ 9223372036854775807) (hlong : longL a.mem = true ∨ longL b.mem = true) :
    Calls Tryz.prog 5 #[.agg (btC a (.slice yo a.mem.length ycap)), .agg (btC b (.slice zo b.mem.length zcap))] w fun x w' => x = .returned (.bool true) ∧ Below w.heap.size w w' := by
  have HA := Lib.hid (fun V (hV : Below w.heap.size w V) => alive13_any V (hT.below hV))
  have LA := fun V (hV : Below w.heap.size w V) => longl_any a.mem yo ycap hla V (hra.below hV)
  have LB := fun V (hV : Below w.heap.size w V) => longl_any b.mem zo zcap hlb V (hrb.below hV)
  obtain ⟨W0, hW0⟩ : ∃ V, V = (w.alloc (.cells (btC a (.slice yo a.mem.length ycap)) 26)).alloc (.cells (btC b (.slice zo b.mem.length zcap)) 26) := ⟨_, rfl⟩
  have g0 : BAt W0 w.heap.size a (.slice yo a.mem.length ycap) := by rw [hW0]; exact (bat_new _ _ _).below ((Below.refl _ _).alloc (Nat.le_refl _) _)
  have g1 : BAt W0 (w.heap.size + 1) b (.slice zo b.mem.length zcap) := by
    have h := bat_new (w.alloc (.cells (btC a (.slice yo a.mem.length ycap)) 26)) b (.slice zo b.mem.length zcap)
    rw [World.size_alloc] at h
    rw [hW0]; exact h
  have b0 : Below w.heap.size w W0 := by rw [hW0]; exact ((Below.refl _ _).alloc (Nat.le_refl _) _).alloc (by simp) _
  have GA := Lib.hid g0
  have GB := Lib.hid g1
  have BB := Lib.hid b0
  obtain ⟨u, hu⟩ : ∃ z, z = longL a.mem := ⟨_, rfl⟩
  obtain ⟨v, hv⟩ : ∃ z, z = longL b.mem := ⟨_, rfl⟩
  rw [← hu] at LA hlong
  rw [← hv] at LB hlong
  clear hu hv
  obtain ⟨yc, ye, yq, yaud, ymem, yorg⟩ := a
  obtain ⟨zc, ze, zq, zaud, zmem, zorg⟩ := b
  dsimp only [btC] at *
  generalize ymem.length = yn at *
  generalize zmem.length = zn at *
  have HCA : Hid (∀ V, BAt V w.heap.size ⟨yc, ye, yq, yaud, ymem, yorg⟩ (.slice yo yn ycap) → V.cell? ⟨w.heap.size, 0, none⟩ = some (.int .i64 yc) ∧ V.cell? ⟨w.heap.size, 1, none⟩ = some (.int .i64 ye) ∧ V.cell? ⟨w.heap.size, 2, none⟩ = some (.int .i64 yq) ∧ V.cell? ⟨w.heap.size, 3, none⟩ = some (.int .i64 yaud) ∧ V.cell? ⟨w.heap.size, 4, none⟩ = some (.slice yo yn ycap) ∧ V.cell? ⟨w.heap.size, 5, none⟩ = some (.int .i64 yorg)) := Lib.hid (fun V h => h.cells)
  have HCB : Hid (∀ V, BAt V (w.heap.size + 1) ⟨zc, ze, zq, zaud, zmem, zorg⟩ (.slice zo zn zcap) → V.cell? ⟨w.heap.size + 1, 0, none⟩ = some (.int .i64 zc) ∧ V.cell? ⟨w.heap.size + 1, 1, none⟩ = some (.int .i64 ze) ∧ V.cell? ⟨w.heap.size + 1, 2, none⟩ = some (.int .i64 zq) ∧ V.cell? ⟨w.heap.size + 1, 3, none⟩ = some (.int .i64 zaud) ∧ V.cell? ⟨w.heap.size + 1, 4, none⟩ = some (.slice zo zn zcap) ∧ V.cell? ⟨w.heap.size + 1, 5, none⟩ = some (.int .i64 zorg)) := Lib.hid (fun V h => h.cells)
  obtain ⟨z0, z1, z2, z3, z4, z5⟩ := HCB.out _ GB.out
  rw [hW0] at z0 z1 z2 z3 z4 z5
  have HW0 := Lib.hid hW0
  have LA := Lib.hid LA
  have LB := Lib.hid LB
  clear hW0 g0 g1 b0 hT hra hrb hla hlb
  cases u with
  | true =>
    go_enter Tryz.func5, Tryz.ntmps5
    go_wp2_with fail
    rw [← HW0.out]
    refine (LA.out _ BB.out).mono ?_; rintro e1 V1 ⟨rfl, hw⟩; rw [hw]; clear hw V1
    clear z0 z1 z2 z3 z4 z5
    go_wp2_with fail
    refine (HA.out _ BB.out).mono ?_; rintro ez wz ⟨rfl, bz⟩
    have BB := Lib.hid (below_step BB.out bz)
    clear bz
    go_wp2_with fail
    go_ret
    exact ⟨rfl, BB.out⟩
  | false =>
    have hv : v = true := by
      rcases hlong with h | h
      · cases h
      · exact h
    subst hv
    go_enter Tryz.func5, Tryz.ntmps5
    go_wp2_with fail
    rw [← HW0.out]
    refine (LA.out _ BB.out).mono ?_; rintro e1 V1 ⟨rfl, hw⟩; rw [hw]; clear hw V1
    clear z0 z1 z2 z3 z4 z5
    obtain ⟨z0, z1, z2, z3, z4, z5⟩ := HCB.out _ GB.out
    go_wp2_with fail
    refine (LB.out _ BB.out).mono ?_; rintro e1 V1 ⟨rfl, hw⟩; rw [hw]; clear hw V1
    clear z0 z1 z2 z3 z4 z5
    go_wp2_with fail
    refine (HA.out _ BB.out).mono ?_; rintro ez wz ⟨rfl, bz⟩
    have BB := Lib.hid (below_step BB.out bz)
    clear bz
    go_wp2_with fail
    go_ret
    exact ⟨rfl, BB.out⟩

set_option maxHeartbeats 8000000 in
set_option maxRecDepth 100000 in
theorem apart_ok (a b : Bt) (yo zo : Option Addr) (ycap zcap : Nat) (w : World) (hT : KeyTab w) (hra : MemRow w yo a.mem) (hrb : MemRow w zo b.mem) (hla : a.mem.length ≤ 9223372036854775807) (hlb : b.mem.length ≤ 9223372036854775807) (hshort : longL a.mem = false ∧ longL b.mem = false) (h1 : (tagBt cry0 true (bl ⟨#[]⟩) a).2 = 0) (h2 : (tagBt cry0 true (bl ⟨#[]⟩) b).2 = 0) :
    Calls Tryz.prog 5 #[.agg (btC a (.slice yo a.mem.length ycap)), .agg (btC b (.slice zo b.mem.length zcap))] w fun x w' => x = .returned (.bool true) ∧ Below w.heap.size w w' := by
  obtain ⟨ha, hb⟩ := hshort
  obtain ⟨p1, p2⟩ := longL_no ha
  obtain ⟨p3, p4⟩ := longL_no hb
  have hma : ∀ x ∈ a.mem, x.2.size ≤ 30000 := fun x hx => by have := p2 x hx; omega
  have hmb : ∀ x ∈ b.mem, x.2.size ≤ 30000 := fun x hx => by have := p4 x hx; omega
  have hna : a.mem.length ≤ 1000000 := by omega
  have hnb : b.mem.length ≤ 1000000 := by omega
  have HA := Lib.hid (fun V (hV : Below w.heap.size w V) => alive13_any V (hT.below hV))
  have LA := fun V (hV : Below w.heap.size w V) => longl_any a.mem yo ycap hla V (hra.below hV)
  have LB := fun V (hV : Below w.heap.size w V) => longl_any b.mem zo zcap hlb V (hrb.below hV)
  obtain ⟨W0, hW0⟩ : ∃ V, V = (w.alloc (.cells (btC a (.slice yo a.mem.length ycap)) 26)).alloc (.cells (btC b (.slice zo b.mem.length zcap)) 26) := ⟨_, rfl⟩
  have g0 : BAt W0 w.heap.size a (.slice yo a.mem.length ycap) := by rw [hW0]; exact (bat_new _ _ _).below ((Below.refl _ _).alloc (Nat.le_refl _) _)
  have g1 : BAt W0 (w.heap.size + 1) b (.slice zo b.mem.length zcap) := by
    have h := bat_new (w.alloc (.cells (btC a (.slice yo a.mem.length ycap)) 26)) b (.slice zo b.mem.length zcap)
    rw [World.size_alloc] at h
    rw [hW0]; exact h
  have b0 : Below w.heap.size w W0 := by rw [hW0]; exact ((Below.refl _ _).alloc (Nat.le_refl _) _).alloc (by simp) _
  have GA := Lib.hid g0
  have GB := Lib.hid g1
  have BB := Lib.hid b0
  rw [ha] at LA
  rw [hb] at LB
  have HN := Lib.hid (fun V (hV : Below w.heap.size w V) => newt_any ⟨#[]⟩ V)
  have TA := fun p W1 (hS : SuiteT W1 p) V (hV : Below w.heap.size w V) (hb : Below W1.heap.size W1 V) => ptag13_t ⟨#[]⟩ a yo ycap hma hna p V (hra.below hV) (hS.below hb) (hT.below hV)
  have TB := fun p W1 (hS : SuiteT W1 p) V (hV : Below w.heap.size w V) (hb : Below W1.heap.size W1 V) => ptag13_t ⟨#[]⟩ b zo zcap hmb hnb p V (hrb.below hV) (hS.below hb) (hT.below hV)
  have FA := fun p W1 (hS : SuiteT W1 p) V (hV : Below w.heap.size w V) (hb : Below W1.heap.size W1 V) => pfits13_t ⟨#[]⟩ a yo ycap hma hna (tb (tagBt cry0 true (bl ⟨#[]⟩) b).1) p V (hra.below hV) (hS.below hb) (hT.below hV)
  have FB := fun p W1 (hS : SuiteT W1 p) V (hV : Below w.heap.size w V) (hb : Below W1.heap.size W1 V) => pfits13_t ⟨#[]⟩ b zo zcap hmb hnb (tb (tagBt cry0 true (bl ⟨#[]⟩) a).1) p V (hrb.below hV) (hS.below hb) (hT.below hV)
  have HSM := fun V (hV : Below w.heap.size w V) => rsame13_any a b yo zo ycap zcap hna V (hra.below hV) (hrb.below hV)
  have hiff := tag_same h1 h2
  have hzz : decide (tb (tagBt cry0 true (bl ⟨#[]⟩) a).1 = tb (tagBt cry0 true (bl ⟨#[]⟩) b).1) = eqB a b := by
    by_cases hab : a = b
    · rw [eqB_yes hab, decide_eq_true (by rw [hiff.2 hab])]
    · rw [eqB_no hab, decide_eq_false (fun e => hab (hiff.1 (by have := congrArg bl e; rwa [bl_tb, bl_tb] at this)))]
  have hfa : fitBt cry0 true (bl ⟨#[]⟩) a (tb (tagBt cry0 true (bl ⟨#[]⟩) b).1) = eqB a b := by unfold fitBt; rw [h1, ← hzz]; simp
  have hfb : fitBt cry0 true (bl ⟨#[]⟩) b (tb (tagBt cry0 true (bl ⟨#[]⟩) a).1) = eqB a b := by
    unfold fitBt
    rw [h2, ← hzz]
    simp only [decide_true, Bool.true_and]
    by_cases e : tb (tagBt cry0 true (bl ⟨#[]⟩) a).1 = tb (tagBt cry0 true (bl ⟨#[]⟩) b).1
    · rw [decide_eq_true e, decide_eq_true e.symm]
    · rw [decide_eq_false e, decide_eq_false (fun k => e k.symm)]
  rw [hfa] at FA
  rw [hfb] at FB
  generalize eqB a b = z at *
  generalize tagBt cry0 true (bl ⟨#[]⟩) a = T at *
  generalize tagBt cry0 true (bl ⟨#[]⟩) b = U at *
  obtain ⟨tr, te⟩ := T
  obtain ⟨ur, ue⟩ := U
  rw [st2_tb] at TA TB
  dsimp only at h1 h2 hzz
  have hse : (((tb tr).toList == (tb ur).toList) == z) = true := by rw [str_eq13, hzz]; simp
  subst h1
  subst h2
  generalize tb tr = rt at *
  generalize tb ur = ru at *
  obtain ⟨yc, ye, yq, yaud, ymem, yorg⟩ := a
  obtain ⟨zc, ze, zq, zaud, zmem, zorg⟩ := b
  dsimp only [btC] at *
  generalize ymem.length = yn at *
  generalize zmem.length = zn at *
  have HCA : Hid (∀ V, BAt V w.heap.size ⟨yc, ye, yq, yaud, ymem, yorg⟩ (.slice yo yn ycap) → V.cell? ⟨w.heap.size, 0, none⟩ = some (.int .i64 yc) ∧ V.cell? ⟨w.heap.size, 1, none⟩ = some (.int .i64 ye) ∧ V.cell? ⟨w.heap.size, 2, none⟩ = some (.int .i64 yq) ∧ V.cell? ⟨w.heap.size, 3, none⟩ = some (.int .i64 yaud) ∧ V.cell? ⟨w.heap.size, 4, none⟩ = some (.slice yo yn ycap) ∧ V.cell? ⟨w.heap.size, 5, none⟩ = some (.int .i64 yorg)) := Lib.hid (fun V h => h.cells)
  have HCB : Hid (∀ V, BAt V (w.heap.size + 1) ⟨zc, ze, zq, zaud, zmem, zorg⟩ (.slice zo zn zcap) → V.cell? ⟨w.heap.size + 1, 0, none⟩ = some (.int .i64 zc) ∧ V.cell? ⟨w.heap.size + 1, 1, none⟩ = some (.int .i64 ze) ∧ V.cell? ⟨w.heap.size + 1, 2, none⟩ = some (.int .i64 zq) ∧ V.cell? ⟨w.heap.size + 1, 3, none⟩ = some (.int .i64 zaud) ∧ V.cell? ⟨w.heap.size + 1, 4, none⟩ = some (.slice zo zn zcap) ∧ V.cell? ⟨w.heap.size + 1, 5, none⟩ = some (.int .i64 zorg)) := Lib.hid (fun V h => h.cells)
  obtain ⟨z0, z1, z2, z3, z4, z5⟩ := HCB.out _ GB.out
  rw [hW0] at z0 z1 z2 z3 z4 z5
  have HW0 := Lib.hid hW0
  have LA := Lib.hid LA
  have LB := Lib.hid LB
  have HSM := Lib.hid HSM
  have TA := Lib.hid TA
  have TB := Lib.hid TB
  have FA := Lib.hid FA
  have FB := Lib.hid FB
  clear hW0 g0 g1 b0 hT hra hrb hla hlb ha hb p1 p2 p3 p4 hma hmb hna hnb hiff hzz hfa hfb
  go_enter Tryz.func5, Tryz.ntmps5
  go_wp2_with fail
  rw [← HW0.out]
  refine (LA.out _ BB.out).mono ?_; rintro e1 V1 ⟨rfl, hw⟩; rw [hw]; clear hw V1
  clear z0 z1 z2 z3 z4 z5
  obtain ⟨z0, z1, z2, z3, z4, z5⟩ := HCB.out _ GB.out
  go_wp2_with fail
  refine (LB.out _ BB.out).mono ?_; rintro e1 V1 ⟨rfl, hw⟩; rw [hw]; clear hw V1
  clear z0 z1 z2 z3 z4 z5
  go_wp2_with fail
  refine (HN.out _ BB.out).mono ?_; rintro e2 W1 ⟨⟨p, rfl, hS⟩, b2⟩
  have TA := Lib.hid (TA.out p W1 hS)
  have TB := Lib.hid (TB.out p W1 hS)
  have FA := Lib.hid (FA.out p W1 hS)
  have FB := Lib.hid (FB.out p W1 hS)
  have GA := Lib.hid (GA.out.below b2)
  have GB := Lib.hid (GB.out.below b2)
  have BB := Lib.hid (below_step BB.out b2)
  have BS := Lib.hid (Below.refl W1.heap.size W1)
  clear hS b2 HN
  obtain ⟨y0, y1, y2, y3, y4, y5⟩ := HCA.out _ GA.out
  go_wp2_with fail
  clear y0 y1 y2 y3 y4 y5
  refine (TA.out _ BB.out BS.out).mono ?_; rintro e3 w3 ⟨rfl, b3⟩
  have GA := Lib.hid (GA.out.below b3)
  have GB := Lib.hid (GB.out.below b3)
  have BB := Lib.hid (below_step BB.out b3)
  have BS := Lib.hid (below_step BS.out b3)
  clear b3
  obtain ⟨z0, z1, z2, z3, z4, z5⟩ := HCB.out _ GB.out
  go_wp2_with fail
  clear z0 z1 z2 z3 z4 z5
  refine (TB.out _ BB.out BS.out).mono ?_; rintro e4 w4 ⟨rfl, b4⟩
  have GA := Lib.hid (GA.out.below b4)
  have GB := Lib.hid (GB.out.below b4)
  have BB := Lib.hid (below_step BB.out b4)
  have BS := Lib.hid (below_step BS.out b4)
  clear b4
  obtain ⟨y0, y1, y2, y3, y4, y5⟩ := HCA.out _ GA.out
  obtain ⟨z0, z1, z2, z3, z4, z5⟩ := HCB.out _ GB.out
  go_wp2_with fail
  clear y0 y1 y2 y3 y4 y5
  clear z0 z1 z2 z3 z4 z5
  refine (HSM.out _ BB.out).mono ?_; rintro e5 w5 ⟨rfl, b5⟩
  have GA := Lib.hid (GA.out.below b5)
  have GB := Lib.hid (GB.out.below b5)
  have BB := Lib.hid (below_step BB.out b5)
  have BS := Lib.hid (below_step BS.out b5)
  clear b5
  obtain ⟨y0, y1, y2, y3, y4, y5⟩ := HCA.out _ GA.out
  go_wp2_with fail
  clear y0 y1 y2 y3 y4 y5
  refine (FA.out _ BB.out BS.out).mono ?_; rintro e6 w6 ⟨rfl, b6⟩
  have GA := Lib.hid (GA.out.below b6)
  have GB := Lib.hid (GB.out.below b6)
  have BB := Lib.hid (below_step BB.out b6)
  have BS := Lib.hid (below_step BS.out b6)
  clear b6
  obtain ⟨z0, z1, z2, z3, z4, z5⟩ := HCB.out _ GB.out
  go_wp2_with fail
  clear z0 z1 z2 z3 z4 z5
  refine (FB.out _ BB.out BS.out).mono ?_; rintro e7 w7 ⟨rfl, b7⟩
  have GA := Lib.hid (GA.out.below b7)
  have GB := Lib.hid (GB.out.below b7)
  have BB := Lib.hid (below_step BB.out b7)
  have BS := Lib.hid (below_step BS.out b7)
  clear b7
  go_wp2_with fail
  refine (HA.out _ BB.out).mono ?_; rintro ez wz ⟨rfl, bz⟩
  have BB := Lib.hid (below_step BB.out bz)
  clear bz
  go_wp2_with fail
  go_ret
  exact ⟨rfl, BB.out⟩

set_option maxHeartbeats 8000000 in
set_option maxRecDepth 100000 in
theorem apart_no0 (a b : Bt) (yo zo : Option Addr) (ycap zcap : Nat) (w : World) (hT : KeyTab w) (hra : MemRow w yo a.mem) (hrb : MemRow w zo b.mem) (hla : a.mem.length ≤ 9223372036854775807) (hlb : b.mem.length ≤ 9223372036854775807) (hshort : longL a.mem = false ∧ longL b.mem = false) (h1 : (tagBt cry0 true (bl ⟨#[]⟩) a).2 ≠ 0) :
    Calls Tryz.prog 5 #[.agg (btC a (.slice yo a.mem.length ycap)), .agg (btC b (.slice zo b.mem.length zcap))] w fun x w' => x = .returned (.bool true) ∧ Below w.heap.size w w' := by
  obtain ⟨ha, hb⟩ := hshort
  obtain ⟨p1, p2⟩ := longL_no ha
  obtain ⟨p3, p4⟩ := longL_no hb
  have hma : ∀ x ∈ a.mem, x.2.size ≤ 30000 := fun x hx => by have := p2 x hx; omega
  have hmb : ∀ x ∈ b.mem, x.2.size ≤ 30000 := fun x hx => by have := p4 x hx; omega
  have hna : a.mem.length ≤ 1000000 := by omega
  have hnb : b.mem.length ≤ 1000000 := by omega
  have HA := Lib.hid (fun V (hV : Below w.heap.size w V) => alive13_any V (hT.below hV))
  have LA := fun V (hV : Below w.heap.size w V) => longl_any a.mem yo ycap hla V (hra.below hV)
  have LB := fun V (hV : Below w.heap.size w V) => longl_any b.mem zo zcap hlb V (hrb.below hV)
  obtain ⟨W0, hW0⟩ : ∃ V, V = (w.alloc (.cells (btC a (.slice yo a.mem.length ycap)) 26)).alloc (.cells (btC b (.slice zo b.mem.length zcap)) 26) := ⟨_, rfl⟩
  have g0 : BAt W0 w.heap.size a (.slice yo a.mem.length ycap) := by rw [hW0]; exact (bat_new _ _ _).below ((Below.refl _ _).alloc (Nat.le_refl _) _)
  have g1 : BAt W0 (w.heap.size + 1) b (.slice zo b.mem.length zcap) := by
    have h := bat_new (w.alloc (.cells (btC a (.slice yo a.mem.length ycap)) 26)) b (.slice zo b.mem.length zcap)
    rw [World.size_alloc] at h
    rw [hW0]; exact h
  have b0 : Below w.heap.size w W0 := by rw [hW0]; exact ((Below.refl _ _).alloc (Nat.le_refl _) _).alloc (by simp) _
  have GA := Lib.hid g0
  have GB := Lib.hid g1
  have BB := Lib.hid b0
  rw [ha] at LA
  rw [hb] at LB
  have HN := Lib.hid (fun V (hV : Below w.heap.size w V) => newt_any ⟨#[]⟩ V)
  have TA := fun p W1 (hS : SuiteT W1 p) V (hV : Below w.heap.size w V) (hb : Below W1.heap.size W1 V) => ptag13_t ⟨#[]⟩ a yo ycap hma hna p V (hra.below hV) (hS.below hb) (hT.below hV)
  have TB := fun p W1 (hS : SuiteT W1 p) V (hV : Below w.heap.size w V) (hb : Below W1.heap.size W1 V) => ptag13_t ⟨#[]⟩ b zo zcap hmb hnb p V (hrb.below hV) (hS.below hb) (hT.below hV)
  have FA := fun p W1 (hS : SuiteT W1 p) V (hV : Below w.heap.size w V) (hb : Below W1.heap.size W1 V) => pfits13_t ⟨#[]⟩ a yo ycap hma hna (tb (tagBt cry0 true (bl ⟨#[]⟩) b).1) p V (hra.below hV) (hS.below hb) (hT.below hV)
  have FB := fun p W1 (hS : SuiteT W1 p) V (hV : Below w.heap.size w V) (hb : Below W1.heap.size W1 V) => pfits13_t ⟨#[]⟩ b zo zcap hmb hnb (tb (tagBt cry0 true (bl ⟨#[]⟩) a).1) p V (hrb.below hV) (hS.below hb) (hT.below hV)
  generalize tagBt cry0 true (bl ⟨#[]⟩) a = T at *
  generalize tagBt cry0 true (bl ⟨#[]⟩) b = U at *
  obtain ⟨tr, te⟩ := T
  obtain ⟨ur, ue⟩ := U
  rw [st2_tb] at TA TB
  have k1 : ((te : Int) != 0) = true := by rw [bne_iff_ne]; intro e; exact h1 (by show te = 0; omega)
  clear h1
  generalize tb tr = rt at *
  generalize tb ur = ru at *
  obtain ⟨yc, ye, yq, yaud, ymem, yorg⟩ := a
  obtain ⟨zc, ze, zq, zaud, zmem, zorg⟩ := b
  dsimp only [btC] at *
  generalize ymem.length = yn at *
  generalize zmem.length = zn at *
  have HCA : Hid (∀ V, BAt V w.heap.size ⟨yc, ye, yq, yaud, ymem, yorg⟩ (.slice yo yn ycap) → V.cell? ⟨w.heap.size, 0, none⟩ = some (.int .i64 yc) ∧ V.cell? ⟨w.heap.size, 1, none⟩ = some (.int .i64 ye) ∧ V.cell? ⟨w.heap.size, 2, none⟩ = some (.int .i64 yq) ∧ V.cell? ⟨w.heap.size, 3, none⟩ = some (.int .i64 yaud) ∧ V.cell? ⟨w.heap.size, 4, none⟩ = some (.slice yo yn ycap) ∧ V.cell? ⟨w.heap.size, 5, none⟩ = some (.int .i64 yorg)) := Lib.hid (fun V h => h.cells)
  have HCB : Hid (∀ V, BAt V (w.heap.size + 1) ⟨zc, ze, zq, zaud, zmem, zorg⟩ (.slice zo zn zcap) → V.cell? ⟨w.heap.size + 1, 0, none⟩ = some (.int .i64 zc) ∧ V.cell? ⟨w.heap.size + 1, 1, none⟩ = some (.int .i64 ze) ∧ V.cell? ⟨w.heap.size + 1, 2, none⟩ = some (.int .i64 zq) ∧ V.cell? ⟨w.heap.size + 1, 3, none⟩ = some (.int .i64 zaud) ∧ V.cell? ⟨w.heap.size + 1, 4, none⟩ = some (.slice zo zn zcap) ∧ V.cell? ⟨w.heap.size + 1, 5, none⟩ = some (.int .i64 zorg)) := Lib.hid (fun V h => h.cells)
  obtain ⟨z0, z1, z2, z3, z4, z5⟩ := HCB.out _ GB.out
  rw [hW0] at z0 z1 z2 z3 z4 z5
  have HW0 := Lib.hid hW0
  have LA := Lib.hid LA
  have LB := Lib.hid LB
  have TA := Lib.hid TA
  have TB := Lib.hid TB
  have FA := Lib.hid FA
  have FB := Lib.hid FB
  clear hW0 g0 g1 b0 hT hra hrb hla hlb ha hb p1 p2 p3 p4 hma hmb hna hnb
  go_enter Tryz.func5, Tryz.ntmps5
  go_wp2_with fail
  rw [← HW0.out]
  refine (LA.out _ BB.out).mono ?_; rintro e1 V1 ⟨rfl, hw⟩; rw [hw]; clear hw V1
  clear z0 z1 z2 z3 z4 z5
  obtain ⟨z0, z1, z2, z3, z4, z5⟩ := HCB.out _ GB.out
  go_wp2_with fail
  refine (LB.out _ BB.out).mono ?_; rintro e1 V1 ⟨rfl, hw⟩; rw [hw]; clear hw V1
  clear z0 z1 z2 z3 z4 z5
  go_wp2_with fail
  refine (HN.out _ BB.out).mono ?_; rintro e2 W1 ⟨⟨p, rfl, hS⟩, b2⟩
  have TA := Lib.hid (TA.out p W1 hS)
  have TB := Lib.hid (TB.out p W1 hS)
  have FA := Lib.hid (FA.out p W1 hS)
  have FB := Lib.hid (FB.out p W1 hS)
  have GA := Lib.hid (GA.out.below b2)
  have GB := Lib.hid (GB.out.below b2)
  have BB := Lib.hid (below_step BB.out b2)
  have BS := Lib.hid (Below.refl W1.heap.size W1)
  clear hS b2 HN
  obtain ⟨y0, y1, y2, y3, y4, y5⟩ := HCA.out _ GA.out
  go_wp2_with fail
  clear y0 y1 y2 y3 y4 y5
  refine (TA.out _ BB.out BS.out).mono ?_; rintro e3 w3 ⟨rfl, b3⟩
  have GA := Lib.hid (GA.out.below b3)
  have GB := Lib.hid (GB.out.below b3)
  have BB := Lib.hid (below_step BB.out b3)
  have BS := Lib.hid (below_step BS.out b3)
  clear b3
  obtain ⟨z0, z1, z2, z3, z4, z5⟩ := HCB.out _ GB.out
  go_wp2_with fail
  clear z0 z1 z2 z3 z4 z5
  refine (TB.out _ BB.out BS.out).mono ?_; rintro e4 w4 ⟨rfl, b4⟩
  have GA := Lib.hid (GA.out.below b4)
  have GB := Lib.hid (GB.out.below b4)
  have BB := Lib.hid (below_step BB.out b4)
  have BS := Lib.hid (below_step BS.out b4)
  clear b4
  go_wp2_with fail
  refine (HA.out _ BB.out).mono ?_; rintro ez wz ⟨rfl, bz⟩
  have BB := Lib.hid (below_step BB.out bz)
  clear bz
  go_wp2_with fail
  go_ret
  exact ⟨rfl, BB.out⟩

set_option maxHeartbeats 8000000 in
set_option maxRecDepth 100000 in
theorem apart_no1 (a b : Bt) (yo zo : Option Addr) (ycap zcap : Nat) (w : World) (hT : KeyTab w) (hra : MemRow w yo a.mem) (hrb : MemRow w zo b.mem) (hla : a.mem.length ≤ 9223372036854775807) (hlb : b.mem.length ≤ 9223372036854775807) (hshort : longL a.mem = false ∧ longL b.mem = false) (h1 : (tagBt cry0 true (bl ⟨#[]⟩) a).2 = 0) (h2 : (tagBt cry0 true (bl ⟨#[]⟩) b).2 ≠ 0) :
    Calls Tryz.prog 5 #[.agg (btC a (.slice yo a.mem.length ycap)), .agg (btC b (.slice zo b.mem.length zcap))] w fun x w' => x = .returned (.bool true) ∧ Below w.heap.size w w' := by
  obtain ⟨ha, hb⟩ := hshort
  obtain ⟨p1, p2⟩ := longL_no ha
  obtain ⟨p3, p4⟩ := longL_no hb
  have hma : ∀ x ∈ a.mem, x.2.size ≤ 30000 := fun x hx => by have := p2 x hx; omega
  have hmb : ∀ x ∈ b.mem, x.2.size ≤ 30000 := fun x hx => by have := p4 x hx; omega
  have hna : a.mem.length ≤ 1000000 := by omega
  have hnb : b.mem.length ≤ 1000000 := by omega
  have HA := Lib.hid (fun V (hV : Below w.heap.size w V) => alive13_any V (hT.below hV))
  have LA := fun V (hV : Below w.heap.size w V) => longl_any a.mem yo ycap hla V (hra.below hV)
  have LB := fun V (hV : Below w.heap.size w V) => longl_any b.mem zo zcap hlb V (hrb.below hV)
  obtain ⟨W0, hW0⟩ : ∃ V, V = (w.alloc (.cells (btC a (.slice yo a.mem.length ycap)) 26)).alloc (.cells (btC b (.slice zo b.mem.length zcap)) 26) := ⟨_, rfl⟩
  have g0 : BAt W0 w.heap.size a (.slice yo a.mem.length ycap) := by rw [hW0]; exact (bat_new _ _ _).below ((Below.refl _ _).alloc (Nat.le_refl _) _)
  have g1 : BAt W0 (w.heap.size + 1) b (.slice zo b.mem.length zcap) := by
    have h := bat_new (w.alloc (.cells (btC a (.slice yo a.mem.length ycap)) 26)) b (.slice zo b.mem.length zcap)
    rw [World.size_alloc] at h
    rw [hW0]; exact h
  have b0 : Below w.heap.size w W0 := by rw [hW0]; exact ((Below.refl _ _).alloc (Nat.le_refl _) _).alloc (by simp) _
  have GA := Lib.hid g0
  have GB := Lib.hid g1
  have BB := Lib.hid b0
  rw [ha] at LA
  rw [hb] at LB
  have HN := Lib.hid (fun V (hV : Below w.heap.size w V) => newt_any ⟨#[]⟩ V)
  have TA := fun p W1 (hS : SuiteT W1 p) V (hV : Below w.heap.size w V) (hb : Below W1.heap.size W1 V) => ptag13_t ⟨#[]⟩ a yo ycap hma hna p V (hra.below hV) (hS.below hb) (hT.below hV)
  have TB := fun p W1 (hS : SuiteT W1 p) V (hV : Below w.heap.size w V) (hb : Below W1.heap.size W1 V) => ptag13_t ⟨#[]⟩ b zo zcap hmb hnb p V (hrb.below hV) (hS.below hb) (hT.below hV)
  have FA := fun p W1 (hS : SuiteT W1 p) V (hV : Below w.heap.size w V) (hb : Below W1.heap.size W1 V) => pfits13_t ⟨#[]⟩ a yo ycap hma hna (tb (tagBt cry0 true (bl ⟨#[]⟩) b).1) p V (hra.below hV) (hS.below hb) (hT.below hV)
  have FB := fun p W1 (hS : SuiteT W1 p) V (hV : Below w.heap.size w V) (hb : Below W1.heap.size W1 V) => pfits13_t ⟨#[]⟩ b zo zcap hmb hnb (tb (tagBt cry0 true (bl ⟨#[]⟩) a).1) p V (hrb.below hV) (hS.below hb) (hT.below hV)
  generalize tagBt cry0 true (bl ⟨#[]⟩) a = T at *
  generalize tagBt cry0 true (bl ⟨#[]⟩) b = U at *
  obtain ⟨tr, te⟩ := T
  obtain ⟨ur, ue⟩ := U
  rw [st2_tb] at TA TB
  dsimp only at h1
  subst h1
  have k1 : ((ue : Int) != 0) = true := by rw [bne_iff_ne]; intro e; exact h2 (by show ue = 0; omega)
  clear h2
  generalize tb tr = rt at *
  generalize tb ur = ru at *
  obtain ⟨yc, ye, yq, yaud, ymem, yorg⟩ := a
  obtain ⟨zc, ze, zq, zaud, zmem, zorg⟩ := b
  dsimp only [btC] at *
  generalize ymem.length = yn at *
  generalize zmem.length = zn at *
  have HCA : Hid (∀ V, BAt V w.heap.size ⟨yc, ye, yq, yaud, ymem, yorg⟩ (.slice yo yn ycap) → V.cell? ⟨w.heap.size, 0, none⟩ = some (.int .i64 yc) ∧ V.cell? ⟨w.heap.size, 1, none⟩ = some (.int .i64 ye) ∧ V.cell? ⟨w.heap.size, 2, none⟩ = some (.int .i64 yq) ∧ V.cell? ⟨w.heap.size, 3, none⟩ = some (.int .i64 yaud) ∧ V.cell? ⟨w.heap.size, 4, none⟩ = some (.slice yo yn ycap) ∧ V.cell? ⟨w.heap.size, 5, none⟩ = some (.int .i64 yorg)) := Lib.hid (fun V h => h.cells)
  have HCB : Hid (∀ V, BAt V (w.heap.size + 1) ⟨zc, ze, zq, zaud, zmem, zorg⟩ (.slice zo zn zcap) → V.cell? ⟨w.heap.size + 1, 0, none⟩ = some (.int .i64 zc) ∧ V.cell? ⟨w.heap.size + 1, 1, none⟩ = some (.int .i64 ze) ∧ V.cell? ⟨w.heap.size + 1, 2, none⟩ = some (.int .i64 zq) ∧ V.cell? ⟨w.heap.size + 1, 3, none⟩ = some (.int .i64 zaud) ∧ V.cell? ⟨w.heap.size + 1, 4, none⟩ = some (.slice zo zn zcap) ∧ V.cell? ⟨w.heap.size + 1, 5, none⟩ = some (.int .i64 zorg)) := Lib.hid (fun V h => h.cells)
  obtain ⟨z0, z1, z2, z3, z4, z5⟩ := HCB.out _ GB.out
  rw [hW0] at z0 z1 z2 z3 z4 z5
  have HW0 := Lib.hid hW0
  have LA := Lib.hid LA
  have LB := Lib.hid LB
  have TA := Lib.hid TA
  have TB := Lib.hid TB
  have FA := Lib.hid FA
  have FB := Lib.hid FB
  clear hW0 g0 g1 b0 hT hra hrb hla hlb ha hb p1 p2 p3 p4 hma hmb hna hnb
  go_enter Tryz.func5, Tryz.ntmps5
  go_wp2_with fail
  rw [← HW0.out]
  refine (LA.out _ BB.out).mono ?_; rintro e1 V1 ⟨rfl, hw⟩; rw [hw]; clear hw V1
  clear z0 z1 z2 z3 z4 z5
  obtain ⟨z0, z1, z2, z3, z4, z5⟩ := HCB.out _ GB.out
  go_wp2_with fail
  refine (LB.out _ BB.out).mono ?_; rintro e1 V1 ⟨rfl, hw⟩; rw [hw]; clear hw V1
  clear z0 z1 z2 z3 z4 z5
  go_wp2_with fail
  refine (HN.out _ BB.out).mono ?_; rintro e2 W1 ⟨⟨p, rfl, hS⟩, b2⟩
  have TA := Lib.hid (TA.out p W1 hS)
  have TB := Lib.hid (TB.out p W1 hS)
  have FA := Lib.hid (FA.out p W1 hS)
  have FB := Lib.hid (FB.out p W1 hS)
  have GA := Lib.hid (GA.out.below b2)
  have GB := Lib.hid (GB.out.below b2)
  have BB := Lib.hid (below_step BB.out b2)
  have BS := Lib.hid (Below.refl W1.heap.size W1)
  clear hS b2 HN
  obtain ⟨y0, y1, y2, y3, y4, y5⟩ := HCA.out _ GA.out
  go_wp2_with fail
  clear y0 y1 y2 y3 y4 y5
  refine (TA.out _ BB.out BS.out).mono ?_; rintro e3 w3 ⟨rfl, b3⟩
  have GA := Lib.hid (GA.out.below b3)
  have GB := Lib.hid (GB.out.below b3)
  have BB := Lib.hid (below_step BB.out b3)
  have BS := Lib.hid (below_step BS.out b3)
  clear b3
  obtain ⟨z0, z1, z2, z3, z4, z5⟩ := HCB.out _ GB.out
  go_wp2_with fail
  clear z0 z1 z2 z3 z4 z5
  refine (TB.out _ BB.out BS.out).mono ?_; rintro e4 w4 ⟨rfl, b4⟩
  have GA := Lib.hid (GA.out.below b4)
  have GB := Lib.hid (GB.out.below b4)
  have BB := Lib.hid (below_step BB.out b4)
  have BS := Lib.hid (below_step BS.out b4)
  clear b4
  go_wp2_with fail
  refine (HA.out _ BB.out).mono ?_; rintro ez wz ⟨rfl, bz⟩
  have BB := Lib.hid (below_step BB.out bz)
  clear bz
  go_wp2_with fail
  go_ret
  exact ⟨rfl, BB.out⟩

theorem ballotapart_any (a b : Bt) (yo zo : Option Addr) (ycap zcap : Nat) (w : World) (hT : KeyTab w) (hra : MemRow w yo a.mem) (hrb : MemRow w zo b.mem) (hla : a.mem.length ≤ 9223372036854775807) (hlb : b.mem.length ≤ 9223372036854775807) :
    Calls Tryz.prog 5 #[.agg (btC a (.slice yo a.mem.length ycap)), .agg (btC b (.slice zo b.mem.length zcap))] w fun x w' => x = .returned (.bool true) ∧ Below w.heap.size w w' := by
  by_cases hl : longL a.mem = true ∨ longL b.mem = true
  · exact apart_long a b yo zo ycap zcap w hT hra hrb hla hlb hl
  · have hs : longL a.mem = false ∧ longL b.mem = false := by
      constructor
      · cases h : longL a.mem with
        | true => exact absurd (.inl h) hl
        | false => rfl
      · cases h : longL b.mem with
        | true => exact absurd (.inr h) hl
        | false => rfl
    by_cases h1 : (tagBt cry0 true (bl ⟨#[]⟩) a).2 = 0
    · by_cases h2 : (tagBt cry0 true (bl ⟨#[]⟩) b).2 = 0
      · exact apart_ok a b yo zo ycap zcap w hT hra hrb hla hlb hs h1 h2
      · exact apart_no1 a b yo zo ycap zcap w hT hra hrb hla hlb hs h1 h2
    · exact apart_no0 a b yo zo ycap zcap w hT hra hrb hla hlb hs h1
end Go.Proofs.YtbdlegjklfkdmaaGreatDoor.Pl
