/- The program's own ballot: Check, Digest, Body. -/
import Derived.Test.YtbdlegjklfkdmaaGreatDoorBallC43
import Derived.Test.YtbdlegjklfkdmaaGreatDoorBallC40
import Derived.Test.YtbdlegjklfkdmaaGreatDoorBallC34
import Derived.Test.YtbdlegjklfkdmaaGreatDoorBallC35
import Derived.Test.YtbdlegjklfkdmaaGreatDoorBallC30
import Derived.Test.YtbdlegjklfkdmaaGreatDoorBallC32
import Derived.Test.YtbdlegjklfkdmaaGreatDoorBallC4
namespace Go.Proofs.YtbdlegjklfkdmaaGreatDoor.Pl
open Go.RowKit

theorem str_eq13 (a b : ByteArray) : (a.toList == b.toList) = decide (a = b) := by
  rw [Lib.toList_data, Lib.toList_data]
  by_cases h : a = b
  · subst h; simp
  · rw [decide_eq_false h]
    exact beq_eq_false_iff_ne.2 (fun e => h (ByteArray.ext (Array.ext' e)))
theorem sure13_any (t : ByteArray) (c : Int) (w : World) : Calls Tryz.prog 26 #[.string t, .int .i64 c] w fun x w' => x = .returned (.string t) ∧ w' = w := by
  go_enter Tryz.func26, Tryz.ntmps26
  go_wp2_with fail
  go_ret
  exact ⟨rfl, rfl⟩
set_option maxRecDepth 100000 in
theorem head13_any (w : World) : Calls Tryz.prog 43 #[] w fun x w' => x = .returned (.string (tb (dataP ballotW).1)) ∧ Below w.heap.size w w' := by
  have HD := data6_any (tb ballotW) (by decide) w
  rw [bl_tb, (data_read (x := ballotW) (by decide)).1, show st2 (100 :: txt ballotW, 0) = .tuple #[.string (tb (100 :: txt ballotW)), .int .i64 0] from rfl, show tb ballotW = ⟨#[98, 97, 108, 108, 111, 116]⟩ from rfl] at HD
  rw [(data_read (x := ballotW) (by decide)).1]
  have HD := Lib.hid HD
  dsimp only
  generalize tb (100 :: txt ballotW) = y at *
  go_enter Tryz.func43, Tryz.ntmps43
  go_wp2_with (first | (go_at_call 73; refine HD.out.mono ?_; rintro e w1 ⟨rfl, b1⟩) | (go_at_call 26; refine (sure13_any _ _ _).mono ?_; rintro e w2 ⟨rfl, rfl⟩))
  go_ret
  exact ⟨rfl, b1⟩
theorem head13_size : (tb (dataP ballotW).1).size ≤ 100 := by
  rw [(data_read (x := ballotW) (by decide)).1]
  decide
theorem txt_four13 (V : World) (x y z u : ByteArray) : TxtRow (V.alloc (.cells #[.string x, .string y, .string z, .string u] 9)) (some ⟨V.heap.size, 0, none⟩) [x, y, z, u] := by
  have h := Go.heap_alloc_new V (.cells #[.string x, .string y, .string z, .string u] 9)
  refine .inr ⟨V.heap.size, 0, rfl, by simp, fun j hj => ?_⟩
  have : j = 0 ∨ j = 1 ∨ j = 2 ∨ j = 3 := by simp at hj; omega
  rcases this with rfl | rfl | rfl | rfl <;> exact cell_of_row _ _ _ _ _ _ h
theorem app_grown13 {w V w' : World} {v : Value} {l : List ByteArray} {o : Obj} (hB : Below w.heap.size w V) (hown : OwnT (V.alloc o) V.heap.size v l) (hg : (V.alloc o).grownBy w' v.ownBlock) : Below w.heap.size w w' :=
  (hB.alloc hB.size o).grown hg (by rw [World.size_alloc]; have := hB.size; omega) (fun k e => Nat.le_trans hB.size (ownT_blk hown k e))
set_option maxHeartbeats 2000000 in
set_option maxRecDepth 100000 in
theorem body13_any (x y z u : ByteArray) (hx : x.size ≤ 16384) (hy : y.size ≤ 16384) (hz : z.size ≤ 16384) (hu : u.size ≤ 16384) (ad : Addr) (w : World) (hrow : TxtRow w (some ad) [x, y, z, u]) :
    Calls Tryz.prog 25 #[.slice (some ad) 4 4] w fun e w' => e = .returned (st2 (rowP [(dataP ballotW).1, bl x, bl y, bl z, bl u])) ∧ Below w.heap.size w w' := by
  have HH := Lib.hid (fun V => head13_any V)
  have hs := head13_size
  obtain ⟨h, hh⟩ : ∃ h, h = tb (dataP ballotW).1 := ⟨_, rfl⟩
  have HR : Hid (∀ oo cap V, 5 ≤ cap → TxtRow V oo ([h] ++ [x, y, z, u]) → Calls Tryz.prog 70 #[.slice oo 5 cap] V fun e w' => e = .returned (st2 (rowP [(dataP ballotW).1, bl x, bl y, bl z, bl u])) ∧ Below V.heap.size V w') := Lib.hid (fun oo cap V hc hr => by
    have k := row6_any ([h] ++ [x, y, z, u]) oo cap hc (by simp) (fun v hv => by
      simp only [List.cons_append, List.nil_append, List.mem_cons, List.not_mem_nil, or_false] at hv
      rcases hv with rfl | rfl | rfl | rfl | rfl <;> first | omega | (rw [hh]; omega)) V hr
    rw [show ([h] ++ [x, y, z, u] : List ByteArray).map bl = [(dataP ballotW).1, bl x, bl y, bl z, bl u] from by rw [hh]; simp only [List.cons_append, List.nil_append, List.map_cons, List.map_nil, bl_tb]] at k
    exact k)
  rw [← hh] at HH
  obtain ⟨R, hR⟩ : ∃ R, R = rowP [(dataP ballotW).1, bl x, bl y, bl z, bl u] := ⟨_, rfl⟩
  rw [← hR] at HR ⊢
  obtain ⟨r, c⟩ := R
  rw [show st2 (r, c) = .tuple #[.string (tb r), .int .i64 c] from rfl] at HR ⊢
  have HROW := Lib.hid (fun V (hV : Below w.heap.size w V) => hrow.below hV)
  clear hx hy hz hu hs hh hR hrow
  go_enter Tryz.func25, Tryz.ntmps25
  go_wp2_with fail
  refine (HH.out _).mono ?_; rintro e1 w1 ⟨rfl, b1⟩
  have B1 := Lib.hid b1
  clear b1
  go_wp2_with (at_builtin; refine wpList_appT (B := w1.heap.size) (v := .slice (some ⟨w1.heap.size, 0, none⟩) 1 1) (l := [h]) (m := [x, y, z, u]) (ao := some ad) (cap := 4) rfl _ _ rfl rfl rfl rfl (ownT_one w1 h) (by simp) (HROW.out _ (B1.out.alloc B1.out.size _)) (fun e => by cases e) (by simp) ?_; intro v3 w3 ho hg; have b3 := Lib.hid (app_grown13 B1.out (ownT_one w1 h) hg); obtain ⟨oo, c3, rfl, hc3, hr3, -⟩ := own_shape12 ho; have HR3 := Lib.hid (HR.out oo c3 w3 hc3 hr3); clear ho hg hc3 hr3)
  refine HR3.out.mono ?_; rintro e4 w4 ⟨rfl, b4⟩
  have B4 := Lib.hid (below_step b3.out b4)
  clear b4
  go_wp2_with fail
  go_ret2
  exact ⟨rfl, B4.out⟩

set_option maxHeartbeats 8000000 in
set_option maxRecDepth 100000 in
theorem pcheck13_any (b : Bt) (ao : Option Addr) (cap : Nat) (hms : ∀ x ∈ b.mem, x.2.size ≤ 30000) (hml : b.mem.length ≤ 1000000) (w : World) (hrow : MemRow w ao b.mem) :
    Calls Tryz.prog 10 #[.agg (btC b (.slice ao b.mem.length cap))] w fun x w' => x = .returned (.int .i64 (if mayBt b then 0 else 2)) ∧ Below w.heap.size w w' := by
  have HV := fun V (hV : Below w.heap.size w V) => voter_any b ao cap hms hml V (hrow.below hV)
  have hz := voter_may b
  obtain ⟨W0, hW0⟩ : ∃ V, V = w.alloc (.cells (btC b (.slice ao b.mem.length cap)) 26) := ⟨_, rfl⟩
  have B0 := Lib.hid (show Below w.heap.size w W0 from hW0 ▸ (Below.refl _ _).alloc (Nat.le_refl _) _)
  generalize mayBt b = my at *
  generalize voterP b = R at *
  obtain ⟨c, e, q, aud, mem, org⟩ := b
  dsimp only [btC] at *
  generalize mem.length = n at *
  obtain ⟨⟨o1, d1⟩, z⟩ := R
  dsimp only at *
  subst hz
  have HV := Lib.hid HV
  have HW0 := Lib.hid hW0
  clear hW0 hrow hms hml
  cases z with
  | true =>
    go_enter Tryz.func10, Tryz.ntmps10
    go_wp2_with fail
    rw [← HW0.out]
    refine (HV.out _ B0.out).mono ?_; rintro e1 w1 ⟨rfl, b1⟩
    have B1 := Lib.hid (below_step B0.out b1)
    clear b1
    go_wp2_with fail
    go_ret
    exact ⟨rfl, B1.out.alloc B1.out.size _⟩
  | false =>
    go_enter Tryz.func10, Tryz.ntmps10
    go_wp2_with fail
    rw [← HW0.out]
    refine (HV.out _ B0.out).mono ?_; rintro e1 w1 ⟨rfl, b1⟩
    have B1 := Lib.hid (below_step B0.out b1)
    clear b1
    go_wp2_with fail
    go_ret
    exact ⟨rfl, B1.out.alloc B1.out.size _⟩

set_option maxHeartbeats 8000000 in
set_option maxRecDepth 100000 in
theorem pbody13_any (b : Bt) (ao : Option Addr) (cap : Nat) (hms : ∀ x ∈ b.mem, x.2.size ≤ 30000) (hml : b.mem.length ≤ 1000000) (w : World) (hrow : MemRow w ao b.mem) :
    Calls Tryz.prog 8 #[.agg (btC b (.slice ao b.mem.length cap))] w fun x w' => x = .returned (st2 (bodyP b)) ∧ Below w.heap.size w w' := by
  have HM := fun V (hV : Below w.heap.size w V) => pcheck13_any b ao cap hms hml V (hrow.below hV)
  have HT := fun V => txn12x_any b.c b.e b.q V
  have HL := fun V (hV : Below w.heap.size w V) => members12x_any b.c b.e b.q b.mem ao cap hms (by omega) V (hrow.below hV)
  obtain ⟨W0, hW0⟩ : ∃ V, V = w.alloc (.cells (btC b (.slice ao b.mem.length cap)) 26) := ⟨_, rfl⟩
  have g0 : BAt W0 w.heap.size b (.slice ao b.mem.length cap) := by rw [hW0]; exact bat_new _ _ _
  have b0 : Below w.heap.size w W0 := by rw [hW0]; exact (Below.refl _ _).alloc (Nat.le_refl _) _
  have hz : bodyP b = if mayBt b = false then ([], 2) else if (membersT b.mem).2 ≠ 0 then ([], 5) else rowP (bodyL b) := rfl
  obtain ⟨rs, hrs⟩ : ∃ x, x = tb (bodyP b).1 := ⟨_, rfl⟩
  obtain ⟨re, hre⟩ : ∃ x, x = (bodyP b).2 := ⟨_, rfl⟩
  rw [show st2 (bodyP b) = .tuple #[.string (tb (bodyP b).1), .int .i64 ((bodyP b).2 : Nat)] from rfl, ← hrs, ← hre]
  have GG := Lib.hid g0
  have BB := Lib.hid b0
  have HW0 := Lib.hid hW0
  clear hW0 g0 b0
  cases hm : mayBt b with
  | false =>
    rw [hm] at HM
    rw [hm, if_pos rfl] at hz
    rw [hz] at hrs hre
    subst hrs; subst hre
    simp only [Bool.false_eq_true, if_false] at HM
    have HM := Lib.hid HM
    clear HL HT hz hm hrow hms hml
    obtain ⟨c, e, q, aud, mem, org⟩ := b
    dsimp only [btC] at *
    generalize mem.length = n at *
    go_enter Tryz.func8, Tryz.ntmps8
    go_wp2_with fail
    rw [← HW0.out]
    refine (HM.out _ BB.out).mono ?_; rintro e1 w1 ⟨rfl, b1⟩
    go_wp2_with fail
    go_ret2
    exact ⟨rfl, below_step BB.out b1⟩
  | true =>
    rw [hm] at HM
    rw [hm, if_neg (by simp)] at hz
    simp only [if_true] at HM
    obtain ⟨hx, ho, hl, -⟩ := mayBt_iff.1 hm
    have hio := orgP_iff.1 ho
    have hig := orgP_iff.1 (mayBt_org hm)
    rw [show txP b.c b.e b.q = (txnT b.c b.e b.q, 0) from if_pos hx, show st2 (txnT b.c b.e b.q, 0) = .tuple #[.string (tb (txnT b.c b.e b.q)), .int .i64 0] from rfl] at HT
    rw [show mtP b.c b.mem = if (membersT b.mem).2 = 0 then ((membersT b.mem).1, 0) else ([], 5) by unfold mtP; rw [if_pos hl]] at HL
    have HN1 := fun V => num12_any b.aud (by omega) (by omega) V
    have HN2 := fun V => num12_any b.org (by omega) (by omega) V
    have hns1 := numT_size (v := b.aud) hio.1 (by omega)
    have hns2 := numT_size (v := b.org) hig.1 (by omega)
    have hxs : (tb (txnT b.c b.e b.q)).size ≤ 16384 := by have := rowP_size (txnL b.c b.e b.q); unfold tb; rw [size_lit]; exact this
    by_cases h5 : (membersT b.mem).2 = 0
    · rw [if_pos h5, show st2 ((membersT b.mem).1, 0) = .tuple #[.string (tb (membersT b.mem).1), .int .i64 0] from rfl] at HL
      rw [if_neg (by simp [h5])] at hz
      have hmz : (tb (membersT b.mem).1).size ≤ 16384 := by
        have h := rowP_size (b.mem.map fun m => (memT m).1)
        rw [(membersT_is h5).2] at h
        unfold tb; rw [size_lit]; exact h
      have HR : ∀ ad V, TxtRow V (some ad) [tb (txnT b.c b.e b.q), numT b.aud, tb (membersT b.mem).1, numT b.org] → Calls Tryz.prog 25 #[.slice (some ad) 4 4] V fun x w2 => x = .returned (.tuple #[.string rs, .int .i64 (re : Nat)]) ∧ Below V.heap.size V w2 := fun ad V hV => by
        have h := body13_any (tb (txnT b.c b.e b.q)) (numT b.aud) (tb (membersT b.mem).1) (numT b.org) hxs (by omega) hmz (by omega) ad V hV
        rw [show [(dataP ballotW).1, bl (tb (txnT b.c b.e b.q)), bl (numT b.aud), bl (tb (membersT b.mem).1), bl (numT b.org)] = bodyL b from by unfold bodyL numT; simp only [bl_tb], ← hz, show st2 (bodyP b) = .tuple #[.string (tb (bodyP b).1), .int .i64 ((bodyP b).2 : Nat)] from rfl, ← hrs, ← hre] at h
        exact h
      clear hz hrs hre hm hx ho hl hio hig hns1 hns2 hxs hmz h5 hrow hms hml
      obtain ⟨c, e, q, aud, mem, org⟩ := b
      dsimp only [btC] at *
      generalize tb (txnT c e q) = tx at *
      generalize tb (membersT mem).1 = mt at *
      generalize numT aud = na at *
      generalize numT org = no at *
      generalize mem.length = n at *
      have HCE : Hid (∀ V, BAt V w.heap.size ⟨c, e, q, aud, mem, org⟩ (.slice ao n cap) → V.cell? ⟨w.heap.size, 0, none⟩ = some (.int .i64 c) ∧ V.cell? ⟨w.heap.size, 1, none⟩ = some (.int .i64 e) ∧ V.cell? ⟨w.heap.size, 2, none⟩ = some (.int .i64 q) ∧ V.cell? ⟨w.heap.size, 3, none⟩ = some (.int .i64 aud) ∧ V.cell? ⟨w.heap.size, 4, none⟩ = some (.slice ao n cap) ∧ V.cell? ⟨w.heap.size, 5, none⟩ = some (.int .i64 org)) := Lib.hid (fun V h => h.cells)
      have HM := Lib.hid HM
      have HT := Lib.hid HT
      have HL := Lib.hid HL
      have HN1 := Lib.hid HN1
      have HN2 := Lib.hid HN2
      have HR := Lib.hid HR
      go_enter Tryz.func8, Tryz.ntmps8
      go_wp2_with fail
      rw [← HW0.out]
      refine (HM.out _ BB.out).mono ?_; rintro e1 w1 ⟨rfl, b1⟩
      have GG := Lib.hid (GG.out.below b1)
      have BB := Lib.hid (below_step BB.out b1)
      clear b1
      obtain ⟨z0, z1, z2, z3, z4, z5⟩ := HCE.out _ GG.out
      go_wp2_with fail
      refine (HL.out _ BB.out).mono ?_; rintro e4 w4 ⟨rfl, b4⟩
      have GG := Lib.hid (GG.out.below b4)
      have BB := Lib.hid (below_step BB.out b4)
      clear b4
      clear z0 z1 z2 z3 z4 z5
      go_wp2_with fail
      have GG := Lib.hid (GG.out.below (drew12 w4))
      have BB := Lib.hid (below_step BB.out (drew12 w4))
      have KS := HCE.out _ GG.out
      refine wp_region_held_drew (S := fun W => W.cell? ⟨w.heap.size, 0, none⟩ = some (.int .i64 c) ∧ W.cell? ⟨w.heap.size, 1, none⟩ = some (.int .i64 e) ∧ W.cell? ⟨w.heap.size, 2, none⟩ = some (.int .i64 q) ∧ W.cell? ⟨w.heap.size, 3, none⟩ = some (.int .i64 aud) ∧ W.cell? ⟨w.heap.size, 4, none⟩ = some (.slice ao n cap) ∧ W.cell? ⟨w.heap.size, 5, none⟩ = some (.int .i64 org)) (by kernel_rfl) (by first | assumption | exact KS) (fun hHeld => ?_)
      generalize w4.drew = wz at *
      refine wpAnyH_take (i := 0) (oi := { dst := some 23, op := Op.fieldAddr 26 (Operand.tmp 1) 0, type := 0, pos := "ballot.go:79", after := #[], guard := none }) (v := ?_) rfl (by kernel_rfl) (by kernel_rfl) (by kernel_rfl) (fun _ _ _ h => h) (Or.inl ⟨by rfl, ?_⟩) (by assumption) ?_
      rotate_left 1
      · (intro w hSw; (try dsimp only at hSw); go_simp; try with_reducible rfl)
      (try simp only [Act.put, List.setIfInBounds_toArray, List.set_cons_zero, List.set_cons_succ])
      refine wpAnyH_take (i := 1) (oi := { dst := some 24, op := Op.load 23 (Operand.tmp 23), type := 23, pos := "ballot.go:79", after := #[{ on := 0, ground := Ground.data }], guard := none }) (v := ?_) rfl (by kernel_rfl) (by kernel_rfl) (by kernel_rfl) (fun _ _ _ h => h) (Or.inl ⟨by rfl, ?_⟩) (by assumption) ?_
      rotate_left 1
      · (intro w hSw; (try dsimp only at hSw); go_simp; try with_reducible rfl)
      (try simp only [Act.put, List.setIfInBounds_toArray, List.set_cons_zero, List.set_cons_succ])
      refine wpAnyH_take (i := 6) (oi := { dst := some 29, op := Op.fieldAddr 26 (Operand.tmp 1) 1, type := 0, pos := "ballot.go:79", after := #[], guard := none }) (v := ?_) rfl (by kernel_rfl) (by kernel_rfl) (by kernel_rfl) (fun _ _ _ h => h) (Or.inl ⟨by rfl, ?_⟩) (by assumption) ?_
      rotate_left 1
      · (intro w hSw; (try dsimp only at hSw); go_simp; try with_reducible rfl)
      (try simp only [Act.put, List.setIfInBounds_toArray, List.set_cons_zero, List.set_cons_succ])
      refine wpAnyH_take (i := 7) (oi := { dst := some 30, op := Op.load 3 (Operand.tmp 29), type := 3, pos := "ballot.go:79", after := #[{ on := 6, ground := Ground.data }], guard := none }) (v := ?_) rfl (by kernel_rfl) (by kernel_rfl) (by kernel_rfl) (fun _ _ _ h => h) (Or.inl ⟨by rfl, ?_⟩) (by assumption) ?_
      rotate_left 1
      · (intro w hSw; (try dsimp only at hSw); go_simp; try with_reducible rfl)
      (try simp only [Act.put, List.setIfInBounds_toArray, List.set_cons_zero, List.set_cons_succ])
      refine wpAnyH_take (i := 12) (oi := { dst := some 35, op := Op.move (Operand.tmp 5), type := 9, pos := "ballot.go:79", after := #[], guard := none }) (v := ?_) rfl (by kernel_rfl) (by kernel_rfl) (by kernel_rfl) (fun _ _ _ h => h) (Or.inl ⟨by rfl, ?_⟩) (by assumption) ?_
      rotate_left 1
      · (intro w hSw; (try dsimp only at hSw); go_simp; try with_reducible rfl)
      (try simp only [Act.put, List.setIfInBounds_toArray, List.set_cons_zero, List.set_cons_succ])
      refine wpAnyH_take (i := 13) (oi := { dst := some 36, op := Op.fieldAddr 26 (Operand.tmp 1) 3, type := 0, pos := "ballot.go:79", after := #[], guard := none }) (v := ?_) rfl (by kernel_rfl) (by kernel_rfl) (by kernel_rfl) (fun _ _ _ h => h) (Or.inl ⟨by rfl, ?_⟩) (by assumption) ?_
      rotate_left 1
      · (intro w hSw; (try dsimp only at hSw); go_simp; try with_reducible rfl)
      (try simp only [Act.put, List.setIfInBounds_toArray, List.set_cons_zero, List.set_cons_succ])
      refine wpAnyH_take (i := 14) (oi := { dst := some 37, op := Op.load 3 (Operand.tmp 36), type := 3, pos := "ballot.go:79", after := #[{ on := 13, ground := Ground.data }], guard := none }) (v := ?_) rfl (by kernel_rfl) (by kernel_rfl) (by kernel_rfl) (fun _ _ _ h => h) (Or.inl ⟨by rfl, ?_⟩) (by assumption) ?_
      rotate_left 1
      · (intro w hSw; (try dsimp only at hSw); go_simp; try with_reducible rfl)
      (try simp only [Act.put, List.setIfInBounds_toArray, List.set_cons_zero, List.set_cons_succ])
      refine wpAnyH_ready (rs := [2]) (by kernel_rfl) (by simp) ?_
      refine AllReadyH.cons (o := { dst := some 25, op := Op.call { callee := Callee.value (Operand.func 27), args := #[Operand.tmp 24], argTypes := #[23] }, type := 30, pos := "ballot.go:79", after := #[{ on := 1, ground := Ground.data }], guard := none }) rfl (fun K hK => ?_) AllReadyH.nil
      go_simp
      refine (HT.out _).mono ?_; rintro e5 w5 ⟨rfl, b5⟩
      have GG := Lib.hid (GG.out.below b5)
      have BB := Lib.hid (below_step BB.out b5)
      clear b5
      refine hK.out _ _ (HCE.out _ GG.out) (fun hHeld => ?_)
      clear hK K
      (try simp only [Act.put, List.setIfInBounds_toArray, List.set_cons_zero, List.set_cons_succ])
      refine wpAnyH_take (i := 3) (oi := { dst := some 26, op := Op.extract (Operand.tmp 25) 0, type := 9, pos := "ballot.go:79", after := #[{ on := 2, ground := Ground.data }], guard := none }) (v := ?_) rfl (by kernel_rfl) (by kernel_rfl) (by kernel_rfl) (fun _ _ _ h => h) (Or.inl ⟨by rfl, ?_⟩) (by assumption) ?_
      rotate_left 1
      · (intro w hSw; (try dsimp only at hSw); go_simp; try with_reducible rfl)
      (try simp only [Act.put, List.setIfInBounds_toArray, List.set_cons_zero, List.set_cons_succ])
      refine wpAnyH_take (i := 4) (oi := { dst := some 27, op := Op.extract (Operand.tmp 25) 1, type := 29, pos := "ballot.go:79", after := #[{ on := 2, ground := Ground.data }], guard := none }) (v := ?_) rfl (by kernel_rfl) (by kernel_rfl) (by kernel_rfl) (fun _ _ _ h => h) (Or.inl ⟨by rfl, ?_⟩) (by assumption) ?_
      rotate_left 1
      · (intro w hSw; (try dsimp only at hSw); go_simp; try with_reducible rfl)
      (try simp only [Act.put, List.setIfInBounds_toArray, List.set_cons_zero, List.set_cons_succ])
      refine wpAnyH_ready (rs := [5]) (by kernel_rfl) (by simp) ?_
      refine AllReadyH.cons (o := { dst := some 28, op := Op.call { callee := Callee.value (Operand.func 26), args := #[Operand.tmp 26, Operand.tmp 27], argTypes := #[9, 29] }, type := 9, pos := "ballot.go:79", after := #[{ on := 3, ground := Ground.data }, { on := 4, ground := Ground.data }, { on := 2, ground := Ground.chain }], guard := none }) rfl (fun K hK => ?_) AllReadyH.nil
      go_simp
      refine (sure13_any _ _ _).mono ?_; rintro e6 w6 ⟨rfl, hw6⟩; rw [hw6]; clear hw6 w6
      refine hK.out _ _ (HCE.out _ GG.out) (fun hHeld => ?_)
      clear hK K
      (try simp only [Act.put, List.setIfInBounds_toArray, List.set_cons_zero, List.set_cons_succ])
      refine wpAnyH_ready (rs := [8]) (by kernel_rfl) (by simp) ?_
      refine AllReadyH.cons (o := { dst := some 31, op := Op.call { callee := Callee.value (Operand.func 28), args := #[Operand.tmp 30], argTypes := #[3] }, type := 30, pos := "ballot.go:79", after := #[{ on := 7, ground := Ground.data }, { on := 5, ground := Ground.chain }], guard := none }) rfl (fun K hK => ?_) AllReadyH.nil
      go_simp
      refine (HN1.out _).mono ?_; rintro e7 w7 ⟨rfl, b7⟩
      have GG := Lib.hid (GG.out.below b7)
      have BB := Lib.hid (below_step BB.out b7)
      clear b7
      refine hK.out _ _ (HCE.out _ GG.out) (fun hHeld => ?_)
      clear hK K
      (try simp only [Act.put, List.setIfInBounds_toArray, List.set_cons_zero, List.set_cons_succ])
      refine wpAnyH_take (i := 9) (oi := { dst := some 32, op := Op.extract (Operand.tmp 31) 0, type := 9, pos := "ballot.go:79", after := #[{ on := 8, ground := Ground.data }], guard := none }) (v := ?_) rfl (by kernel_rfl) (by kernel_rfl) (by kernel_rfl) (fun _ _ _ h => h) (Or.inl ⟨by rfl, ?_⟩) (by assumption) ?_
      rotate_left 1
      · (intro w hSw; (try dsimp only at hSw); go_simp; try with_reducible rfl)
      (try simp only [Act.put, List.setIfInBounds_toArray, List.set_cons_zero, List.set_cons_succ])
      refine wpAnyH_take (i := 10) (oi := { dst := some 33, op := Op.extract (Operand.tmp 31) 1, type := 29, pos := "ballot.go:79", after := #[{ on := 8, ground := Ground.data }], guard := none }) (v := ?_) rfl (by kernel_rfl) (by kernel_rfl) (by kernel_rfl) (fun _ _ _ h => h) (Or.inl ⟨by rfl, ?_⟩) (by assumption) ?_
      rotate_left 1
      · (intro w hSw; (try dsimp only at hSw); go_simp; try with_reducible rfl)
      (try simp only [Act.put, List.setIfInBounds_toArray, List.set_cons_zero, List.set_cons_succ])
      refine wpAnyH_ready (rs := [11]) (by kernel_rfl) (by simp) ?_
      refine AllReadyH.cons (o := { dst := some 34, op := Op.call { callee := Callee.value (Operand.func 26), args := #[Operand.tmp 32, Operand.tmp 33], argTypes := #[9, 29] }, type := 9, pos := "ballot.go:79", after := #[{ on := 9, ground := Ground.data }, { on := 10, ground := Ground.data }, { on := 8, ground := Ground.chain }], guard := none }) rfl (fun K hK => ?_) AllReadyH.nil
      go_simp
      refine (sure13_any _ _ _).mono ?_; rintro e6 w6 ⟨rfl, hw6⟩; rw [hw6]; clear hw6 w6
      refine hK.out _ _ (HCE.out _ GG.out) (fun hHeld => ?_)
      clear hK K
      (try simp only [Act.put, List.setIfInBounds_toArray, List.set_cons_zero, List.set_cons_succ])
      refine wpAnyH_ready (rs := [15]) (by kernel_rfl) (by simp) ?_
      refine AllReadyH.cons (o := { dst := some 38, op := Op.call { callee := Callee.value (Operand.func 28), args := #[Operand.tmp 37], argTypes := #[3] }, type := 30, pos := "ballot.go:79", after := #[{ on := 14, ground := Ground.data }, { on := 11, ground := Ground.chain }], guard := none }) rfl (fun K hK => ?_) AllReadyH.nil
      go_simp
      refine (HN2.out _).mono ?_; rintro e8 w8 ⟨rfl, b8⟩
      have GG := Lib.hid (GG.out.below b8)
      have BB := Lib.hid (below_step BB.out b8)
      clear b8
      refine hK.out _ _ (HCE.out _ GG.out) (fun hHeld => ?_)
      clear hK K
      (try simp only [Act.put, List.setIfInBounds_toArray, List.set_cons_zero, List.set_cons_succ])
      refine wpAnyH_take (i := 16) (oi := { dst := some 39, op := Op.extract (Operand.tmp 38) 0, type := 9, pos := "ballot.go:79", after := #[{ on := 15, ground := Ground.data }], guard := none }) (v := ?_) rfl (by kernel_rfl) (by kernel_rfl) (by kernel_rfl) (fun _ _ _ h => h) (Or.inl ⟨by rfl, ?_⟩) (by assumption) ?_
      rotate_left 1
      · (intro w hSw; (try dsimp only at hSw); go_simp; try with_reducible rfl)
      (try simp only [Act.put, List.setIfInBounds_toArray, List.set_cons_zero, List.set_cons_succ])
      refine wpAnyH_take (i := 17) (oi := { dst := some 40, op := Op.extract (Operand.tmp 38) 1, type := 29, pos := "ballot.go:79", after := #[{ on := 15, ground := Ground.data }], guard := none }) (v := ?_) rfl (by kernel_rfl) (by kernel_rfl) (by kernel_rfl) (fun _ _ _ h => h) (Or.inl ⟨by rfl, ?_⟩) (by assumption) ?_
      rotate_left 1
      · (intro w hSw; (try dsimp only at hSw); go_simp; try with_reducible rfl)
      (try simp only [Act.put, List.setIfInBounds_toArray, List.set_cons_zero, List.set_cons_succ])
      refine wpAnyH_ready (rs := [18]) (by kernel_rfl) (by simp) ?_
      refine AllReadyH.cons (o := { dst := some 41, op := Op.call { callee := Callee.value (Operand.func 26), args := #[Operand.tmp 39, Operand.tmp 40], argTypes := #[9, 29] }, type := 9, pos := "ballot.go:79", after := #[{ on := 16, ground := Ground.data }, { on := 17, ground := Ground.data }, { on := 15, ground := Ground.chain }], guard := none }) rfl (fun K hK => ?_) AllReadyH.nil
      go_simp
      refine (sure13_any _ _ _).mono ?_; rintro e6 w6 ⟨rfl, hw6⟩; rw [hw6]; clear hw6 w6
      refine hK.out _ _ (HCE.out _ GG.out) (fun hHeld => ?_)
      clear hK K
      (try simp only [Act.put, List.setIfInBounds_toArray, List.set_cons_zero, List.set_cons_succ])
      refine wpAnyH_ready (rs := [19]) (by kernel_rfl) (by simp) ?_
      refine AllReadyH.cons (o := { dst := some 42, op := Op.buildSlice 53 4 #[(0, Operand.tmp 28), (1, Operand.tmp 34), (2, Operand.tmp 35), (3, Operand.tmp 41)], type := 53, pos := "ballot.go:79", after := #[{ on := 5, ground := Ground.data }, { on := 11, ground := Ground.data }, { on := 12, ground := Ground.data }, { on := 18, ground := Ground.data }], guard := none }) rfl (fun K hK => ?_) AllReadyH.nil
      go_simp
      obtain ⟨W9, hW9⟩ : ∃ V, V = w8.alloc (.cells #[.string tx, .string na, .string mt, .string no] 9) := ⟨_, rfl⟩
      have b9 : Below w8.heap.size w8 W9 := by rw [hW9]; exact (Below.refl _ _).alloc (Nat.le_refl _) _
      have T4 := Lib.hid (show TxtRow W9 (some ⟨w8.heap.size, 0, none⟩) [tx, na, mt, no] from hW9 ▸ txt_four13 w8 tx na mt no)
      have GG := Lib.hid (GG.out.below b9)
      have BB := Lib.hid (below_step BB.out b9)
      rw [← hW9]
      clear b9 hW9
      refine hK.out _ _ (HCE.out _ GG.out) (fun hHeld => ?_)
      clear hK K
      (try simp only [Act.put, List.setIfInBounds_toArray, List.set_cons_zero, List.set_cons_succ])
      refine wpAnyH_ready (rs := [20]) (by kernel_rfl) (by simp) ?_
      refine AllReadyH.cons (o := { dst := some 43, op := Op.call { callee := Callee.value (Operand.func 25), args := #[Operand.tmp 42], argTypes := #[53] }, type := 30, pos := "ballot.go:79", after := #[{ on := 19, ground := Ground.data }, { on := 18, ground := Ground.chain }], guard := none }) rfl (fun K hK => ?_) AllReadyH.nil
      go_simp
      refine (HR.out _ _ T4.out).mono ?_; rintro ea wa ⟨rfl, ba⟩
      have GG := Lib.hid (GG.out.below ba)
      have BB := Lib.hid (below_step BB.out ba)
      clear ba
      refine hK.out _ _ (HCE.out _ GG.out) (fun hHeld => ?_)
      clear hK K
      (try simp only [Act.put, List.setIfInBounds_toArray, List.set_cons_zero, List.set_cons_succ])
      refine wpAnyH_take (i := 21) (oi := { dst := some 44, op := Op.extract (Operand.tmp 43) 0, type := 9, pos := "ballot.go:79", after := #[{ on := 20, ground := Ground.data }], guard := none }) (v := ?_) rfl (by kernel_rfl) (by kernel_rfl) (by kernel_rfl) (fun _ _ _ h => h) (Or.inl ⟨by rfl, ?_⟩) (by assumption) ?_
      rotate_left 1
      · (intro w hSw; (try dsimp only at hSw); go_simp; try with_reducible rfl)
      (try simp only [Act.put, List.setIfInBounds_toArray, List.set_cons_zero, List.set_cons_succ])
      refine wpAnyH_take (i := 22) (oi := { dst := some 45, op := Op.extract (Operand.tmp 43) 1, type := 29, pos := "ballot.go:79", after := #[{ on := 20, ground := Ground.data }], guard := none }) (v := ?_) rfl (by kernel_rfl) (by kernel_rfl) (by kernel_rfl) (fun _ _ _ h => h) (Or.inl ⟨by rfl, ?_⟩) (by assumption) ?_
      rotate_left 1
      · (intro w hSw; (try dsimp only at hSw); go_simp; try with_reducible rfl)
      (try simp only [Act.put, List.setIfInBounds_toArray, List.set_cons_zero, List.set_cons_succ])
      refine wpAnyH_take (i := 23) (oi := { dst := some 2, op := Op.assign (Operand.tmp 44), type := 9, pos := "ballot.go:79", after := #[{ on := 21, ground := Ground.data }, { on := 20, ground := Ground.chain }, { on := 0, ground := Ground.phase }, { on := 1, ground := Ground.phase }, { on := 2, ground := Ground.phase }, { on := 3, ground := Ground.phase }, { on := 4, ground := Ground.phase }, { on := 5, ground := Ground.phase }, { on := 6, ground := Ground.phase }, { on := 7, ground := Ground.phase }, { on := 8, ground := Ground.phase }, { on := 9, ground := Ground.phase }, { on := 10, ground := Ground.phase }, { on := 11, ground := Ground.phase }, { on := 12, ground := Ground.phase }, { on := 13, ground := Ground.phase }, { on := 14, ground := Ground.phase }, { on := 15, ground := Ground.phase }, { on := 16, ground := Ground.phase }, { on := 17, ground := Ground.phase }, { on := 18, ground := Ground.phase }, { on := 19, ground := Ground.phase }, { on := 20, ground := Ground.phase }, { on := 21, ground := Ground.phase }, { on := 22, ground := Ground.phase }], guard := none }) (v := ?_) rfl (by kernel_rfl) (by kernel_rfl) (by kernel_rfl) (fun _ _ _ h => h) (Or.inl ⟨by rfl, ?_⟩) (by assumption) ?_
      rotate_left 1
      · (intro w hSw; (try dsimp only at hSw); go_simp; try with_reducible rfl)
      (try simp only [Act.put, List.setIfInBounds_toArray, List.set_cons_zero, List.set_cons_succ])
      refine wpAnyH_take (i := 24) (oi := { dst := some 3, op := Op.assign (Operand.tmp 45), type := 29, pos := "ballot.go:79", after := #[{ on := 22, ground := Ground.data }, { on := 23, ground := Ground.chain }, { on := 0, ground := Ground.phase }, { on := 1, ground := Ground.phase }, { on := 2, ground := Ground.phase }, { on := 3, ground := Ground.phase }, { on := 4, ground := Ground.phase }, { on := 5, ground := Ground.phase }, { on := 6, ground := Ground.phase }, { on := 7, ground := Ground.phase }, { on := 8, ground := Ground.phase }, { on := 9, ground := Ground.phase }, { on := 10, ground := Ground.phase }, { on := 11, ground := Ground.phase }, { on := 12, ground := Ground.phase }, { on := 13, ground := Ground.phase }, { on := 14, ground := Ground.phase }, { on := 15, ground := Ground.phase }, { on := 16, ground := Ground.phase }, { on := 17, ground := Ground.phase }, { on := 18, ground := Ground.phase }, { on := 19, ground := Ground.phase }, { on := 20, ground := Ground.phase }, { on := 21, ground := Ground.phase }, { on := 22, ground := Ground.phase }, { on := 23, ground := Ground.phase }], guard := none }) (v := ?_) rfl (by kernel_rfl) (by kernel_rfl) (by kernel_rfl) (fun _ _ _ h => h) (Or.inl ⟨by rfl, ?_⟩) (by assumption) ?_
      rotate_left 1
      · (intro w hSw; (try dsimp only at hSw); go_simp; try with_reducible rfl)
      (try simp only [Act.put, List.setIfInBounds_toArray, List.set_cons_zero, List.set_cons_succ])
      refine wpAnyH_done (by kernel_rfl) ?_ _
      go_wp2_with fail
      go_ret2
      exact ⟨rfl, BB.out⟩
    · rw [if_neg h5, show st2 (([] : List UInt8), 5) = .tuple #[.string ⟨#[]⟩, .int .i64 5] from rfl] at HL
      rw [if_pos h5] at hz
      rw [hz] at hrs hre
      subst hrs; subst hre
      clear hz hm hx ho hl hio hig hns1 hns2 hxs h5 hrow hms hml HN1 HN2 HT
      obtain ⟨c, e, q, aud, mem, org⟩ := b
      dsimp only [btC] at *
      generalize mem.length = n at *
      have HCE : Hid (∀ V, BAt V w.heap.size ⟨c, e, q, aud, mem, org⟩ (.slice ao n cap) → V.cell? ⟨w.heap.size, 0, none⟩ = some (.int .i64 c) ∧ V.cell? ⟨w.heap.size, 1, none⟩ = some (.int .i64 e) ∧ V.cell? ⟨w.heap.size, 2, none⟩ = some (.int .i64 q) ∧ V.cell? ⟨w.heap.size, 3, none⟩ = some (.int .i64 aud) ∧ V.cell? ⟨w.heap.size, 4, none⟩ = some (.slice ao n cap) ∧ V.cell? ⟨w.heap.size, 5, none⟩ = some (.int .i64 org)) := Lib.hid (fun V h => h.cells)
      have HM := Lib.hid HM
      have HL := Lib.hid HL
      go_enter Tryz.func8, Tryz.ntmps8
      go_wp2_with fail
      rw [← HW0.out]
      refine (HM.out _ BB.out).mono ?_; rintro e1 w1 ⟨rfl, b1⟩
      have GG := Lib.hid (GG.out.below b1)
      have BB := Lib.hid (below_step BB.out b1)
      clear b1
      obtain ⟨z0, z1, z2, z3, z4, z5⟩ := HCE.out _ GG.out
      go_wp2_with fail
      refine (HL.out _ BB.out).mono ?_; rintro e4 w4 ⟨rfl, b4⟩
      clear z0 z1 z2 z3 z4 z5
      go_wp2_with fail
      go_ret2
      exact ⟨rfl, below_step BB.out b4⟩

end Go.Proofs.YtbdlegjklfkdmaaGreatDoor.Pl
