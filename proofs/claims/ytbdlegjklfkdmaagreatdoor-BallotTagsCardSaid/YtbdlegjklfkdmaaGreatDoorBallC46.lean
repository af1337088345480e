/- Which tag any ballot has, in any suite, and whether any text is it: the walk. -/
import Derived.Test.YtbdlegjklfkdmaaGreatDoorBallC45
import Derived.Test.YtbdlegjklfkdmaaGreatDoorBallC26
import Derived.Test.YtbdlegjklfkdmaaGreatDoorBallC35
namespace Go.Proofs.YtbdlegjklfkdmaaGreatDoor.Pl
open Go.RowKit

set_option maxHeartbeats 8000000 in
set_option maxRecDepth 100000 in
theorem tags_long (k : Nat) (m : ByteArray) (b : Bt) (tag : ByteArray) (ao : Option Addr) (cap : Nat) (w : World) (hT : KeyTabs w) (hrow : MemRow w ao b.mem) (hlen : b.mem.length ≤ 9223372036854775807) (hlong : longL b.mem = true ∨ 20000 < tag.size ∨ 1000 < m.size) :
    Calls Tryz.prog 4 #[.int .u8 k, .string m, .agg (btC b (.slice ao b.mem.length cap)), .string tag] w fun x w' => x = .returned (.bool true) ∧ Below w.heap.size w w' := by
  have HA := Lib.hid (fun V (hV : Below w.heap.size w V) => alive13_any V (hT.below hV).1)
  have LL := fun V (hV : Below w.heap.size w V) => longl_any b.mem ao cap hlen V (hrow.below hV)
  obtain ⟨W0, hW0⟩ : ∃ V, V = w.alloc (.cells (btC b (.slice ao b.mem.length cap)) 26) := ⟨_, rfl⟩
  have g0 : BAt W0 w.heap.size b (.slice ao b.mem.length cap) := by rw [hW0]; exact bat_new _ _ _
  have b0 : Below w.heap.size w W0 := by rw [hW0]; exact (Below.refl _ _).alloc (Nat.le_refl _) _
  have GG := Lib.hid g0
  have BB := Lib.hid b0
  have HW0 := Lib.hid hW0
  clear hW0 g0 b0
  obtain ⟨z, hz⟩ : ∃ z, z = longL b.mem := ⟨_, rfl⟩
  rw [← hz] at LL hlong
  obtain ⟨c, e, q, aud, mem, org⟩ := b
  dsimp only [btC] at *
  generalize mem.length = n at *
  have LL := Lib.hid LL
  clear hrow hz hT
  obtain ⟨x0, x1, x2, x3, x4, x5⟩ := GG.out.cells
  dsimp only at x0 x1 x2 x3 x4 x5
  cases z with
  | true =>
    clear x0 x1 x2 x3 x4 x5
    go_enter Tryz.func4, Tryz.ntmps4
    go_wp2_with fail
    rw [← HW0.out]
    refine (LL.out _ BB.out).mono ?_; rintro e1 V1 ⟨rfl, hw⟩; rw [hw]; clear hw V1
    go_wp2_with fail
    refine (HA.out _ BB.out).mono ?_; rintro ez wz ⟨rfl, bz⟩
    have BB := Lib.hid (below_step BB.out bz)
    clear bz
    go_wp2_with fail
    go_ret
    exact ⟨rfl, BB.out⟩
  | false =>
    clear x0 x1 x2 x3 x4 x5
    by_cases h2 : 20000 < tag.size
    · have q1 : (20000 : Int) < (tag.size : Int) := by omega
      go_enter Tryz.func4, Tryz.ntmps4
      go_wp2_with fail
      rw [← HW0.out]
      refine (LL.out _ BB.out).mono ?_; rintro e1 V1 ⟨rfl, hw⟩; rw [hw]; clear hw V1
      go_wp2_with fail
      refine (HA.out _ BB.out).mono ?_; rintro ez wz ⟨rfl, bz⟩
      have BB := Lib.hid (below_step BB.out bz)
      clear bz
      go_wp2_with fail
      go_ret
      exact ⟨rfl, BB.out⟩
    · have q1 : ¬ (20000 : Int) < (tag.size : Int) := by omega
      have q2 : (1000 : Int) < (m.size : Int) := by
        rcases hlong with h | h | h
        · cases h
        · exact absurd h h2
        · omega
      go_enter Tryz.func4, Tryz.ntmps4
      go_wp2_with fail
      rw [← HW0.out]
      refine (LL.out _ BB.out).mono ?_; rintro e1 V1 ⟨rfl, hw⟩; rw [hw]; clear hw V1
      go_wp2_with fail
      refine (HA.out _ BB.out).mono ?_; rintro ez wz ⟨rfl, bz⟩
      have BB := Lib.hid (below_step BB.out bz)
      clear bz
      go_wp2_with fail
      go_ret
      exact ⟨rfl, BB.out⟩

set_option maxHeartbeats 8000000 in
set_option maxRecDepth 100000 in
theorem tags_none (k : Nat) (m : ByteArray) (b : Bt) (tag : ByteArray) (ao : Option Addr) (cap : Nat) (w : World) (hT : KeyTabs w) (hrow : MemRow w ao b.mem) (hlen : b.mem.length ≤ 9223372036854775807) (hshort : longL b.mem = false ∧ tag.size ≤ 20000 ∧ m.size ≤ 1000) (h1 : k ≠ 1) (h2 : ¬ (k = 2 ∧ 1 ≤ m.size ∧ m.size ≤ 64)) :
    Calls Tryz.prog 4 #[.int .u8 k, .string m, .agg (btC b (.slice ao b.mem.length cap)), .string tag] w fun x w' => x = .returned (.bool true) ∧ Below w.heap.size w w' := by
  obtain ⟨hl1, hl2, hl3⟩ := hshort
  obtain ⟨p1, p2⟩ := longL_no hl1
  have hms : ∀ x ∈ b.mem, x.2.size ≤ 30000 := fun x hx => by have := p2 x hx; omega
  have hml : b.mem.length ≤ 1000000 := by omega
  have q1 : ¬ (20000 : Int) < (tag.size : Int) := by omega
  have q2 : ¬ (1000 : Int) < (m.size : Int) := by omega
  have HA := Lib.hid (fun V (hV : Below w.heap.size w V) => alive13_any V (hT.below hV).1)
  have LL := fun V (hV : Below w.heap.size w V) => longl_any b.mem ao cap hlen V (hrow.below hV)
  obtain ⟨W0, hW0⟩ : ∃ V, V = w.alloc (.cells (btC b (.slice ao b.mem.length cap)) 26) := ⟨_, rfl⟩
  have g0 : BAt W0 w.heap.size b (.slice ao b.mem.length cap) := by rw [hW0]; exact bat_new _ _ _
  have b0 : Below w.heap.size w W0 := by rw [hW0]; exact (Below.refl _ _).alloc (Nat.le_refl _) _
  have GG := Lib.hid g0
  have BB := Lib.hid b0
  have HW0 := Lib.hid hW0
  clear hW0 g0 b0
  have HN := Lib.hid (fun V => new_none k m h1 h2 V)
  have HG := Lib.hid (fun V => ptag13_nil b (.slice ao b.mem.length cap) V)
  rw [hl1] at LL
  obtain ⟨c, e, q, aud, mem, org⟩ := b
  dsimp only [btC] at *
  generalize mem.length = n at *
  have LL := Lib.hid LL
  have HCE : Hid (∀ V, BAt V w.heap.size ⟨c, e, q, aud, mem, org⟩ (.slice ao n cap) → V.cell? ⟨w.heap.size, 0, none⟩ = some (.int .i64 c) ∧ V.cell? ⟨w.heap.size, 1, none⟩ = some (.int .i64 e) ∧ V.cell? ⟨w.heap.size, 2, none⟩ = some (.int .i64 q) ∧ V.cell? ⟨w.heap.size, 3, none⟩ = some (.int .i64 aud) ∧ V.cell? ⟨w.heap.size, 4, none⟩ = some (.slice ao n cap) ∧ V.cell? ⟨w.heap.size, 5, none⟩ = some (.int .i64 org)) := Lib.hid (fun V h => h.cells)
  clear hrow hT hl1 hl2 hl3 p1 p2 hms hml h1 h2
  go_enter Tryz.func4, Tryz.ntmps4
  go_wp2_with fail
  rw [← HW0.out]
  refine (LL.out _ BB.out).mono ?_; rintro e1 V1 ⟨rfl, hw⟩; rw [hw]; clear hw V1
  go_wp2_with fail
  refine (HN.out _).mono ?_; rintro e2 V2 ⟨rfl, hw⟩; rw [← hw]; clear hw V2
  obtain ⟨x0, x1, x2, x3, x4, x5⟩ := HCE.out _ GG.out
  go_wp2_with fail
  clear x0 x1 x2 x3 x4 x5
  refine (HG.out _).mono ?_; rintro e3 V3 ⟨rfl, b3⟩
  have BB := Lib.hid (below_step BB.out b3)
  clear b3
  go_wp2_with fail
  refine (HA.out _ BB.out).mono ?_; rintro ez wz ⟨rfl, bz⟩
  have BB := Lib.hid (below_step BB.out bz)
  clear bz
  go_wp2_with fail
  go_ret
  exact ⟨rfl, BB.out⟩

set_option maxHeartbeats 8000000 in
set_option maxRecDepth 100000 in
theorem tags_ok (k : Nat) (kb : Bool) (hk : k = 1 ∧ kb = true ∨ k = 2 ∧ kb = false) (m : ByteArray) (b : Bt) (tag : ByteArray) (ao : Option Addr) (cap : Nat) (w : World) (hT : KeyTabs w) (hrow : MemRow w ao b.mem) (hlen : b.mem.length ≤ 9223372036854775807) (hshort : longL b.mem = false ∧ tag.size ≤ 20000 ∧ m.size ≤ 1000)
    (HN0 : ∀ V, KeyTabs V → Calls Tryz.prog 17 #[.int .u8 k, .string m] V fun e w' => (∃ p, e = .returned (.tuple #[.pointer (some ⟨p, 0, none⟩), .int .i64 0]) ∧ SuiteAt w' p kb m) ∧ Below V.heap.size V w')
    (h0 : (tagBt cryP kb (bl m) b).2 = 0) :
    Calls Tryz.prog 4 #[.int .u8 k, .string m, .agg (btC b (.slice ao b.mem.length cap)), .string tag] w fun x w' => x = .returned (.bool true) ∧ Below w.heap.size w w' := by
  obtain ⟨hl1, hl2, hl3⟩ := hshort
  obtain ⟨p1, p2⟩ := longL_no hl1
  have hms : ∀ x ∈ b.mem, x.2.size ≤ 30000 := fun x hx => by have := p2 x hx; omega
  have hml : b.mem.length ≤ 1000000 := by omega
  have q1 : ¬ (20000 : Int) < (tag.size : Int) := by omega
  have q2 : ¬ (1000 : Int) < (m.size : Int) := by omega
  have h12 : k = 1 ∨ k = 2 := hk.imp (·.1) (·.1)
  have hkb : (k == 1) = kb := by rcases hk with ⟨rfl, rfl⟩ | ⟨rfl, rfl⟩ <;> rfl
  have HA := Lib.hid (fun V (hV : Below w.heap.size w V) => alive13_any V (hT.below hV).1)
  have LL := fun V (hV : Below w.heap.size w V) => longl_any b.mem ao cap hlen V (hrow.below hV)
  obtain ⟨W0, hW0⟩ : ∃ V, V = w.alloc (.cells (btC b (.slice ao b.mem.length cap)) 26) := ⟨_, rfl⟩
  have g0 : BAt W0 w.heap.size b (.slice ao b.mem.length cap) := by rw [hW0]; exact bat_new _ _ _
  have b0 : Below w.heap.size w W0 := by rw [hW0]; exact (Below.refl _ _).alloc (Nat.le_refl _) _
  have GG := Lib.hid g0
  have BB := Lib.hid b0
  have HW0 := Lib.hid hW0
  clear hW0 g0 b0
  have HN := Lib.hid (fun V (hV : Below w.heap.size w V) => HN0 V (hT.below hV))
  have HG := fun p W1 (hS : SuiteAt W1 p kb m) V (hV : Below w.heap.size w V) (hb : Below W1.heap.size W1 V) => ptag13_any kb m b ao cap hms hml p V (hrow.below hV) (hS.below hb) (hT.below hV).1
  have HF := fun p W1 (hS : SuiteAt W1 p kb m) V (hV : Below w.heap.size w V) (hb : Below W1.heap.size W1 V) => pfits13_any kb m b ao cap hms hml tag p V (hrow.below hV) (hS.below hb) (hT.below hV).1
  have HFX := fun p W1 (hS : SuiteAt W1 p kb m) V (hV : Below w.heap.size w V) (hb : Below W1.heap.size W1 V) => pfits13_any kb m b ao cap hms hml (tb (tagBt cryP kb (bl m) b).1) p V (hrow.below hV) (hS.below hb) (hT.below hV).1
  have HRG := fun V (hV : Below w.heap.size w V) => rtag13_any k h12 m hl3 b ao cap hms hml V (hrow.below hV)
  have HRF := fun V (hV : Below w.heap.size w V) => rfits13_any k h12 m hl3 b ao cap hms hml tag V (hrow.below hV)
  rw [hkb] at HRG HRF
  rw [show fitBt cryP kb (bl m) b (tb (tagBt cryP kb (bl m) b).1) = true from by unfold fitBt; simp [h0]] at HFX
  generalize fitBt cryP kb (bl m) b tag = fz at *
  generalize tagBt cryP kb (bl m) b = T at *
  obtain ⟨tr, te⟩ := T
  rw [st2_tb] at HG HRG
  dsimp only at h0 HFX
  generalize tb tr = rt at *
  rw [hl1] at LL
  subst h0
  obtain ⟨c, e, q, aud, mem, org⟩ := b
  dsimp only [btC] at *
  generalize mem.length = n at *
  unfold suiteV at HRG HRF
  have LL := Lib.hid LL
  have HCE0 := Lib.hid (fun W1 => show (∀ W, BAt W w.heap.size ⟨c, e, q, aud, mem, org⟩ (.slice ao n cap) → W.heap[W1]? = some (.cells #[.int .u8 k, .string m] 45 (0, 0)) → W.cell? ⟨w.heap.size, 0, none⟩ = some (.int .i64 c) ∧ W.cell? ⟨w.heap.size, 1, none⟩ = some (.int .i64 e) ∧ W.cell? ⟨w.heap.size, 2, none⟩ = some (.int .i64 q) ∧ W.cell? ⟨w.heap.size, 3, none⟩ = some (.int .i64 aud) ∧ W.cell? ⟨w.heap.size, 4, none⟩ = some (.slice ao n cap) ∧ W.cell? ⟨w.heap.size, 5, none⟩ = some (.int .i64 org) ∧ W.cell? ⟨W1, 0, none⟩ = some (.int .u8 k) ∧ W.cell? ⟨W1, 1, none⟩ = some (.string m)) from fun V h g => by
    obtain ⟨a0, a1, a2, a3, a4, a5⟩ := h.cells
    exact ⟨a0, a1, a2, a3, a4, a5, cell_of_row _ _ 0 _ _ _ g, cell_of_row _ _ 1 _ _ _ g⟩)
  have HG := Lib.hid HG
  have HF := Lib.hid HF
  have HFX := Lib.hid HFX
  have HRG := Lib.hid HRG
  have HRF := Lib.hid HRF
  clear hrow hT hl1 hl2 hl3 p1 p2 hms hml hk hkb h12 HN0
  go_enter Tryz.func4, Tryz.ntmps4
  go_wp2_with fail
  rw [← HW0.out]
  refine (LL.out _ BB.out).mono ?_; rintro e1 V1 ⟨rfl, hw⟩; rw [hw]; clear hw V1
  go_wp2_with fail
  refine (HN.out _ BB.out).mono ?_; rintro e2 W1 ⟨⟨p, rfl, hS⟩, b2⟩
  have HG := Lib.hid (HG.out p W1 hS)
  have HF := Lib.hid (HF.out p W1 hS)
  have HFX := Lib.hid (HFX.out p W1 hS)
  have HCE := Lib.hid (HCE0.out W1.heap.size)
  have GG := Lib.hid (GG.out.below b2)
  have BB := Lib.hid (below_step BB.out b2)
  clear hS b2 HN HCE0
  obtain ⟨W2, hW2⟩ : ∃ V, V = W1.alloc (.cells #[.int .u8 k, .string m] 45) := ⟨_, rfl⟩
  have b3 : Below W1.heap.size W1 W2 := by rw [hW2]; exact (Below.refl _ _).alloc (Nat.le_refl _) _
  have SS := Lib.hid (show W2.heap[W1.heap.size]? = some (.cells #[.int .u8 k, .string m] 45 (0, 0)) from by rw [hW2]; exact heap_alloc_new _ _)
  have GG := Lib.hid (GG.out.below b3)
  have BB := Lib.hid (below_step BB.out b3)
  have BS := Lib.hid b3
  obtain ⟨x0, x1, x2, x3, x4, x5, y6, y7⟩ := HCE.out _ GG.out SS.out
  rw [hW2] at x0 x1 x2 x3 x4 x5 y6 y7
  have HW2 := Lib.hid hW2
  clear b3 hW2
  go_wp2_with fail
  rw [← HW2.out]
  clear x0 x1 x2 x3 x4 x5 y6 y7
  refine (HG.out _ BB.out BS.out).mono ?_; rintro e3 w3 ⟨rfl, b3⟩
  have GG := Lib.hid (GG.out.below b3)
  have SS := Lib.hid (heap_below b3 SS.out)
  have BB := Lib.hid (below_step BB.out b3)
  have BS := Lib.hid (below_step BS.out b3)
  clear b3
  obtain ⟨x0, x1, x2, x3, x4, x5, y6, y7⟩ := HCE.out _ GG.out SS.out
  go_wp2_with fail
  clear x0 x1 x2 x3 x4 x5 y6 y7
  refine (HRG.out _ BB.out).mono ?_; rintro e4 w4 ⟨rfl, b4⟩
  have GG := Lib.hid (GG.out.below b4)
  have SS := Lib.hid (heap_below b4 SS.out)
  have BB := Lib.hid (below_step BB.out b4)
  have BS := Lib.hid (below_step BS.out b4)
  clear b4
  go_wp2_with fail
  have GG := Lib.hid (GG.out.below (drew12 w4))
  have SS := Lib.hid (heap_below (drew12 w4) SS.out)
  have BB := Lib.hid (below_step BB.out (drew12 w4))
  have BS := Lib.hid (below_step BS.out (drew12 w4))
  have KS := HCE.out _ GG.out SS.out
  refine wp_region_held_drew (S := fun W => W.cell? ⟨w.heap.size, 0, none⟩ = some (.int .i64 c) ∧ W.cell? ⟨w.heap.size, 1, none⟩ = some (.int .i64 e) ∧ W.cell? ⟨w.heap.size, 2, none⟩ = some (.int .i64 q) ∧ W.cell? ⟨w.heap.size, 3, none⟩ = some (.int .i64 aud) ∧ W.cell? ⟨w.heap.size, 4, none⟩ = some (.slice ao n cap) ∧ W.cell? ⟨w.heap.size, 5, none⟩ = some (.int .i64 org) ∧ W.cell? ⟨W1.heap.size, 0, none⟩ = some (.int .u8 k) ∧ W.cell? ⟨W1.heap.size, 1, none⟩ = some (.string m)) (by kernel_rfl) (by first | assumption | exact KS) (fun hHeld => ?_)
  generalize w4.drew = wz at *
  refine wpAnyH_take (i := 0) (oi := { dst := some 65, op := Op.move (Operand.tmp 14), type := 9, pos := "law.go:80", after := #[], guard := none }) (v := ?_) rfl (by kernel_rfl) (by kernel_rfl) (by kernel_rfl) (fun _ _ _ h => h) (Or.inl ⟨by rfl, ?_⟩) (by assumption) ?_
  rotate_left 1
  · (intro w hSw; (try dsimp only at hSw); go_simp; try with_reducible rfl)
  (try simp only [Act.put, List.setIfInBounds_toArray, List.set_cons_zero, List.set_cons_succ])
  refine wpAnyH_take (i := 1) (oi := { dst := some 66, op := Op.move (Operand.tmp 16), type := 9, pos := "law.go:80", after := #[], guard := none }) (v := ?_) rfl (by kernel_rfl) (by kernel_rfl) (by kernel_rfl) (fun _ _ _ h => h) (Or.inl ⟨by rfl, ?_⟩) (by assumption) ?_
  rotate_left 1
  · (intro w hSw; (try dsimp only at hSw); go_simp; try with_reducible rfl)
  (try simp only [Act.put, List.setIfInBounds_toArray, List.set_cons_zero, List.set_cons_succ])
  refine wpAnyH_take (i := 2) (oi := { dst := some 67, op := Op.binOp BinOp.eql 9 (Operand.tmp 65) (Operand.tmp 66) 9, type := 4, pos := "law.go:80", after := #[{ on := 0, ground := Ground.data }, { on := 1, ground := Ground.data }], guard := none }) (v := ?_) rfl (by kernel_rfl) (by kernel_rfl) (by kernel_rfl) (fun _ _ _ h => h) (Or.inl ⟨by rfl, ?_⟩) (by assumption) ?_
  rotate_left 1
  · (intro w hSw; (try dsimp only at hSw); go_simp; try with_reducible rfl)
  (try simp only [Act.put, List.setIfInBounds_toArray, List.set_cons_zero, List.set_cons_succ])
  refine wpAnyH_take (i := 3) (oi := { dst := some 68, op := Op.move (Operand.tmp 67), type := 4, pos := "law.go:80", after := #[{ on := 2, ground := Ground.data }], guard := none }) (v := ?_) rfl (by kernel_rfl) (by kernel_rfl) (by kernel_rfl) (fun _ _ _ h => h) (Or.inl ⟨by rfl, ?_⟩) (by assumption) ?_
  rotate_left 1
  · (intro w hSw; (try dsimp only at hSw); go_simp; try with_reducible rfl)
  (try simp only [Act.put, List.setIfInBounds_toArray, List.set_cons_zero, List.set_cons_succ])
  refine wpAnyH_take (i := 4) (oi := { dst := some 69, op := Op.move (Operand.tmp 15), type := 29, pos := "law.go:80", after := #[{ on := 3, ground := Ground.guard }], guard := some (3, true) }) (v := ?_) rfl (by kernel_rfl) (by kernel_rfl) (by kernel_rfl) (fun _ _ _ h => h) (Or.inl ⟨by rfl, ?_⟩) (by assumption) ?_
  rotate_left 1
  · (intro w hSw; (try dsimp only at hSw); go_simp; try with_reducible rfl)
  (try simp only [Act.put, List.setIfInBounds_toArray, List.set_cons_zero, List.set_cons_succ])
  refine wpAnyH_take (i := 5) (oi := { dst := some 70, op := Op.move (Operand.tmp 17), type := 29, pos := "law.go:80", after := #[{ on := 3, ground := Ground.guard }], guard := some (3, true) }) (v := ?_) rfl (by kernel_rfl) (by kernel_rfl) (by kernel_rfl) (fun _ _ _ h => h) (Or.inl ⟨by rfl, ?_⟩) (by assumption) ?_
  rotate_left 1
  · (intro w hSw; (try dsimp only at hSw); go_simp; try with_reducible rfl)
  (try simp only [Act.put, List.setIfInBounds_toArray, List.set_cons_zero, List.set_cons_succ])
  refine wpAnyH_take (i := 6) (oi := { dst := some 71, op := Op.binOp BinOp.eql 29 (Operand.tmp 69) (Operand.tmp 70) 29, type := 4, pos := "law.go:80", after := #[{ on := 4, ground := Ground.data }, { on := 5, ground := Ground.data }, { on := 3, ground := Ground.guard }], guard := some (3, true) }) (v := ?_) rfl (by kernel_rfl) (by kernel_rfl) (by kernel_rfl) (fun _ _ _ h => h) (Or.inl ⟨by rfl, ?_⟩) (by assumption) ?_
  rotate_left 1
  · (intro w hSw; (try dsimp only at hSw); go_simp; try with_reducible rfl)
  (try simp only [Act.put, List.setIfInBounds_toArray, List.set_cons_zero, List.set_cons_succ])
  refine wpAnyH_take (i := 7) (oi := { dst := some 72, op := Op.pick (Operand.tmp 68) (Operand.tmp 71) (Operand.const (Value.bool false)), type := 4, pos := "law.go:80", after := #[{ on := 3, ground := Ground.data }, { on := 6, ground := Ground.data }], guard := none }) (v := ?_) rfl (by kernel_rfl) (by kernel_rfl) (by kernel_rfl) (fun _ _ _ h => h) (Or.inl ⟨by rfl, ?_⟩) (by assumption) ?_
  rotate_left 1
  · (intro w hSw; (try dsimp only at hSw); go_simp; try with_reducible rfl)
  (try simp only [Act.put, List.setIfInBounds_toArray, List.set_cons_zero, List.set_cons_succ])
  refine wpAnyH_take (i := 8) (oi := { dst := some 73, op := Op.move (Operand.tmp 72), type := 4, pos := "law.go:80", after := #[{ on := 7, ground := Ground.data }, { on := 3, ground := Ground.chain }], guard := none }) (v := ?_) rfl (by kernel_rfl) (by kernel_rfl) (by kernel_rfl) (fun _ _ _ h => h) (Or.inl ⟨by rfl, ?_⟩) (by assumption) ?_
  rotate_left 1
  · (intro w hSw; (try dsimp only at hSw); go_simp; try with_reducible rfl)
  (try simp only [Act.put, List.setIfInBounds_toArray, List.set_cons_zero, List.set_cons_succ])
  refine wpAnyH_take (i := 9) (oi := { dst := some 74, op := Op.move (Operand.tmp 9), type := 40, pos := "law.go:80", after := #[{ on := 8, ground := Ground.guard }], guard := some (8, true) }) (v := ?_) rfl (by kernel_rfl) (by kernel_rfl) (by kernel_rfl) (fun _ _ _ h => h) (Or.inl ⟨by rfl, ?_⟩) (by assumption) ?_
  rotate_left 1
  · (intro w hSw; (try dsimp only at hSw); go_simp; try with_reducible rfl)
  (try simp only [Act.put, List.setIfInBounds_toArray, List.set_cons_zero, List.set_cons_succ])
  refine wpAnyH_take (i := 10) (oi := { dst := some 75, op := Op.load 26 (Operand.tmp 6), type := 26, pos := "law.go:80", after := #[{ on := 8, ground := Ground.guard }], guard := some (8, true) }) (v := ?_) rfl (by kernel_rfl) (by kernel_rfl) (by kernel_rfl) (fun _ _ _ h => h) (Or.inl ⟨by rfl, ?_⟩) (by assumption) ?_
  rotate_left 1
  · (intro w hSw; (try dsimp only at hSw); go_simp; try with_reducible rfl)
  (try simp only [Act.put, List.setIfInBounds_toArray, List.set_cons_zero, List.set_cons_succ])
  refine wpAnyH_take (i := 11) (oi := { dst := some 76, op := Op.move (Operand.tmp 3), type := 9, pos := "law.go:80", after := #[{ on := 8, ground := Ground.guard }], guard := some (8, true) }) (v := ?_) rfl (by kernel_rfl) (by kernel_rfl) (by kernel_rfl) (fun _ _ _ h => h) (Or.inl ⟨by rfl, ?_⟩) (by assumption) ?_
  rotate_left 1
  · (intro w hSw; (try dsimp only at hSw); go_simp; try with_reducible rfl)
  (try simp only [Act.put, List.setIfInBounds_toArray, List.set_cons_zero, List.set_cons_succ])
  refine wpAnyH_take (i := 13) (oi := { dst := some 78, op := Op.load 45 (Operand.tmp 13), type := 45, pos := "law.go:80", after := #[{ on := 8, ground := Ground.guard }], guard := some (8, true) }) (v := ?_) rfl (by kernel_rfl) (by kernel_rfl) (by kernel_rfl) (fun _ _ _ h => h) (Or.inl ⟨by rfl, ?_⟩) (by assumption) ?_
  rotate_left 1
  · (intro w hSw; (try dsimp only at hSw); go_simp; try with_reducible rfl)
  (try simp only [Act.put, List.setIfInBounds_toArray, List.set_cons_zero, List.set_cons_succ])
  refine wpAnyH_take (i := 14) (oi := { dst := some 79, op := Op.load 26 (Operand.tmp 6), type := 26, pos := "law.go:80", after := #[{ on := 8, ground := Ground.guard }], guard := some (8, true) }) (v := ?_) rfl (by kernel_rfl) (by kernel_rfl) (by kernel_rfl) (fun _ _ _ h => h) (Or.inl ⟨by rfl, ?_⟩) (by assumption) ?_
  rotate_left 1
  · (intro w hSw; (try dsimp only at hSw); go_simp; try with_reducible rfl)
  (try simp only [Act.put, List.setIfInBounds_toArray, List.set_cons_zero, List.set_cons_succ])
  refine wpAnyH_take (i := 15) (oi := { dst := some 80, op := Op.move (Operand.tmp 3), type := 9, pos := "law.go:80", after := #[{ on := 8, ground := Ground.guard }], guard := some (8, true) }) (v := ?_) rfl (by kernel_rfl) (by kernel_rfl) (by kernel_rfl) (fun _ _ _ h => h) (Or.inl ⟨by rfl, ?_⟩) (by assumption) ?_
  rotate_left 1
  · (intro w hSw; (try dsimp only at hSw); go_simp; try with_reducible rfl)
  (try simp only [Act.put, List.setIfInBounds_toArray, List.set_cons_zero, List.set_cons_succ])
  refine wpAnyH_ready (rs := [12]) (by kernel_rfl) (by simp) ?_
  refine AllReadyH.cons (o := { dst := some 77, op := Op.call { callee := Callee.value (Operand.func 20), args := #[Operand.tmp 74, Operand.tmp 75, Operand.tmp 76], argTypes := #[40, 26, 9] }, type := 4, pos := "law.go:80", after := #[{ on := 9, ground := Ground.data }, { on := 10, ground := Ground.data }, { on := 11, ground := Ground.data }, { on := 8, ground := Ground.chain }, { on := 8, ground := Ground.guard }], guard := some (8, true) }) rfl (fun K hK => ?_) AllReadyH.nil
  go_simp
  refine (HF.out _ BB.out BS.out).mono ?_; rintro e5 w5 ⟨rfl, b5⟩
  have GG := Lib.hid (GG.out.below b5)
  have SS := Lib.hid (heap_below b5 SS.out)
  have BB := Lib.hid (below_step BB.out b5)
  have BS := Lib.hid (below_step BS.out b5)
  clear b5
  refine hK.out _ _ (HCE.out _ GG.out SS.out) (fun hHeld => ?_)
  clear hK K
  (try simp only [Act.put, List.setIfInBounds_toArray, List.set_cons_zero, List.set_cons_succ])
  refine wpAnyH_ready (rs := [16]) (by kernel_rfl) (by simp) ?_
  refine AllReadyH.cons (o := { dst := some 81, op := Op.call { callee := Callee.value (Operand.func 21), args := #[Operand.tmp 78, Operand.tmp 79, Operand.tmp 80], argTypes := #[45, 26, 9] }, type := 4, pos := "law.go:80", after := #[{ on := 13, ground := Ground.data }, { on := 14, ground := Ground.data }, { on := 15, ground := Ground.data }, { on := 12, ground := Ground.chain }, { on := 8, ground := Ground.guard }], guard := some (8, true) }) rfl (fun K hK => ?_) AllReadyH.nil
  go_simp
  refine (HRF.out _ BB.out).mono ?_; rintro e6 w6 ⟨rfl, b6⟩
  have GG := Lib.hid (GG.out.below b6)
  have SS := Lib.hid (heap_below b6 SS.out)
  have BB := Lib.hid (below_step BB.out b6)
  have BS := Lib.hid (below_step BS.out b6)
  clear b6
  refine hK.out _ _ (HCE.out _ GG.out SS.out) (fun hHeld => ?_)
  clear hK K
  (try simp only [Act.put, List.setIfInBounds_toArray, List.set_cons_zero, List.set_cons_succ])
  refine wpAnyH_take (i := 17) (oi := { dst := some 82, op := Op.binOp BinOp.eql 4 (Operand.tmp 77) (Operand.tmp 81) 4, type := 4, pos := "law.go:80", after := #[{ on := 12, ground := Ground.data }, { on := 16, ground := Ground.data }, { on := 8, ground := Ground.guard }], guard := some (8, true) }) (v := ?_) rfl (by kernel_rfl) (by kernel_rfl) (by kernel_rfl) (fun _ _ _ h => h) (Or.inl ⟨by rfl, ?_⟩) (by assumption) ?_
  rotate_left 1
  · (intro w hSw; (try dsimp only at hSw); go_simp; try with_reducible rfl)
  (try simp only [Act.put, List.setIfInBounds_toArray, List.set_cons_zero, List.set_cons_succ])
  refine wpAnyH_take (i := 18) (oi := { dst := some 83, op := Op.pick (Operand.tmp 73) (Operand.tmp 82) (Operand.const (Value.bool false)), type := 4, pos := "law.go:80", after := #[{ on := 8, ground := Ground.data }, { on := 17, ground := Ground.data }], guard := none }) (v := ?_) rfl (by kernel_rfl) (by kernel_rfl) (by kernel_rfl) (fun _ _ _ h => h) (Or.inl ⟨by rfl, ?_⟩) (by assumption) ?_
  rotate_left 1
  · (intro w hSw; (try dsimp only at hSw); go_simp; try with_reducible rfl)
  (try simp only [Act.put, List.setIfInBounds_toArray, List.set_cons_zero, List.set_cons_succ])
  refine wpAnyH_take (i := 19) (oi := { dst := some 84, op := Op.move (Operand.tmp 83), type := 4, pos := "law.go:80", after := #[{ on := 18, ground := Ground.data }, { on := 16, ground := Ground.chain }], guard := none }) (v := ?_) rfl (by kernel_rfl) (by kernel_rfl) (by kernel_rfl) (fun _ _ _ h => h) (Or.inl ⟨by rfl, ?_⟩) (by assumption) ?_
  rotate_left 1
  · (intro w hSw; (try dsimp only at hSw); go_simp; try with_reducible rfl)
  (try simp only [Act.put, List.setIfInBounds_toArray, List.set_cons_zero, List.set_cons_succ])
  refine wpAnyH_take (i := 20) (oi := { dst := some 85, op := Op.move (Operand.tmp 9), type := 40, pos := "law.go:80", after := #[{ on := 19, ground := Ground.guard }], guard := some (19, true) }) (v := ?_) rfl (by kernel_rfl) (by kernel_rfl) (by kernel_rfl) (fun _ _ _ h => h) (Or.inl ⟨by rfl, ?_⟩) (by assumption) ?_
  rotate_left 1
  · (intro w hSw; (try dsimp only at hSw); go_simp; try with_reducible rfl)
  (try simp only [Act.put, List.setIfInBounds_toArray, List.set_cons_zero, List.set_cons_succ])
  refine wpAnyH_take (i := 21) (oi := { dst := some 86, op := Op.load 26 (Operand.tmp 6), type := 26, pos := "law.go:80", after := #[{ on := 19, ground := Ground.guard }], guard := some (19, true) }) (v := ?_) rfl (by kernel_rfl) (by kernel_rfl) (by kernel_rfl) (fun _ _ _ h => h) (Or.inl ⟨by rfl, ?_⟩) (by assumption) ?_
  rotate_left 1
  · (intro w hSw; (try dsimp only at hSw); go_simp; try with_reducible rfl)
  (try simp only [Act.put, List.setIfInBounds_toArray, List.set_cons_zero, List.set_cons_succ])
  refine wpAnyH_take (i := 22) (oi := { dst := some 87, op := Op.move (Operand.tmp 14), type := 9, pos := "law.go:80", after := #[{ on := 19, ground := Ground.guard }], guard := some (19, true) }) (v := ?_) rfl (by kernel_rfl) (by kernel_rfl) (by kernel_rfl) (fun _ _ _ h => h) (Or.inl ⟨by rfl, ?_⟩) (by assumption) ?_
  rotate_left 1
  · (intro w hSw; (try dsimp only at hSw); go_simp; try with_reducible rfl)
  (try simp only [Act.put, List.setIfInBounds_toArray, List.set_cons_zero, List.set_cons_succ])
  refine wpAnyH_take (i := 24) (oi := { dst := some 89, op := Op.move (Operand.tmp 17), type := 29, pos := "law.go:80", after := #[{ on := 19, ground := Ground.guard }], guard := some (19, true) }) (v := ?_) rfl (by kernel_rfl) (by kernel_rfl) (by kernel_rfl) (fun _ _ _ h => h) (Or.inl ⟨by rfl, ?_⟩) (by assumption) ?_
  rotate_left 1
  · (intro w hSw; (try dsimp only at hSw); go_simp; try with_reducible rfl)
  (try simp only [Act.put, List.setIfInBounds_toArray, List.set_cons_zero, List.set_cons_succ])
  refine wpAnyH_take (i := 25) (oi := { dst := some 90, op := Op.binOp BinOp.eql 29 (Operand.tmp 89) (Operand.const (Value.int IntKind.i64 0)) 29, type := 4, pos := "law.go:80", after := #[{ on := 24, ground := Ground.data }, { on := 19, ground := Ground.guard }], guard := some (19, true) }) (v := ?_) rfl (by kernel_rfl) (by kernel_rfl) (by kernel_rfl) (fun _ _ _ h => h) (Or.inl ⟨by rfl, ?_⟩) (by assumption) ?_
  rotate_left 1
  · (intro w hSw; (try dsimp only at hSw); go_simp; try with_reducible rfl)
  (try simp only [Act.put, List.setIfInBounds_toArray, List.set_cons_zero, List.set_cons_succ])
  refine wpAnyH_ready (rs := [23]) (by kernel_rfl) (by simp) ?_
  refine AllReadyH.cons (o := { dst := some 88, op := Op.call { callee := Callee.value (Operand.func 20), args := #[Operand.tmp 85, Operand.tmp 86, Operand.tmp 87], argTypes := #[40, 26, 9] }, type := 4, pos := "law.go:80", after := #[{ on := 20, ground := Ground.data }, { on := 21, ground := Ground.data }, { on := 22, ground := Ground.data }, { on := 19, ground := Ground.chain }, { on := 19, ground := Ground.guard }], guard := some (19, true) }) rfl (fun K hK => ?_) AllReadyH.nil
  go_simp
  refine (HFX.out _ BB.out BS.out).mono ?_; rintro e7 w7 ⟨rfl, b7⟩
  have GG := Lib.hid (GG.out.below b7)
  have SS := Lib.hid (heap_below b7 SS.out)
  have BB := Lib.hid (below_step BB.out b7)
  have BS := Lib.hid (below_step BS.out b7)
  clear b7
  refine hK.out _ _ (HCE.out _ GG.out SS.out) (fun hHeld => ?_)
  clear hK K
  (try simp only [Act.put, List.setIfInBounds_toArray, List.set_cons_zero, List.set_cons_succ])
  refine wpAnyH_take (i := 26) (oi := { dst := some 91, op := Op.binOp BinOp.eql 4 (Operand.tmp 88) (Operand.tmp 90) 4, type := 4, pos := "law.go:80", after := #[{ on := 23, ground := Ground.data }, { on := 25, ground := Ground.data }, { on := 19, ground := Ground.guard }], guard := some (19, true) }) (v := ?_) rfl (by kernel_rfl) (by kernel_rfl) (by kernel_rfl) (fun _ _ _ h => h) (Or.inl ⟨by rfl, ?_⟩) (by assumption) ?_
  rotate_left 1
  · (intro w hSw; (try dsimp only at hSw); go_simp; try with_reducible rfl)
  (try simp only [Act.put, List.setIfInBounds_toArray, List.set_cons_zero, List.set_cons_succ])
  refine wpAnyH_take (i := 27) (oi := { dst := some 92, op := Op.pick (Operand.tmp 84) (Operand.tmp 91) (Operand.const (Value.bool false)), type := 4, pos := "law.go:80", after := #[{ on := 19, ground := Ground.data }, { on := 26, ground := Ground.data }], guard := none }) (v := ?_) rfl (by kernel_rfl) (by kernel_rfl) (by kernel_rfl) (fun _ _ _ h => h) (Or.inl ⟨by rfl, ?_⟩) (by assumption) ?_
  rotate_left 1
  · (intro w hSw; (try dsimp only at hSw); go_simp; try with_reducible rfl)
  (try simp only [Act.put, List.setIfInBounds_toArray, List.set_cons_zero, List.set_cons_succ])
  refine wpAnyH_take (i := 28) (oi := { dst := some 93, op := Op.move (Operand.tmp 92), type := 4, pos := "law.go:80", after := #[{ on := 27, ground := Ground.data }, { on := 23, ground := Ground.chain }], guard := none }) (v := ?_) rfl (by kernel_rfl) (by kernel_rfl) (by kernel_rfl) (fun _ _ _ h => h) (Or.inl ⟨by rfl, ?_⟩) (by assumption) ?_
  rotate_left 1
  · (intro w hSw; (try dsimp only at hSw); go_simp; try with_reducible rfl)
  (try simp only [Act.put, List.setIfInBounds_toArray, List.set_cons_zero, List.set_cons_succ])
  refine wpAnyH_ready (rs := [29]) (by kernel_rfl) (by simp) ?_
  refine AllReadyH.cons (o := { dst := some 94, op := Op.call { callee := Callee.value (Operand.func 7), args := #[], argTypes := #[] }, type := 4, pos := "law.go:80", after := #[{ on := 28, ground := Ground.chain }, { on := 28, ground := Ground.guard }], guard := some (28, true) }) rfl (fun K hK => ?_) AllReadyH.nil
  go_simp
  refine (HA.out _ BB.out).mono ?_; rintro e8 w8 ⟨rfl, b8⟩
  have GG := Lib.hid (GG.out.below b8)
  have SS := Lib.hid (heap_below b8 SS.out)
  have BB := Lib.hid (below_step BB.out b8)
  have BS := Lib.hid (below_step BS.out b8)
  clear b8
  refine hK.out _ _ (HCE.out _ GG.out SS.out) (fun hHeld => ?_)
  clear hK K
  (try simp only [Act.put, List.setIfInBounds_toArray, List.set_cons_zero, List.set_cons_succ])
  refine wpAnyH_take (i := 30) (oi := { dst := some 95, op := Op.pick (Operand.tmp 93) (Operand.tmp 94) (Operand.const (Value.bool false)), type := 4, pos := "law.go:80", after := #[{ on := 28, ground := Ground.data }, { on := 29, ground := Ground.data }], guard := none }) (v := ?_) rfl (by kernel_rfl) (by kernel_rfl) (by kernel_rfl) (fun _ _ _ h => h) (Or.inl ⟨by rfl, ?_⟩) (by assumption) ?_
  rotate_left 1
  · (intro w hSw; (try dsimp only at hSw); go_simp; try with_reducible rfl)
  (try simp only [Act.put, List.setIfInBounds_toArray, List.set_cons_zero, List.set_cons_succ])
  refine wpAnyH_take (i := 31) (oi := { dst := some 8, op := Op.assign (Operand.tmp 95), type := 4, pos := "law.go:80", after := #[{ on := 30, ground := Ground.data }, { on := 29, ground := Ground.chain }, { on := 0, ground := Ground.phase }, { on := 1, ground := Ground.phase }, { on := 2, ground := Ground.phase }, { on := 3, ground := Ground.phase }, { on := 4, ground := Ground.phase }, { on := 5, ground := Ground.phase }, { on := 6, ground := Ground.phase }, { on := 7, ground := Ground.phase }, { on := 8, ground := Ground.phase }, { on := 9, ground := Ground.phase }, { on := 10, ground := Ground.phase }, { on := 11, ground := Ground.phase }, { on := 12, ground := Ground.phase }, { on := 13, ground := Ground.phase }, { on := 14, ground := Ground.phase }, { on := 15, ground := Ground.phase }, { on := 16, ground := Ground.phase }, { on := 17, ground := Ground.phase }, { on := 18, ground := Ground.phase }, { on := 19, ground := Ground.phase }, { on := 20, ground := Ground.phase }, { on := 21, ground := Ground.phase }, { on := 22, ground := Ground.phase }, { on := 23, ground := Ground.phase }, { on := 24, ground := Ground.phase }, { on := 25, ground := Ground.phase }, { on := 26, ground := Ground.phase }, { on := 27, ground := Ground.phase }, { on := 28, ground := Ground.phase }, { on := 29, ground := Ground.phase }, { on := 30, ground := Ground.phase }], guard := none }) (v := ?_) rfl (by kernel_rfl) (by kernel_rfl) (by kernel_rfl) (fun _ _ _ h => h) (Or.inl ⟨by rfl, ?_⟩) (by assumption) ?_
  rotate_left 1
  · (intro w hSw; (try dsimp only at hSw); go_simp; try with_reducible rfl)
  (try simp only [Act.put, List.setIfInBounds_toArray, List.set_cons_zero, List.set_cons_succ])
  refine wpAnyH_done (by kernel_rfl) ?_ _
  go_wp2_with fail
  go_ret
  exact ⟨rfl, BB.out⟩

set_option maxHeartbeats 8000000 in
set_option maxRecDepth 100000 in
theorem tags_no (k : Nat) (kb : Bool) (hk : k = 1 ∧ kb = true ∨ k = 2 ∧ kb = false) (m : ByteArray) (b : Bt) (tag : ByteArray) (ao : Option Addr) (cap : Nat) (w : World) (hT : KeyTabs w) (hrow : MemRow w ao b.mem) (hlen : b.mem.length ≤ 9223372036854775807) (hshort : longL b.mem = false ∧ tag.size ≤ 20000 ∧ m.size ≤ 1000)
    (HN0 : ∀ V, KeyTabs V → Calls Tryz.prog 17 #[.int .u8 k, .string m] V fun e w' => (∃ p, e = .returned (.tuple #[.pointer (some ⟨p, 0, none⟩), .int .i64 0]) ∧ SuiteAt w' p kb m) ∧ Below V.heap.size V w')
    (h0 : (tagBt cryP kb (bl m) b).2 ≠ 0) :
    Calls Tryz.prog 4 #[.int .u8 k, .string m, .agg (btC b (.slice ao b.mem.length cap)), .string tag] w fun x w' => x = .returned (.bool true) ∧ Below w.heap.size w w' := by
  obtain ⟨hl1, hl2, hl3⟩ := hshort
  obtain ⟨p1, p2⟩ := longL_no hl1
  have hms : ∀ x ∈ b.mem, x.2.size ≤ 30000 := fun x hx => by have := p2 x hx; omega
  have hml : b.mem.length ≤ 1000000 := by omega
  have q1 : ¬ (20000 : Int) < (tag.size : Int) := by omega
  have q2 : ¬ (1000 : Int) < (m.size : Int) := by omega
  have h12 : k = 1 ∨ k = 2 := hk.imp (·.1) (·.1)
  have hkb : (k == 1) = kb := by rcases hk with ⟨rfl, rfl⟩ | ⟨rfl, rfl⟩ <;> rfl
  have HA := Lib.hid (fun V (hV : Below w.heap.size w V) => alive13_any V (hT.below hV).1)
  have LL := fun V (hV : Below w.heap.size w V) => longl_any b.mem ao cap hlen V (hrow.below hV)
  obtain ⟨W0, hW0⟩ : ∃ V, V = w.alloc (.cells (btC b (.slice ao b.mem.length cap)) 26) := ⟨_, rfl⟩
  have g0 : BAt W0 w.heap.size b (.slice ao b.mem.length cap) := by rw [hW0]; exact bat_new _ _ _
  have b0 : Below w.heap.size w W0 := by rw [hW0]; exact (Below.refl _ _).alloc (Nat.le_refl _) _
  have GG := Lib.hid g0
  have BB := Lib.hid b0
  have HW0 := Lib.hid hW0
  clear hW0 g0 b0
  have HN := Lib.hid (fun V (hV : Below w.heap.size w V) => HN0 V (hT.below hV))
  have HG := fun p W1 (hS : SuiteAt W1 p kb m) V (hV : Below w.heap.size w V) (hb : Below W1.heap.size W1 V) => ptag13_any kb m b ao cap hms hml p V (hrow.below hV) (hS.below hb) (hT.below hV).1
  have HF := fun p W1 (hS : SuiteAt W1 p kb m) V (hV : Below w.heap.size w V) (hb : Below W1.heap.size W1 V) => pfits13_any kb m b ao cap hms hml tag p V (hrow.below hV) (hS.below hb) (hT.below hV).1
  have HFX := fun p W1 (hS : SuiteAt W1 p kb m) V (hV : Below w.heap.size w V) (hb : Below W1.heap.size W1 V) => pfits13_any kb m b ao cap hms hml (tb (tagBt cryP kb (bl m) b).1) p V (hrow.below hV) (hS.below hb) (hT.below hV).1
  have HRG := fun V (hV : Below w.heap.size w V) => rtag13_any k h12 m hl3 b ao cap hms hml V (hrow.below hV)
  have HRF := fun V (hV : Below w.heap.size w V) => rfits13_any k h12 m hl3 b ao cap hms hml tag V (hrow.below hV)
  rw [hkb] at HRG HRF
  rw [show fitBt cryP kb (bl m) b (tb (tagBt cryP kb (bl m) b).1) = false from by unfold fitBt; simp [h0]] at HFX
  generalize fitBt cryP kb (bl m) b tag = fz at *
  generalize tagBt cryP kb (bl m) b = T at *
  obtain ⟨tr, te⟩ := T
  rw [st2_tb] at HG HRG
  dsimp only at h0 HFX
  generalize tb tr = rt at *
  rw [hl1] at LL
  have y1 : ((te : Int) == 0) = false := by rw [beq_eq_false_iff_ne]; omega
  obtain ⟨c, e, q, aud, mem, org⟩ := b
  dsimp only [btC] at *
  generalize mem.length = n at *
  unfold suiteV at HRG HRF
  have LL := Lib.hid LL
  have HCE0 := Lib.hid (fun W1 => show (∀ W, BAt W w.heap.size ⟨c, e, q, aud, mem, org⟩ (.slice ao n cap) → W.heap[W1]? = some (.cells #[.int .u8 k, .string m] 45 (0, 0)) → W.cell? ⟨w.heap.size, 0, none⟩ = some (.int .i64 c) ∧ W.cell? ⟨w.heap.size, 1, none⟩ = some (.int .i64 e) ∧ W.cell? ⟨w.heap.size, 2, none⟩ = some (.int .i64 q) ∧ W.cell? ⟨w.heap.size, 3, none⟩ = some (.int .i64 aud) ∧ W.cell? ⟨w.heap.size, 4, none⟩ = some (.slice ao n cap) ∧ W.cell? ⟨w.heap.size, 5, none⟩ = some (.int .i64 org) ∧ W.cell? ⟨W1, 0, none⟩ = some (.int .u8 k) ∧ W.cell? ⟨W1, 1, none⟩ = some (.string m)) from fun V h g => by
    obtain ⟨a0, a1, a2, a3, a4, a5⟩ := h.cells
    exact ⟨a0, a1, a2, a3, a4, a5, cell_of_row _ _ 0 _ _ _ g, cell_of_row _ _ 1 _ _ _ g⟩)
  have HG := Lib.hid HG
  have HF := Lib.hid HF
  have HFX := Lib.hid HFX
  have HRG := Lib.hid HRG
  have HRF := Lib.hid HRF
  clear hrow hT hl1 hl2 hl3 p1 p2 hms hml hk hkb h12 HN0 h0
  go_enter Tryz.func4, Tryz.ntmps4
  go_wp2_with fail
  rw [← HW0.out]
  refine (LL.out _ BB.out).mono ?_; rintro e1 V1 ⟨rfl, hw⟩; rw [hw]; clear hw V1
  go_wp2_with fail
  refine (HN.out _ BB.out).mono ?_; rintro e2 W1 ⟨⟨p, rfl, hS⟩, b2⟩
  have HG := Lib.hid (HG.out p W1 hS)
  have HF := Lib.hid (HF.out p W1 hS)
  have HFX := Lib.hid (HFX.out p W1 hS)
  have HCE := Lib.hid (HCE0.out W1.heap.size)
  have GG := Lib.hid (GG.out.below b2)
  have BB := Lib.hid (below_step BB.out b2)
  clear hS b2 HN HCE0
  obtain ⟨W2, hW2⟩ : ∃ V, V = W1.alloc (.cells #[.int .u8 k, .string m] 45) := ⟨_, rfl⟩
  have b3 : Below W1.heap.size W1 W2 := by rw [hW2]; exact (Below.refl _ _).alloc (Nat.le_refl _) _
  have SS := Lib.hid (show W2.heap[W1.heap.size]? = some (.cells #[.int .u8 k, .string m] 45 (0, 0)) from by rw [hW2]; exact heap_alloc_new _ _)
  have GG := Lib.hid (GG.out.below b3)
  have BB := Lib.hid (below_step BB.out b3)
  have BS := Lib.hid b3
  obtain ⟨x0, x1, x2, x3, x4, x5, y6, y7⟩ := HCE.out _ GG.out SS.out
  rw [hW2] at x0 x1 x2 x3 x4 x5 y6 y7
  have HW2 := Lib.hid hW2
  clear b3 hW2
  go_wp2_with fail
  rw [← HW2.out]
  clear x0 x1 x2 x3 x4 x5 y6 y7
  refine (HG.out _ BB.out BS.out).mono ?_; rintro e3 w3 ⟨rfl, b3⟩
  have GG := Lib.hid (GG.out.below b3)
  have SS := Lib.hid (heap_below b3 SS.out)
  have BB := Lib.hid (below_step BB.out b3)
  have BS := Lib.hid (below_step BS.out b3)
  clear b3
  obtain ⟨x0, x1, x2, x3, x4, x5, y6, y7⟩ := HCE.out _ GG.out SS.out
  go_wp2_with fail
  clear x0 x1 x2 x3 x4 x5 y6 y7
  refine (HRG.out _ BB.out).mono ?_; rintro e4 w4 ⟨rfl, b4⟩
  have GG := Lib.hid (GG.out.below b4)
  have SS := Lib.hid (heap_below b4 SS.out)
  have BB := Lib.hid (below_step BB.out b4)
  have BS := Lib.hid (below_step BS.out b4)
  clear b4
  go_wp2_with fail
  have GG := Lib.hid (GG.out.below (drew12 w4))
  have SS := Lib.hid (heap_below (drew12 w4) SS.out)
  have BB := Lib.hid (below_step BB.out (drew12 w4))
  have BS := Lib.hid (below_step BS.out (drew12 w4))
  have KS := HCE.out _ GG.out SS.out
  refine wp_region_held_drew (S := fun W => W.cell? ⟨w.heap.size, 0, none⟩ = some (.int .i64 c) ∧ W.cell? ⟨w.heap.size, 1, none⟩ = some (.int .i64 e) ∧ W.cell? ⟨w.heap.size, 2, none⟩ = some (.int .i64 q) ∧ W.cell? ⟨w.heap.size, 3, none⟩ = some (.int .i64 aud) ∧ W.cell? ⟨w.heap.size, 4, none⟩ = some (.slice ao n cap) ∧ W.cell? ⟨w.heap.size, 5, none⟩ = some (.int .i64 org) ∧ W.cell? ⟨W1.heap.size, 0, none⟩ = some (.int .u8 k) ∧ W.cell? ⟨W1.heap.size, 1, none⟩ = some (.string m)) (by kernel_rfl) (by first | assumption | exact KS) (fun hHeld => ?_)
  generalize w4.drew = wz at *
  refine wpAnyH_take (i := 0) (oi := { dst := some 65, op := Op.move (Operand.tmp 14), type := 9, pos := "law.go:80", after := #[], guard := none }) (v := ?_) rfl (by kernel_rfl) (by kernel_rfl) (by kernel_rfl) (fun _ _ _ h => h) (Or.inl ⟨by rfl, ?_⟩) (by assumption) ?_
  rotate_left 1
  · (intro w hSw; (try dsimp only at hSw); go_simp; try with_reducible rfl)
  (try simp only [Act.put, List.setIfInBounds_toArray, List.set_cons_zero, List.set_cons_succ])
  refine wpAnyH_take (i := 1) (oi := { dst := some 66, op := Op.move (Operand.tmp 16), type := 9, pos := "law.go:80", after := #[], guard := none }) (v := ?_) rfl (by kernel_rfl) (by kernel_rfl) (by kernel_rfl) (fun _ _ _ h => h) (Or.inl ⟨by rfl, ?_⟩) (by assumption) ?_
  rotate_left 1
  · (intro w hSw; (try dsimp only at hSw); go_simp; try with_reducible rfl)
  (try simp only [Act.put, List.setIfInBounds_toArray, List.set_cons_zero, List.set_cons_succ])
  refine wpAnyH_take (i := 2) (oi := { dst := some 67, op := Op.binOp BinOp.eql 9 (Operand.tmp 65) (Operand.tmp 66) 9, type := 4, pos := "law.go:80", after := #[{ on := 0, ground := Ground.data }, { on := 1, ground := Ground.data }], guard := none }) (v := ?_) rfl (by kernel_rfl) (by kernel_rfl) (by kernel_rfl) (fun _ _ _ h => h) (Or.inl ⟨by rfl, ?_⟩) (by assumption) ?_
  rotate_left 1
  · (intro w hSw; (try dsimp only at hSw); go_simp; try with_reducible rfl)
  (try simp only [Act.put, List.setIfInBounds_toArray, List.set_cons_zero, List.set_cons_succ])
  refine wpAnyH_take (i := 3) (oi := { dst := some 68, op := Op.move (Operand.tmp 67), type := 4, pos := "law.go:80", after := #[{ on := 2, ground := Ground.data }], guard := none }) (v := ?_) rfl (by kernel_rfl) (by kernel_rfl) (by kernel_rfl) (fun _ _ _ h => h) (Or.inl ⟨by rfl, ?_⟩) (by assumption) ?_
  rotate_left 1
  · (intro w hSw; (try dsimp only at hSw); go_simp; try with_reducible rfl)
  (try simp only [Act.put, List.setIfInBounds_toArray, List.set_cons_zero, List.set_cons_succ])
  refine wpAnyH_take (i := 4) (oi := { dst := some 69, op := Op.move (Operand.tmp 15), type := 29, pos := "law.go:80", after := #[{ on := 3, ground := Ground.guard }], guard := some (3, true) }) (v := ?_) rfl (by kernel_rfl) (by kernel_rfl) (by kernel_rfl) (fun _ _ _ h => h) (Or.inl ⟨by rfl, ?_⟩) (by assumption) ?_
  rotate_left 1
  · (intro w hSw; (try dsimp only at hSw); go_simp; try with_reducible rfl)
  (try simp only [Act.put, List.setIfInBounds_toArray, List.set_cons_zero, List.set_cons_succ])
  refine wpAnyH_take (i := 5) (oi := { dst := some 70, op := Op.move (Operand.tmp 17), type := 29, pos := "law.go:80", after := #[{ on := 3, ground := Ground.guard }], guard := some (3, true) }) (v := ?_) rfl (by kernel_rfl) (by kernel_rfl) (by kernel_rfl) (fun _ _ _ h => h) (Or.inl ⟨by rfl, ?_⟩) (by assumption) ?_
  rotate_left 1
  · (intro w hSw; (try dsimp only at hSw); go_simp; try with_reducible rfl)
  (try simp only [Act.put, List.setIfInBounds_toArray, List.set_cons_zero, List.set_cons_succ])
  refine wpAnyH_take (i := 6) (oi := { dst := some 71, op := Op.binOp BinOp.eql 29 (Operand.tmp 69) (Operand.tmp 70) 29, type := 4, pos := "law.go:80", after := #[{ on := 4, ground := Ground.data }, { on := 5, ground := Ground.data }, { on := 3, ground := Ground.guard }], guard := some (3, true) }) (v := ?_) rfl (by kernel_rfl) (by kernel_rfl) (by kernel_rfl) (fun _ _ _ h => h) (Or.inl ⟨by rfl, ?_⟩) (by assumption) ?_
  rotate_left 1
  · (intro w hSw; (try dsimp only at hSw); go_simp; try with_reducible rfl)
  (try simp only [Act.put, List.setIfInBounds_toArray, List.set_cons_zero, List.set_cons_succ])
  refine wpAnyH_take (i := 7) (oi := { dst := some 72, op := Op.pick (Operand.tmp 68) (Operand.tmp 71) (Operand.const (Value.bool false)), type := 4, pos := "law.go:80", after := #[{ on := 3, ground := Ground.data }, { on := 6, ground := Ground.data }], guard := none }) (v := ?_) rfl (by kernel_rfl) (by kernel_rfl) (by kernel_rfl) (fun _ _ _ h => h) (Or.inl ⟨by rfl, ?_⟩) (by assumption) ?_
  rotate_left 1
  · (intro w hSw; (try dsimp only at hSw); go_simp; try with_reducible rfl)
  (try simp only [Act.put, List.setIfInBounds_toArray, List.set_cons_zero, List.set_cons_succ])
  refine wpAnyH_take (i := 8) (oi := { dst := some 73, op := Op.move (Operand.tmp 72), type := 4, pos := "law.go:80", after := #[{ on := 7, ground := Ground.data }, { on := 3, ground := Ground.chain }], guard := none }) (v := ?_) rfl (by kernel_rfl) (by kernel_rfl) (by kernel_rfl) (fun _ _ _ h => h) (Or.inl ⟨by rfl, ?_⟩) (by assumption) ?_
  rotate_left 1
  · (intro w hSw; (try dsimp only at hSw); go_simp; try with_reducible rfl)
  (try simp only [Act.put, List.setIfInBounds_toArray, List.set_cons_zero, List.set_cons_succ])
  refine wpAnyH_take (i := 9) (oi := { dst := some 74, op := Op.move (Operand.tmp 9), type := 40, pos := "law.go:80", after := #[{ on := 8, ground := Ground.guard }], guard := some (8, true) }) (v := ?_) rfl (by kernel_rfl) (by kernel_rfl) (by kernel_rfl) (fun _ _ _ h => h) (Or.inl ⟨by rfl, ?_⟩) (by assumption) ?_
  rotate_left 1
  · (intro w hSw; (try dsimp only at hSw); go_simp; try with_reducible rfl)
  (try simp only [Act.put, List.setIfInBounds_toArray, List.set_cons_zero, List.set_cons_succ])
  refine wpAnyH_take (i := 10) (oi := { dst := some 75, op := Op.load 26 (Operand.tmp 6), type := 26, pos := "law.go:80", after := #[{ on := 8, ground := Ground.guard }], guard := some (8, true) }) (v := ?_) rfl (by kernel_rfl) (by kernel_rfl) (by kernel_rfl) (fun _ _ _ h => h) (Or.inl ⟨by rfl, ?_⟩) (by assumption) ?_
  rotate_left 1
  · (intro w hSw; (try dsimp only at hSw); go_simp; try with_reducible rfl)
  (try simp only [Act.put, List.setIfInBounds_toArray, List.set_cons_zero, List.set_cons_succ])
  refine wpAnyH_take (i := 11) (oi := { dst := some 76, op := Op.move (Operand.tmp 3), type := 9, pos := "law.go:80", after := #[{ on := 8, ground := Ground.guard }], guard := some (8, true) }) (v := ?_) rfl (by kernel_rfl) (by kernel_rfl) (by kernel_rfl) (fun _ _ _ h => h) (Or.inl ⟨by rfl, ?_⟩) (by assumption) ?_
  rotate_left 1
  · (intro w hSw; (try dsimp only at hSw); go_simp; try with_reducible rfl)
  (try simp only [Act.put, List.setIfInBounds_toArray, List.set_cons_zero, List.set_cons_succ])
  refine wpAnyH_take (i := 13) (oi := { dst := some 78, op := Op.load 45 (Operand.tmp 13), type := 45, pos := "law.go:80", after := #[{ on := 8, ground := Ground.guard }], guard := some (8, true) }) (v := ?_) rfl (by kernel_rfl) (by kernel_rfl) (by kernel_rfl) (fun _ _ _ h => h) (Or.inl ⟨by rfl, ?_⟩) (by assumption) ?_
  rotate_left 1
  · (intro w hSw; (try dsimp only at hSw); go_simp; try with_reducible rfl)
  (try simp only [Act.put, List.setIfInBounds_toArray, List.set_cons_zero, List.set_cons_succ])
  refine wpAnyH_take (i := 14) (oi := { dst := some 79, op := Op.load 26 (Operand.tmp 6), type := 26, pos := "law.go:80", after := #[{ on := 8, ground := Ground.guard }], guard := some (8, true) }) (v := ?_) rfl (by kernel_rfl) (by kernel_rfl) (by kernel_rfl) (fun _ _ _ h => h) (Or.inl ⟨by rfl, ?_⟩) (by assumption) ?_
  rotate_left 1
  · (intro w hSw; (try dsimp only at hSw); go_simp; try with_reducible rfl)
  (try simp only [Act.put, List.setIfInBounds_toArray, List.set_cons_zero, List.set_cons_succ])
  refine wpAnyH_take (i := 15) (oi := { dst := some 80, op := Op.move (Operand.tmp 3), type := 9, pos := "law.go:80", after := #[{ on := 8, ground := Ground.guard }], guard := some (8, true) }) (v := ?_) rfl (by kernel_rfl) (by kernel_rfl) (by kernel_rfl) (fun _ _ _ h => h) (Or.inl ⟨by rfl, ?_⟩) (by assumption) ?_
  rotate_left 1
  · (intro w hSw; (try dsimp only at hSw); go_simp; try with_reducible rfl)
  (try simp only [Act.put, List.setIfInBounds_toArray, List.set_cons_zero, List.set_cons_succ])
  refine wpAnyH_ready (rs := [12]) (by kernel_rfl) (by simp) ?_
  refine AllReadyH.cons (o := { dst := some 77, op := Op.call { callee := Callee.value (Operand.func 20), args := #[Operand.tmp 74, Operand.tmp 75, Operand.tmp 76], argTypes := #[40, 26, 9] }, type := 4, pos := "law.go:80", after := #[{ on := 9, ground := Ground.data }, { on := 10, ground := Ground.data }, { on := 11, ground := Ground.data }, { on := 8, ground := Ground.chain }, { on := 8, ground := Ground.guard }], guard := some (8, true) }) rfl (fun K hK => ?_) AllReadyH.nil
  go_simp
  refine (HF.out _ BB.out BS.out).mono ?_; rintro e5 w5 ⟨rfl, b5⟩
  have GG := Lib.hid (GG.out.below b5)
  have SS := Lib.hid (heap_below b5 SS.out)
  have BB := Lib.hid (below_step BB.out b5)
  have BS := Lib.hid (below_step BS.out b5)
  clear b5
  refine hK.out _ _ (HCE.out _ GG.out SS.out) (fun hHeld => ?_)
  clear hK K
  (try simp only [Act.put, List.setIfInBounds_toArray, List.set_cons_zero, List.set_cons_succ])
  refine wpAnyH_ready (rs := [16]) (by kernel_rfl) (by simp) ?_
  refine AllReadyH.cons (o := { dst := some 81, op := Op.call { callee := Callee.value (Operand.func 21), args := #[Operand.tmp 78, Operand.tmp 79, Operand.tmp 80], argTypes := #[45, 26, 9] }, type := 4, pos := "law.go:80", after := #[{ on := 13, ground := Ground.data }, { on := 14, ground := Ground.data }, { on := 15, ground := Ground.data }, { on := 12, ground := Ground.chain }, { on := 8, ground := Ground.guard }], guard := some (8, true) }) rfl (fun K hK => ?_) AllReadyH.nil
  go_simp
  refine (HRF.out _ BB.out).mono ?_; rintro e6 w6 ⟨rfl, b6⟩
  have GG := Lib.hid (GG.out.below b6)
  have SS := Lib.hid (heap_below b6 SS.out)
  have BB := Lib.hid (below_step BB.out b6)
  have BS := Lib.hid (below_step BS.out b6)
  clear b6
  refine hK.out _ _ (HCE.out _ GG.out SS.out) (fun hHeld => ?_)
  clear hK K
  (try simp only [Act.put, List.setIfInBounds_toArray, List.set_cons_zero, List.set_cons_succ])
  refine wpAnyH_take (i := 17) (oi := { dst := some 82, op := Op.binOp BinOp.eql 4 (Operand.tmp 77) (Operand.tmp 81) 4, type := 4, pos := "law.go:80", after := #[{ on := 12, ground := Ground.data }, { on := 16, ground := Ground.data }, { on := 8, ground := Ground.guard }], guard := some (8, true) }) (v := ?_) rfl (by kernel_rfl) (by kernel_rfl) (by kernel_rfl) (fun _ _ _ h => h) (Or.inl ⟨by rfl, ?_⟩) (by assumption) ?_
  rotate_left 1
  · (intro w hSw; (try dsimp only at hSw); go_simp; try with_reducible rfl)
  (try simp only [Act.put, List.setIfInBounds_toArray, List.set_cons_zero, List.set_cons_succ])
  refine wpAnyH_take (i := 18) (oi := { dst := some 83, op := Op.pick (Operand.tmp 73) (Operand.tmp 82) (Operand.const (Value.bool false)), type := 4, pos := "law.go:80", after := #[{ on := 8, ground := Ground.data }, { on := 17, ground := Ground.data }], guard := none }) (v := ?_) rfl (by kernel_rfl) (by kernel_rfl) (by kernel_rfl) (fun _ _ _ h => h) (Or.inl ⟨by rfl, ?_⟩) (by assumption) ?_
  rotate_left 1
  · (intro w hSw; (try dsimp only at hSw); go_simp; try with_reducible rfl)
  (try simp only [Act.put, List.setIfInBounds_toArray, List.set_cons_zero, List.set_cons_succ])
  refine wpAnyH_take (i := 19) (oi := { dst := some 84, op := Op.move (Operand.tmp 83), type := 4, pos := "law.go:80", after := #[{ on := 18, ground := Ground.data }, { on := 16, ground := Ground.chain }], guard := none }) (v := ?_) rfl (by kernel_rfl) (by kernel_rfl) (by kernel_rfl) (fun _ _ _ h => h) (Or.inl ⟨by rfl, ?_⟩) (by assumption) ?_
  rotate_left 1
  · (intro w hSw; (try dsimp only at hSw); go_simp; try with_reducible rfl)
  (try simp only [Act.put, List.setIfInBounds_toArray, List.set_cons_zero, List.set_cons_succ])
  refine wpAnyH_take (i := 20) (oi := { dst := some 85, op := Op.move (Operand.tmp 9), type := 40, pos := "law.go:80", after := #[{ on := 19, ground := Ground.guard }], guard := some (19, true) }) (v := ?_) rfl (by kernel_rfl) (by kernel_rfl) (by kernel_rfl) (fun _ _ _ h => h) (Or.inl ⟨by rfl, ?_⟩) (by assumption) ?_
  rotate_left 1
  · (intro w hSw; (try dsimp only at hSw); go_simp; try with_reducible rfl)
  (try simp only [Act.put, List.setIfInBounds_toArray, List.set_cons_zero, List.set_cons_succ])
  refine wpAnyH_take (i := 21) (oi := { dst := some 86, op := Op.load 26 (Operand.tmp 6), type := 26, pos := "law.go:80", after := #[{ on := 19, ground := Ground.guard }], guard := some (19, true) }) (v := ?_) rfl (by kernel_rfl) (by kernel_rfl) (by kernel_rfl) (fun _ _ _ h => h) (Or.inl ⟨by rfl, ?_⟩) (by assumption) ?_
  rotate_left 1
  · (intro w hSw; (try dsimp only at hSw); go_simp; try with_reducible rfl)
  (try simp only [Act.put, List.setIfInBounds_toArray, List.set_cons_zero, List.set_cons_succ])
  refine wpAnyH_take (i := 22) (oi := { dst := some 87, op := Op.move (Operand.tmp 14), type := 9, pos := "law.go:80", after := #[{ on := 19, ground := Ground.guard }], guard := some (19, true) }) (v := ?_) rfl (by kernel_rfl) (by kernel_rfl) (by kernel_rfl) (fun _ _ _ h => h) (Or.inl ⟨by rfl, ?_⟩) (by assumption) ?_
  rotate_left 1
  · (intro w hSw; (try dsimp only at hSw); go_simp; try with_reducible rfl)
  (try simp only [Act.put, List.setIfInBounds_toArray, List.set_cons_zero, List.set_cons_succ])
  refine wpAnyH_take (i := 24) (oi := { dst := some 89, op := Op.move (Operand.tmp 17), type := 29, pos := "law.go:80", after := #[{ on := 19, ground := Ground.guard }], guard := some (19, true) }) (v := ?_) rfl (by kernel_rfl) (by kernel_rfl) (by kernel_rfl) (fun _ _ _ h => h) (Or.inl ⟨by rfl, ?_⟩) (by assumption) ?_
  rotate_left 1
  · (intro w hSw; (try dsimp only at hSw); go_simp; try with_reducible rfl)
  (try simp only [Act.put, List.setIfInBounds_toArray, List.set_cons_zero, List.set_cons_succ])
  refine wpAnyH_take (i := 25) (oi := { dst := some 90, op := Op.binOp BinOp.eql 29 (Operand.tmp 89) (Operand.const (Value.int IntKind.i64 0)) 29, type := 4, pos := "law.go:80", after := #[{ on := 24, ground := Ground.data }, { on := 19, ground := Ground.guard }], guard := some (19, true) }) (v := ?_) rfl (by kernel_rfl) (by kernel_rfl) (by kernel_rfl) (fun _ _ _ h => h) (Or.inl ⟨by rfl, ?_⟩) (by assumption) ?_
  rotate_left 1
  · (intro w hSw; (try dsimp only at hSw); go_simp; try with_reducible rfl)
  (try simp only [Act.put, List.setIfInBounds_toArray, List.set_cons_zero, List.set_cons_succ])
  refine wpAnyH_ready (rs := [23]) (by kernel_rfl) (by simp) ?_
  refine AllReadyH.cons (o := { dst := some 88, op := Op.call { callee := Callee.value (Operand.func 20), args := #[Operand.tmp 85, Operand.tmp 86, Operand.tmp 87], argTypes := #[40, 26, 9] }, type := 4, pos := "law.go:80", after := #[{ on := 20, ground := Ground.data }, { on := 21, ground := Ground.data }, { on := 22, ground := Ground.data }, { on := 19, ground := Ground.chain }, { on := 19, ground := Ground.guard }], guard := some (19, true) }) rfl (fun K hK => ?_) AllReadyH.nil
  go_simp
  refine (HFX.out _ BB.out BS.out).mono ?_; rintro e7 w7 ⟨rfl, b7⟩
  have GG := Lib.hid (GG.out.below b7)
  have SS := Lib.hid (heap_below b7 SS.out)
  have BB := Lib.hid (below_step BB.out b7)
  have BS := Lib.hid (below_step BS.out b7)
  clear b7
  refine hK.out _ _ (HCE.out _ GG.out SS.out) (fun hHeld => ?_)
  clear hK K
  (try simp only [Act.put, List.setIfInBounds_toArray, List.set_cons_zero, List.set_cons_succ])
  refine wpAnyH_take (i := 26) (oi := { dst := some 91, op := Op.binOp BinOp.eql 4 (Operand.tmp 88) (Operand.tmp 90) 4, type := 4, pos := "law.go:80", after := #[{ on := 23, ground := Ground.data }, { on := 25, ground := Ground.data }, { on := 19, ground := Ground.guard }], guard := some (19, true) }) (v := ?_) rfl (by kernel_rfl) (by kernel_rfl) (by kernel_rfl) (fun _ _ _ h => h) (Or.inl ⟨by rfl, ?_⟩) (by assumption) ?_
  rotate_left 1
  · (intro w hSw; (try dsimp only at hSw); go_simp; try with_reducible rfl)
  (try simp only [Act.put, List.setIfInBounds_toArray, List.set_cons_zero, List.set_cons_succ])
  refine wpAnyH_take (i := 27) (oi := { dst := some 92, op := Op.pick (Operand.tmp 84) (Operand.tmp 91) (Operand.const (Value.bool false)), type := 4, pos := "law.go:80", after := #[{ on := 19, ground := Ground.data }, { on := 26, ground := Ground.data }], guard := none }) (v := ?_) rfl (by kernel_rfl) (by kernel_rfl) (by kernel_rfl) (fun _ _ _ h => h) (Or.inl ⟨by rfl, ?_⟩) (by assumption) ?_
  rotate_left 1
  · (intro w hSw; (try dsimp only at hSw); go_simp; try with_reducible rfl)
  (try simp only [Act.put, List.setIfInBounds_toArray, List.set_cons_zero, List.set_cons_succ])
  refine wpAnyH_take (i := 28) (oi := { dst := some 93, op := Op.move (Operand.tmp 92), type := 4, pos := "law.go:80", after := #[{ on := 27, ground := Ground.data }, { on := 23, ground := Ground.chain }], guard := none }) (v := ?_) rfl (by kernel_rfl) (by kernel_rfl) (by kernel_rfl) (fun _ _ _ h => h) (Or.inl ⟨by rfl, ?_⟩) (by assumption) ?_
  rotate_left 1
  · (intro w hSw; (try dsimp only at hSw); go_simp; try with_reducible rfl)
  (try simp only [Act.put, List.setIfInBounds_toArray, List.set_cons_zero, List.set_cons_succ])
  refine wpAnyH_ready (rs := [29]) (by kernel_rfl) (by simp) ?_
  refine AllReadyH.cons (o := { dst := some 94, op := Op.call { callee := Callee.value (Operand.func 7), args := #[], argTypes := #[] }, type := 4, pos := "law.go:80", after := #[{ on := 28, ground := Ground.chain }, { on := 28, ground := Ground.guard }], guard := some (28, true) }) rfl (fun K hK => ?_) AllReadyH.nil
  go_simp
  refine (HA.out _ BB.out).mono ?_; rintro e8 w8 ⟨rfl, b8⟩
  have GG := Lib.hid (GG.out.below b8)
  have SS := Lib.hid (heap_below b8 SS.out)
  have BB := Lib.hid (below_step BB.out b8)
  have BS := Lib.hid (below_step BS.out b8)
  clear b8
  refine hK.out _ _ (HCE.out _ GG.out SS.out) (fun hHeld => ?_)
  clear hK K
  (try simp only [Act.put, List.setIfInBounds_toArray, List.set_cons_zero, List.set_cons_succ])
  refine wpAnyH_take (i := 30) (oi := { dst := some 95, op := Op.pick (Operand.tmp 93) (Operand.tmp 94) (Operand.const (Value.bool false)), type := 4, pos := "law.go:80", after := #[{ on := 28, ground := Ground.data }, { on := 29, ground := Ground.data }], guard := none }) (v := ?_) rfl (by kernel_rfl) (by kernel_rfl) (by kernel_rfl) (fun _ _ _ h => h) (Or.inl ⟨by rfl, ?_⟩) (by assumption) ?_
  rotate_left 1
  · (intro w hSw; (try dsimp only at hSw); go_simp; try with_reducible rfl)
  (try simp only [Act.put, List.setIfInBounds_toArray, List.set_cons_zero, List.set_cons_succ])
  refine wpAnyH_take (i := 31) (oi := { dst := some 8, op := Op.assign (Operand.tmp 95), type := 4, pos := "law.go:80", after := #[{ on := 30, ground := Ground.data }, { on := 29, ground := Ground.chain }, { on := 0, ground := Ground.phase }, { on := 1, ground := Ground.phase }, { on := 2, ground := Ground.phase }, { on := 3, ground := Ground.phase }, { on := 4, ground := Ground.phase }, { on := 5, ground := Ground.phase }, { on := 6, ground := Ground.phase }, { on := 7, ground := Ground.phase }, { on := 8, ground := Ground.phase }, { on := 9, ground := Ground.phase }, { on := 10, ground := Ground.phase }, { on := 11, ground := Ground.phase }, { on := 12, ground := Ground.phase }, { on := 13, ground := Ground.phase }, { on := 14, ground := Ground.phase }, { on := 15, ground := Ground.phase }, { on := 16, ground := Ground.phase }, { on := 17, ground := Ground.phase }, { on := 18, ground := Ground.phase }, { on := 19, ground := Ground.phase }, { on := 20, ground := Ground.phase }, { on := 21, ground := Ground.phase }, { on := 22, ground := Ground.phase }, { on := 23, ground := Ground.phase }, { on := 24, ground := Ground.phase }, { on := 25, ground := Ground.phase }, { on := 26, ground := Ground.phase }, { on := 27, ground := Ground.phase }, { on := 28, ground := Ground.phase }, { on := 29, ground := Ground.phase }, { on := 30, ground := Ground.phase }], guard := none }) (v := ?_) rfl (by kernel_rfl) (by kernel_rfl) (by kernel_rfl) (fun _ _ _ h => h) (Or.inl ⟨by rfl, ?_⟩) (by assumption) ?_
  rotate_left 1
  · (intro w hSw; (try dsimp only at hSw); go_simp; try with_reducible rfl)
  (try simp only [Act.put, List.setIfInBounds_toArray, List.set_cons_zero, List.set_cons_succ])
  refine wpAnyH_done (by kernel_rfl) ?_ _
  go_wp2_with fail
  go_ret
  exact ⟨rfl, BB.out⟩

theorem ballottags_any (k : Nat) (m : ByteArray) (b : Bt) (tag : ByteArray) (ao : Option Addr) (cap : Nat) (w : World) (hT : KeyTabs w) (hrow : MemRow w ao b.mem) (hlen : b.mem.length ≤ 9223372036854775807) :
    Calls Tryz.prog 4 #[.int .u8 k, .string m, .agg (btC b (.slice ao b.mem.length cap)), .string tag] w fun x w' => x = .returned (.bool true) ∧ Below w.heap.size w w' := by
  by_cases hlong : longL b.mem = true ∨ 20000 < tag.size ∨ 1000 < m.size
  · exact tags_long k m b tag ao cap w hT hrow hlen hlong
  · have hshort : longL b.mem = false ∧ tag.size ≤ 20000 ∧ m.size ≤ 1000 := by
      refine ⟨?_, ?_, ?_⟩
      · cases h : longL b.mem with
        | true => exact absurd (.inl h) hlong
        | false => rfl
      · apply Classical.byContradiction; intro h; exact hlong (.inr (.inl (by omega)))
      · apply Classical.byContradiction; intro h; exact hlong (.inr (.inr (by omega)))
    by_cases h1 : k = 1
    · subst h1
      by_cases h0 : (tagBt cryP true (bl m) b).2 = 0
      · exact tags_ok 1 true (.inl ⟨rfl, rfl⟩) m b tag ao cap w hT hrow hlen hshort (fun V hV => new_terms m V hV.2) h0
      · exact tags_no 1 true (.inl ⟨rfl, rfl⟩) m b tag ao cap w hT hrow hlen hshort (fun V hV => new_terms m V hV.2) h0
    · by_cases h2 : k = 2 ∧ 1 ≤ m.size ∧ m.size ≤ 64
      · obtain ⟨rfl, h3, h4⟩ := h2
        by_cases h0 : (tagBt cryP false (bl m) b).2 = 0
        · exact tags_ok 2 false (.inr ⟨rfl, rfl⟩) m b tag ao cap w hT hrow hlen hshort (fun V hV => new_bytes m h3 h4 V hV.2) h0
        · exact tags_no 2 false (.inr ⟨rfl, rfl⟩) m b tag ao cap w hT hrow hlen hshort (fun V hV => new_bytes m h3 h4 V hV.2) h0
      · exact tags_none k m b tag ao cap w hT hrow hlen hshort h1 h2
end Go.Proofs.YtbdlegjklfkdmaaGreatDoor.Pl
