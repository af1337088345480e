/- What the reader's next reads: where no line begins. -/
import Derived.Test.YtiehhlolhhjgpaaGreatDoorShowNextA
namespace Go.Proofs.YtiehhlolhhjgpaaGreatDoor.Pl
open Go.RowKit

set_option maxHeartbeats 8000000 in
set_option maxRecDepth 100000 in
theorem next_none (B : Nat) (hB : B ≠ 0) (S : List UInt8) (D : Int) (hD : D ≤ 16) (w : World) (h : At7 B S w) (hF : Frames w) (n34 : ([34] : List UInt8).isPrefixOf S = false) (n120 : ([120] : List UInt8).isPrefixOf S = false) (n36 : ([36] : List UInt8).isPrefixOf S = false) (n91 : ([91] : List UInt8).isPrefixOf S = false) (n104_40 : ([104, 40] : List UInt8).isPrefixOf S = false) (n109_40 : ([109, 40] : List UInt8).isPrefixOf S = false) (n115_40 : ([115, 40] : List UInt8).isPrefixOf S = false) :
    Calls Tryz.prog 38 #[rdV B, .int .i64 D] w (RdPost B w none) := by
  have HFR := Lib.hid hF
  have HB0 := Lib.hid hB
  clear hF hB
  obtain ⟨hk, h0, hk0, m0⟩ := boxed7 B S w h
  have A0 := Lib.hid h0
  have K0 := Lib.hid hk0
  have M0 := Lib.hid m0
  have HKB := Lib.hid hk
  clear h0 hk0 m0 hk h
  have SK34 := skip_of B S [34] false (n34)
  simp only [Bool.false_eq_true, if_false] at SK34
  have SK120 := skip_of B S [120] false (n120)
  simp only [Bool.false_eq_true, if_false] at SK120
  have SK36 := skip_of B S [36] false (n36)
  simp only [Bool.false_eq_true, if_false] at SK36
  have SK91 := skip_of B S [91] false (n91)
  simp only [Bool.false_eq_true, if_false] at SK91
  have SK104_40 := skip_of B S [104, 40] false (n104_40)
  simp only [Bool.false_eq_true, if_false] at SK104_40
  have SK109_40 := skip_of B S [109, 40] false (n109_40)
  simp only [Bool.false_eq_true, if_false] at SK109_40
  have SK115_40 := skip_of B S [115, 40] false (n115_40)
  simp only [Bool.false_eq_true, if_false] at SK115_40
  clear n34 n120 n36 n91 n104_40 n109_40 n115_40
  go_enter Tryz.func38, Tryz.ntmps38
  go_wp2_with (go_at_call 39; refine (need7_ok _).mono ?_; rintro e w0 ⟨rfl, rfl⟩)
  refine (SK34.out _ A0.out).mono ?_; rintro e w1 ⟨rfl, a, m⟩
  have K1 := Lib.hid (m.heap HKB.out K0.out); obtain ⟨c0, c1⟩ := rd_cells K1.out; have A1 := Lib.hid a; have M1 := Lib.hid (M0.out.trans m); clear a m
  go_wp2_with fail
  refine (SK120.out _ A1.out).mono ?_; rintro e w2 ⟨rfl, a, m⟩
  have K2 := Lib.hid (m.heap HKB.out K1.out); obtain ⟨c0, c1⟩ := rd_cells K2.out; have A2 := Lib.hid a; have M2 := Lib.hid (M1.out.trans m); clear a m
  go_wp2_with fail
  refine (SK36.out _ A2.out).mono ?_; rintro e w3 ⟨rfl, a, m⟩
  have K3 := Lib.hid (m.heap HKB.out K2.out); obtain ⟨c0, c1⟩ := rd_cells K3.out; have A3 := Lib.hid a; have M3 := Lib.hid (M2.out.trans m); clear a m
  go_wp2_with fail
  refine wp_loop_rounds 5 ?_
  rw [rounds_succ]
  go_wp2_with fail
  obtain ⟨V20, hV20⟩ : ∃ U, U = World.drew w3 := ⟨_, rfl⟩
  have hl1 : (Instr.loadAt 22 (.pointer (some ⟨w.heap.size, 0, none⟩))).run Tryz.prog V20 = .ok (skipV B) V20 := by rw [hV20]; have hd : (World.drew w3).cell? ⟨w.heap.size, 0, none⟩ = some (skipV B) := c0; go_simp
  have hl5 : (Instr.loadAt 9 (.pointer (some ⟨0, 1, none⟩))).run Tryz.prog V20 = .ok (.string ⟨#[91]⟩) V20 := by rw [hV20]; have hd : (World.drew w3).cell? ⟨0, 1, none⟩ = some (.string ⟨#[91]⟩) := (HFR.out.moved HB0.out M3.out).2 1 (by decide); go_simp
  have HL1 := Lib.hid hl1
  have HL5 := Lib.hid hl5
  have AV20 : Hid (At7 B S V20) := Lib.hid (by rw [hV20]; exact A3.out)
  have KV20 : Hid (V20.heap[w.heap.size]? = some (.cells #[skipV B, upV B] 47 (0, 0))) := Lib.hid (by rw [hV20]; exact K3.out)
  have MV20 : Hid (Moved B w V20) := Lib.hid (by rw [hV20]; exact M3.out.trans (Moved.of_below (Below.refl _ _).drew))
  have HV := Lib.hid hV20
  clear hV20 hl1 hl5
  refine wp_region_any (by kernel_rfl) ?_
  change wpAny _ _ _ _ _ _ _ (World.drew w3)
  rw [← HV.out]
  clear HV
  refine wpAny_take (i := 0) (oi := { dst := some 35, op := Op.fieldAddr 47 (Operand.tmp 2) 0, type := 0, pos := "show.go:206", after := #[], guard := none }) (v := .pointer (some ⟨w.heap.size, 0, none⟩)) rfl (by kernel_rfl) (by kernel_rfl) (by kernel_rfl) (fun _ _ _ h => h) (Or.inl ⟨by rfl, fun w => by go_simp⟩) ?_
  (try simp only [Act.put, List.setIfInBounds_toArray, List.set_cons_zero, List.set_cons_succ])
  refine wpAny_take (i := 2) (oi := { dst := some 37, op := Op.move (Operand.tmp 5), type := 3, pos := "show.go:206", after := #[], guard := none }) (v := .int .i64 0) rfl (by kernel_rfl) (by kernel_rfl) (by kernel_rfl) (fun _ _ _ h => h) (Or.inl ⟨by rfl, fun w => by go_simp⟩) ?_
  (try simp only [Act.put, List.setIfInBounds_toArray, List.set_cons_zero, List.set_cons_succ])
  refine wpAny_take (i := 3) (oi := { dst := some 38, op := Op.indexAddr 78 (Operand.global 0) (Operand.tmp 37), type := 0, pos := "show.go:206", after := #[{ on := 2, ground := Ground.data }], guard := none }) (v := .pointer (some ⟨0, 0, none⟩)) rfl (by kernel_rfl) (by kernel_rfl) (by kernel_rfl) (fun _ _ _ h => h) (Or.inl ⟨by rfl, fun w => by go_simp⟩) ?_
  (try simp only [Act.put, List.setIfInBounds_toArray, List.set_cons_zero, List.set_cons_succ])
  refine wpAny_take (i := 4) (oi := { dst := some 39, op := Op.fieldAddr 77 (Operand.tmp 38) 1, type := 0, pos := "show.go:206", after := #[{ on := 3, ground := Ground.data }], guard := none }) (v := .pointer (some ⟨0, 1, none⟩)) rfl (by kernel_rfl) (by kernel_rfl) (by kernel_rfl) (fun _ _ _ h => h) (Or.inl ⟨by rfl, fun w => by go_simp⟩) ?_
  (try simp only [Act.put, List.setIfInBounds_toArray, List.set_cons_zero, List.set_cons_succ])
  apply share7
  · intro HT
    refine wpAny_ready (rs := [1, 5]) (by kernel_rfl) (by simp) ?_
    refine AllReady.cons (o := { dst := some 36, op := Op.load 22 (Operand.tmp 35), type := 22, pos := "show.go:206", after := #[{ on := 0, ground := Ground.data }], guard := none }) rfl (fun K hK => ?_) ?_
    · refine step_load7 rfl 22 _ rfl (.pointer (some ⟨w.heap.size, 0, none⟩)) rfl _ HL1.out ?_
      refine hK _ _ ?_
      clear hK K
      (try simp only [Act.put, List.setIfInBounds_toArray, List.set_cons_zero, List.set_cons_succ])
      refine wpAny_ready (rs := [5]) (by kernel_rfl) (by simp) ?_
      refine AllReady.cons (o := { dst := some 40, op := Op.load 9 (Operand.tmp 39), type := 9, pos := "show.go:206", after := #[{ on := 4, ground := Ground.data }], guard := none }) rfl (fun K hK => ?_) AllReady.nil
      refine step_load7 rfl 9 _ rfl (.pointer (some ⟨0, 1, none⟩)) rfl _ HL5.out ?_
      refine hK _ _ ?_
      clear hK K
      (try simp only [Act.put, List.setIfInBounds_toArray, List.set_cons_zero, List.set_cons_succ])
      exact HT
    refine AllReady.cons (o := { dst := some 40, op := Op.load 9 (Operand.tmp 39), type := 9, pos := "show.go:206", after := #[{ on := 4, ground := Ground.data }], guard := none }) rfl (fun K hK => ?_) AllReady.nil
    refine step_load7 rfl 9 _ rfl (.pointer (some ⟨0, 1, none⟩)) rfl _ HL5.out ?_
    refine hK _ _ ?_
    clear hK K
    (try simp only [Act.put, List.setIfInBounds_toArray, List.set_cons_zero, List.set_cons_succ])
    refine wpAny_ready (rs := [1]) (by kernel_rfl) (by simp) ?_
    refine AllReady.cons (o := { dst := some 36, op := Op.load 22 (Operand.tmp 35), type := 22, pos := "show.go:206", after := #[{ on := 0, ground := Ground.data }], guard := none }) rfl (fun K hK => ?_) AllReady.nil
    refine step_load7 rfl 22 _ rfl (.pointer (some ⟨w.heap.size, 0, none⟩)) rfl _ HL1.out ?_
    refine hK _ _ ?_
    clear hK K
    (try simp only [Act.put, List.setIfInBounds_toArray, List.set_cons_zero, List.set_cons_succ])
    exact HT
  refine wpAny_ready (rs := [6]) (by kernel_rfl) (by simp) ?_
  refine AllReady.cons (o := { dst := some 41, op := Op.call { callee := Callee.value (Operand.tmp 36), args := #[Operand.tmp 40], argTypes := #[9] }, type := 4, pos := "show.go:206", after := #[{ on := 1, ground := Ground.data }, { on := 5, ground := Ground.data }], guard := none }) rfl (fun K hK => ?_) AllReady.nil
  rw [if_pos (by rfl)]
  go_simp
  refine (SK91.out _ AV20.out).mono ?_; rintro e w4 ⟨rfl, a, m⟩
  have K4 := Lib.hid (m.heap HKB.out KV20.out); obtain ⟨c0, c1⟩ := rd_cells K4.out; have A4 := Lib.hid a; have M4 := Lib.hid (MV20.out.trans m); clear a m
  refine hK _ _ ?_
  clear hK K
  (try simp only [Act.put, List.setIfInBounds_toArray, List.set_cons_zero, List.set_cons_succ])
  refine wpAny_done (by kernel_rfl) ?_ _
  go_wp2_with fail
  rw [rounds_succ]
  go_wp2_with fail
  obtain ⟨V21, hV21⟩ : ∃ U, U = World.drew w4 := ⟨_, rfl⟩
  have hl1 : (Instr.loadAt 22 (.pointer (some ⟨w.heap.size, 0, none⟩))).run Tryz.prog V21 = .ok (skipV B) V21 := by rw [hV21]; have hd : (World.drew w4).cell? ⟨w.heap.size, 0, none⟩ = some (skipV B) := c0; go_simp
  have hl5 : (Instr.loadAt 9 (.pointer (some ⟨0, 4, none⟩))).run Tryz.prog V21 = .ok (.string ⟨#[104, 40]⟩) V21 := by rw [hV21]; have hd : (World.drew w4).cell? ⟨0, 4, none⟩ = some (.string ⟨#[104, 40]⟩) := (HFR.out.moved HB0.out M4.out).2 4 (by decide); go_simp
  have HL1 := Lib.hid hl1
  have HL5 := Lib.hid hl5
  have AV21 : Hid (At7 B S V21) := Lib.hid (by rw [hV21]; exact A4.out)
  have KV21 : Hid (V21.heap[w.heap.size]? = some (.cells #[skipV B, upV B] 47 (0, 0))) := Lib.hid (by rw [hV21]; exact K4.out)
  have MV21 : Hid (Moved B w V21) := Lib.hid (by rw [hV21]; exact M4.out.trans (Moved.of_below (Below.refl _ _).drew))
  have HV := Lib.hid hV21
  clear hV21 hl1 hl5
  refine wp_region_any (by kernel_rfl) ?_
  change wpAny _ _ _ _ _ _ _ (World.drew w4)
  rw [← HV.out]
  clear HV
  refine wpAny_take (i := 0) (oi := { dst := some 35, op := Op.fieldAddr 47 (Operand.tmp 2) 0, type := 0, pos := "show.go:206", after := #[], guard := none }) (v := .pointer (some ⟨w.heap.size, 0, none⟩)) rfl (by kernel_rfl) (by kernel_rfl) (by kernel_rfl) (fun _ _ _ h => h) (Or.inl ⟨by rfl, fun w => by go_simp⟩) ?_
  (try simp only [Act.put, List.setIfInBounds_toArray, List.set_cons_zero, List.set_cons_succ])
  refine wpAny_take (i := 2) (oi := { dst := some 37, op := Op.move (Operand.tmp 5), type := 3, pos := "show.go:206", after := #[], guard := none }) (v := .int .i64 1) rfl (by kernel_rfl) (by kernel_rfl) (by kernel_rfl) (fun _ _ _ h => h) (Or.inl ⟨by rfl, fun w => by go_simp⟩) ?_
  (try simp only [Act.put, List.setIfInBounds_toArray, List.set_cons_zero, List.set_cons_succ])
  refine wpAny_take (i := 3) (oi := { dst := some 38, op := Op.indexAddr 78 (Operand.global 0) (Operand.tmp 37), type := 0, pos := "show.go:206", after := #[{ on := 2, ground := Ground.data }], guard := none }) (v := .pointer (some ⟨0, 3, none⟩)) rfl (by kernel_rfl) (by kernel_rfl) (by kernel_rfl) (fun _ _ _ h => h) (Or.inl ⟨by rfl, fun w => by go_simp⟩) ?_
  (try simp only [Act.put, List.setIfInBounds_toArray, List.set_cons_zero, List.set_cons_succ])
  refine wpAny_take (i := 4) (oi := { dst := some 39, op := Op.fieldAddr 77 (Operand.tmp 38) 1, type := 0, pos := "show.go:206", after := #[{ on := 3, ground := Ground.data }], guard := none }) (v := .pointer (some ⟨0, 4, none⟩)) rfl (by kernel_rfl) (by kernel_rfl) (by kernel_rfl) (fun _ _ _ h => h) (Or.inl ⟨by rfl, fun w => by go_simp⟩) ?_
  (try simp only [Act.put, List.setIfInBounds_toArray, List.set_cons_zero, List.set_cons_succ])
  apply share7
  · intro HT
    refine wpAny_ready (rs := [1, 5]) (by kernel_rfl) (by simp) ?_
    refine AllReady.cons (o := { dst := some 36, op := Op.load 22 (Operand.tmp 35), type := 22, pos := "show.go:206", after := #[{ on := 0, ground := Ground.data }], guard := none }) rfl (fun K hK => ?_) ?_
    · refine step_load7 rfl 22 _ rfl (.pointer (some ⟨w.heap.size, 0, none⟩)) rfl _ HL1.out ?_
      refine hK _ _ ?_
      clear hK K
      (try simp only [Act.put, List.setIfInBounds_toArray, List.set_cons_zero, List.set_cons_succ])
      refine wpAny_ready (rs := [5]) (by kernel_rfl) (by simp) ?_
      refine AllReady.cons (o := { dst := some 40, op := Op.load 9 (Operand.tmp 39), type := 9, pos := "show.go:206", after := #[{ on := 4, ground := Ground.data }], guard := none }) rfl (fun K hK => ?_) AllReady.nil
      refine step_load7 rfl 9 _ rfl (.pointer (some ⟨0, 4, none⟩)) rfl _ HL5.out ?_
      refine hK _ _ ?_
      clear hK K
      (try simp only [Act.put, List.setIfInBounds_toArray, List.set_cons_zero, List.set_cons_succ])
      exact HT
    refine AllReady.cons (o := { dst := some 40, op := Op.load 9 (Operand.tmp 39), type := 9, pos := "show.go:206", after := #[{ on := 4, ground := Ground.data }], guard := none }) rfl (fun K hK => ?_) AllReady.nil
    refine step_load7 rfl 9 _ rfl (.pointer (some ⟨0, 4, none⟩)) rfl _ HL5.out ?_
    refine hK _ _ ?_
    clear hK K
    (try simp only [Act.put, List.setIfInBounds_toArray, List.set_cons_zero, List.set_cons_succ])
    refine wpAny_ready (rs := [1]) (by kernel_rfl) (by simp) ?_
    refine AllReady.cons (o := { dst := some 36, op := Op.load 22 (Operand.tmp 35), type := 22, pos := "show.go:206", after := #[{ on := 0, ground := Ground.data }], guard := none }) rfl (fun K hK => ?_) AllReady.nil
    refine step_load7 rfl 22 _ rfl (.pointer (some ⟨w.heap.size, 0, none⟩)) rfl _ HL1.out ?_
    refine hK _ _ ?_
    clear hK K
    (try simp only [Act.put, List.setIfInBounds_toArray, List.set_cons_zero, List.set_cons_succ])
    exact HT
  refine wpAny_ready (rs := [6]) (by kernel_rfl) (by simp) ?_
  refine AllReady.cons (o := { dst := some 41, op := Op.call { callee := Callee.value (Operand.tmp 36), args := #[Operand.tmp 40], argTypes := #[9] }, type := 4, pos := "show.go:206", after := #[{ on := 1, ground := Ground.data }, { on := 5, ground := Ground.data }], guard := none }) rfl (fun K hK => ?_) AllReady.nil
  rw [if_pos (by rfl)]
  go_simp
  refine (SK104_40.out _ AV21.out).mono ?_; rintro e w5 ⟨rfl, a, m⟩
  have K5 := Lib.hid (m.heap HKB.out KV21.out); obtain ⟨c0, c1⟩ := rd_cells K5.out; have A5 := Lib.hid a; have M5 := Lib.hid (MV21.out.trans m); clear a m
  refine hK _ _ ?_
  clear hK K
  (try simp only [Act.put, List.setIfInBounds_toArray, List.set_cons_zero, List.set_cons_succ])
  refine wpAny_done (by kernel_rfl) ?_ _
  go_wp2_with fail
  rw [rounds_succ]
  go_wp2_with fail
  obtain ⟨V22, hV22⟩ : ∃ U, U = World.drew w5 := ⟨_, rfl⟩
  have hl1 : (Instr.loadAt 22 (.pointer (some ⟨w.heap.size, 0, none⟩))).run Tryz.prog V22 = .ok (skipV B) V22 := by rw [hV22]; have hd : (World.drew w5).cell? ⟨w.heap.size, 0, none⟩ = some (skipV B) := c0; go_simp
  have hl5 : (Instr.loadAt 9 (.pointer (some ⟨0, 7, none⟩))).run Tryz.prog V22 = .ok (.string ⟨#[109, 40]⟩) V22 := by rw [hV22]; have hd : (World.drew w5).cell? ⟨0, 7, none⟩ = some (.string ⟨#[109, 40]⟩) := (HFR.out.moved HB0.out M5.out).2 7 (by decide); go_simp
  have HL1 := Lib.hid hl1
  have HL5 := Lib.hid hl5
  have AV22 : Hid (At7 B S V22) := Lib.hid (by rw [hV22]; exact A5.out)
  have KV22 : Hid (V22.heap[w.heap.size]? = some (.cells #[skipV B, upV B] 47 (0, 0))) := Lib.hid (by rw [hV22]; exact K5.out)
  have MV22 : Hid (Moved B w V22) := Lib.hid (by rw [hV22]; exact M5.out.trans (Moved.of_below (Below.refl _ _).drew))
  have HV := Lib.hid hV22
  clear hV22 hl1 hl5
  refine wp_region_any (by kernel_rfl) ?_
  change wpAny _ _ _ _ _ _ _ (World.drew w5)
  rw [← HV.out]
  clear HV
  refine wpAny_take (i := 0) (oi := { dst := some 35, op := Op.fieldAddr 47 (Operand.tmp 2) 0, type := 0, pos := "show.go:206", after := #[], guard := none }) (v := .pointer (some ⟨w.heap.size, 0, none⟩)) rfl (by kernel_rfl) (by kernel_rfl) (by kernel_rfl) (fun _ _ _ h => h) (Or.inl ⟨by rfl, fun w => by go_simp⟩) ?_
  (try simp only [Act.put, List.setIfInBounds_toArray, List.set_cons_zero, List.set_cons_succ])
  refine wpAny_take (i := 2) (oi := { dst := some 37, op := Op.move (Operand.tmp 5), type := 3, pos := "show.go:206", after := #[], guard := none }) (v := .int .i64 2) rfl (by kernel_rfl) (by kernel_rfl) (by kernel_rfl) (fun _ _ _ h => h) (Or.inl ⟨by rfl, fun w => by go_simp⟩) ?_
  (try simp only [Act.put, List.setIfInBounds_toArray, List.set_cons_zero, List.set_cons_succ])
  refine wpAny_take (i := 3) (oi := { dst := some 38, op := Op.indexAddr 78 (Operand.global 0) (Operand.tmp 37), type := 0, pos := "show.go:206", after := #[{ on := 2, ground := Ground.data }], guard := none }) (v := .pointer (some ⟨0, 6, none⟩)) rfl (by kernel_rfl) (by kernel_rfl) (by kernel_rfl) (fun _ _ _ h => h) (Or.inl ⟨by rfl, fun w => by go_simp⟩) ?_
  (try simp only [Act.put, List.setIfInBounds_toArray, List.set_cons_zero, List.set_cons_succ])
  refine wpAny_take (i := 4) (oi := { dst := some 39, op := Op.fieldAddr 77 (Operand.tmp 38) 1, type := 0, pos := "show.go:206", after := #[{ on := 3, ground := Ground.data }], guard := none }) (v := .pointer (some ⟨0, 7, none⟩)) rfl (by kernel_rfl) (by kernel_rfl) (by kernel_rfl) (fun _ _ _ h => h) (Or.inl ⟨by rfl, fun w => by go_simp⟩) ?_
  (try simp only [Act.put, List.setIfInBounds_toArray, List.set_cons_zero, List.set_cons_succ])
  apply share7
  · intro HT
    refine wpAny_ready (rs := [1, 5]) (by kernel_rfl) (by simp) ?_
    refine AllReady.cons (o := { dst := some 36, op := Op.load 22 (Operand.tmp 35), type := 22, pos := "show.go:206", after := #[{ on := 0, ground := Ground.data }], guard := none }) rfl (fun K hK => ?_) ?_
    · refine step_load7 rfl 22 _ rfl (.pointer (some ⟨w.heap.size, 0, none⟩)) rfl _ HL1.out ?_
      refine hK _ _ ?_
      clear hK K
      (try simp only [Act.put, List.setIfInBounds_toArray, List.set_cons_zero, List.set_cons_succ])
      refine wpAny_ready (rs := [5]) (by kernel_rfl) (by simp) ?_
      refine AllReady.cons (o := { dst := some 40, op := Op.load 9 (Operand.tmp 39), type := 9, pos := "show.go:206", after := #[{ on := 4, ground := Ground.data }], guard := none }) rfl (fun K hK => ?_) AllReady.nil
      refine step_load7 rfl 9 _ rfl (.pointer (some ⟨0, 7, none⟩)) rfl _ HL5.out ?_
      refine hK _ _ ?_
      clear hK K
      (try simp only [Act.put, List.setIfInBounds_toArray, List.set_cons_zero, List.set_cons_succ])
      exact HT
    refine AllReady.cons (o := { dst := some 40, op := Op.load 9 (Operand.tmp 39), type := 9, pos := "show.go:206", after := #[{ on := 4, ground := Ground.data }], guard := none }) rfl (fun K hK => ?_) AllReady.nil
    refine step_load7 rfl 9 _ rfl (.pointer (some ⟨0, 7, none⟩)) rfl _ HL5.out ?_
    refine hK _ _ ?_
    clear hK K
    (try simp only [Act.put, List.setIfInBounds_toArray, List.set_cons_zero, List.set_cons_succ])
    refine wpAny_ready (rs := [1]) (by kernel_rfl) (by simp) ?_
    refine AllReady.cons (o := { dst := some 36, op := Op.load 22 (Operand.tmp 35), type := 22, pos := "show.go:206", after := #[{ on := 0, ground := Ground.data }], guard := none }) rfl (fun K hK => ?_) AllReady.nil
    refine step_load7 rfl 22 _ rfl (.pointer (some ⟨w.heap.size, 0, none⟩)) rfl _ HL1.out ?_
    refine hK _ _ ?_
    clear hK K
    (try simp only [Act.put, List.setIfInBounds_toArray, List.set_cons_zero, List.set_cons_succ])
    exact HT
  refine wpAny_ready (rs := [6]) (by kernel_rfl) (by simp) ?_
  refine AllReady.cons (o := { dst := some 41, op := Op.call { callee := Callee.value (Operand.tmp 36), args := #[Operand.tmp 40], argTypes := #[9] }, type := 4, pos := "show.go:206", after := #[{ on := 1, ground := Ground.data }, { on := 5, ground := Ground.data }], guard := none }) rfl (fun K hK => ?_) AllReady.nil
  rw [if_pos (by rfl)]
  go_simp
  refine (SK109_40.out _ AV22.out).mono ?_; rintro e w6 ⟨rfl, a, m⟩
  have K6 := Lib.hid (m.heap HKB.out KV22.out); obtain ⟨c0, c1⟩ := rd_cells K6.out; have A6 := Lib.hid a; have M6 := Lib.hid (MV22.out.trans m); clear a m
  refine hK _ _ ?_
  clear hK K
  (try simp only [Act.put, List.setIfInBounds_toArray, List.set_cons_zero, List.set_cons_succ])
  refine wpAny_done (by kernel_rfl) ?_ _
  go_wp2_with fail
  rw [rounds_succ]
  go_wp2_with fail
  obtain ⟨V23, hV23⟩ : ∃ U, U = World.drew w6 := ⟨_, rfl⟩
  have hl1 : (Instr.loadAt 22 (.pointer (some ⟨w.heap.size, 0, none⟩))).run Tryz.prog V23 = .ok (skipV B) V23 := by rw [hV23]; have hd : (World.drew w6).cell? ⟨w.heap.size, 0, none⟩ = some (skipV B) := c0; go_simp
  have hl5 : (Instr.loadAt 9 (.pointer (some ⟨0, 10, none⟩))).run Tryz.prog V23 = .ok (.string ⟨#[115, 40]⟩) V23 := by rw [hV23]; have hd : (World.drew w6).cell? ⟨0, 10, none⟩ = some (.string ⟨#[115, 40]⟩) := (HFR.out.moved HB0.out M6.out).2 10 (by decide); go_simp
  have HL1 := Lib.hid hl1
  have HL5 := Lib.hid hl5
  have AV23 : Hid (At7 B S V23) := Lib.hid (by rw [hV23]; exact A6.out)
  have KV23 : Hid (V23.heap[w.heap.size]? = some (.cells #[skipV B, upV B] 47 (0, 0))) := Lib.hid (by rw [hV23]; exact K6.out)
  have MV23 : Hid (Moved B w V23) := Lib.hid (by rw [hV23]; exact M6.out.trans (Moved.of_below (Below.refl _ _).drew))
  have HV := Lib.hid hV23
  clear hV23 hl1 hl5
  refine wp_region_any (by kernel_rfl) ?_
  change wpAny _ _ _ _ _ _ _ (World.drew w6)
  rw [← HV.out]
  clear HV
  refine wpAny_take (i := 0) (oi := { dst := some 35, op := Op.fieldAddr 47 (Operand.tmp 2) 0, type := 0, pos := "show.go:206", after := #[], guard := none }) (v := .pointer (some ⟨w.heap.size, 0, none⟩)) rfl (by kernel_rfl) (by kernel_rfl) (by kernel_rfl) (fun _ _ _ h => h) (Or.inl ⟨by rfl, fun w => by go_simp⟩) ?_
  (try simp only [Act.put, List.setIfInBounds_toArray, List.set_cons_zero, List.set_cons_succ])
  refine wpAny_take (i := 2) (oi := { dst := some 37, op := Op.move (Operand.tmp 5), type := 3, pos := "show.go:206", after := #[], guard := none }) (v := .int .i64 3) rfl (by kernel_rfl) (by kernel_rfl) (by kernel_rfl) (fun _ _ _ h => h) (Or.inl ⟨by rfl, fun w => by go_simp⟩) ?_
  (try simp only [Act.put, List.setIfInBounds_toArray, List.set_cons_zero, List.set_cons_succ])
  refine wpAny_take (i := 3) (oi := { dst := some 38, op := Op.indexAddr 78 (Operand.global 0) (Operand.tmp 37), type := 0, pos := "show.go:206", after := #[{ on := 2, ground := Ground.data }], guard := none }) (v := .pointer (some ⟨0, 9, none⟩)) rfl (by kernel_rfl) (by kernel_rfl) (by kernel_rfl) (fun _ _ _ h => h) (Or.inl ⟨by rfl, fun w => by go_simp⟩) ?_
  (try simp only [Act.put, List.setIfInBounds_toArray, List.set_cons_zero, List.set_cons_succ])
  refine wpAny_take (i := 4) (oi := { dst := some 39, op := Op.fieldAddr 77 (Operand.tmp 38) 1, type := 0, pos := "show.go:206", after := #[{ on := 3, ground := Ground.data }], guard := none }) (v := .pointer (some ⟨0, 10, none⟩)) rfl (by kernel_rfl) (by kernel_rfl) (by kernel_rfl) (fun _ _ _ h => h) (Or.inl ⟨by rfl, fun w => by go_simp⟩) ?_
  (try simp only [Act.put, List.setIfInBounds_toArray, List.set_cons_zero, List.set_cons_succ])
  apply share7
  · intro HT
    refine wpAny_ready (rs := [1, 5]) (by kernel_rfl) (by simp) ?_
    refine AllReady.cons (o := { dst := some 36, op := Op.load 22 (Operand.tmp 35), type := 22, pos := "show.go:206", after := #[{ on := 0, ground := Ground.data }], guard := none }) rfl (fun K hK => ?_) ?_
    · refine step_load7 rfl 22 _ rfl (.pointer (some ⟨w.heap.size, 0, none⟩)) rfl _ HL1.out ?_
      refine hK _ _ ?_
      clear hK K
      (try simp only [Act.put, List.setIfInBounds_toArray, List.set_cons_zero, List.set_cons_succ])
      refine wpAny_ready (rs := [5]) (by kernel_rfl) (by simp) ?_
      refine AllReady.cons (o := { dst := some 40, op := Op.load 9 (Operand.tmp 39), type := 9, pos := "show.go:206", after := #[{ on := 4, ground := Ground.data }], guard := none }) rfl (fun K hK => ?_) AllReady.nil
      refine step_load7 rfl 9 _ rfl (.pointer (some ⟨0, 10, none⟩)) rfl _ HL5.out ?_
      refine hK _ _ ?_
      clear hK K
      (try simp only [Act.put, List.setIfInBounds_toArray, List.set_cons_zero, List.set_cons_succ])
      exact HT
    refine AllReady.cons (o := { dst := some 40, op := Op.load 9 (Operand.tmp 39), type := 9, pos := "show.go:206", after := #[{ on := 4, ground := Ground.data }], guard := none }) rfl (fun K hK => ?_) AllReady.nil
    refine step_load7 rfl 9 _ rfl (.pointer (some ⟨0, 10, none⟩)) rfl _ HL5.out ?_
    refine hK _ _ ?_
    clear hK K
    (try simp only [Act.put, List.setIfInBounds_toArray, List.set_cons_zero, List.set_cons_succ])
    refine wpAny_ready (rs := [1]) (by kernel_rfl) (by simp) ?_
    refine AllReady.cons (o := { dst := some 36, op := Op.load 22 (Operand.tmp 35), type := 22, pos := "show.go:206", after := #[{ on := 0, ground := Ground.data }], guard := none }) rfl (fun K hK => ?_) AllReady.nil
    refine step_load7 rfl 22 _ rfl (.pointer (some ⟨w.heap.size, 0, none⟩)) rfl _ HL1.out ?_
    refine hK _ _ ?_
    clear hK K
    (try simp only [Act.put, List.setIfInBounds_toArray, List.set_cons_zero, List.set_cons_succ])
    exact HT
  refine wpAny_ready (rs := [6]) (by kernel_rfl) (by simp) ?_
  refine AllReady.cons (o := { dst := some 41, op := Op.call { callee := Callee.value (Operand.tmp 36), args := #[Operand.tmp 40], argTypes := #[9] }, type := 4, pos := "show.go:206", after := #[{ on := 1, ground := Ground.data }, { on := 5, ground := Ground.data }], guard := none }) rfl (fun K hK => ?_) AllReady.nil
  rw [if_pos (by rfl)]
  go_simp
  refine (SK115_40.out _ AV23.out).mono ?_; rintro e w7 ⟨rfl, a, m⟩
  have K7 := Lib.hid (m.heap HKB.out KV23.out); obtain ⟨c0, c1⟩ := rd_cells K7.out; have A7 := Lib.hid a; have M7 := Lib.hid (MV23.out.trans m); clear a m
  refine hK _ _ ?_
  clear hK K
  (try simp only [Act.put, List.setIfInBounds_toArray, List.set_cons_zero, List.set_cons_succ])
  refine wpAny_done (by kernel_rfl) ?_ _
  go_wp2_with fail
  rw [rounds_succ]
  go_wp2_with fail
  exact ⟨rfl, RdPost.no M7.out⟩
end Go.Proofs.YtiehhlolhhjgpaaGreatDoor.Pl
