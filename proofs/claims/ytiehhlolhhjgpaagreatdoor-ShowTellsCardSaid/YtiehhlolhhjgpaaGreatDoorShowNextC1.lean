/- What the reader's next reads: terms that have parts. -/
import Derived.Test.YtiehhlolhhjgpaaGreatDoorShowNextA
import Derived.Test.YtiehhlolhhjgpaaGreatDoorShowZ6
namespace Go.Proofs.YtiehhlolhhjgpaaGreatDoor.Pl
open Go.RowKit

set_option maxHeartbeats 8000000 in
set_option maxRecDepth 100000 in
theorem next_frame1 (B : Nat) (hB : B ≠ 0) (nn : List UInt8 → Option (List UInt8 × List UInt8)) (hfit : Fits nn) (r : List UInt8) (hS : (104 :: 40 :: r).length ≤ 1000000000) (D : Int) (hD : D ≤ 16) (w : World) (h : At7 B (104 :: 40 :: r) w) (hD0 : 0 ≤ D) (hF : Frames w)
    (hparts : ∀ (s : List UInt8) (V : World), s.length ≤ 1000000000 → At7 B s V → Frames V → Calls Tryz.prog 69 #[rdV B, .string ⟨#[41]⟩, .int .i64 (D + 1)] V (PartsN B V (nParts nn 41 s))) :
    Calls Tryz.prog 38 #[rdV B, .int .i64 D] w (RdPost B w (nMade2 104 (nParts nn 41 r))) := by
  have HFR := Lib.hid hF
  have HB0 := Lib.hid hB
  have hadd : IntKind.i64.wrap (D + 1) = D + 1 := wrap_small _ (by omega) (by omega)
  have HRL : Hid (r.length ≤ 1000000000) := Lib.hid (by simp only [List.length_cons] at hS; omega)
  have HPA := Lib.hid hparts
  have HFI := Lib.hid hfit
  clear hF hB hS hparts hfit
  obtain ⟨hk, h0, hk0, m0⟩ := boxed7 B (104 :: 40 :: r) w h
  have A0 := Lib.hid h0
  have K0 := Lib.hid hk0
  have M0 := Lib.hid m0
  have HKB := Lib.hid hk
  clear h0 hk0 m0 hk h
  have SK34 := skip_of B (104 :: 40 :: r) [34] false (pre_no _ _ _ (by decide))
  simp only [Bool.false_eq_true, if_false] at SK34
  have SK120 := skip_of B (104 :: 40 :: r) [120] false (pre_no _ _ _ (by decide))
  simp only [Bool.false_eq_true, if_false] at SK120
  have SK36 := skip_of B (104 :: 40 :: r) [36] false (pre_no _ _ _ (by decide))
  simp only [Bool.false_eq_true, if_false] at SK36
  have SK91 := skip_of B (104 :: 40 :: r) [91] false (pre_no _ _ _ (by decide))
  simp only [Bool.false_eq_true, if_false] at SK91
  have SK104_40 := skip_of B (104 :: 40 :: r) [104, 40] true (by rw [prefix_two]; exact decide_eq_true rfl)
  simp only [if_true, List.length_cons, List.length_nil, Nat.reduceAdd, List.drop_succ_cons, List.drop_zero] at SK104_40
  have PA : Hid (∀ V, At7 B r V → Frames V → Calls Tryz.prog 69 #[rdV B, .string ⟨#[41]⟩, .int .i64 (D + 1)] V (PartsN B V (nParts nn 41 r))) := Lib.hid (fun V hV fV => HPA.out r V HRL.out hV fV)
  have HFQ := Lib.hid (parts_fits HFI.out 41 r)
  generalize nParts nn 41 r = zp at *
  cases zp with
  | none =>
    show Calls _ _ _ _ (RdPost B w none)
    go_enter Tryz.func38, Tryz.ntmps38
    go_wp2_with (go_at_call 39; refine (need7_ok _).mono ?_; rintro e w0 ⟨rfl, rfl⟩)
    refine (SK34.out _ A0.out).mono ?_; rintro e w1 ⟨rfl, a, m⟩
    have K1 := Lib.hid (m.heap HKB.out K0.out); obtain ⟨c0, c1⟩ := rd_cells K1.out; have A1 := Lib.hid a; have M1 := Lib.hid (M0.out.trans m); clear a m
    go_wp2_with fail
    refine (SK120.out _ A1.out).mono ?_; rintro e w2 ⟨rfl, a, m⟩
    have K2 := Lib.hid (m.heap HKB.out K1.out); obtain ⟨c0, c1⟩ := rd_cells K2.out; have A2 := Lib.hid a; have M2 := Lib.hid (M1.out.trans m); clear a m
    go_wp2_with fail
    refine (SK36.out _ A2.out).mono ?_; rintro e w3 ⟨rfl, a, m⟩
    have K3 := Lib.hid (m.heap HKB.out K2.out); obtain ⟨c0, c1⟩ := rd_cells K3.out; have A3 := Lib.hid a; have M3 := Lib.hid (M2.out.trans m); clear a m
    go_wp2_with fail
    refine wp_loop_rounds 5 ?_
    rw [rounds_succ]
    go_wp2_with fail
    obtain ⟨V20, hV20⟩ : ∃ U, U = World.drew w3 := ⟨_, rfl⟩
    have hl1 : (Instr.loadAt 22 (.pointer (some ⟨w.heap.size, 0, none⟩))).run Tryz.prog V20 = .ok (skipV B) V20 := by rw [hV20]; have hd : (World.drew w3).cell? ⟨w.heap.size, 0, none⟩ = some (skipV B) := c0; go_simp
    have hl5 : (Instr.loadAt 9 (.pointer (some ⟨0, 1, none⟩))).run Tryz.prog V20 = .ok (.string ⟨#[91]⟩) V20 := by rw [hV20]; have hd : (World.drew w3).cell? ⟨0, 1, none⟩ = some (.string ⟨#[91]⟩) := (HFR.out.moved HB0.out M3.out).2 1 (by decide); go_simp
    have HL1 := Lib.hid hl1
    have HL5 := Lib.hid hl5
    have AV20 : Hid (At7 B (104 :: 40 :: r) V20) := Lib.hid (by rw [hV20]; exact A3.out)
    have KV20 : Hid (V20.heap[w.heap.size]? = some (.cells #[skipV B, upV B] 47 (0, 0))) := Lib.hid (by rw [hV20]; exact K3.out)
    have MV20 : Hid (Moved B w V20) := Lib.hid (by rw [hV20]; exact M3.out.trans (Moved.of_below (Below.refl _ _).drew))
    have HV := Lib.hid hV20
    clear hV20 hl1 hl5
    refine wp_region_any (by kernel_rfl) ?_
    change wpAny _ _ _ _ _ _ _ (World.drew w3)
    rw [← HV.out]
    clear HV
    refine wpAny_take (i := 0) (oi := { dst := some 35, op := Op.fieldAddr 47 (Operand.tmp 2) 0, type := 0, pos := "show.go:206", after := #[], guard := none }) (v := .pointer (some ⟨w.heap.size, 0, none⟩)) rfl (by kernel_rfl) (by kernel_rfl) (by kernel_rfl) (fun _ _ _ h => h) (Or.inl ⟨by rfl, fun w => by go_simp⟩) ?_
    (try simp only [Act.put, List.setIfInBounds_toArray, List.set_cons_zero, List.set_cons_succ])
    refine wpAny_take (i := 2) (oi := { dst := some 37, op := Op.move (Operand.tmp 5), type := 3, pos := "show.go:206", after := #[], guard := none }) (v := .int .i64 0) rfl (by kernel_rfl) (by kernel_rfl) (by kernel_rfl) (fun _ _ _ h => h) (Or.inl ⟨by rfl, fun w => by go_simp⟩) ?_
    (try simp only [Act.put, List.setIfInBounds_toArray, List.set_cons_zero, List.set_cons_succ])
    refine wpAny_take (i := 3) (oi := { dst := some 38, op := Op.indexAddr 78 (Operand.global 0) (Operand.tmp 37), type := 0, pos := "show.go:206", after := #[{ on := 2, ground := Ground.data }], guard := none }) (v := .pointer (some ⟨0, 0, none⟩)) rfl (by kernel_rfl) (by kernel_rfl) (by kernel_rfl) (fun _ _ _ h => h) (Or.inl ⟨by rfl, fun w => by go_simp⟩) ?_
    (try simp only [Act.put, List.setIfInBounds_toArray, List.set_cons_zero, List.set_cons_succ])
    refine wpAny_take (i := 4) (oi := { dst := some 39, op := Op.fieldAddr 77 (Operand.tmp 38) 1, type := 0, pos := "show.go:206", after := #[{ on := 3, ground := Ground.data }], guard := none }) (v := .pointer (some ⟨0, 1, none⟩)) rfl (by kernel_rfl) (by kernel_rfl) (by kernel_rfl) (fun _ _ _ h => h) (Or.inl ⟨by rfl, fun w => by go_simp⟩) ?_
    (try simp only [Act.put, List.setIfInBounds_toArray, List.set_cons_zero, List.set_cons_succ])
    apply share7
    · intro HT
      refine wpAny_ready (rs := [1, 5]) (by kernel_rfl) (by simp) ?_
      refine AllReady.cons (o := { dst := some 36, op := Op.load 22 (Operand.tmp 35), type := 22, pos := "show.go:206", after := #[{ on := 0, ground := Ground.data }], guard := none }) rfl (fun K hK => ?_) ?_
      · refine step_load7 rfl 22 _ rfl (.pointer (some ⟨w.heap.size, 0, none⟩)) rfl _ HL1.out ?_
        refine hK _ _ ?_
        clear hK K
        (try simp only [Act.put, List.setIfInBounds_toArray, List.set_cons_zero, List.set_cons_succ])
        refine wpAny_ready (rs := [5]) (by kernel_rfl) (by simp) ?_
        refine AllReady.cons (o := { dst := some 40, op := Op.load 9 (Operand.tmp 39), type := 9, pos := "show.go:206", after := #[{ on := 4, ground := Ground.data }], guard := none }) rfl (fun K hK => ?_) AllReady.nil
        refine step_load7 rfl 9 _ rfl (.pointer (some ⟨0, 1, none⟩)) rfl _ HL5.out ?_
        refine hK _ _ ?_
        clear hK K
        (try simp only [Act.put, List.setIfInBounds_toArray, List.set_cons_zero, List.set_cons_succ])
        exact HT
      refine AllReady.cons (o := { dst := some 40, op := Op.load 9 (Operand.tmp 39), type := 9, pos := "show.go:206", after := #[{ on := 4, ground := Ground.data }], guard := none }) rfl (fun K hK => ?_) AllReady.nil
      refine step_load7 rfl 9 _ rfl (.pointer (some ⟨0, 1, none⟩)) rfl _ HL5.out ?_
      refine hK _ _ ?_
      clear hK K
      (try simp only [Act.put, List.setIfInBounds_toArray, List.set_cons_zero, List.set_cons_succ])
      refine wpAny_ready (rs := [1]) (by kernel_rfl) (by simp) ?_
      refine AllReady.cons (o := { dst := some 36, op := Op.load 22 (Operand.tmp 35), type := 22, pos := "show.go:206", after := #[{ on := 0, ground := Ground.data }], guard := none }) rfl (fun K hK => ?_) AllReady.nil
      refine step_load7 rfl 22 _ rfl (.pointer (some ⟨w.heap.size, 0, none⟩)) rfl _ HL1.out ?_
      refine hK _ _ ?_
      clear hK K
      (try simp only [Act.put, List.setIfInBounds_toArray, List.set_cons_zero, List.set_cons_succ])
      exact HT
    refine wpAny_ready (rs := [6]) (by kernel_rfl) (by simp) ?_
    refine AllReady.cons (o := { dst := some 41, op := Op.call { callee := Callee.value (Operand.tmp 36), args := #[Operand.tmp 40], argTypes := #[9] }, type := 4, pos := "show.go:206", after := #[{ on := 1, ground := Ground.data }, { on := 5, ground := Ground.data }], guard := none }) rfl (fun K hK => ?_) AllReady.nil
    rw [if_pos (by rfl)]
    go_simp
    refine (SK91.out _ AV20.out).mono ?_; rintro e w4 ⟨rfl, a, m⟩
    have K4 := Lib.hid (m.heap HKB.out KV20.out); obtain ⟨c0, c1⟩ := rd_cells K4.out; have A4 := Lib.hid a; have M4 := Lib.hid (MV20.out.trans m); clear a m
    refine hK _ _ ?_
    clear hK K
    (try simp only [Act.put, List.setIfInBounds_toArray, List.set_cons_zero, List.set_cons_succ])
    refine wpAny_done (by kernel_rfl) ?_ _
    go_wp2_with fail
    rw [rounds_succ]
    go_wp2_with fail
    obtain ⟨V21, hV21⟩ : ∃ U, U = World.drew w4 := ⟨_, rfl⟩
    have hl1 : (Instr.loadAt 22 (.pointer (some ⟨w.heap.size, 0, none⟩))).run Tryz.prog V21 = .ok (skipV B) V21 := by rw [hV21]; have hd : (World.drew w4).cell? ⟨w.heap.size, 0, none⟩ = some (skipV B) := c0; go_simp
    have hl5 : (Instr.loadAt 9 (.pointer (some ⟨0, 4, none⟩))).run Tryz.prog V21 = .ok (.string ⟨#[104, 40]⟩) V21 := by rw [hV21]; have hd : (World.drew w4).cell? ⟨0, 4, none⟩ = some (.string ⟨#[104, 40]⟩) := (HFR.out.moved HB0.out M4.out).2 4 (by decide); go_simp
    have HL1 := Lib.hid hl1
    have HL5 := Lib.hid hl5
    have AV21 : Hid (At7 B (104 :: 40 :: r) V21) := Lib.hid (by rw [hV21]; exact A4.out)
    have KV21 : Hid (V21.heap[w.heap.size]? = some (.cells #[skipV B, upV B] 47 (0, 0))) := Lib.hid (by rw [hV21]; exact K4.out)
    have MV21 : Hid (Moved B w V21) := Lib.hid (by rw [hV21]; exact M4.out.trans (Moved.of_below (Below.refl _ _).drew))
    have HV := Lib.hid hV21
    clear hV21 hl1 hl5
    refine wp_region_any (by kernel_rfl) ?_
    change wpAny _ _ _ _ _ _ _ (World.drew w4)
    rw [← HV.out]
    clear HV
    refine wpAny_take (i := 0) (oi := { dst := some 35, op := Op.fieldAddr 47 (Operand.tmp 2) 0, type := 0, pos := "show.go:206", after := #[], guard := none }) (v := .pointer (some ⟨w.heap.size, 0, none⟩)) rfl (by kernel_rfl) (by kernel_rfl) (by kernel_rfl) (fun _ _ _ h => h) (Or.inl ⟨by rfl, fun w => by go_simp⟩) ?_
    (try simp only [Act.put, List.setIfInBounds_toArray, List.set_cons_zero, List.set_cons_succ])
    refine wpAny_take (i := 2) (oi := { dst := some 37, op := Op.move (Operand.tmp 5), type := 3, pos := "show.go:206", after := #[], guard := none }) (v := .int .i64 1) rfl (by kernel_rfl) (by kernel_rfl) (by kernel_rfl) (fun _ _ _ h => h) (Or.inl ⟨by rfl, fun w => by go_simp⟩) ?_
    (try simp only [Act.put, List.setIfInBounds_toArray, List.set_cons_zero, List.set_cons_succ])
    refine wpAny_take (i := 3) (oi := { dst := some 38, op := Op.indexAddr 78 (Operand.global 0) (Operand.tmp 37), type := 0, pos := "show.go:206", after := #[{ on := 2, ground := Ground.data }], guard := none }) (v := .pointer (some ⟨0, 3, none⟩)) rfl (by kernel_rfl) (by kernel_rfl) (by kernel_rfl) (fun _ _ _ h => h) (Or.inl ⟨by rfl, fun w => by go_simp⟩) ?_
    (try simp only [Act.put, List.setIfInBounds_toArray, List.set_cons_zero, List.set_cons_succ])
    refine wpAny_take (i := 4) (oi := { dst := some 39, op := Op.fieldAddr 77 (Operand.tmp 38) 1, type := 0, pos := "show.go:206", after := #[{ on := 3, ground := Ground.data }], guard := none }) (v := .pointer (some ⟨0, 4, none⟩)) rfl (by kernel_rfl) (by kernel_rfl) (by kernel_rfl) (fun _ _ _ h => h) (Or.inl ⟨by rfl, fun w => by go_simp⟩) ?_
    (try simp only [Act.put, List.setIfInBounds_toArray, List.set_cons_zero, List.set_cons_succ])
    apply share7
    · intro HT
      refine wpAny_ready (rs := [1, 5]) (by kernel_rfl) (by simp) ?_
      refine AllReady.cons (o := { dst := some 36, op := Op.load 22 (Operand.tmp 35), type := 22, pos := "show.go:206", after := #[{ on := 0, ground := Ground.data }], guard := none }) rfl (fun K hK => ?_) ?_
      · refine step_load7 rfl 22 _ rfl (.pointer (some ⟨w.heap.size, 0, none⟩)) rfl _ HL1.out ?_
        refine hK _ _ ?_
        clear hK K
        (try simp only [Act.put, List.setIfInBounds_toArray, List.set_cons_zero, List.set_cons_succ])
        refine wpAny_ready (rs := [5]) (by kernel_rfl) (by simp) ?_
        refine AllReady.cons (o := { dst := some 40, op := Op.load 9 (Operand.tmp 39), type := 9, pos := "show.go:206", after := #[{ on := 4, ground := Ground.data }], guard := none }) rfl (fun K hK => ?_) AllReady.nil
        refine step_load7 rfl 9 _ rfl (.pointer (some ⟨0, 4, none⟩)) rfl _ HL5.out ?_
        refine hK _ _ ?_
        clear hK K
        (try simp only [Act.put, List.setIfInBounds_toArray, List.set_cons_zero, List.set_cons_succ])
        exact HT
      refine AllReady.cons (o := { dst := some 40, op := Op.load 9 (Operand.tmp 39), type := 9, pos := "show.go:206", after := #[{ on := 4, ground := Ground.data }], guard := none }) rfl (fun K hK => ?_) AllReady.nil
      refine step_load7 rfl 9 _ rfl (.pointer (some ⟨0, 4, none⟩)) rfl _ HL5.out ?_
      refine hK _ _ ?_
      clear hK K
      (try simp only [Act.put, List.setIfInBounds_toArray, List.set_cons_zero, List.set_cons_succ])
      refine wpAny_ready (rs := [1]) (by kernel_rfl) (by simp) ?_
      refine AllReady.cons (o := { dst := some 36, op := Op.load 22 (Operand.tmp 35), type := 22, pos := "show.go:206", after := #[{ on := 0, ground := Ground.data }], guard := none }) rfl (fun K hK => ?_) AllReady.nil
      refine step_load7 rfl 22 _ rfl (.pointer (some ⟨w.heap.size, 0, none⟩)) rfl _ HL1.out ?_
      refine hK _ _ ?_
      clear hK K
      (try simp only [Act.put, List.setIfInBounds_toArray, List.set_cons_zero, List.set_cons_succ])
      exact HT
    refine wpAny_ready (rs := [6]) (by kernel_rfl) (by simp) ?_
    refine AllReady.cons (o := { dst := some 41, op := Op.call { callee := Callee.value (Operand.tmp 36), args := #[Operand.tmp 40], argTypes := #[9] }, type := 4, pos := "show.go:206", after := #[{ on := 1, ground := Ground.data }, { on := 5, ground := Ground.data }], guard := none }) rfl (fun K hK => ?_) AllReady.nil
    rw [if_pos (by rfl)]
    go_simp
    refine (SK104_40.out _ AV21.out).mono ?_; rintro e w5 ⟨rfl, a, m⟩
    have K5 := Lib.hid (m.heap HKB.out KV21.out); obtain ⟨c0, c1⟩ := rd_cells K5.out; have A5 := Lib.hid a; have M5 := Lib.hid (MV21.out.trans m); clear a m
    refine hK _ _ ?_
    clear hK K
    (try simp only [Act.put, List.setIfInBounds_toArray, List.set_cons_zero, List.set_cons_succ])
    refine wpAny_done (by kernel_rfl) ?_ _
    go_wp2_with fail
    obtain ⟨V, hV⟩ : ∃ U, U = World.drew w5 := ⟨_, rfl⟩
    have FW := HFR.out.moved HB0.out M5.out
    have hl3 : (Instr.loadAt 5 (.pointer (some ⟨0, 3, none⟩))).run Tryz.prog V = .ok (.int .u8 4) V := by rw [hV]; have hd : (World.drew w5).cell? ⟨0, 3, none⟩ = some (.int .u8 4) := FW.2 3 (by decide); go_simp
    have hl8 : (Instr.loadAt 9 (.pointer (some ⟨0, 5, none⟩))).run Tryz.prog V = .ok (.string ⟨#[41]⟩) V := by rw [hV]; have hd : (World.drew w5).cell? ⟨0, 5, none⟩ = some (.string ⟨#[41]⟩) := FW.2 5 (by decide); go_simp
    have HL3 := Lib.hid hl3
    have HL8 := Lib.hid hl8
    have AV : Hid (At7 B r V) := Lib.hid (by rw [hV]; exact A5.out)
    have KV : Hid (V.heap[w.heap.size]? = some (.cells #[skipV B, upV B] 47 (0, 0))) := Lib.hid (by rw [hV]; exact K5.out)
    have MV : Hid (Moved B w V) := Lib.hid (by rw [hV]; exact M5.out.trans (Moved.of_below (Below.refl _ _).drew))
    have FV := Lib.hid (HFR.out.moved HB0.out MV.out)
    have HV := Lib.hid hV
    clear hV hl3 hl8 FW
    refine wp_region_any (by kernel_rfl) ?_
    change wpAny _ _ _ _ _ _ _ (World.drew w5)
    rw [← HV.out]
    clear HV
    refine wpAny_take (i := 0) (oi := { dst := some 42, op := Op.move (Operand.tmp 5), type := 3, pos := "show.go:207", after := #[], guard := none }) (v := .int .i64 1) rfl (by kernel_rfl) (by kernel_rfl) (by kernel_rfl) (fun _ _ _ h => h) (Or.inl ⟨by rfl, fun w => by go_simp⟩) ?_
    (try simp only [Act.put, List.setIfInBounds_toArray, List.set_cons_zero, List.set_cons_succ])
    refine wpAny_take (i := 1) (oi := { dst := some 43, op := Op.indexAddr 78 (Operand.global 0) (Operand.tmp 42), type := 0, pos := "show.go:207", after := #[{ on := 0, ground := Ground.data }], guard := none }) (v := .pointer (some ⟨0, 3, none⟩)) rfl (by kernel_rfl) (by kernel_rfl) (by kernel_rfl) (fun _ _ _ h => h) (Or.inl ⟨by rfl, fun w => by go_simp⟩) ?_
    (try simp only [Act.put, List.setIfInBounds_toArray, List.set_cons_zero, List.set_cons_succ])
    refine wpAny_take (i := 2) (oi := { dst := some 44, op := Op.fieldAddr 77 (Operand.tmp 43) 0, type := 0, pos := "show.go:207", after := #[{ on := 1, ground := Ground.data }], guard := none }) (v := .pointer (some ⟨0, 3, none⟩)) rfl (by kernel_rfl) (by kernel_rfl) (by kernel_rfl) (fun _ _ _ h => h) (Or.inl ⟨by rfl, fun w => by go_simp⟩) ?_
    (try simp only [Act.put, List.setIfInBounds_toArray, List.set_cons_zero, List.set_cons_succ])
    refine wpAny_take (i := 5) (oi := { dst := some 47, op := Op.move (Operand.tmp 5), type := 3, pos := "show.go:207", after := #[], guard := none }) (v := .int .i64 1) rfl (by kernel_rfl) (by kernel_rfl) (by kernel_rfl) (fun _ _ _ h => h) (Or.inl ⟨by rfl, fun w => by go_simp⟩) ?_
    (try simp only [Act.put, List.setIfInBounds_toArray, List.set_cons_zero, List.set_cons_succ])
    refine wpAny_take (i := 6) (oi := { dst := some 48, op := Op.indexAddr 78 (Operand.global 0) (Operand.tmp 47), type := 0, pos := "show.go:207", after := #[{ on := 5, ground := Ground.data }], guard := none }) (v := .pointer (some ⟨0, 3, none⟩)) rfl (by kernel_rfl) (by kernel_rfl) (by kernel_rfl) (fun _ _ _ h => h) (Or.inl ⟨by rfl, fun w => by go_simp⟩) ?_
    (try simp only [Act.put, List.setIfInBounds_toArray, List.set_cons_zero, List.set_cons_succ])
    refine wpAny_take (i := 7) (oi := { dst := some 49, op := Op.fieldAddr 77 (Operand.tmp 48) 2, type := 0, pos := "show.go:207", after := #[{ on := 6, ground := Ground.data }], guard := none }) (v := .pointer (some ⟨0, 5, none⟩)) rfl (by kernel_rfl) (by kernel_rfl) (by kernel_rfl) (fun _ _ _ h => h) (Or.inl ⟨by rfl, fun w => by go_simp⟩) ?_
    (try simp only [Act.put, List.setIfInBounds_toArray, List.set_cons_zero, List.set_cons_succ])
    refine wpAny_take (i := 9) (oi := { dst := some 51, op := Op.move (Operand.tmp 1), type := 3, pos := "show.go:207", after := #[], guard := none }) (v := .int .i64 D) rfl (by kernel_rfl) (by kernel_rfl) (by kernel_rfl) (fun _ _ _ h => h) (Or.inl ⟨by rfl, fun w => by go_simp⟩) ?_
    (try simp only [Act.put, List.setIfInBounds_toArray, List.set_cons_zero, List.set_cons_succ])
    refine wpAny_take (i := 10) (oi := { dst := some 52, op := Op.binOp BinOp.add 3 (Operand.tmp 51) (Operand.const (Value.int IntKind.i64 1)) 3, type := 3, pos := "show.go:207", after := #[{ on := 9, ground := Ground.data }], guard := none }) (v := .int .i64 (D + 1)) rfl (by kernel_rfl) (by kernel_rfl) (by kernel_rfl) (fun _ _ _ h => h) (Or.inl ⟨by rfl, fun w => by go_simp⟩) ?_
    (try simp only [Act.put, List.setIfInBounds_toArray, List.set_cons_zero, List.set_cons_succ])
    apply share7
    · intro HTA
      apply share7
      · intro HTB
        refine wpAny_ready (rs := [3, 4, 8]) (by kernel_rfl) (by simp) ?_
        refine AllReady.cons (o := { dst := some 45, op := Op.load 5 (Operand.tmp 44), type := 5, pos := "show.go:207", after := #[{ on := 2, ground := Ground.data }], guard := none }) rfl (fun K hK => ?_) ?_
        · refine step_load7 rfl 5 _ rfl (.pointer (some ⟨0, 3, none⟩)) rfl _ HL3.out ?_
          refine hK _ _ ?_
          clear hK K
          (try simp only [Act.put, List.setIfInBounds_toArray, List.set_cons_zero, List.set_cons_succ])
          refine wpAny_ready (rs := [4, 8]) (by kernel_rfl) (by simp) ?_
          refine AllReady.cons (o := { dst := some 46, op := Op.load 47 (Operand.tmp 2), type := 47, pos := "show.go:207", after := #[], guard := none }) rfl (fun K hK => ?_) ?_
          · rw [if_pos (by rfl)]
            refine wp_load_row 47 _ rfl w.heap.size rfl 47 _ _ _ KV.out Tryz.underlying47 rfl (boxed_load B) ?_
            refine hK _ _ ?_
            clear hK K
            (try simp only [Act.put, List.setIfInBounds_toArray, List.set_cons_zero, List.set_cons_succ])
            refine wpAny_ready (rs := [8]) (by kernel_rfl) (by simp) ?_
            refine AllReady.cons (o := { dst := some 50, op := Op.load 9 (Operand.tmp 49), type := 9, pos := "show.go:207", after := #[{ on := 7, ground := Ground.data }], guard := none }) rfl (fun K hK => ?_) AllReady.nil
            refine step_load7 rfl 9 _ rfl (.pointer (some ⟨0, 5, none⟩)) rfl _ HL8.out ?_
            refine hK _ _ ?_
            clear hK K
            (try simp only [Act.put, List.setIfInBounds_toArray, List.set_cons_zero, List.set_cons_succ])
            exact HTA
          refine AllReady.cons (o := { dst := some 50, op := Op.load 9 (Operand.tmp 49), type := 9, pos := "show.go:207", after := #[{ on := 7, ground := Ground.data }], guard := none }) rfl (fun K hK => ?_) AllReady.nil
          refine step_load7 rfl 9 _ rfl (.pointer (some ⟨0, 5, none⟩)) rfl _ HL8.out ?_
          refine hK _ _ ?_
          clear hK K
          (try simp only [Act.put, List.setIfInBounds_toArray, List.set_cons_zero, List.set_cons_succ])
          refine wpAny_ready (rs := [4]) (by kernel_rfl) (by simp) ?_
          refine AllReady.cons (o := { dst := some 46, op := Op.load 47 (Operand.tmp 2), type := 47, pos := "show.go:207", after := #[], guard := none }) rfl (fun K hK => ?_) AllReady.nil
          rw [if_pos (by rfl)]
          refine wp_load_row 47 _ rfl w.heap.size rfl 47 _ _ _ KV.out Tryz.underlying47 rfl (boxed_load B) ?_
          refine hK _ _ ?_
          clear hK K
          (try simp only [Act.put, List.setIfInBounds_toArray, List.set_cons_zero, List.set_cons_succ])
          exact HTA
        refine AllReady.cons (o := { dst := some 46, op := Op.load 47 (Operand.tmp 2), type := 47, pos := "show.go:207", after := #[], guard := none }) rfl (fun K hK => ?_) ?_
        · rw [if_pos (by rfl)]
          refine wp_load_row 47 _ rfl w.heap.size rfl 47 _ _ _ KV.out Tryz.underlying47 rfl (boxed_load B) ?_
          refine hK _ _ ?_
          clear hK K
          (try simp only [Act.put, List.setIfInBounds_toArray, List.set_cons_zero, List.set_cons_succ])
          refine wpAny_ready (rs := [3, 8]) (by kernel_rfl) (by simp) ?_
          refine AllReady.cons (o := { dst := some 45, op := Op.load 5 (Operand.tmp 44), type := 5, pos := "show.go:207", after := #[{ on := 2, ground := Ground.data }], guard := none }) rfl (fun K hK => ?_) ?_
          · refine step_load7 rfl 5 _ rfl (.pointer (some ⟨0, 3, none⟩)) rfl _ HL3.out ?_
            refine hK _ _ ?_
            clear hK K
            (try simp only [Act.put, List.setIfInBounds_toArray, List.set_cons_zero, List.set_cons_succ])
            refine wpAny_ready (rs := [8]) (by kernel_rfl) (by simp) ?_
            refine AllReady.cons (o := { dst := some 50, op := Op.load 9 (Operand.tmp 49), type := 9, pos := "show.go:207", after := #[{ on := 7, ground := Ground.data }], guard := none }) rfl (fun K hK => ?_) AllReady.nil
            refine step_load7 rfl 9 _ rfl (.pointer (some ⟨0, 5, none⟩)) rfl _ HL8.out ?_
            refine hK _ _ ?_
            clear hK K
            (try simp only [Act.put, List.setIfInBounds_toArray, List.set_cons_zero, List.set_cons_succ])
            exact HTA
          refine AllReady.cons (o := { dst := some 50, op := Op.load 9 (Operand.tmp 49), type := 9, pos := "show.go:207", after := #[{ on := 7, ground := Ground.data }], guard := none }) rfl (fun K hK => ?_) AllReady.nil
          refine step_load7 rfl 9 _ rfl (.pointer (some ⟨0, 5, none⟩)) rfl _ HL8.out ?_
          refine hK _ _ ?_
          clear hK K
          (try simp only [Act.put, List.setIfInBounds_toArray, List.set_cons_zero, List.set_cons_succ])
          exact HTB
        refine AllReady.cons (o := { dst := some 50, op := Op.load 9 (Operand.tmp 49), type := 9, pos := "show.go:207", after := #[{ on := 7, ground := Ground.data }], guard := none }) rfl (fun K hK => ?_) AllReady.nil
        refine step_load7 rfl 9 _ rfl (.pointer (some ⟨0, 5, none⟩)) rfl _ HL8.out ?_
        refine hK _ _ ?_
        clear hK K
        (try simp only [Act.put, List.setIfInBounds_toArray, List.set_cons_zero, List.set_cons_succ])
        refine wpAny_ready (rs := [3, 4]) (by kernel_rfl) (by simp) ?_
        refine AllReady.cons (o := { dst := some 45, op := Op.load 5 (Operand.tmp 44), type := 5, pos := "show.go:207", after := #[{ on := 2, ground := Ground.data }], guard := none }) rfl (fun K hK => ?_) ?_
        · refine step_load7 rfl 5 _ rfl (.pointer (some ⟨0, 3, none⟩)) rfl _ HL3.out ?_
          refine hK _ _ ?_
          clear hK K
          (try simp only [Act.put, List.setIfInBounds_toArray, List.set_cons_zero, List.set_cons_succ])
          refine wpAny_ready (rs := [4]) (by kernel_rfl) (by simp) ?_
          refine AllReady.cons (o := { dst := some 46, op := Op.load 47 (Operand.tmp 2), type := 47, pos := "show.go:207", after := #[], guard := none }) rfl (fun K hK => ?_) AllReady.nil
          rw [if_pos (by rfl)]
          refine wp_load_row 47 _ rfl w.heap.size rfl 47 _ _ _ KV.out Tryz.underlying47 rfl (boxed_load B) ?_
          refine hK _ _ ?_
          clear hK K
          (try simp only [Act.put, List.setIfInBounds_toArray, List.set_cons_zero, List.set_cons_succ])
          exact HTA
        refine AllReady.cons (o := { dst := some 46, op := Op.load 47 (Operand.tmp 2), type := 47, pos := "show.go:207", after := #[], guard := none }) rfl (fun K hK => ?_) AllReady.nil
        rw [if_pos (by rfl)]
        refine wp_load_row 47 _ rfl w.heap.size rfl 47 _ _ _ KV.out Tryz.underlying47 rfl (boxed_load B) ?_
        refine hK _ _ ?_
        clear hK K
        (try simp only [Act.put, List.setIfInBounds_toArray, List.set_cons_zero, List.set_cons_succ])
        exact HTB
      refine wpAny_ready (rs := [3, 11]) (by kernel_rfl) (by simp) ?_
      refine AllReady.cons (o := { dst := some 45, op := Op.load 5 (Operand.tmp 44), type := 5, pos := "show.go:207", after := #[{ on := 2, ground := Ground.data }], guard := none }) rfl (fun K hK => ?_) ?_
      · refine step_load7 rfl 5 _ rfl (.pointer (some ⟨0, 3, none⟩)) rfl _ HL3.out ?_
        refine hK _ _ ?_
        clear hK K
        (try simp only [Act.put, List.setIfInBounds_toArray, List.set_cons_zero, List.set_cons_succ])
        exact HTA
      refine AllReady.cons (o := { dst := some 53, op := Op.call { callee := Callee.value (Operand.func 69), args := #[Operand.tmp 46, Operand.tmp 50, Operand.tmp 52], argTypes := #[47, 9, 3] }, type := 29, pos := "show.go:207", after := #[{ on := 4, ground := Ground.data }, { on := 8, ground := Ground.data }, { on := 10, ground := Ground.data }], guard := none }) rfl (fun K hK => ?_) AllReady.nil
      rw [if_pos (by rfl)]
      go_simp
      refine (PA.out V AV.out FV.out).mono ?_; rintro e v1 ⟨m1, rfl⟩
      exact ⟨rfl, RdPost.no (MV.out.trans m1)⟩
    refine wpAny_ready (rs := [11]) (by kernel_rfl) (by simp) ?_
    refine AllReady.cons (o := { dst := some 53, op := Op.call { callee := Callee.value (Operand.func 69), args := #[Operand.tmp 46, Operand.tmp 50, Operand.tmp 52], argTypes := #[47, 9, 3] }, type := 29, pos := "show.go:207", after := #[{ on := 4, ground := Ground.data }, { on := 8, ground := Ground.data }, { on := 10, ground := Ground.data }], guard := none }) rfl (fun K hK => ?_) AllReady.nil
    rw [if_pos (by rfl)]
    go_simp
    refine (PA.out V AV.out FV.out).mono ?_; rintro e v1 ⟨m1, rfl⟩
    exact ⟨rfl, RdPost.no (MV.out.trans m1)⟩
  | some y =>
    obtain ⟨l, q⟩ := y
    have HFT := Lib.hid (show (∀ x ∈ l, x.length ≤ 16384) ∧ l.length ≤ 32 from ⟨(HFQ.out l q rfl).1, (HFQ.out l q rfl).2.2⟩)
    obtain ⟨z, hz⟩ : ∃ z, z = nMade 104 l q := ⟨_, rfl⟩
    show Calls _ _ _ _ (RdPost B w (nMade 104 l q))
    rw [← hz]
    unfold nMade at hz
    obtain ⟨bm, hbm⟩ : ∃ bm, bMade 104 l = bm := ⟨_, rfl⟩
    rw [hbm] at hz
    have HBM := Lib.hid hbm
    clear hbm HFQ
    obtain ⟨t, e⟩ := bm
    simp only at hz
    by_cases he : e = 0
    · subst he
      rw [if_pos rfl] at hz
      subst hz
      go_enter Tryz.func38, Tryz.ntmps38
      go_wp2_with (go_at_call 39; refine (need7_ok _).mono ?_; rintro e w0 ⟨rfl, rfl⟩)
      refine (SK34.out _ A0.out).mono ?_; rintro e w1 ⟨rfl, a, m⟩
      have K1 := Lib.hid (m.heap HKB.out K0.out); obtain ⟨c0, c1⟩ := rd_cells K1.out; have A1 := Lib.hid a; have M1 := Lib.hid (M0.out.trans m); clear a m
      go_wp2_with fail
      refine (SK120.out _ A1.out).mono ?_; rintro e w2 ⟨rfl, a, m⟩
      have K2 := Lib.hid (m.heap HKB.out K1.out); obtain ⟨c0, c1⟩ := rd_cells K2.out; have A2 := Lib.hid a; have M2 := Lib.hid (M1.out.trans m); clear a m
      go_wp2_with fail
      refine (SK36.out _ A2.out).mono ?_; rintro e w3 ⟨rfl, a, m⟩
      have K3 := Lib.hid (m.heap HKB.out K2.out); obtain ⟨c0, c1⟩ := rd_cells K3.out; have A3 := Lib.hid a; have M3 := Lib.hid (M2.out.trans m); clear a m
      go_wp2_with fail
      refine wp_loop_rounds 5 ?_
      rw [rounds_succ]
      go_wp2_with fail
      obtain ⟨V20, hV20⟩ : ∃ U, U = World.drew w3 := ⟨_, rfl⟩
      have hl1 : (Instr.loadAt 22 (.pointer (some ⟨w.heap.size, 0, none⟩))).run Tryz.prog V20 = .ok (skipV B) V20 := by rw [hV20]; have hd : (World.drew w3).cell? ⟨w.heap.size, 0, none⟩ = some (skipV B) := c0; go_simp
      have hl5 : (Instr.loadAt 9 (.pointer (some ⟨0, 1, none⟩))).run Tryz.prog V20 = .ok (.string ⟨#[91]⟩) V20 := by rw [hV20]; have hd : (World.drew w3).cell? ⟨0, 1, none⟩ = some (.string ⟨#[91]⟩) := (HFR.out.moved HB0.out M3.out).2 1 (by decide); go_simp
      have HL1 := Lib.hid hl1
      have HL5 := Lib.hid hl5
      have AV20 : Hid (At7 B (104 :: 40 :: r) V20) := Lib.hid (by rw [hV20]; exact A3.out)
      have KV20 : Hid (V20.heap[w.heap.size]? = some (.cells #[skipV B, upV B] 47 (0, 0))) := Lib.hid (by rw [hV20]; exact K3.out)
      have MV20 : Hid (Moved B w V20) := Lib.hid (by rw [hV20]; exact M3.out.trans (Moved.of_below (Below.refl _ _).drew))
      have HV := Lib.hid hV20
      clear hV20 hl1 hl5
      refine wp_region_any (by kernel_rfl) ?_
      change wpAny _ _ _ _ _ _ _ (World.drew w3)
      rw [← HV.out]
      clear HV
      refine wpAny_take (i := 0) (oi := { dst := some 35, op := Op.fieldAddr 47 (Operand.tmp 2) 0, type := 0, pos := "show.go:206", after := #[], guard := none }) (v := .pointer (some ⟨w.heap.size, 0, none⟩)) rfl (by kernel_rfl) (by kernel_rfl) (by kernel_rfl) (fun _ _ _ h => h) (Or.inl ⟨by rfl, fun w => by go_simp⟩) ?_
      (try simp only [Act.put, List.setIfInBounds_toArray, List.set_cons_zero, List.set_cons_succ])
      refine wpAny_take (i := 2) (oi := { dst := some 37, op := Op.move (Operand.tmp 5), type := 3, pos := "show.go:206", after := #[], guard := none }) (v := .int .i64 0) rfl (by kernel_rfl) (by kernel_rfl) (by kernel_rfl) (fun _ _ _ h => h) (Or.inl ⟨by rfl, fun w => by go_simp⟩) ?_
      (try simp only [Act.put, List.setIfInBounds_toArray, List.set_cons_zero, List.set_cons_succ])
      refine wpAny_take (i := 3) (oi := { dst := some 38, op := Op.indexAddr 78 (Operand.global 0) (Operand.tmp 37), type := 0, pos := "show.go:206", after := #[{ on := 2, ground := Ground.data }], guard := none }) (v := .pointer (some ⟨0, 0, none⟩)) rfl (by kernel_rfl) (by kernel_rfl) (by kernel_rfl) (fun _ _ _ h => h) (Or.inl ⟨by rfl, fun w => by go_simp⟩) ?_
      (try simp only [Act.put, List.setIfInBounds_toArray, List.set_cons_zero, List.set_cons_succ])
      refine wpAny_take (i := 4) (oi := { dst := some 39, op := Op.fieldAddr 77 (Operand.tmp 38) 1, type := 0, pos := "show.go:206", after := #[{ on := 3, ground := Ground.data }], guard := none }) (v := .pointer (some ⟨0, 1, none⟩)) rfl (by kernel_rfl) (by kernel_rfl) (by kernel_rfl) (fun _ _ _ h => h) (Or.inl ⟨by rfl, fun w => by go_simp⟩) ?_
      (try simp only [Act.put, List.setIfInBounds_toArray, List.set_cons_zero, List.set_cons_succ])
      apply share7
      · intro HT
        refine wpAny_ready (rs := [1, 5]) (by kernel_rfl) (by simp) ?_
        refine AllReady.cons (o := { dst := some 36, op := Op.load 22 (Operand.tmp 35), type := 22, pos := "show.go:206", after := #[{ on := 0, ground := Ground.data }], guard := none }) rfl (fun K hK => ?_) ?_
        · refine step_load7 rfl 22 _ rfl (.pointer (some ⟨w.heap.size, 0, none⟩)) rfl _ HL1.out ?_
          refine hK _ _ ?_
          clear hK K
          (try simp only [Act.put, List.setIfInBounds_toArray, List.set_cons_zero, List.set_cons_succ])
          refine wpAny_ready (rs := [5]) (by kernel_rfl) (by simp) ?_
          refine AllReady.cons (o := { dst := some 40, op := Op.load 9 (Operand.tmp 39), type := 9, pos := "show.go:206", after := #[{ on := 4, ground := Ground.data }], guard := none }) rfl (fun K hK => ?_) AllReady.nil
          refine step_load7 rfl 9 _ rfl (.pointer (some ⟨0, 1, none⟩)) rfl _ HL5.out ?_
          refine hK _ _ ?_
          clear hK K
          (try simp only [Act.put, List.setIfInBounds_toArray, List.set_cons_zero, List.set_cons_succ])
          exact HT
        refine AllReady.cons (o := { dst := some 40, op := Op.load 9 (Operand.tmp 39), type := 9, pos := "show.go:206", after := #[{ on := 4, ground := Ground.data }], guard := none }) rfl (fun K hK => ?_) AllReady.nil
        refine step_load7 rfl 9 _ rfl (.pointer (some ⟨0, 1, none⟩)) rfl _ HL5.out ?_
        refine hK _ _ ?_
        clear hK K
        (try simp only [Act.put, List.setIfInBounds_toArray, List.set_cons_zero, List.set_cons_succ])
        refine wpAny_ready (rs := [1]) (by kernel_rfl) (by simp) ?_
        refine AllReady.cons (o := { dst := some 36, op := Op.load 22 (Operand.tmp 35), type := 22, pos := "show.go:206", after := #[{ on := 0, ground := Ground.data }], guard := none }) rfl (fun K hK => ?_) AllReady.nil
        refine step_load7 rfl 22 _ rfl (.pointer (some ⟨w.heap.size, 0, none⟩)) rfl _ HL1.out ?_
        refine hK _ _ ?_
        clear hK K
        (try simp only [Act.put, List.setIfInBounds_toArray, List.set_cons_zero, List.set_cons_succ])
        exact HT
      refine wpAny_ready (rs := [6]) (by kernel_rfl) (by simp) ?_
      refine AllReady.cons (o := { dst := some 41, op := Op.call { callee := Callee.value (Operand.tmp 36), args := #[Operand.tmp 40], argTypes := #[9] }, type := 4, pos := "show.go:206", after := #[{ on := 1, ground := Ground.data }, { on := 5, ground := Ground.data }], guard := none }) rfl (fun K hK => ?_) AllReady.nil
      rw [if_pos (by rfl)]
      go_simp
      refine (SK91.out _ AV20.out).mono ?_; rintro e w4 ⟨rfl, a, m⟩
      have K4 := Lib.hid (m.heap HKB.out KV20.out); obtain ⟨c0, c1⟩ := rd_cells K4.out; have A4 := Lib.hid a; have M4 := Lib.hid (MV20.out.trans m); clear a m
      refine hK _ _ ?_
      clear hK K
      (try simp only [Act.put, List.setIfInBounds_toArray, List.set_cons_zero, List.set_cons_succ])
      refine wpAny_done (by kernel_rfl) ?_ _
      go_wp2_with fail
      rw [rounds_succ]
      go_wp2_with fail
      obtain ⟨V21, hV21⟩ : ∃ U, U = World.drew w4 := ⟨_, rfl⟩
      have hl1 : (Instr.loadAt 22 (.pointer (some ⟨w.heap.size, 0, none⟩))).run Tryz.prog V21 = .ok (skipV B) V21 := by rw [hV21]; have hd : (World.drew w4).cell? ⟨w.heap.size, 0, none⟩ = some (skipV B) := c0; go_simp
      have hl5 : (Instr.loadAt 9 (.pointer (some ⟨0, 4, none⟩))).run Tryz.prog V21 = .ok (.string ⟨#[104, 40]⟩) V21 := by rw [hV21]; have hd : (World.drew w4).cell? ⟨0, 4, none⟩ = some (.string ⟨#[104, 40]⟩) := (HFR.out.moved HB0.out M4.out).2 4 (by decide); go_simp
      have HL1 := Lib.hid hl1
      have HL5 := Lib.hid hl5
      have AV21 : Hid (At7 B (104 :: 40 :: r) V21) := Lib.hid (by rw [hV21]; exact A4.out)
      have KV21 : Hid (V21.heap[w.heap.size]? = some (.cells #[skipV B, upV B] 47 (0, 0))) := Lib.hid (by rw [hV21]; exact K4.out)
      have MV21 : Hid (Moved B w V21) := Lib.hid (by rw [hV21]; exact M4.out.trans (Moved.of_below (Below.refl _ _).drew))
      have HV := Lib.hid hV21
      clear hV21 hl1 hl5
      refine wp_region_any (by kernel_rfl) ?_
      change wpAny _ _ _ _ _ _ _ (World.drew w4)
      rw [← HV.out]
      clear HV
      refine wpAny_take (i := 0) (oi := { dst := some 35, op := Op.fieldAddr 47 (Operand.tmp 2) 0, type := 0, pos := "show.go:206", after := #[], guard := none }) (v := .pointer (some ⟨w.heap.size, 0, none⟩)) rfl (by kernel_rfl) (by kernel_rfl) (by kernel_rfl) (fun _ _ _ h => h) (Or.inl ⟨by rfl, fun w => by go_simp⟩) ?_
      (try simp only [Act.put, List.setIfInBounds_toArray, List.set_cons_zero, List.set_cons_succ])
      refine wpAny_take (i := 2) (oi := { dst := some 37, op := Op.move (Operand.tmp 5), type := 3, pos := "show.go:206", after := #[], guard := none }) (v := .int .i64 1) rfl (by kernel_rfl) (by kernel_rfl) (by kernel_rfl) (fun _ _ _ h => h) (Or.inl ⟨by rfl, fun w => by go_simp⟩) ?_
      (try simp only [Act.put, List.setIfInBounds_toArray, List.set_cons_zero, List.set_cons_succ])
      refine wpAny_take (i := 3) (oi := { dst := some 38, op := Op.indexAddr 78 (Operand.global 0) (Operand.tmp 37), type := 0, pos := "show.go:206", after := #[{ on := 2, ground := Ground.data }], guard := none }) (v := .pointer (some ⟨0, 3, none⟩)) rfl (by kernel_rfl) (by kernel_rfl) (by kernel_rfl) (fun _ _ _ h => h) (Or.inl ⟨by rfl, fun w => by go_simp⟩) ?_
      (try simp only [Act.put, List.setIfInBounds_toArray, List.set_cons_zero, List.set_cons_succ])
      refine wpAny_take (i := 4) (oi := { dst := some 39, op := Op.fieldAddr 77 (Operand.tmp 38) 1, type := 0, pos := "show.go:206", after := #[{ on := 3, ground := Ground.data }], guard := none }) (v := .pointer (some ⟨0, 4, none⟩)) rfl (by kernel_rfl) (by kernel_rfl) (by kernel_rfl) (fun _ _ _ h => h) (Or.inl ⟨by rfl, fun w => by go_simp⟩) ?_
      (try simp only [Act.put, List.setIfInBounds_toArray, List.set_cons_zero, List.set_cons_succ])
      apply share7
      · intro HT
        refine wpAny_ready (rs := [1, 5]) (by kernel_rfl) (by simp) ?_
        refine AllReady.cons (o := { dst := some 36, op := Op.load 22 (Operand.tmp 35), type := 22, pos := "show.go:206", after := #[{ on := 0, ground := Ground.data }], guard := none }) rfl (fun K hK => ?_) ?_
        · refine step_load7 rfl 22 _ rfl (.pointer (some ⟨w.heap.size, 0, none⟩)) rfl _ HL1.out ?_
          refine hK _ _ ?_
          clear hK K
          (try simp only [Act.put, List.setIfInBounds_toArray, List.set_cons_zero, List.set_cons_succ])
          refine wpAny_ready (rs := [5]) (by kernel_rfl) (by simp) ?_
          refine AllReady.cons (o := { dst := some 40, op := Op.load 9 (Operand.tmp 39), type := 9, pos := "show.go:206", after := #[{ on := 4, ground := Ground.data }], guard := none }) rfl (fun K hK => ?_) AllReady.nil
          refine step_load7 rfl 9 _ rfl (.pointer (some ⟨0, 4, none⟩)) rfl _ HL5.out ?_
          refine hK _ _ ?_
          clear hK K
          (try simp only [Act.put, List.setIfInBounds_toArray, List.set_cons_zero, List.set_cons_succ])
          exact HT
        refine AllReady.cons (o := { dst := some 40, op := Op.load 9 (Operand.tmp 39), type := 9, pos := "show.go:206", after := #[{ on := 4, ground := Ground.data }], guard := none }) rfl (fun K hK => ?_) AllReady.nil
        refine step_load7 rfl 9 _ rfl (.pointer (some ⟨0, 4, none⟩)) rfl _ HL5.out ?_
        refine hK _ _ ?_
        clear hK K
        (try simp only [Act.put, List.setIfInBounds_toArray, List.set_cons_zero, List.set_cons_succ])
        refine wpAny_ready (rs := [1]) (by kernel_rfl) (by simp) ?_
        refine AllReady.cons (o := { dst := some 36, op := Op.load 22 (Operand.tmp 35), type := 22, pos := "show.go:206", after := #[{ on := 0, ground := Ground.data }], guard := none }) rfl (fun K hK => ?_) AllReady.nil
        refine step_load7 rfl 22 _ rfl (.pointer (some ⟨w.heap.size, 0, none⟩)) rfl _ HL1.out ?_
        refine hK _ _ ?_
        clear hK K
        (try simp only [Act.put, List.setIfInBounds_toArray, List.set_cons_zero, List.set_cons_succ])
        exact HT
      refine wpAny_ready (rs := [6]) (by kernel_rfl) (by simp) ?_
      refine AllReady.cons (o := { dst := some 41, op := Op.call { callee := Callee.value (Operand.tmp 36), args := #[Operand.tmp 40], argTypes := #[9] }, type := 4, pos := "show.go:206", after := #[{ on := 1, ground := Ground.data }, { on := 5, ground := Ground.data }], guard := none }) rfl (fun K hK => ?_) AllReady.nil
      rw [if_pos (by rfl)]
      go_simp
      refine (SK104_40.out _ AV21.out).mono ?_; rintro e w5 ⟨rfl, a, m⟩
      have K5 := Lib.hid (m.heap HKB.out KV21.out); obtain ⟨c0, c1⟩ := rd_cells K5.out; have A5 := Lib.hid a; have M5 := Lib.hid (MV21.out.trans m); clear a m
      refine hK _ _ ?_
      clear hK K
      (try simp only [Act.put, List.setIfInBounds_toArray, List.set_cons_zero, List.set_cons_succ])
      refine wpAny_done (by kernel_rfl) ?_ _
      go_wp2_with fail
      obtain ⟨V, hV⟩ : ∃ U, U = World.drew w5 := ⟨_, rfl⟩
      have FW := HFR.out.moved HB0.out M5.out
      have hl3 : (Instr.loadAt 5 (.pointer (some ⟨0, 3, none⟩))).run Tryz.prog V = .ok (.int .u8 4) V := by rw [hV]; have hd : (World.drew w5).cell? ⟨0, 3, none⟩ = some (.int .u8 4) := FW.2 3 (by decide); go_simp
      have hl8 : (Instr.loadAt 9 (.pointer (some ⟨0, 5, none⟩))).run Tryz.prog V = .ok (.string ⟨#[41]⟩) V := by rw [hV]; have hd : (World.drew w5).cell? ⟨0, 5, none⟩ = some (.string ⟨#[41]⟩) := FW.2 5 (by decide); go_simp
      have HL3 := Lib.hid hl3
      have HL8 := Lib.hid hl8
      have AV : Hid (At7 B r V) := Lib.hid (by rw [hV]; exact A5.out)
      have KV : Hid (V.heap[w.heap.size]? = some (.cells #[skipV B, upV B] 47 (0, 0))) := Lib.hid (by rw [hV]; exact K5.out)
      have MV : Hid (Moved B w V) := Lib.hid (by rw [hV]; exact M5.out.trans (Moved.of_below (Below.refl _ _).drew))
      have FV := Lib.hid (HFR.out.moved HB0.out MV.out)
      have HV := Lib.hid hV
      clear hV hl3 hl8 FW
      refine wp_region_any (by kernel_rfl) ?_
      change wpAny _ _ _ _ _ _ _ (World.drew w5)
      rw [← HV.out]
      clear HV
      refine wpAny_take (i := 0) (oi := { dst := some 42, op := Op.move (Operand.tmp 5), type := 3, pos := "show.go:207", after := #[], guard := none }) (v := .int .i64 1) rfl (by kernel_rfl) (by kernel_rfl) (by kernel_rfl) (fun _ _ _ h => h) (Or.inl ⟨by rfl, fun w => by go_simp⟩) ?_
      (try simp only [Act.put, List.setIfInBounds_toArray, List.set_cons_zero, List.set_cons_succ])
      refine wpAny_take (i := 1) (oi := { dst := some 43, op := Op.indexAddr 78 (Operand.global 0) (Operand.tmp 42), type := 0, pos := "show.go:207", after := #[{ on := 0, ground := Ground.data }], guard := none }) (v := .pointer (some ⟨0, 3, none⟩)) rfl (by kernel_rfl) (by kernel_rfl) (by kernel_rfl) (fun _ _ _ h => h) (Or.inl ⟨by rfl, fun w => by go_simp⟩) ?_
      (try simp only [Act.put, List.setIfInBounds_toArray, List.set_cons_zero, List.set_cons_succ])
      refine wpAny_take (i := 2) (oi := { dst := some 44, op := Op.fieldAddr 77 (Operand.tmp 43) 0, type := 0, pos := "show.go:207", after := #[{ on := 1, ground := Ground.data }], guard := none }) (v := .pointer (some ⟨0, 3, none⟩)) rfl (by kernel_rfl) (by kernel_rfl) (by kernel_rfl) (fun _ _ _ h => h) (Or.inl ⟨by rfl, fun w => by go_simp⟩) ?_
      (try simp only [Act.put, List.setIfInBounds_toArray, List.set_cons_zero, List.set_cons_succ])
      refine wpAny_take (i := 5) (oi := { dst := some 47, op := Op.move (Operand.tmp 5), type := 3, pos := "show.go:207", after := #[], guard := none }) (v := .int .i64 1) rfl (by kernel_rfl) (by kernel_rfl) (by kernel_rfl) (fun _ _ _ h => h) (Or.inl ⟨by rfl, fun w => by go_simp⟩) ?_
      (try simp only [Act.put, List.setIfInBounds_toArray, List.set_cons_zero, List.set_cons_succ])
      refine wpAny_take (i := 6) (oi := { dst := some 48, op := Op.indexAddr 78 (Operand.global 0) (Operand.tmp 47), type := 0, pos := "show.go:207", after := #[{ on := 5, ground := Ground.data }], guard := none }) (v := .pointer (some ⟨0, 3, none⟩)) rfl (by kernel_rfl) (by kernel_rfl) (by kernel_rfl) (fun _ _ _ h => h) (Or.inl ⟨by rfl, fun w => by go_simp⟩) ?_
      (try simp only [Act.put, List.setIfInBounds_toArray, List.set_cons_zero, List.set_cons_succ])
      refine wpAny_take (i := 7) (oi := { dst := some 49, op := Op.fieldAddr 77 (Operand.tmp 48) 2, type := 0, pos := "show.go:207", after := #[{ on := 6, ground := Ground.data }], guard := none }) (v := .pointer (some ⟨0, 5, none⟩)) rfl (by kernel_rfl) (by kernel_rfl) (by kernel_rfl) (fun _ _ _ h => h) (Or.inl ⟨by rfl, fun w => by go_simp⟩) ?_
      (try simp only [Act.put, List.setIfInBounds_toArray, List.set_cons_zero, List.set_cons_succ])
      refine wpAny_take (i := 9) (oi := { dst := some 51, op := Op.move (Operand.tmp 1), type := 3, pos := "show.go:207", after := #[], guard := none }) (v := .int .i64 D) rfl (by kernel_rfl) (by kernel_rfl) (by kernel_rfl) (fun _ _ _ h => h) (Or.inl ⟨by rfl, fun w => by go_simp⟩) ?_
      (try simp only [Act.put, List.setIfInBounds_toArray, List.set_cons_zero, List.set_cons_succ])
      refine wpAny_take (i := 10) (oi := { dst := some 52, op := Op.binOp BinOp.add 3 (Operand.tmp 51) (Operand.const (Value.int IntKind.i64 1)) 3, type := 3, pos := "show.go:207", after := #[{ on := 9, ground := Ground.data }], guard := none }) (v := .int .i64 (D + 1)) rfl (by kernel_rfl) (by kernel_rfl) (by kernel_rfl) (fun _ _ _ h => h) (Or.inl ⟨by rfl, fun w => by go_simp⟩) ?_
      (try simp only [Act.put, List.setIfInBounds_toArray, List.set_cons_zero, List.set_cons_succ])
      apply share7
      · intro HTA
        apply share7
        · intro HTB
          refine wpAny_ready (rs := [3, 4, 8]) (by kernel_rfl) (by simp) ?_
          refine AllReady.cons (o := { dst := some 45, op := Op.load 5 (Operand.tmp 44), type := 5, pos := "show.go:207", after := #[{ on := 2, ground := Ground.data }], guard := none }) rfl (fun K hK => ?_) ?_
          · refine step_load7 rfl 5 _ rfl (.pointer (some ⟨0, 3, none⟩)) rfl _ HL3.out ?_
            refine hK _ _ ?_
            clear hK K
            (try simp only [Act.put, List.setIfInBounds_toArray, List.set_cons_zero, List.set_cons_succ])
            refine wpAny_ready (rs := [4, 8]) (by kernel_rfl) (by simp) ?_
            refine AllReady.cons (o := { dst := some 46, op := Op.load 47 (Operand.tmp 2), type := 47, pos := "show.go:207", after := #[], guard := none }) rfl (fun K hK => ?_) ?_
            · rw [if_pos (by rfl)]
              refine wp_load_row 47 _ rfl w.heap.size rfl 47 _ _ _ KV.out Tryz.underlying47 rfl (boxed_load B) ?_
              refine hK _ _ ?_
              clear hK K
              (try simp only [Act.put, List.setIfInBounds_toArray, List.set_cons_zero, List.set_cons_succ])
              refine wpAny_ready (rs := [8]) (by kernel_rfl) (by simp) ?_
              refine AllReady.cons (o := { dst := some 50, op := Op.load 9 (Operand.tmp 49), type := 9, pos := "show.go:207", after := #[{ on := 7, ground := Ground.data }], guard := none }) rfl (fun K hK => ?_) AllReady.nil
              refine step_load7 rfl 9 _ rfl (.pointer (some ⟨0, 5, none⟩)) rfl _ HL8.out ?_
              refine hK _ _ ?_
              clear hK K
              (try simp only [Act.put, List.setIfInBounds_toArray, List.set_cons_zero, List.set_cons_succ])
              exact HTA
            refine AllReady.cons (o := { dst := some 50, op := Op.load 9 (Operand.tmp 49), type := 9, pos := "show.go:207", after := #[{ on := 7, ground := Ground.data }], guard := none }) rfl (fun K hK => ?_) AllReady.nil
            refine step_load7 rfl 9 _ rfl (.pointer (some ⟨0, 5, none⟩)) rfl _ HL8.out ?_
            refine hK _ _ ?_
            clear hK K
            (try simp only [Act.put, List.setIfInBounds_toArray, List.set_cons_zero, List.set_cons_succ])
            refine wpAny_ready (rs := [4]) (by kernel_rfl) (by simp) ?_
            refine AllReady.cons (o := { dst := some 46, op := Op.load 47 (Operand.tmp 2), type := 47, pos := "show.go:207", after := #[], guard := none }) rfl (fun K hK => ?_) AllReady.nil
            rw [if_pos (by rfl)]
            refine wp_load_row 47 _ rfl w.heap.size rfl 47 _ _ _ KV.out Tryz.underlying47 rfl (boxed_load B) ?_
            refine hK _ _ ?_
            clear hK K
            (try simp only [Act.put, List.setIfInBounds_toArray, List.set_cons_zero, List.set_cons_succ])
            exact HTA
          refine AllReady.cons (o := { dst := some 46, op := Op.load 47 (Operand.tmp 2), type := 47, pos := "show.go:207", after := #[], guard := none }) rfl (fun K hK => ?_) ?_
          · rw [if_pos (by rfl)]
            refine wp_load_row 47 _ rfl w.heap.size rfl 47 _ _ _ KV.out Tryz.underlying47 rfl (boxed_load B) ?_
            refine hK _ _ ?_
            clear hK K
            (try simp only [Act.put, List.setIfInBounds_toArray, List.set_cons_zero, List.set_cons_succ])
            refine wpAny_ready (rs := [3, 8]) (by kernel_rfl) (by simp) ?_
            refine AllReady.cons (o := { dst := some 45, op := Op.load 5 (Operand.tmp 44), type := 5, pos := "show.go:207", after := #[{ on := 2, ground := Ground.data }], guard := none }) rfl (fun K hK => ?_) ?_
            · refine step_load7 rfl 5 _ rfl (.pointer (some ⟨0, 3, none⟩)) rfl _ HL3.out ?_
              refine hK _ _ ?_
              clear hK K
              (try simp only [Act.put, List.setIfInBounds_toArray, List.set_cons_zero, List.set_cons_succ])
              refine wpAny_ready (rs := [8]) (by kernel_rfl) (by simp) ?_
              refine AllReady.cons (o := { dst := some 50, op := Op.load 9 (Operand.tmp 49), type := 9, pos := "show.go:207", after := #[{ on := 7, ground := Ground.data }], guard := none }) rfl (fun K hK => ?_) AllReady.nil
              refine step_load7 rfl 9 _ rfl (.pointer (some ⟨0, 5, none⟩)) rfl _ HL8.out ?_
              refine hK _ _ ?_
              clear hK K
              (try simp only [Act.put, List.setIfInBounds_toArray, List.set_cons_zero, List.set_cons_succ])
              exact HTA
            refine AllReady.cons (o := { dst := some 50, op := Op.load 9 (Operand.tmp 49), type := 9, pos := "show.go:207", after := #[{ on := 7, ground := Ground.data }], guard := none }) rfl (fun K hK => ?_) AllReady.nil
            refine step_load7 rfl 9 _ rfl (.pointer (some ⟨0, 5, none⟩)) rfl _ HL8.out ?_
            refine hK _ _ ?_
            clear hK K
            (try simp only [Act.put, List.setIfInBounds_toArray, List.set_cons_zero, List.set_cons_succ])
            exact HTB
          refine AllReady.cons (o := { dst := some 50, op := Op.load 9 (Operand.tmp 49), type := 9, pos := "show.go:207", after := #[{ on := 7, ground := Ground.data }], guard := none }) rfl (fun K hK => ?_) AllReady.nil
          refine step_load7 rfl 9 _ rfl (.pointer (some ⟨0, 5, none⟩)) rfl _ HL8.out ?_
          refine hK _ _ ?_
          clear hK K
          (try simp only [Act.put, List.setIfInBounds_toArray, List.set_cons_zero, List.set_cons_succ])
          refine wpAny_ready (rs := [3, 4]) (by kernel_rfl) (by simp) ?_
          refine AllReady.cons (o := { dst := some 45, op := Op.load 5 (Operand.tmp 44), type := 5, pos := "show.go:207", after := #[{ on := 2, ground := Ground.data }], guard := none }) rfl (fun K hK => ?_) ?_
          · refine step_load7 rfl 5 _ rfl (.pointer (some ⟨0, 3, none⟩)) rfl _ HL3.out ?_
            refine hK _ _ ?_
            clear hK K
            (try simp only [Act.put, List.setIfInBounds_toArray, List.set_cons_zero, List.set_cons_succ])
            refine wpAny_ready (rs := [4]) (by kernel_rfl) (by simp) ?_
            refine AllReady.cons (o := { dst := some 46, op := Op.load 47 (Operand.tmp 2), type := 47, pos := "show.go:207", after := #[], guard := none }) rfl (fun K hK => ?_) AllReady.nil
            rw [if_pos (by rfl)]
            refine wp_load_row 47 _ rfl w.heap.size rfl 47 _ _ _ KV.out Tryz.underlying47 rfl (boxed_load B) ?_
            refine hK _ _ ?_
            clear hK K
            (try simp only [Act.put, List.setIfInBounds_toArray, List.set_cons_zero, List.set_cons_succ])
            exact HTA
          refine AllReady.cons (o := { dst := some 46, op := Op.load 47 (Operand.tmp 2), type := 47, pos := "show.go:207", after := #[], guard := none }) rfl (fun K hK => ?_) AllReady.nil
          rw [if_pos (by rfl)]
          refine wp_load_row 47 _ rfl w.heap.size rfl 47 _ _ _ KV.out Tryz.underlying47 rfl (boxed_load B) ?_
          refine hK _ _ ?_
          clear hK K
          (try simp only [Act.put, List.setIfInBounds_toArray, List.set_cons_zero, List.set_cons_succ])
          exact HTB
        refine wpAny_ready (rs := [3, 11]) (by kernel_rfl) (by simp) ?_
        refine AllReady.cons (o := { dst := some 45, op := Op.load 5 (Operand.tmp 44), type := 5, pos := "show.go:207", after := #[{ on := 2, ground := Ground.data }], guard := none }) rfl (fun K hK => ?_) ?_
        · refine step_load7 rfl 5 _ rfl (.pointer (some ⟨0, 3, none⟩)) rfl _ HL3.out ?_
          refine hK _ _ ?_
          clear hK K
          (try simp only [Act.put, List.setIfInBounds_toArray, List.set_cons_zero, List.set_cons_succ])
          exact HTA
        refine AllReady.cons (o := { dst := some 53, op := Op.call { callee := Callee.value (Operand.func 69), args := #[Operand.tmp 46, Operand.tmp 50, Operand.tmp 52], argTypes := #[47, 9, 3] }, type := 29, pos := "show.go:207", after := #[{ on := 4, ground := Ground.data }, { on := 8, ground := Ground.data }, { on := 10, ground := Ground.data }], guard := none }) rfl (fun K hK => ?_) AllReady.nil
        rw [if_pos (by rfl)]
        go_simp
        refine (PA.out V AV.out FV.out).mono ?_; rintro e v1 ⟨m1, v, L, rfl, o1, l1, a1⟩
        obtain ⟨ao, cap, rfl, hcap, hrow⟩ := ownT_cap o1
        have BU := Lib.hid (built7_any 4 104 (by decide) L ao cap hcap (by have := congrArg List.length l1; rw [List.length_map] at this; have := HFT.out.2; omega) (fun y hy => by have h1 := HFT.out.1 (bl y) (by rw [← l1]; exact List.mem_map_of_mem hy); rw [bl_length] at h1; omega) v1 hrow)
        rw [l1, HBM.out] at BU
        have A1 := Lib.hid a1; have M1 := Lib.hid (MV.out.trans m1)
        have hl3b : (Instr.loadAt 5 (.pointer (some ⟨0, 3, none⟩))).run Tryz.prog v1 = .ok (.int .u8 4) v1 := by have hd : v1.cell? ⟨0, 3, none⟩ = some (.int .u8 4) := (HFR.out.moved HB0.out M1.out).2 3 (by decide); go_simp
        have HL3b := Lib.hid hl3b
        clear m1 o1 l1 a1 hcap hrow hl3b
        refine hK _ _ ?_
        clear hK K
        (try simp only [Act.put, List.setIfInBounds_toArray, List.set_cons_zero, List.set_cons_succ])
        refine wpAny_ready (rs := [3]) (by kernel_rfl) (by simp) ?_
        refine AllReady.cons (o := { dst := some 45, op := Op.load 5 (Operand.tmp 44), type := 5, pos := "show.go:207", after := #[{ on := 2, ground := Ground.data }], guard := none }) rfl (fun K hK => ?_) AllReady.nil
        refine step_load7 rfl 5 _ rfl (.pointer (some ⟨0, 3, none⟩)) rfl _ HL3b.out ?_
        refine hK _ _ ?_
        clear hK K
        (try simp only [Act.put, List.setIfInBounds_toArray, List.set_cons_zero, List.set_cons_succ])
        refine wpAny_ready (rs := [12]) (by kernel_rfl) (by simp) ?_
        refine AllReady.cons (o := { dst := some 54, op := Op.call { callee := Callee.value (Operand.func 68), args := #[Operand.tmp 45, Operand.tmp 53], argTypes := #[5, 29] }, type := 9, pos := "show.go:207", after := #[{ on := 3, ground := Ground.data }, { on := 11, ground := Ground.data }, { on := 11, ground := Ground.chain }], guard := none }) rfl (fun K hK => ?_) AllReady.nil
        rw [if_pos (by rfl)]
        go_simp
        refine BU.out.mono ?_; rintro e v2 ⟨h2, b2⟩
        rw [if_pos rfl] at h2; subst h2
        have A2 := Lib.hid (A1.out.below b2); have M2 := Lib.hid (M1.out.trans (Moved.of_below b2)); clear b2
        refine hK _ _ ?_
        clear hK K
        dsimp only
        refine wpAny_take (i := 13) (oi := { dst := some 4, op := Op.assign (Operand.tmp 54), type := 9, pos := "show.go:207", after := #[{ on := 12, ground := Ground.data }, { on := 12, ground := Ground.chain }, { on := 0, ground := Ground.phase }, { on := 1, ground := Ground.phase }, { on := 2, ground := Ground.phase }, { on := 3, ground := Ground.phase }, { on := 4, ground := Ground.phase }, { on := 5, ground := Ground.phase }, { on := 6, ground := Ground.phase }, { on := 7, ground := Ground.phase }, { on := 8, ground := Ground.phase }, { on := 9, ground := Ground.phase }, { on := 10, ground := Ground.phase }, { on := 11, ground := Ground.phase }, { on := 12, ground := Ground.phase }], guard := none }) (v := .string ⟨t.toArray⟩) rfl (by kernel_rfl) (by kernel_rfl) (by kernel_rfl) (fun _ _ _ h => h) (Or.inl ⟨by rfl, fun w => by go_simp⟩) ?_
        (try simp only [Act.put, List.setIfInBounds_toArray, List.set_cons_zero, List.set_cons_succ])
        refine wpAny_done (by kernel_rfl) ?_ _
        go_wp2_with fail
        go_ret
        exact RdPost.yes M2.out A2.out
      refine wpAny_ready (rs := [11]) (by kernel_rfl) (by simp) ?_
      refine AllReady.cons (o := { dst := some 53, op := Op.call { callee := Callee.value (Operand.func 69), args := #[Operand.tmp 46, Operand.tmp 50, Operand.tmp 52], argTypes := #[47, 9, 3] }, type := 29, pos := "show.go:207", after := #[{ on := 4, ground := Ground.data }, { on := 8, ground := Ground.data }, { on := 10, ground := Ground.data }], guard := none }) rfl (fun K hK => ?_) AllReady.nil
      rw [if_pos (by rfl)]
      go_simp
      refine (PA.out V AV.out FV.out).mono ?_; rintro e v1 ⟨m1, v, L, rfl, o1, l1, a1⟩
      obtain ⟨ao, cap, rfl, hcap, hrow⟩ := ownT_cap o1
      have BU := Lib.hid (built7_any 4 104 (by decide) L ao cap hcap (by have := congrArg List.length l1; rw [List.length_map] at this; have := HFT.out.2; omega) (fun y hy => by have h1 := HFT.out.1 (bl y) (by rw [← l1]; exact List.mem_map_of_mem hy); rw [bl_length] at h1; omega) v1 hrow)
      rw [l1, HBM.out] at BU
      have A1 := Lib.hid a1; have M1 := Lib.hid (MV.out.trans m1)
      have hl3b : (Instr.loadAt 5 (.pointer (some ⟨0, 3, none⟩))).run Tryz.prog v1 = .ok (.int .u8 4) v1 := by have hd : v1.cell? ⟨0, 3, none⟩ = some (.int .u8 4) := (HFR.out.moved HB0.out M1.out).2 3 (by decide); go_simp
      have HL3b := Lib.hid hl3b
      clear m1 o1 l1 a1 hcap hrow hl3b
      refine hK _ _ ?_
      clear hK K
      (try simp only [Act.put, List.setIfInBounds_toArray, List.set_cons_zero, List.set_cons_succ])
      refine wpAny_ready (rs := [12]) (by kernel_rfl) (by simp) ?_
      refine AllReady.cons (o := { dst := some 54, op := Op.call { callee := Callee.value (Operand.func 68), args := #[Operand.tmp 45, Operand.tmp 53], argTypes := #[5, 29] }, type := 9, pos := "show.go:207", after := #[{ on := 3, ground := Ground.data }, { on := 11, ground := Ground.data }, { on := 11, ground := Ground.chain }], guard := none }) rfl (fun K hK => ?_) AllReady.nil
      rw [if_pos (by rfl)]
      go_simp
      refine BU.out.mono ?_; rintro e v2 ⟨h2, b2⟩
      rw [if_pos rfl] at h2; subst h2
      have A2 := Lib.hid (A1.out.below b2); have M2 := Lib.hid (M1.out.trans (Moved.of_below b2)); clear b2
      refine hK _ _ ?_
      clear hK K
      dsimp only
      refine wpAny_take (i := 13) (oi := { dst := some 4, op := Op.assign (Operand.tmp 54), type := 9, pos := "show.go:207", after := #[{ on := 12, ground := Ground.data }, { on := 12, ground := Ground.chain }, { on := 0, ground := Ground.phase }, { on := 1, ground := Ground.phase }, { on := 2, ground := Ground.phase }, { on := 3, ground := Ground.phase }, { on := 4, ground := Ground.phase }, { on := 5, ground := Ground.phase }, { on := 6, ground := Ground.phase }, { on := 7, ground := Ground.phase }, { on := 8, ground := Ground.phase }, { on := 9, ground := Ground.phase }, { on := 10, ground := Ground.phase }, { on := 11, ground := Ground.phase }, { on := 12, ground := Ground.phase }], guard := none }) (v := .string ⟨t.toArray⟩) rfl (by kernel_rfl) (by kernel_rfl) (by kernel_rfl) (fun _ _ _ h => h) (Or.inl ⟨by rfl, fun w => by go_simp⟩) ?_
      (try simp only [Act.put, List.setIfInBounds_toArray, List.set_cons_zero, List.set_cons_succ])
      refine wpAny_done (by kernel_rfl) ?_ _
      go_wp2_with fail
      go_ret
      exact RdPost.yes M2.out A2.out
    · rw [if_neg he] at hz
      subst hz
      have HE := Lib.hid he
      clear he
      go_enter Tryz.func38, Tryz.ntmps38
      go_wp2_with (go_at_call 39; refine (need7_ok _).mono ?_; rintro e w0 ⟨rfl, rfl⟩)
      refine (SK34.out _ A0.out).mono ?_; rintro e w1 ⟨rfl, a, m⟩
      have K1 := Lib.hid (m.heap HKB.out K0.out); obtain ⟨c0, c1⟩ := rd_cells K1.out; have A1 := Lib.hid a; have M1 := Lib.hid (M0.out.trans m); clear a m
      go_wp2_with fail
      refine (SK120.out _ A1.out).mono ?_; rintro e w2 ⟨rfl, a, m⟩
      have K2 := Lib.hid (m.heap HKB.out K1.out); obtain ⟨c0, c1⟩ := rd_cells K2.out; have A2 := Lib.hid a; have M2 := Lib.hid (M1.out.trans m); clear a m
      go_wp2_with fail
      refine (SK36.out _ A2.out).mono ?_; rintro e w3 ⟨rfl, a, m⟩
      have K3 := Lib.hid (m.heap HKB.out K2.out); obtain ⟨c0, c1⟩ := rd_cells K3.out; have A3 := Lib.hid a; have M3 := Lib.hid (M2.out.trans m); clear a m
      go_wp2_with fail
      refine wp_loop_rounds 5 ?_
      rw [rounds_succ]
      go_wp2_with fail
      obtain ⟨V20, hV20⟩ : ∃ U, U = World.drew w3 := ⟨_, rfl⟩
      have hl1 : (Instr.loadAt 22 (.pointer (some ⟨w.heap.size, 0, none⟩))).run Tryz.prog V20 = .ok (skipV B) V20 := by rw [hV20]; have hd : (World.drew w3).cell? ⟨w.heap.size, 0, none⟩ = some (skipV B) := c0; go_simp
      have hl5 : (Instr.loadAt 9 (.pointer (some ⟨0, 1, none⟩))).run Tryz.prog V20 = .ok (.string ⟨#[91]⟩) V20 := by rw [hV20]; have hd : (World.drew w3).cell? ⟨0, 1, none⟩ = some (.string ⟨#[91]⟩) := (HFR.out.moved HB0.out M3.out).2 1 (by decide); go_simp
      have HL1 := Lib.hid hl1
      have HL5 := Lib.hid hl5
      have AV20 : Hid (At7 B (104 :: 40 :: r) V20) := Lib.hid (by rw [hV20]; exact A3.out)
      have KV20 : Hid (V20.heap[w.heap.size]? = some (.cells #[skipV B, upV B] 47 (0, 0))) := Lib.hid (by rw [hV20]; exact K3.out)
      have MV20 : Hid (Moved B w V20) := Lib.hid (by rw [hV20]; exact M3.out.trans (Moved.of_below (Below.refl _ _).drew))
      have HV := Lib.hid hV20
      clear hV20 hl1 hl5
      refine wp_region_any (by kernel_rfl) ?_
      change wpAny _ _ _ _ _ _ _ (World.drew w3)
      rw [← HV.out]
      clear HV
      refine wpAny_take (i := 0) (oi := { dst := some 35, op := Op.fieldAddr 47 (Operand.tmp 2) 0, type := 0, pos := "show.go:206", after := #[], guard := none }) (v := .pointer (some ⟨w.heap.size, 0, none⟩)) rfl (by kernel_rfl) (by kernel_rfl) (by kernel_rfl) (fun _ _ _ h => h) (Or.inl ⟨by rfl, fun w => by go_simp⟩) ?_
      (try simp only [Act.put, List.setIfInBounds_toArray, List.set_cons_zero, List.set_cons_succ])
      refine wpAny_take (i := 2) (oi := { dst := some 37, op := Op.move (Operand.tmp 5), type := 3, pos := "show.go:206", after := #[], guard := none }) (v := .int .i64 0) rfl (by kernel_rfl) (by kernel_rfl) (by kernel_rfl) (fun _ _ _ h => h) (Or.inl ⟨by rfl, fun w => by go_simp⟩) ?_
      (try simp only [Act.put, List.setIfInBounds_toArray, List.set_cons_zero, List.set_cons_succ])
      refine wpAny_take (i := 3) (oi := { dst := some 38, op := Op.indexAddr 78 (Operand.global 0) (Operand.tmp 37), type := 0, pos := "show.go:206", after := #[{ on := 2, ground := Ground.data }], guard := none }) (v := .pointer (some ⟨0, 0, none⟩)) rfl (by kernel_rfl) (by kernel_rfl) (by kernel_rfl) (fun _ _ _ h => h) (Or.inl ⟨by rfl, fun w => by go_simp⟩) ?_
      (try simp only [Act.put, List.setIfInBounds_toArray, List.set_cons_zero, List.set_cons_succ])
      refine wpAny_take (i := 4) (oi := { dst := some 39, op := Op.fieldAddr 77 (Operand.tmp 38) 1, type := 0, pos := "show.go:206", after := #[{ on := 3, ground := Ground.data }], guard := none }) (v := .pointer (some ⟨0, 1, none⟩)) rfl (by kernel_rfl) (by kernel_rfl) (by kernel_rfl) (fun _ _ _ h => h) (Or.inl ⟨by rfl, fun w => by go_simp⟩) ?_
      (try simp only [Act.put, List.setIfInBounds_toArray, List.set_cons_zero, List.set_cons_succ])
      apply share7
      · intro HT
        refine wpAny_ready (rs := [1, 5]) (by kernel_rfl) (by simp) ?_
        refine AllReady.cons (o := { dst := some 36, op := Op.load 22 (Operand.tmp 35), type := 22, pos := "show.go:206", after := #[{ on := 0, ground := Ground.data }], guard := none }) rfl (fun K hK => ?_) ?_
        · refine step_load7 rfl 22 _ rfl (.pointer (some ⟨w.heap.size, 0, none⟩)) rfl _ HL1.out ?_
          refine hK _ _ ?_
          clear hK K
          (try simp only [Act.put, List.setIfInBounds_toArray, List.set_cons_zero, List.set_cons_succ])
          refine wpAny_ready (rs := [5]) (by kernel_rfl) (by simp) ?_
          refine AllReady.cons (o := { dst := some 40, op := Op.load 9 (Operand.tmp 39), type := 9, pos := "show.go:206", after := #[{ on := 4, ground := Ground.data }], guard := none }) rfl (fun K hK => ?_) AllReady.nil
          refine step_load7 rfl 9 _ rfl (.pointer (some ⟨0, 1, none⟩)) rfl _ HL5.out ?_
          refine hK _ _ ?_
          clear hK K
          (try simp only [Act.put, List.setIfInBounds_toArray, List.set_cons_zero, List.set_cons_succ])
          exact HT
        refine AllReady.cons (o := { dst := some 40, op := Op.load 9 (Operand.tmp 39), type := 9, pos := "show.go:206", after := #[{ on := 4, ground := Ground.data }], guard := none }) rfl (fun K hK => ?_) AllReady.nil
        refine step_load7 rfl 9 _ rfl (.pointer (some ⟨0, 1, none⟩)) rfl _ HL5.out ?_
        refine hK _ _ ?_
        clear hK K
        (try simp only [Act.put, List.setIfInBounds_toArray, List.set_cons_zero, List.set_cons_succ])
        refine wpAny_ready (rs := [1]) (by kernel_rfl) (by simp) ?_
        refine AllReady.cons (o := { dst := some 36, op := Op.load 22 (Operand.tmp 35), type := 22, pos := "show.go:206", after := #[{ on := 0, ground := Ground.data }], guard := none }) rfl (fun K hK => ?_) AllReady.nil
        refine step_load7 rfl 22 _ rfl (.pointer (some ⟨w.heap.size, 0, none⟩)) rfl _ HL1.out ?_
        refine hK _ _ ?_
        clear hK K
        (try simp only [Act.put, List.setIfInBounds_toArray, List.set_cons_zero, List.set_cons_succ])
        exact HT
      refine wpAny_ready (rs := [6]) (by kernel_rfl) (by simp) ?_
      refine AllReady.cons (o := { dst := some 41, op := Op.call { callee := Callee.value (Operand.tmp 36), args := #[Operand.tmp 40], argTypes := #[9] }, type := 4, pos := "show.go:206", after := #[{ on := 1, ground := Ground.data }, { on := 5, ground := Ground.data }], guard := none }) rfl (fun K hK => ?_) AllReady.nil
      rw [if_pos (by rfl)]
      go_simp
      refine (SK91.out _ AV20.out).mono ?_; rintro e w4 ⟨rfl, a, m⟩
      have K4 := Lib.hid (m.heap HKB.out KV20.out); obtain ⟨c0, c1⟩ := rd_cells K4.out; have A4 := Lib.hid a; have M4 := Lib.hid (MV20.out.trans m); clear a m
      refine hK _ _ ?_
      clear hK K
      (try simp only [Act.put, List.setIfInBounds_toArray, List.set_cons_zero, List.set_cons_succ])
      refine wpAny_done (by kernel_rfl) ?_ _
      go_wp2_with fail
      rw [rounds_succ]
      go_wp2_with fail
      obtain ⟨V21, hV21⟩ : ∃ U, U = World.drew w4 := ⟨_, rfl⟩
      have hl1 : (Instr.loadAt 22 (.pointer (some ⟨w.heap.size, 0, none⟩))).run Tryz.prog V21 = .ok (skipV B) V21 := by rw [hV21]; have hd : (World.drew w4).cell? ⟨w.heap.size, 0, none⟩ = some (skipV B) := c0; go_simp
      have hl5 : (Instr.loadAt 9 (.pointer (some ⟨0, 4, none⟩))).run Tryz.prog V21 = .ok (.string ⟨#[104, 40]⟩) V21 := by rw [hV21]; have hd : (World.drew w4).cell? ⟨0, 4, none⟩ = some (.string ⟨#[104, 40]⟩) := (HFR.out.moved HB0.out M4.out).2 4 (by decide); go_simp
      have HL1 := Lib.hid hl1
      have HL5 := Lib.hid hl5
      have AV21 : Hid (At7 B (104 :: 40 :: r) V21) := Lib.hid (by rw [hV21]; exact A4.out)
      have KV21 : Hid (V21.heap[w.heap.size]? = some (.cells #[skipV B, upV B] 47 (0, 0))) := Lib.hid (by rw [hV21]; exact K4.out)
      have MV21 : Hid (Moved B w V21) := Lib.hid (by rw [hV21]; exact M4.out.trans (Moved.of_below (Below.refl _ _).drew))
      have HV := Lib.hid hV21
      clear hV21 hl1 hl5
      refine wp_region_any (by kernel_rfl) ?_
      change wpAny _ _ _ _ _ _ _ (World.drew w4)
      rw [← HV.out]
      clear HV
      refine wpAny_take (i := 0) (oi := { dst := some 35, op := Op.fieldAddr 47 (Operand.tmp 2) 0, type := 0, pos := "show.go:206", after := #[], guard := none }) (v := .pointer (some ⟨w.heap.size, 0, none⟩)) rfl (by kernel_rfl) (by kernel_rfl) (by kernel_rfl) (fun _ _ _ h => h) (Or.inl ⟨by rfl, fun w => by go_simp⟩) ?_
      (try simp only [Act.put, List.setIfInBounds_toArray, List.set_cons_zero, List.set_cons_succ])
      refine wpAny_take (i := 2) (oi := { dst := some 37, op := Op.move (Operand.tmp 5), type := 3, pos := "show.go:206", after := #[], guard := none }) (v := .int .i64 1) rfl (by kernel_rfl) (by kernel_rfl) (by kernel_rfl) (fun _ _ _ h => h) (Or.inl ⟨by rfl, fun w => by go_simp⟩) ?_
      (try simp only [Act.put, List.setIfInBounds_toArray, List.set_cons_zero, List.set_cons_succ])
      refine wpAny_take (i := 3) (oi := { dst := some 38, op := Op.indexAddr 78 (Operand.global 0) (Operand.tmp 37), type := 0, pos := "show.go:206", after := #[{ on := 2, ground := Ground.data }], guard := none }) (v := .pointer (some ⟨0, 3, none⟩)) rfl (by kernel_rfl) (by kernel_rfl) (by kernel_rfl) (fun _ _ _ h => h) (Or.inl ⟨by rfl, fun w => by go_simp⟩) ?_
      (try simp only [Act.put, List.setIfInBounds_toArray, List.set_cons_zero, List.set_cons_succ])
      refine wpAny_take (i := 4) (oi := { dst := some 39, op := Op.fieldAddr 77 (Operand.tmp 38) 1, type := 0, pos := "show.go:206", after := #[{ on := 3, ground := Ground.data }], guard := none }) (v := .pointer (some ⟨0, 4, none⟩)) rfl (by kernel_rfl) (by kernel_rfl) (by kernel_rfl) (fun _ _ _ h => h) (Or.inl ⟨by rfl, fun w => by go_simp⟩) ?_
      (try simp only [Act.put, List.setIfInBounds_toArray, List.set_cons_zero, List.set_cons_succ])
      apply share7
      · intro HT
        refine wpAny_ready (rs := [1, 5]) (by kernel_rfl) (by simp) ?_
        refine AllReady.cons (o := { dst := some 36, op := Op.load 22 (Operand.tmp 35), type := 22, pos := "show.go:206", after := #[{ on := 0, ground := Ground.data }], guard := none }) rfl (fun K hK => ?_) ?_
        · refine step_load7 rfl 22 _ rfl (.pointer (some ⟨w.heap.size, 0, none⟩)) rfl _ HL1.out ?_
          refine hK _ _ ?_
          clear hK K
          (try simp only [Act.put, List.setIfInBounds_toArray, List.set_cons_zero, List.set_cons_succ])
          refine wpAny_ready (rs := [5]) (by kernel_rfl) (by simp) ?_
          refine AllReady.cons (o := { dst := some 40, op := Op.load 9 (Operand.tmp 39), type := 9, pos := "show.go:206", after := #[{ on := 4, ground := Ground.data }], guard := none }) rfl (fun K hK => ?_) AllReady.nil
          refine step_load7 rfl 9 _ rfl (.pointer (some ⟨0, 4, none⟩)) rfl _ HL5.out ?_
          refine hK _ _ ?_
          clear hK K
          (try simp only [Act.put, List.setIfInBounds_toArray, List.set_cons_zero, List.set_cons_succ])
          exact HT
        refine AllReady.cons (o := { dst := some 40, op := Op.load 9 (Operand.tmp 39), type := 9, pos := "show.go:206", after := #[{ on := 4, ground := Ground.data }], guard := none }) rfl (fun K hK => ?_) AllReady.nil
        refine step_load7 rfl 9 _ rfl (.pointer (some ⟨0, 4, none⟩)) rfl _ HL5.out ?_
        refine hK _ _ ?_
        clear hK K
        (try simp only [Act.put, List.setIfInBounds_toArray, List.set_cons_zero, List.set_cons_succ])
        refine wpAny_ready (rs := [1]) (by kernel_rfl) (by simp) ?_
        refine AllReady.cons (o := { dst := some 36, op := Op.load 22 (Operand.tmp 35), type := 22, pos := "show.go:206", after := #[{ on := 0, ground := Ground.data }], guard := none }) rfl (fun K hK => ?_) AllReady.nil
        refine step_load7 rfl 22 _ rfl (.pointer (some ⟨w.heap.size, 0, none⟩)) rfl _ HL1.out ?_
        refine hK _ _ ?_
        clear hK K
        (try simp only [Act.put, List.setIfInBounds_toArray, List.set_cons_zero, List.set_cons_succ])
        exact HT
      refine wpAny_ready (rs := [6]) (by kernel_rfl) (by simp) ?_
      refine AllReady.cons (o := { dst := some 41, op := Op.call { callee := Callee.value (Operand.tmp 36), args := #[Operand.tmp 40], argTypes := #[9] }, type := 4, pos := "show.go:206", after := #[{ on := 1, ground := Ground.data }, { on := 5, ground := Ground.data }], guard := none }) rfl (fun K hK => ?_) AllReady.nil
      rw [if_pos (by rfl)]
      go_simp
      refine (SK104_40.out _ AV21.out).mono ?_; rintro e w5 ⟨rfl, a, m⟩
      have K5 := Lib.hid (m.heap HKB.out KV21.out); obtain ⟨c0, c1⟩ := rd_cells K5.out; have A5 := Lib.hid a; have M5 := Lib.hid (MV21.out.trans m); clear a m
      refine hK _ _ ?_
      clear hK K
      (try simp only [Act.put, List.setIfInBounds_toArray, List.set_cons_zero, List.set_cons_succ])
      refine wpAny_done (by kernel_rfl) ?_ _
      go_wp2_with fail
      obtain ⟨V, hV⟩ : ∃ U, U = World.drew w5 := ⟨_, rfl⟩
      have FW := HFR.out.moved HB0.out M5.out
      have hl3 : (Instr.loadAt 5 (.pointer (some ⟨0, 3, none⟩))).run Tryz.prog V = .ok (.int .u8 4) V := by rw [hV]; have hd : (World.drew w5).cell? ⟨0, 3, none⟩ = some (.int .u8 4) := FW.2 3 (by decide); go_simp
      have hl8 : (Instr.loadAt 9 (.pointer (some ⟨0, 5, none⟩))).run Tryz.prog V = .ok (.string ⟨#[41]⟩) V := by rw [hV]; have hd : (World.drew w5).cell? ⟨0, 5, none⟩ = some (.string ⟨#[41]⟩) := FW.2 5 (by decide); go_simp
      have HL3 := Lib.hid hl3
      have HL8 := Lib.hid hl8
      have AV : Hid (At7 B r V) := Lib.hid (by rw [hV]; exact A5.out)
      have KV : Hid (V.heap[w.heap.size]? = some (.cells #[skipV B, upV B] 47 (0, 0))) := Lib.hid (by rw [hV]; exact K5.out)
      have MV : Hid (Moved B w V) := Lib.hid (by rw [hV]; exact M5.out.trans (Moved.of_below (Below.refl _ _).drew))
      have FV := Lib.hid (HFR.out.moved HB0.out MV.out)
      have HV := Lib.hid hV
      clear hV hl3 hl8 FW
      refine wp_region_any (by kernel_rfl) ?_
      change wpAny _ _ _ _ _ _ _ (World.drew w5)
      rw [← HV.out]
      clear HV
      refine wpAny_take (i := 0) (oi := { dst := some 42, op := Op.move (Operand.tmp 5), type := 3, pos := "show.go:207", after := #[], guard := none }) (v := .int .i64 1) rfl (by kernel_rfl) (by kernel_rfl) (by kernel_rfl) (fun _ _ _ h => h) (Or.inl ⟨by rfl, fun w => by go_simp⟩) ?_
      (try simp only [Act.put, List.setIfInBounds_toArray, List.set_cons_zero, List.set_cons_succ])
      refine wpAny_take (i := 1) (oi := { dst := some 43, op := Op.indexAddr 78 (Operand.global 0) (Operand.tmp 42), type := 0, pos := "show.go:207", after := #[{ on := 0, ground := Ground.data }], guard := none }) (v := .pointer (some ⟨0, 3, none⟩)) rfl (by kernel_rfl) (by kernel_rfl) (by kernel_rfl) (fun _ _ _ h => h) (Or.inl ⟨by rfl, fun w => by go_simp⟩) ?_
      (try simp only [Act.put, List.setIfInBounds_toArray, List.set_cons_zero, List.set_cons_succ])
      refine wpAny_take (i := 2) (oi := { dst := some 44, op := Op.fieldAddr 77 (Operand.tmp 43) 0, type := 0, pos := "show.go:207", after := #[{ on := 1, ground := Ground.data }], guard := none }) (v := .pointer (some ⟨0, 3, none⟩)) rfl (by kernel_rfl) (by kernel_rfl) (by kernel_rfl) (fun _ _ _ h => h) (Or.inl ⟨by rfl, fun w => by go_simp⟩) ?_
      (try simp only [Act.put, List.setIfInBounds_toArray, List.set_cons_zero, List.set_cons_succ])
      refine wpAny_take (i := 5) (oi := { dst := some 47, op := Op.move (Operand.tmp 5), type := 3, pos := "show.go:207", after := #[], guard := none }) (v := .int .i64 1) rfl (by kernel_rfl) (by kernel_rfl) (by kernel_rfl) (fun _ _ _ h => h) (Or.inl ⟨by rfl, fun w => by go_simp⟩) ?_
      (try simp only [Act.put, List.setIfInBounds_toArray, List.set_cons_zero, List.set_cons_succ])
      refine wpAny_take (i := 6) (oi := { dst := some 48, op := Op.indexAddr 78 (Operand.global 0) (Operand.tmp 47), type := 0, pos := "show.go:207", after := #[{ on := 5, ground := Ground.data }], guard := none }) (v := .pointer (some ⟨0, 3, none⟩)) rfl (by kernel_rfl) (by kernel_rfl) (by kernel_rfl) (fun _ _ _ h => h) (Or.inl ⟨by rfl, fun w => by go_simp⟩) ?_
      (try simp only [Act.put, List.setIfInBounds_toArray, List.set_cons_zero, List.set_cons_succ])
      refine wpAny_take (i := 7) (oi := { dst := some 49, op := Op.fieldAddr 77 (Operand.tmp 48) 2, type := 0, pos := "show.go:207", after := #[{ on := 6, ground := Ground.data }], guard := none }) (v := .pointer (some ⟨0, 5, none⟩)) rfl (by kernel_rfl) (by kernel_rfl) (by kernel_rfl) (fun _ _ _ h => h) (Or.inl ⟨by rfl, fun w => by go_simp⟩) ?_
      (try simp only [Act.put, List.setIfInBounds_toArray, List.set_cons_zero, List.set_cons_succ])
      refine wpAny_take (i := 9) (oi := { dst := some 51, op := Op.move (Operand.tmp 1), type := 3, pos := "show.go:207", after := #[], guard := none }) (v := .int .i64 D) rfl (by kernel_rfl) (by kernel_rfl) (by kernel_rfl) (fun _ _ _ h => h) (Or.inl ⟨by rfl, fun w => by go_simp⟩) ?_
      (try simp only [Act.put, List.setIfInBounds_toArray, List.set_cons_zero, List.set_cons_succ])
      refine wpAny_take (i := 10) (oi := { dst := some 52, op := Op.binOp BinOp.add 3 (Operand.tmp 51) (Operand.const (Value.int IntKind.i64 1)) 3, type := 3, pos := "show.go:207", after := #[{ on := 9, ground := Ground.data }], guard := none }) (v := .int .i64 (D + 1)) rfl (by kernel_rfl) (by kernel_rfl) (by kernel_rfl) (fun _ _ _ h => h) (Or.inl ⟨by rfl, fun w => by go_simp⟩) ?_
      (try simp only [Act.put, List.setIfInBounds_toArray, List.set_cons_zero, List.set_cons_succ])
      apply share7
      · intro HTA
        apply share7
        · intro HTB
          refine wpAny_ready (rs := [3, 4, 8]) (by kernel_rfl) (by simp) ?_
          refine AllReady.cons (o := { dst := some 45, op := Op.load 5 (Operand.tmp 44), type := 5, pos := "show.go:207", after := #[{ on := 2, ground := Ground.data }], guard := none }) rfl (fun K hK => ?_) ?_
          · refine step_load7 rfl 5 _ rfl (.pointer (some ⟨0, 3, none⟩)) rfl _ HL3.out ?_
            refine hK _ _ ?_
            clear hK K
            (try simp only [Act.put, List.setIfInBounds_toArray, List.set_cons_zero, List.set_cons_succ])
            refine wpAny_ready (rs := [4, 8]) (by kernel_rfl) (by simp) ?_
            refine AllReady.cons (o := { dst := some 46, op := Op.load 47 (Operand.tmp 2), type := 47, pos := "show.go:207", after := #[], guard := none }) rfl (fun K hK => ?_) ?_
            · rw [if_pos (by rfl)]
              refine wp_load_row 47 _ rfl w.heap.size rfl 47 _ _ _ KV.out Tryz.underlying47 rfl (boxed_load B) ?_
              refine hK _ _ ?_
              clear hK K
              (try simp only [Act.put, List.setIfInBounds_toArray, List.set_cons_zero, List.set_cons_succ])
              refine wpAny_ready (rs := [8]) (by kernel_rfl) (by simp) ?_
              refine AllReady.cons (o := { dst := some 50, op := Op.load 9 (Operand.tmp 49), type := 9, pos := "show.go:207", after := #[{ on := 7, ground := Ground.data }], guard := none }) rfl (fun K hK => ?_) AllReady.nil
              refine step_load7 rfl 9 _ rfl (.pointer (some ⟨0, 5, none⟩)) rfl _ HL8.out ?_
              refine hK _ _ ?_
              clear hK K
              (try simp only [Act.put, List.setIfInBounds_toArray, List.set_cons_zero, List.set_cons_succ])
              exact HTA
            refine AllReady.cons (o := { dst := some 50, op := Op.load 9 (Operand.tmp 49), type := 9, pos := "show.go:207", after := #[{ on := 7, ground := Ground.data }], guard := none }) rfl (fun K hK => ?_) AllReady.nil
            refine step_load7 rfl 9 _ rfl (.pointer (some ⟨0, 5, none⟩)) rfl _ HL8.out ?_
            refine hK _ _ ?_
            clear hK K
            (try simp only [Act.put, List.setIfInBounds_toArray, List.set_cons_zero, List.set_cons_succ])
            refine wpAny_ready (rs := [4]) (by kernel_rfl) (by simp) ?_
            refine AllReady.cons (o := { dst := some 46, op := Op.load 47 (Operand.tmp 2), type := 47, pos := "show.go:207", after := #[], guard := none }) rfl (fun K hK => ?_) AllReady.nil
            rw [if_pos (by rfl)]
            refine wp_load_row 47 _ rfl w.heap.size rfl 47 _ _ _ KV.out Tryz.underlying47 rfl (boxed_load B) ?_
            refine hK _ _ ?_
            clear hK K
            (try simp only [Act.put, List.setIfInBounds_toArray, List.set_cons_zero, List.set_cons_succ])
            exact HTA
          refine AllReady.cons (o := { dst := some 46, op := Op.load 47 (Operand.tmp 2), type := 47, pos := "show.go:207", after := #[], guard := none }) rfl (fun K hK => ?_) ?_
          · rw [if_pos (by rfl)]
            refine wp_load_row 47 _ rfl w.heap.size rfl 47 _ _ _ KV.out Tryz.underlying47 rfl (boxed_load B) ?_
            refine hK _ _ ?_
            clear hK K
            (try simp only [Act.put, List.setIfInBounds_toArray, List.set_cons_zero, List.set_cons_succ])
            refine wpAny_ready (rs := [3, 8]) (by kernel_rfl) (by simp) ?_
            refine AllReady.cons (o := { dst := some 45, op := Op.load 5 (Operand.tmp 44), type := 5, pos := "show.go:207", after := #[{ on := 2, ground := Ground.data }], guard := none }) rfl (fun K hK => ?_) ?_
            · refine step_load7 rfl 5 _ rfl (.pointer (some ⟨0, 3, none⟩)) rfl _ HL3.out ?_
              refine hK _ _ ?_
              clear hK K
              (try simp only [Act.put, List.setIfInBounds_toArray, List.set_cons_zero, List.set_cons_succ])
              refine wpAny_ready (rs := [8]) (by kernel_rfl) (by simp) ?_
              refine AllReady.cons (o := { dst := some 50, op := Op.load 9 (Operand.tmp 49), type := 9, pos := "show.go:207", after := #[{ on := 7, ground := Ground.data }], guard := none }) rfl (fun K hK => ?_) AllReady.nil
              refine step_load7 rfl 9 _ rfl (.pointer (some ⟨0, 5, none⟩)) rfl _ HL8.out ?_
              refine hK _ _ ?_
              clear hK K
              (try simp only [Act.put, List.setIfInBounds_toArray, List.set_cons_zero, List.set_cons_succ])
              exact HTA
            refine AllReady.cons (o := { dst := some 50, op := Op.load 9 (Operand.tmp 49), type := 9, pos := "show.go:207", after := #[{ on := 7, ground := Ground.data }], guard := none }) rfl (fun K hK => ?_) AllReady.nil
            refine step_load7 rfl 9 _ rfl (.pointer (some ⟨0, 5, none⟩)) rfl _ HL8.out ?_
            refine hK _ _ ?_
            clear hK K
            (try simp only [Act.put, List.setIfInBounds_toArray, List.set_cons_zero, List.set_cons_succ])
            exact HTB
          refine AllReady.cons (o := { dst := some 50, op := Op.load 9 (Operand.tmp 49), type := 9, pos := "show.go:207", after := #[{ on := 7, ground := Ground.data }], guard := none }) rfl (fun K hK => ?_) AllReady.nil
          refine step_load7 rfl 9 _ rfl (.pointer (some ⟨0, 5, none⟩)) rfl _ HL8.out ?_
          refine hK _ _ ?_
          clear hK K
          (try simp only [Act.put, List.setIfInBounds_toArray, List.set_cons_zero, List.set_cons_succ])
          refine wpAny_ready (rs := [3, 4]) (by kernel_rfl) (by simp) ?_
          refine AllReady.cons (o := { dst := some 45, op := Op.load 5 (Operand.tmp 44), type := 5, pos := "show.go:207", after := #[{ on := 2, ground := Ground.data }], guard := none }) rfl (fun K hK => ?_) ?_
          · refine step_load7 rfl 5 _ rfl (.pointer (some ⟨0, 3, none⟩)) rfl _ HL3.out ?_
            refine hK _ _ ?_
            clear hK K
            (try simp only [Act.put, List.setIfInBounds_toArray, List.set_cons_zero, List.set_cons_succ])
            refine wpAny_ready (rs := [4]) (by kernel_rfl) (by simp) ?_
            refine AllReady.cons (o := { dst := some 46, op := Op.load 47 (Operand.tmp 2), type := 47, pos := "show.go:207", after := #[], guard := none }) rfl (fun K hK => ?_) AllReady.nil
            rw [if_pos (by rfl)]
            refine wp_load_row 47 _ rfl w.heap.size rfl 47 _ _ _ KV.out Tryz.underlying47 rfl (boxed_load B) ?_
            refine hK _ _ ?_
            clear hK K
            (try simp only [Act.put, List.setIfInBounds_toArray, List.set_cons_zero, List.set_cons_succ])
            exact HTA
          refine AllReady.cons (o := { dst := some 46, op := Op.load 47 (Operand.tmp 2), type := 47, pos := "show.go:207", after := #[], guard := none }) rfl (fun K hK => ?_) AllReady.nil
          rw [if_pos (by rfl)]
          refine wp_load_row 47 _ rfl w.heap.size rfl 47 _ _ _ KV.out Tryz.underlying47 rfl (boxed_load B) ?_
          refine hK _ _ ?_
          clear hK K
          (try simp only [Act.put, List.setIfInBounds_toArray, List.set_cons_zero, List.set_cons_succ])
          exact HTB
        refine wpAny_ready (rs := [3, 11]) (by kernel_rfl) (by simp) ?_
        refine AllReady.cons (o := { dst := some 45, op := Op.load 5 (Operand.tmp 44), type := 5, pos := "show.go:207", after := #[{ on := 2, ground := Ground.data }], guard := none }) rfl (fun K hK => ?_) ?_
        · refine step_load7 rfl 5 _ rfl (.pointer (some ⟨0, 3, none⟩)) rfl _ HL3.out ?_
          refine hK _ _ ?_
          clear hK K
          (try simp only [Act.put, List.setIfInBounds_toArray, List.set_cons_zero, List.set_cons_succ])
          exact HTA
        refine AllReady.cons (o := { dst := some 53, op := Op.call { callee := Callee.value (Operand.func 69), args := #[Operand.tmp 46, Operand.tmp 50, Operand.tmp 52], argTypes := #[47, 9, 3] }, type := 29, pos := "show.go:207", after := #[{ on := 4, ground := Ground.data }, { on := 8, ground := Ground.data }, { on := 10, ground := Ground.data }], guard := none }) rfl (fun K hK => ?_) AllReady.nil
        rw [if_pos (by rfl)]
        go_simp
        refine (PA.out V AV.out FV.out).mono ?_; rintro e v1 ⟨m1, v, L, rfl, o1, l1, a1⟩
        obtain ⟨ao, cap, rfl, hcap, hrow⟩ := ownT_cap o1
        have BU := Lib.hid (built7_any 4 104 (by decide) L ao cap hcap (by have := congrArg List.length l1; rw [List.length_map] at this; have := HFT.out.2; omega) (fun y hy => by have h1 := HFT.out.1 (bl y) (by rw [← l1]; exact List.mem_map_of_mem hy); rw [bl_length] at h1; omega) v1 hrow)
        rw [l1, HBM.out] at BU
        have A1 := Lib.hid a1; have M1 := Lib.hid (MV.out.trans m1)
        have hl3b : (Instr.loadAt 5 (.pointer (some ⟨0, 3, none⟩))).run Tryz.prog v1 = .ok (.int .u8 4) v1 := by have hd : v1.cell? ⟨0, 3, none⟩ = some (.int .u8 4) := (HFR.out.moved HB0.out M1.out).2 3 (by decide); go_simp
        have HL3b := Lib.hid hl3b
        clear m1 o1 l1 a1 hcap hrow hl3b
        refine hK _ _ ?_
        clear hK K
        (try simp only [Act.put, List.setIfInBounds_toArray, List.set_cons_zero, List.set_cons_succ])
        refine wpAny_ready (rs := [3]) (by kernel_rfl) (by simp) ?_
        refine AllReady.cons (o := { dst := some 45, op := Op.load 5 (Operand.tmp 44), type := 5, pos := "show.go:207", after := #[{ on := 2, ground := Ground.data }], guard := none }) rfl (fun K hK => ?_) AllReady.nil
        refine step_load7 rfl 5 _ rfl (.pointer (some ⟨0, 3, none⟩)) rfl _ HL3b.out ?_
        refine hK _ _ ?_
        clear hK K
        (try simp only [Act.put, List.setIfInBounds_toArray, List.set_cons_zero, List.set_cons_succ])
        refine wpAny_ready (rs := [12]) (by kernel_rfl) (by simp) ?_
        refine AllReady.cons (o := { dst := some 54, op := Op.call { callee := Callee.value (Operand.func 68), args := #[Operand.tmp 45, Operand.tmp 53], argTypes := #[5, 29] }, type := 9, pos := "show.go:207", after := #[{ on := 3, ground := Ground.data }, { on := 11, ground := Ground.data }, { on := 11, ground := Ground.chain }], guard := none }) rfl (fun K hK => ?_) AllReady.nil
        rw [if_pos (by rfl)]
        go_simp
        refine BU.out.mono ?_; rintro e v2 ⟨h2, b2⟩
        rw [if_neg HE.out] at h2; subst h2
        exact ⟨rfl, RdPost.no (M1.out.trans (Moved.of_below b2))⟩
      refine wpAny_ready (rs := [11]) (by kernel_rfl) (by simp) ?_
      refine AllReady.cons (o := { dst := some 53, op := Op.call { callee := Callee.value (Operand.func 69), args := #[Operand.tmp 46, Operand.tmp 50, Operand.tmp 52], argTypes := #[47, 9, 3] }, type := 29, pos := "show.go:207", after := #[{ on := 4, ground := Ground.data }, { on := 8, ground := Ground.data }, { on := 10, ground := Ground.data }], guard := none }) rfl (fun K hK => ?_) AllReady.nil
      rw [if_pos (by rfl)]
      go_simp
      refine (PA.out V AV.out FV.out).mono ?_; rintro e v1 ⟨m1, v, L, rfl, o1, l1, a1⟩
      obtain ⟨ao, cap, rfl, hcap, hrow⟩ := ownT_cap o1
      have BU := Lib.hid (built7_any 4 104 (by decide) L ao cap hcap (by have := congrArg List.length l1; rw [List.length_map] at this; have := HFT.out.2; omega) (fun y hy => by have h1 := HFT.out.1 (bl y) (by rw [← l1]; exact List.mem_map_of_mem hy); rw [bl_length] at h1; omega) v1 hrow)
      rw [l1, HBM.out] at BU
      have A1 := Lib.hid a1; have M1 := Lib.hid (MV.out.trans m1)
      have hl3b : (Instr.loadAt 5 (.pointer (some ⟨0, 3, none⟩))).run Tryz.prog v1 = .ok (.int .u8 4) v1 := by have hd : v1.cell? ⟨0, 3, none⟩ = some (.int .u8 4) := (HFR.out.moved HB0.out M1.out).2 3 (by decide); go_simp
      have HL3b := Lib.hid hl3b
      clear m1 o1 l1 a1 hcap hrow hl3b
      refine hK _ _ ?_
      clear hK K
      (try simp only [Act.put, List.setIfInBounds_toArray, List.set_cons_zero, List.set_cons_succ])
      refine wpAny_ready (rs := [12]) (by kernel_rfl) (by simp) ?_
      refine AllReady.cons (o := { dst := some 54, op := Op.call { callee := Callee.value (Operand.func 68), args := #[Operand.tmp 45, Operand.tmp 53], argTypes := #[5, 29] }, type := 9, pos := "show.go:207", after := #[{ on := 3, ground := Ground.data }, { on := 11, ground := Ground.data }, { on := 11, ground := Ground.chain }], guard := none }) rfl (fun K hK => ?_) AllReady.nil
      rw [if_pos (by rfl)]
      go_simp
      refine BU.out.mono ?_; rintro e v2 ⟨h2, b2⟩
      rw [if_neg HE.out] at h2; subst h2
      exact ⟨rfl, RdPost.no (M1.out.trans (Moved.of_below b2))⟩
end Go.Proofs.YtiehhlolhhjgpaaGreatDoor.Pl
