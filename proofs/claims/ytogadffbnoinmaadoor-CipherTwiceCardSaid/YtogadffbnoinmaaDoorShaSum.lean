/- What h.Sum answers. -/
import Derived.Test.YtogadffbnoinmaaDoorShaWrite
import Derived.Deep.CutRange
import Derived.Lib.SliceRun
namespace Go.Proofs.YtogadffbnoinmaaDoor.Pl
open Go.RowKit

/-- The cells A and B lie in block b, a Hash's. -/
def HeldS (b : Nat) (A B : List Value) (w : World) : Prop := w.rangeAt b 0 A ∧ w.rangeAt b 8 B ∧ b < w.heap.size
theorem HeldS.alloc {b : Nat} {A B : List Value} {w : World} (h : HeldS b A B w) (o : Obj) : HeldS b A B (w.alloc o) :=
  ⟨World.rangeAt_alloc h.1 o, World.rangeAt_alloc h.2.1 o, by rw [size_alloc']; have := h.2.2; omega⟩
theorem HeldS.drew {b : Nat} {A B : List Value} {w : World} (h : HeldS b A B w) : HeldS b A B w.drew :=
  ⟨(World.rangeAt_drew _ _ _ _).2 h.1, (World.rangeAt_drew _ _ _ _).2 h.2.1, h.2.2⟩
theorem HeldS.setRow {b : Nat} {A B : List Value} {w : World} (h : HeldS b A B w) {g : Nat} (hg : b ≠ g) (cs : Array Value) : HeldS b A B (w.setRow g cs) :=
  ⟨fun j v hv => by rw [cell_setRow_other _ _ _ _ hg]; exact h.1 j v hv, fun j v hv => by rw [cell_setRow_other _ _ _ _ hg]; exact h.2.1 j v hv, by rw [setRow_size]; exact h.2.2⟩

theorem heap2_0 (w : World) (A B : Obj) : ((w.alloc A).alloc B).heap[w.heap.size]? = some A := by
  rw [Go.heap_alloc_old _ _ (by simp), Go.heap_alloc_new]
theorem heap2_1 (w : World) (A B : Obj) : ((w.alloc A).alloc B).heap[w.heap.size + 1]? = some B := by
  have := Go.heap_alloc_new (w.alloc A) B
  rw [size_alloc'] at this
  exact this
theorem below2 (w : World) (A B : Obj) : Below w.heap.size w ((w.alloc A).alloc B) := ((Below.refl _ _).alloc (Nat.le_refl _) _).alloc (by simp) _

/-- What clear does to the bytes of an array behind place r. -/
theorem clear_rest (g r : Nat) (hr : r < 64) (W : World) (l : List Nat) (hl : l.length = 64) (h : W.heap[g]? = some (.cells (row .u8 l) 51 (0, 0))) :
    ∃ sv, (∀ V, (Instr.sliceAt 51 (.pointer (some ⟨g, 0, none⟩)) (some (.int .u64 ((r : Int) + 1))) none none).run Tryd.prog V = .ok sv V) ∧
      (Builtin.clear_ #[31] 0 #[sv]).run Tryd.prog W = .ok (.tuple #[]) (W.setRow g (row .u8 (l.take (r + 1) ++ List.replicate (63 - r) 0))) := by
  have hz : ∀ w, (zeroValue 5).run Tryd.prog w = .ok (.int .u8 0) w := fun w => by kernel_rfl
  by_cases e : r = 63
  · subst e
    refine ⟨.slice (some ⟨g, 0, none⟩) 0 0, fun V => ?_, ?_⟩
    · have ha : Tryd.prog.arrayLen 51 = 64 := by simp [Program.arrayLen, Tryd.underlying51]
      have he : Tryd.prog.elem 51 = 5 := by simp [Program.elem, Tryd.underlying51]
      rw [run_sliceAt_array_l V 51 ⟨g, 0, none⟩ (by rw [ha, he]; exact Tryd.underlying51) .u64 _ (by omega) (by rw [ha]; omega), ha, he]
      have hs : (sizeOf 5).run Tryd.prog V = .ok 1 V := by kernel_rfl
      rw [hs]
      simp [Result.andThen, slicedAt]
    · rw [show l.take (63 + 1) ++ List.replicate (63 - 63) 0 = l from by rw [List.take_of_length_le (by omega)]; simp, setRow_self W g _ _ _ h]
      simp [Builtin.clear_, run_underlying Tryd.underlying31]
  · refine ⟨_, slice64 g 0 (r + 1) (by omega) .u64 _ (by omega), ?_⟩
    rw [Lib.run_clear_slice W 31 5 0 (.int .u8 0) Tryd.underlying31 hz rfl rfl g (0 + (r + 1)) (64 - (r + 1)) _ (by omega)
      (fun j hj => by rw [(at_row h (0 + (r + 1) + j) (by omega)).1]; rfl) (fun j hj => (at_row h (0 + (r + 1) + j) (by omega)).2)]
    rw [setCells_row g _ _ _ _ W h (by rw [List.length_replicate, row_size]; omega)]
    congr 2
    apply Array.ext'
    simp [row, show 64 - (r + 1) = 63 - r by omega, hl, show r + 1 + (63 - r) = 64 by omega]
theorem clear_all (g : Nat) (W : World) (l : List Nat) (hl : l.length = 64) (h : W.heap[g]? = some (.cells (row .u8 l) 51 (0, 0))) :
    (∀ V, (Instr.sliceAt 51 (.pointer (some ⟨g, 0, none⟩)) none none none).run Tryd.prog V = .ok (.slice (some ⟨g, 0, none⟩) 64 64) V) ∧
      (Builtin.clear_ #[31] 0 #[.slice (some ⟨g, 0, none⟩) 64 64]).run Tryd.prog W = .ok (.tuple #[]) (W.setRow g (row .u8 (List.replicate 64 0))) := by
  have hz : ∀ w, (zeroValue 5).run Tryd.prog w = .ok (.int .u8 0) w := fun w => by kernel_rfl
  refine ⟨fun V => ?_, ?_⟩
  · have ha : Tryd.prog.arrayLen 51 = 64 := by simp [Program.arrayLen, Tryd.underlying51]
    have he : Tryd.prog.elem 51 = 5 := by simp [Program.elem, Tryd.underlying51]
    rw [run_sliceAt_array_all V 51 ⟨g, 0, none⟩ (by rw [ha, he]; exact Tryd.underlying51), ha, he]
    have hs : (sizeOf 5).run Tryd.prog V = .ok 1 V := by kernel_rfl
    rw [hs]
    simp only [Result.andThen, slicedAt]
    rw [if_neg (by omega), add_none]
  · rw [Lib.run_clear_slice W 31 5 0 (.int .u8 0) Tryd.underlying31 hz rfl rfl g 0 64 _ (by omega)
      (fun j hj => by rw [(at_row h (0 + j) (by omega)).1]; rfl) (fun j hj => (at_row h (0 + j) (by omega)).2)]
    rw [setCells_row g _ _ _ _ W h (by rw [List.length_replicate, row_size]; omega)]
    congr 2
    apply Array.ext'
    simp [row, hl]

set_option maxHeartbeats 1000000 in
set_option maxRecDepth 100000 in
theorem hsum_any (w : World) (b : Nat) (m : List Nat) (hm : Bytes m) (hl : m.length < 2305843009213693952) (hT : Tab w) (h : Holds w b m) :
    Calls Tryd.prog 32 #[.pointer (some ⟨b, 0, none⟩)] w fun e w' => e = .returned (.string (bytesOf (digest m))) ∧ Below w.heap.size w w' := by
  obtain ⟨wt, hA, htl, hbt⟩ := h
  obtain ⟨A, eA⟩ : ∃ A, A = (st m).list.map fun (x : Nat) => Value.int .u32 (x : Int) := ⟨_, rfl⟩
  obtain ⟨B, eB⟩ : ∃ B, B = wt.map fun (x : Nat) => Value.int .u8 (x : Int) := ⟨_, rfl⟩
  have HELD : HeldS b A B w.drew := by rw [eA, eB]; exact HeldS.drew ⟨hA.state, hA.wait, hA.lt⟩
  have hs8 : (Tryd.prog.info? 64).map (·.size) = some A.length := by rw [eA, List.length_map]; kernel_rfl
  have hs64 : (Tryd.prog.info? 51).map (·.size) = some B.length := by rw [eB, List.length_map, hA.2]; kernel_rfl
  have HAL : Hid (A.length = 8) := Lib.hid (by rw [eA, List.length_map]; rfl)
  have HBL : Hid (B.length = 64) := Lib.hid (by rw [eB, List.length_map, hA.2])
  have HS8 := Lib.hid hs8
  have HS64 := Lib.hid hs64
  have HA := Lib.hid hA
  have HTL := Lib.hid htl
  have HBT := Lib.hid hbt
  have HM := Lib.hid hm
  have HT := Lib.hid hT
  have HL := Lib.hid hl
  have EA := Lib.hid eA
  have EB := Lib.hid eB
  clear hm hT hl hA htl hbt eA eB hs8 hs64
  go_enter Tryd.func32, Tryd.ntmps32
  go_upto_region 3 with fail
  go_cut [3, 4] from 10 to 17 (fun p3 p4 wx => ∃ g3 g4, p3 = .pointer (some ⟨g3, 0, none⟩) ∧ p4 = .pointer (some ⟨g4, 0, none⟩) ∧ Hid (wx.heap[g3]? = some (.cells A.toArray 64 (0, 0))) ∧ Hid (wx.heap[g4]? = some (.cells B.toArray 51 (0, 0))) ∧ Hid (g3 ≠ g4) ∧ Hid (w.heap.size ≤ g3) ∧ Hid (w.heap.size ≤ g4) ∧ Hid (Below w.heap.size w wx))
  case first =>
    refine wp_region_held_drew (S := HeldS b A B) (by kernel_rfl) HELD (fun hHeld => ?_)
    refine wpAnyH_take (i := 0) (oi := { dst := some 10, op := Op.move (Operand.tmp 0), type := 45, pos := "sha.go:68", after := #[], guard := none }) (v := .pointer (some ⟨b, 0, none⟩)) rfl (by kernel_rfl) (by kernel_rfl) (by kernel_rfl) (fun _ _ _ h => h) (.inl ⟨by rfl, fun w _ => by go_simp⟩) hHeld ?_
    refine wpAnyH_take (i := 1) (oi := { dst := some 11, op := Op.nilCheck (Operand.tmp 10), type := 0, pos := "sha.go:68", after := #[{ on := 0, ground := Ground.data }], guard := none }) (v := .pointer (some ⟨b, 0, none⟩)) rfl (by kernel_rfl) (by kernel_rfl) (by kernel_rfl) (fun _ _ _ h => h) (.inl ⟨by rfl, fun w _ => by go_simp⟩) hHeld ?_
    refine wpAnyH_take (i := 2) (oi := { dst := some 12, op := Op.fieldAddr 67 (Operand.tmp 11) 0, type := 0, pos := "sha.go:68", after := #[{ on := 1, ground := Ground.data }], guard := none }) (v := .pointer (some ⟨b, 0, none⟩)) rfl (by kernel_rfl) (by kernel_rfl) (by kernel_rfl) (fun _ _ _ h => h) (.inl ⟨by rfl, fun w _ => by go_simp⟩) hHeld ?_
    refine wpAnyH_take (i := 4) (oi := { dst := some 14, op := Op.move (Operand.tmp 0), type := 45, pos := "sha.go:68", after := #[{ on := 10, ground := Ground.gcOnly Departure.lateStores }], guard := none }) (v := .pointer (some ⟨b, 0, none⟩)) rfl (by kernel_rfl) (by kernel_rfl) (by kernel_rfl) (fun _ _ _ h => h) (.inl ⟨by rfl, fun w _ => by go_simp⟩) hHeld ?_
    refine wpAnyH_take (i := 5) (oi := { dst := some 15, op := Op.nilCheck (Operand.tmp 14), type := 0, pos := "sha.go:68", after := #[{ on := 4, ground := Ground.data }, { on := 10, ground := Ground.gcOnly Departure.lateStores }], guard := none }) (v := .pointer (some ⟨b, 0, none⟩)) rfl (by kernel_rfl) (by kernel_rfl) (by kernel_rfl) (fun _ _ _ h => h) (.inl ⟨by rfl, fun w _ => by go_simp⟩) hHeld ?_
    refine wpAnyH_take (i := 6) (oi := { dst := some 16, op := Op.fieldAddr 67 (Operand.tmp 15) 1, type := 0, pos := "sha.go:68", after := #[{ on := 5, ground := Ground.data }, { on := 10, ground := Ground.gcOnly Departure.lateStores }], guard := none }) (v := .pointer (some ⟨b, 8, none⟩)) rfl (by kernel_rfl) (by kernel_rfl) (by kernel_rfl) (fun _ _ _ h => h) (.inl ⟨by rfl, fun w _ => by go_simp⟩) hHeld ?_
    (try simp only [Act.put, List.setIfInBounds_toArray, List.set_cons_zero, List.set_cons_succ])
    refine wpAnyH_take (i := 3) (oi := { dst := some 13, op := Op.load 64 (Operand.tmp 12), type := 64, pos := "sha.go:68", after := #[{ on := 2, ground := Ground.data }], guard := none }) (v := .agg (A).toArray) rfl (by kernel_rfl) (by kernel_rfl) (by kernel_rfl) (fun _ _ _ h => h) (yieldsIf_load_mid (by rfl) 64 _ rfl b 0 rfl A _ (fun _ hs => hs.1) Tryd.underlying64 rfl HS8.out) hHeld ?_
    refine wpAnyH_take (i := 7) (oi := { dst := some 17, op := Op.load 51 (Operand.tmp 16), type := 51, pos := "sha.go:68", after := #[{ on := 6, ground := Ground.data }, { on := 10, ground := Ground.gcOnly Departure.lateStores }], guard := none }) (v := .agg (B).toArray) rfl (by kernel_rfl) (by kernel_rfl) (by kernel_rfl) (fun _ _ _ h => h) (yieldsIf_load_mid (by rfl) 51 _ rfl b 8 rfl B _ (fun _ hs => hs.2.1) Tryd.underlying51 rfl HS64.out) hHeld ?_
    (try simp only [Act.put, List.setIfInBounds_toArray, List.set_cons_zero, List.set_cons_succ])
    refine wpAnyH_ready (rs := [8, 9]) (by kernel_rfl) (by simp) ?_
    refine AllReadyH.cons (o := { dst := some 3, op := Op.alloc 64, type := 0, pos := "sha.go:68", after := #[], guard := none }) rfl (fun K hK => ?_) ?_
    · go_simp
      refine hK.out _ _ (hHeld.alloc _) (fun hHeld => ?_)
      clear hK K
      (try simp only [Act.put, List.setIfInBounds_toArray, List.set_cons_zero, List.set_cons_succ])
      refine wpAnyH_ready (rs := [9]) (by kernel_rfl) (by simp) ?_
      refine AllReadyH.cons (o := { dst := some 4, op := Op.alloc 51, type := 0, pos := "sha.go:68", after := #[], guard := none }) rfl (fun K hK => ?_) AllReadyH.nil
      go_simp
      refine hK.out _ _ (hHeld.alloc _) (fun hHeld => ?_)
      clear hK K
      (try simp only [Act.put, List.setIfInBounds_toArray, List.set_cons_zero, List.set_cons_succ])
      have k3 := heap2_0 w (.cells (row .u32 (List.replicate 8 0)) 64) (.cells (row .u8 (List.replicate 64 0)) 51)
      have k4 := heap2_1 w (.cells (row .u32 (List.replicate 8 0)) 64) (.cells (row .u8 (List.replicate 64 0)) 51)
      have kb := below2 w (.cells (row .u32 (List.replicate 8 0)) 64) (.cells (row .u8 (List.replicate 64 0)) 51)
      have K3 := Lib.hid k3
      have K4 := Lib.hid k4
      have KB := Lib.hid kb
      clear k3 k4 kb
      refine wpAnyH_ready (rs := [10]) (by kernel_rfl) (by simp) ?_
      refine AllReadyH.cons (o := { dst := none, op := Op.store 64 (Operand.tmp 3) (Operand.tmp 13), type := 0, pos := "sha.go:68", after := #[{ on := 8, ground := Ground.data }, { on := 3, ground := Ground.data }, { on := 0, ground := Ground.phase }, { on := 1, ground := Ground.phase }, { on := 2, ground := Ground.phase }, { on := 3, ground := Ground.phase }, { on := 4, ground := Ground.textOnly Departure.lateStores }, { on := 5, ground := Ground.textOnly Departure.lateStores }, { on := 6, ground := Ground.textOnly Departure.lateStores }, { on := 7, ground := Ground.textOnly Departure.lateStores }, { on := 8, ground := Ground.phase }, { on := 9, ground := Ground.phase }], guard := none }) rfl (fun K hK => ?_) AllReadyH.nil
      rw [if_pos (by rfl)]
      refine wp_store_row 64 _ _ rfl w.heap.size A.toArray rfl rfl 64 (row .u32 (List.replicate 8 0)) K3.out (by rw [List.size_toArray]; exact HS8.out) (by rw [row_size, List.size_toArray, HAL.out, List.length_replicate]) (by rw [EA.out]; exact row_one _ _) ?_
      refine hK.out _ _ (hHeld.setRow (by have := HA.out.lt; omega) _) (fun hHeld => ?_)
      clear hK K
      simp only [Act.put]
      refine wpAnyH_ready (rs := [11]) (by kernel_rfl) (by simp) ?_
      refine AllReadyH.cons (o := { dst := none, op := Op.store 51 (Operand.tmp 4) (Operand.tmp 17), type := 0, pos := "sha.go:68", after := #[{ on := 9, ground := Ground.data }, { on := 7, ground := Ground.data }, { on := 10, ground := Ground.chain }, { on := 0, ground := Ground.phase }, { on := 1, ground := Ground.phase }, { on := 2, ground := Ground.phase }, { on := 3, ground := Ground.phase }, { on := 4, ground := Ground.phase }, { on := 5, ground := Ground.phase }, { on := 6, ground := Ground.phase }, { on := 7, ground := Ground.phase }, { on := 8, ground := Ground.phase }, { on := 9, ground := Ground.phase }, { on := 10, ground := Ground.phase }], guard := none }) rfl (fun K hK => ?_) AllReadyH.nil
      rw [if_pos (by rfl)]
      refine wp_store_row 51 _ _ rfl (w.heap.size + 1) B.toArray rfl rfl 51 (row .u8 (List.replicate 64 0)) (heap_setRow K4.out (by omega) _) (by rw [List.size_toArray]; exact HS64.out) (by rw [row_size, List.size_toArray, HBL.out, List.length_replicate]) (by rw [EB.out]; exact row_one _ _) ?_
      refine hK.out _ _ (hHeld.setRow (by have := HA.out.lt; omega) _) (fun hHeld => ?_)
      clear hK K
      simp only [Act.put]
      refine wpAnyH_done (by kernel_rfl) ?_ _
      go_wp2_with fail
      go_meet
      exact ⟨w.heap.size, (w.heap.size + 1), rfl, rfl, Lib.hid (heap_setRow (setRow_heap _ _ _ _ _ _ K3.out) (by omega) _), Lib.hid (setRow_heap _ _ _ _ _ _ (heap_setRow K4.out (by omega) _)), Lib.hid (by omega), Lib.hid (by omega), Lib.hid (by omega), Lib.hid (below_setRow (below_setRow KB.out.drew (by omega) _) (by omega) _)⟩
    · refine AllReadyH.cons (o := { dst := some 4, op := Op.alloc 51, type := 0, pos := "sha.go:68", after := #[], guard := none }) rfl (fun K hK => ?_) AllReadyH.nil
      go_simp
      refine hK.out _ _ (hHeld.alloc _) (fun hHeld => ?_)
      clear hK K
      (try simp only [Act.put, List.setIfInBounds_toArray, List.set_cons_zero, List.set_cons_succ])
      refine wpAnyH_ready (rs := [8]) (by kernel_rfl) (by simp) ?_
      refine AllReadyH.cons (o := { dst := some 3, op := Op.alloc 64, type := 0, pos := "sha.go:68", after := #[], guard := none }) rfl (fun K hK => ?_) AllReadyH.nil
      go_simp
      refine hK.out _ _ (hHeld.alloc _) (fun hHeld => ?_)
      clear hK K
      (try simp only [Act.put, List.setIfInBounds_toArray, List.set_cons_zero, List.set_cons_succ])
      have k3 := heap2_1 w (.cells (row .u8 (List.replicate 64 0)) 51) (.cells (row .u32 (List.replicate 8 0)) 64)
      have k4 := heap2_0 w (.cells (row .u8 (List.replicate 64 0)) 51) (.cells (row .u32 (List.replicate 8 0)) 64)
      have kb := below2 w (.cells (row .u8 (List.replicate 64 0)) 51) (.cells (row .u32 (List.replicate 8 0)) 64)
      have K3 := Lib.hid k3
      have K4 := Lib.hid k4
      have KB := Lib.hid kb
      clear k3 k4 kb
      refine wpAnyH_ready (rs := [10]) (by kernel_rfl) (by simp) ?_
      refine AllReadyH.cons (o := { dst := none, op := Op.store 64 (Operand.tmp 3) (Operand.tmp 13), type := 0, pos := "sha.go:68", after := #[{ on := 8, ground := Ground.data }, { on := 3, ground := Ground.data }, { on := 0, ground := Ground.phase }, { on := 1, ground := Ground.phase }, { on := 2, ground := Ground.phase }, { on := 3, ground := Ground.phase }, { on := 4, ground := Ground.textOnly Departure.lateStores }, { on := 5, ground := Ground.textOnly Departure.lateStores }, { on := 6, ground := Ground.textOnly Departure.lateStores }, { on := 7, ground := Ground.textOnly Departure.lateStores }, { on := 8, ground := Ground.phase }, { on := 9, ground := Ground.phase }], guard := none }) rfl (fun K hK => ?_) AllReadyH.nil
      rw [if_pos (by rfl)]
      refine wp_store_row 64 _ _ rfl (w.heap.size + 1) A.toArray rfl rfl 64 (row .u32 (List.replicate 8 0)) K3.out (by rw [List.size_toArray]; exact HS8.out) (by rw [row_size, List.size_toArray, HAL.out, List.length_replicate]) (by rw [EA.out]; exact row_one _ _) ?_
      refine hK.out _ _ (hHeld.setRow (by have := HA.out.lt; omega) _) (fun hHeld => ?_)
      clear hK K
      simp only [Act.put]
      refine wpAnyH_ready (rs := [11]) (by kernel_rfl) (by simp) ?_
      refine AllReadyH.cons (o := { dst := none, op := Op.store 51 (Operand.tmp 4) (Operand.tmp 17), type := 0, pos := "sha.go:68", after := #[{ on := 9, ground := Ground.data }, { on := 7, ground := Ground.data }, { on := 10, ground := Ground.chain }, { on := 0, ground := Ground.phase }, { on := 1, ground := Ground.phase }, { on := 2, ground := Ground.phase }, { on := 3, ground := Ground.phase }, { on := 4, ground := Ground.phase }, { on := 5, ground := Ground.phase }, { on := 6, ground := Ground.phase }, { on := 7, ground := Ground.phase }, { on := 8, ground := Ground.phase }, { on := 9, ground := Ground.phase }, { on := 10, ground := Ground.phase }], guard := none }) rfl (fun K hK => ?_) AllReadyH.nil
      rw [if_pos (by rfl)]
      refine wp_store_row 51 _ _ rfl w.heap.size B.toArray rfl rfl 51 (row .u8 (List.replicate 64 0)) (heap_setRow K4.out (by omega) _) (by rw [List.size_toArray]; exact HS64.out) (by rw [row_size, List.size_toArray, HBL.out, List.length_replicate]) (by rw [EB.out]; exact row_one _ _) ?_
      refine hK.out _ _ (hHeld.setRow (by have := HA.out.lt; omega) _) (fun hHeld => ?_)
      clear hK K
      simp only [Act.put]
      refine wpAnyH_done (by kernel_rfl) ?_ _
      go_wp2_with fail
      go_meet
      exact ⟨(w.heap.size + 1), w.heap.size, rfl, rfl, Lib.hid (heap_setRow (setRow_heap _ _ _ _ _ _ K3.out) (by omega) _), Lib.hid (setRow_heap _ _ _ _ _ _ (heap_setRow K4.out (by omega) _)), Lib.hid (by omega), Lib.hid (by omega), Lib.hid (by omega), Lib.hid (below_setRow (below_setRow KB.out.drew (by omega) _) (by omega) _)⟩
  case rest =>
    obtain ⟨g3, g4, rfl, rfl, k3, k4, hne, hg3, hg4, hbw⟩ := hcut
    have K3 : wc.heap[g3]? = some (.cells (row .u32 (st m).list) 64 (0, 0)) := by rw [k3.out, EA.out]; rfl
    have K4 : wc.heap[g4]? = some (.cells (row .u8 wt) 51 (0, 0)) := by rw [k4.out, EB.out]; rfl
    have HW := Lib.hid (HA.out.below hbw.out)
    obtain ⟨r, hr⟩ : ∃ r, r = m.length % 64 := ⟨_, rfl⟩
    have HR := Lib.hid hr
    have hr64 : r < 64 := by omega
    obtain ⟨n, hn⟩ : ∃ n, n = m.length := ⟨_, rfl⟩
    have HN := Lib.hid hn
    obtain ⟨c72, _⟩ := HW.out.size
    rw [← hn] at c72
    obtain ⟨c4, f4⟩ := at_row K4 r (by rw [HA.out.2]; omega)
    have hmod : Int.tmod (n : Int) 64 = (r : Int) := by rw [Int.tmod_eq_emod_of_nonneg (by omega)]; omega
    have hmod2 : (n : Int) % 64 = (r : Int) := by omega
    have L3 : (wc.setCell ⟨g4, r, none⟩ (.int .u8 128)).heap[g3]? = some (.cells (row .u32 (st m).list) 64 (0, 0)) := heap_keep K3 hne.out
    have L4 : (wc.setCell ⟨g4, r, none⟩ (.int .u8 128)).heap[g4]? = some (.cells (row .u8 (wt.set r 128)) 51 (0, 0)) := heap_step K4 128
    have hb5 : Below w.heap.size w (wc.setCell ⟨g4, r, none⟩ (.int .u8 128)) := hbw.out.setCell hg4.out _
    obtain ⟨sv, hsv, hcl⟩ := clear_rest g4 r hr64 _ (wt.set r 128) (by rw [List.length_set]; exact HA.out.2) L4
    have hbase : (wt.set r 128).take (r + 1) ++ List.replicate (63 - r) 0 = base m := by
      rw [base, ← HR.out, ← HTL.out, ← HR.out, List.take_set, List.take_succ_eq_append_getElem (by rw [HA.out.2]; omega), List.set_append]
      simp [HA.out.2, show min r 64 = r by omega]
    rw [hbase] at hcl
    have M4 := setRow_heap _ _ _ (row .u8 (base m)) _ _ L4
    have M3 := heap_setRow L3 hne.out (row .u8 (base m))
    have MB := below_setRow hb5 hg4.out (row .u8 (base m))
    have LL3 := Lib.hid M3
    have LL4 := Lib.hid M4
    have LB := Lib.hid MB
    have k5 := Lib.hid K3
    have k6 := Lib.hid K4
    clear L3 L4 hb5 M3 M4 MB hr hn K3 K4 hbase
    go_upto_if 29 with fail
    go_cut [] from 28 to 33 (fun wx => ∃ (s : S8) (l : List Nat), Hid (s.fits) ∧ Hid (l.length = 64) ∧ Hid (Bytes l) ∧ Hid (wx.heap[g3]? = some (.cells (row .u32 s.list) 64 (0, 0))) ∧ Hid (wx.heap[g4]? = some (.cells (row .u8 l) 51 (0, 0))) ∧ Hid (fin m = proc s (l.take 56 ++ lenB m.length)) ∧ Hid (Below w.heap.size w wx))
    case first =>
      obtain ⟨W6, hW6⟩ : ∃ W6, W6 = (wc.setCell ⟨g4, r, none⟩ (.int .u8 128)).setRow g4 (row .u8 (base m)) := ⟨_, rfl⟩
      rw [← hW6] at LL3 LL4 LB
      rw [← hW6]
      have HW6 := Lib.hid hW6
      have hs35 : (Tryd.prog.info? 64).map (·.size) = some (row .u32 (st m).list).size := by rw [row_size]; kernel_rfl
      have hs39 : (Tryd.prog.info? 51).map (·.size) = some (row .u8 (base m)).size := by rw [row_size, base_length]; kernel_rfl
      have hs36 : (Tryd.prog.info? 64).map (·.size) = some (row .u32 (proc (st m) (base m)).list).size := by rw [row_size]; kernel_rfl
      have HS35 := Lib.hid hs35
      have HS39 := Lib.hid hs39
      have HS36 := Lib.hid hs36
      clear hW6 hcl hsv hs35 hs39 hs36 c72 c4 f4 hmod hmod2
      by_cases h56 : 56 ≤ r
      · have hd : decide (56 ≤ (r : Int)) = true := by simp; omega
        go_wp2_with (first
          | (refine wpList_load_row rfl 64 _ rfl g3 rfl 64 _ _ _ LL3.out Tryd.underlying64 rfl HS35.out ?_)
          | (refine wpList_load_row rfl 51 _ rfl g4 rfl 51 _ _ _ LL4.out Tryd.underlying51 rfl HS39.out ?_))
        refine (process_any (st m) (ab_fits _ _) (base m) (base_length m) (fun j => HM.out.base.at j) W6 (HT.out.below LB.out)).mono ?_; rintro e w6 ⟨rfl, hb6⟩
        have N3 := Lib.hid (heap_below hb6 LL3.out)
        have n4 := heap_below hb6 LL4.out
        have NB := Lib.hid (LB.out.trans (hb6.mono LB.out.size))
        have P3 := Lib.hid (setRow_heap _ _ _ (row .u32 (proc (st m) (base m)).list) _ _ N3.out)
        have P4 := heap_setRow n4 (fun e => hne.out e.symm) (row .u32 (proc (st m) (base m)).list)
        have PB := Lib.hid (below_setRow NB.out hg3.out (row .u32 (proc (st m) (base m)).list))
        obtain ⟨hsl, hcl⟩ := clear_all g4 _ (base m) (base_length m) P4
        have HP4 := Lib.hid P4
        clear hb6 n4 P4
        go_wp2_with (refine wpList_store_row rfl 64 _ _ rfl g3 _ rfl rfl 64 _ N3.out HS36.out (by rw [row_size, row_size]; rfl) (row_one _ _) ?_)
        go_meet
        refine ⟨proc (st m) (base m), List.replicate 64 0, Lib.hid (proc_fits _ _), Lib.hid (by simp), Lib.hid ?_, Lib.hid (heap_setRow P3.out hne.out _), Lib.hid (setRow_heap _ _ _ _ _ _ HP4.out), Lib.hid ?_, Lib.hid (below_setRow PB.out hg4.out _)⟩
        · intro x hx; rw [List.eq_of_mem_replicate hx]; decide
        · rw [fin, if_pos (by rw [← HR.out]; exact h56)]
          simp
      · have hd : decide (56 ≤ (r : Int)) = false := by simp; omega
        go_wp2_with fail
        go_meet
        exact ⟨st m, base m, Lib.hid (ab_fits _ _), Lib.hid (base_length m), Lib.hid HM.out.base, LL3, LL4, Lib.hid (by rw [fin, if_neg (by rw [← HR.out]; exact h56)]), LB⟩
    case rest =>
      obtain ⟨q, l, hq, hll, hbl, h3, h4, hfin, hbb⟩ := hcut
      obtain ⟨d72, _⟩ := (HA.out.below hbb.out).size
      rw [← HN.out] at d72
      obtain ⟨cnt, hcnt⟩ : ∃ cnt, cnt = n * 8 := ⟨_, rfl⟩
      have hw8 : IntKind.u64.wrap ((n : Int) * 8) = (cnt : Int) := by
        have h1 := HL.out
        have h2 := HN.out
        rw [IntKind.wrap_u64, hcnt]; omega
      have HCNT := Lib.hid hcnt
      clear hcnt hcl hsv c72 c4 f4 hmod hmod2
      go_wp2_with fail
      go_loopw [39] (fun i wr => ∃ (k : Nat) (p : List Nat), k ≤ 8 ∧ i = .int .i64 k ∧ Hid (p.length = 64) ∧ Hid (∀ j, j < 64 → p.getD j 0 = if 64 - k ≤ j then lenAt n (j - 56) else l.getD j 0) ∧ Hid (wr.heap[g3]? = some (.cells (row .u32 q.list) 64 (0, 0))) ∧ Hid (wr.heap[g4]? = some (.cells (row .u8 p) 51 (0, 0))) ∧ Hid (Below w.heap.size w wr)) (fun i _ => 8 - (intOf i).toNat)
      case atStart => exact ⟨0, l, by omega, rfl, hll, Lib.hid (fun j hj => by rw [if_neg (by omega)]), h3, h4, hbb⟩
      case round =>
        clear h3 h4 hbb d72
        obtain ⟨k, p, hk, rfl, hpl, hag, h3, h4, hbb⟩ := hrel
        by_cases hlt : k < 8
        · obtain ⟨c1, f1⟩ := at_row h4.out (63 - k) (by rw [hpl.out]; omega)
          have q1 : (63 - (k : Int)).toNat = 63 - k := by omega
          have q3 : (8 * (k : Int)).toNat = 8 * k := by omega
          have q5 : min (8 * k) 64 = 8 * k := by omega
          obtain ⟨v, HV⟩ : ∃ v, Hid (v = lenAt n (7 - k)) := ⟨_, Lib.hid rfl⟩
          have hv : (cnt : Int) / 2 ^ (8 * k) % 256 = (v : Int) := by
            rw [HV.out, lenAt, HCNT.out, show 7 - (7 - k) = k by omega, Int.natCast_emod, Int.natCast_ediv, Int.natCast_pow]; rfl
          go_wp2_with fail
          go_roundw
          case rel =>
            refine ⟨k + 1, p.set (63 - k) v, by omega, by go_num, Lib.hid (by rw [List.length_set]; exact hpl.out), Lib.hid ?_, Lib.hid (heap_keep h3.out hne.out), Lib.hid (heap_step h4.out v), Lib.hid (hbb.out.setCell hg4.out _)⟩
            intro j hj
            rw [getD_set _ _ _ _ (by rw [hpl.out]; omega)]
            by_cases e : j = 63 - k
            · rw [if_pos e, if_pos (by omega), HV.out, e, show 63 - k - 56 = 7 - k by omega]
            · rw [if_neg e, hag.out j hj]
              by_cases h : 64 - k ≤ j
              · rw [if_pos h, if_pos (by omega)]
              · rw [if_neg h, if_neg (by omega)]
          case measure => simp [intOf]; omega
        · obtain rfl : k = 8 := by omega
          have e : p = l.take 56 ++ lenB m.length := getD_ext (by rw [hpl.out, List.length_append, List.length_take, hll.out, lenB_length]; rfl) (fun j hj => by
            rw [hag.out j (by rw [hpl.out] at hj; exact hj), ← HN.out]
            by_cases h : j < 56
            · rw [if_neg (by omega), getD_append_left (by rw [List.length_take, hll.out]; omega)]
              simp [List.getD_eq_getElem?_getD, h]
            · rw [if_pos (by omega), List.getD_eq_getElem?_getD, List.getElem?_append_right (by rw [List.length_take, hll.out]; omega), ← List.getD_eq_getElem?_getD, List.length_take, hll.out, show min 56 64 = 56 by omega, lenB_at _ _ (by rw [hpl.out] at hj; omega)])
          subst e
          have hbp : Bytes (l.take 56 ++ lenB m.length) := (hbl.out.take 56).append (by
            intro x hx
            obtain ⟨i, hi, rfl⟩ := List.mem_map.1 hx
            exact lenAt_lt _ _)
          have HBP := Lib.hid hbp
          have hs35 : (Tryd.prog.info? 64).map (·.size) = some (row .u32 q.list).size := by rw [row_size]; kernel_rfl
          have hs39 : (Tryd.prog.info? 51).map (·.size) = some (row .u8 (l.take 56 ++ lenB m.length)).size := by rw [row_size, hpl.out]; kernel_rfl
          have HS35 := Lib.hid hs35
          have HS39 := Lib.hid hs39
          clear hs35 hs39 hbp hlt hk
          go_wp2_with (first
            | (refine wpList_load_row rfl 64 _ rfl g3 rfl 64 _ _ _ h3.out Tryd.underlying64 rfl HS35.out ?_)
            | (refine wpList_load_row rfl 51 _ rfl g4 rfl 51 _ _ _ h4.out Tryd.underlying51 rfl HS39.out ?_))
          refine (process_any q hq.out _ hpl.out (fun j => HBP.out.at j) wr (HT.out.below hbb.out)).mono ?_; rintro e w6 ⟨rfl, hb6⟩
          rw [← hfin.out]
          have HB6 := Lib.hid hb6
          clear hb6
          go_wp2_with fail
          refine (joined_any (fin m) w6).mono ?_; rintro e w7 ⟨rfl, hb7⟩
          go_wp2_with fail
          go_ret
          have k1 := hbb.out.trans (HB6.out.mono hbb.out.size)
          exact ⟨rfl, k1.trans (hb7.mono k1.size)⟩
end Go.Proofs.YtogadffbnoinmaaDoor.Pl
