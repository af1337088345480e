/- What the document's Hex answers. -/
import Derived.Test.YtghldnnnhlgmkaaDoorShaJoined
import Derived.Test.YtghldnnnhlgmkaaDoorShaSpec
import Derived.Deep.RegionLaw
import Derived.Deep.AppendLies
namespace Go.Proofs.YtghldnnnhlgmkaaDoor.Pl
open Go.RowKit

/-- The hexadecimal digit of a number below 16. -/
def dg (x : Nat) : Nat := if x < 10 then 48 + x else 87 + x
def hexl (l : List Nat) : List Nat := l.flatMap fun c => [dg (c / 16), dg (c % 16)]
theorem hexl_length (l : List Nat) : (hexl l).length = 2 * l.length := by
  induction l with
  | nil => rfl
  | cons c l ih => simp only [hexl, List.flatMap_cons, List.length_append, List.length_cons, List.length_nil] at *; omega
theorem hexl_append (l m : List Nat) : hexl (l ++ m) = hexl l ++ hexl m := by simp [hexl]
theorem dg_lt {x : Nat} (h : x < 16) : dg x < 256 := by unfold dg; split <;> omega
theorem hexl_lt {l : List Nat} (h : Bytes l) : Bytes (hexl l) := by
  intro x hx
  obtain ⟨c, hc, hx⟩ := List.mem_flatMap.1 hx
  have := h c hc
  simp only [List.mem_cons, List.not_mem_nil, or_false] at hx
  rcases hx with rfl | rfl
  · exact dg_lt (by omega)
  · exact dg_lt (by omega)
theorem hex_index (x : Nat) (h : x < 16) (V : World) : (Instr.index 9 (.string ⟨#[48, 49, 50, 51, 52, 53, 54, 55, 56, 57, 97, 98, 99, 100, 101, 102]⟩) (.int .u8 (x : Int))).run Tryd.prog V = .ok (.int .u8 ((dg x : Nat) : Int)) V := by
  obtain rfl | rfl | rfl | rfl | rfl | rfl | rfl | rfl | rfl | rfl | rfl | rfl | rfl | rfl | rfl | rfl : x = 0 ∨ x = 1 ∨ x = 2 ∨ x = 3 ∨ x = 4 ∨ x = 5 ∨ x = 6 ∨ x = 7 ∨ x = 8 ∨ x = 9 ∨ x = 10 ∨ x = 11 ∨ x = 12 ∨ x = 13 ∨ x = 14 ∨ x = 15 := by omega
  all_goals kernel_rfl
theorem info_u8 : (Tryd.prog.info? 5).map (fun i => (i.zero, i.size, i.bytes)) = some (some (.int .u8 0), 1, 1) := by kernel_rfl

theorem str_index (s : ByteArray) (k c : Nat) (hk : k < s.size) (hc : c = (nums s).getD k 0) (V : World) : (Instr.index 9 (.string s) (.int .i64 (k : Int))).run Tryd.prog V = .ok (.int .u8 (c : Int)) V := by
  rw [run_index_string V 9 s .i64 k Tryd.underlying9, dif_pos ⟨by omega, by omega⟩, hc]
  congr 2
  have hk' : k < s.data.toList.length := by simpa using hk
  simp only [nums, List.getD_eq_getElem?_getD, List.getElem?_map, List.getElem?_eq_getElem hk', Option.map_some, Option.getD_some, Int.toNat_natCast]
  rfl
theorem take_next (l : List Nat) (k : Nat) (h : k < l.length) : l.take (k + 1) = l.take k ++ [l.getD k 0] := by
  rw [List.take_succ_eq_append_getElem h, List.getD_eq_getElem?_getD, List.getElem?_eq_getElem h, Option.getD_some]
set_option maxHeartbeats 1000000 in
set_option maxRecDepth 100000 in
theorem hex_any (s : ByteArray) (h0 : 0 < s.size) (h1 : s.size ≤ 1000) (w : World) :
    Calls Tryd.prog 12 #[.string s] w fun e w' => e = .returned (.string (bytesOf (hexl (nums s)))) ∧ Below w.heap.size w w' := by
  obtain ⟨i0, hi, hz0, hz1, hz2⟩ := info_parts info_u8
  go_enter Tryd.func12, Tryd.ntmps12
  go_wp2_with fail
  go_loopw [4, 5] (fun v i wr => ∃ k : Nat, k ≤ s.size ∧ i = .int .i64 k ∧ Hid (wr.ownsRow w.heap.size 5 1 v (2 * k) (u8s (hexl ((nums s).take k)))) ∧ Hid (Below w.heap.size w wr)) (fun _ i _ => s.size - (intOf i).toNat)
  case atStart => exact ⟨0, by omega, rfl, Lib.hid (World.ownsRow_nil _ _ _ _), Lib.hid (Below.refl _ _)⟩
  case round =>
    obtain ⟨k, hk, rfl, hown, hbw⟩ := hrel
    by_cases hlt : k < s.size
    · obtain ⟨c, ec⟩ : ∃ c : Nat, c = (nums s).getD k 0 := ⟨_, rfl⟩
      have EC := Lib.hid ec
      have hc256 : c < 256 := by rw [ec]; exact (nums_bytes s).at k
      have hix : ∀ V : World, (Instr.index 9 (.string s) (.int .i64 (k : Int))).run Tryd.prog V = .ok (.int .u8 (c : Int)) V := str_index s k c hlt ec
      obtain ⟨x, ex⟩ : ∃ x : Nat, x = c / 16 := ⟨_, rfl⟩
      obtain ⟨y, ey⟩ : ∃ y : Nat, y = c % 16 := ⟨_, rfl⟩
      have hx1 := hex_index x (by omega)
      have hx2 := hex_index y (by omega)
      have d1 : Int.tdiv (c : Int) 16 = (x : Int) := by rw [Int.tdiv_eq_ediv_of_nonneg (by omega)]; omega
      have d2 : (c : Int) / 16 = (x : Int) := by omega
      have d3 : Int.tmod (c : Int) 16 = (y : Int) := by rw [Int.tmod_eq_emod_of_nonneg (by omega)]; omega
      have d4 : (c : Int) % 16 = (y : Int) := by omega
      have d5 : IntKind.u8.wrap (x : Int) = (x : Int) := by rw [IntKind.wrap_u8']; omega
      have EX := Lib.hid ex
      have EY := Lib.hid ey
      clear ex ey hc256
      clear ec
      go_wp2_with fail
      refine wp_region_any (by kernel_rfl) ?_
      change wpAny _ _ _ _ _ _ _ (World.drew wr)
      refine wpAny_take (i := 0) (oi := { dst := some 12, op := Op.move (Operand.tmp 4), type := 30, pos := "ref.go:82", after := #[], guard := none }) (v := u4) rfl (by kernel_rfl) (by kernel_rfl) (by kernel_rfl) (fun _ _ _ h => h) (Or.inl ⟨by rfl, fun w => by go_simp⟩) ?_
      (try simp only [Act.put, List.setIfInBounds_toArray, List.set_cons_zero, List.set_cons_succ])
      refine wpAny_take (i := 1) (oi := { dst := some 13, op := Op.move (Operand.tmp 3), type := 9, pos := "ref.go:82", after := #[], guard := none }) (v := .string ⟨#[48, 49, 50, 51, 52, 53, 54, 55, 56, 57, 97, 98, 99, 100, 101, 102]⟩) rfl (by kernel_rfl) (by kernel_rfl) (by kernel_rfl) (fun _ _ _ h => h) (Or.inl ⟨by rfl, fun w => by go_simp⟩) ?_
      (try simp only [Act.put, List.setIfInBounds_toArray, List.set_cons_zero, List.set_cons_succ])
      refine wpAny_take (i := 2) (oi := { dst := some 14, op := Op.move (Operand.tmp 0), type := 9, pos := "ref.go:82", after := #[], guard := none }) (v := .string s) rfl (by kernel_rfl) (by kernel_rfl) (by kernel_rfl) (fun _ _ _ h => h) (Or.inl ⟨by rfl, fun w => by go_simp⟩) ?_
      (try simp only [Act.put, List.setIfInBounds_toArray, List.set_cons_zero, List.set_cons_succ])
      refine wpAny_take (i := 3) (oi := { dst := some 15, op := Op.move (Operand.tmp 5), type := 3, pos := "ref.go:82", after := #[], guard := none }) (v := .int .i64 k) rfl (by kernel_rfl) (by kernel_rfl) (by kernel_rfl) (fun _ _ _ h => h) (Or.inl ⟨by rfl, fun w => by go_simp⟩) ?_
      (try simp only [Act.put, List.setIfInBounds_toArray, List.set_cons_zero, List.set_cons_succ])
      refine wpAny_take (i := 4) (oi := { dst := some 16, op := Op.index 9 (Operand.tmp 14) (Operand.tmp 15), type := 5, pos := "ref.go:82", after := #[{ on := 2, ground := Ground.data }, { on := 3, ground := Ground.data }], guard := none }) (v := .int .u8 c) rfl (by kernel_rfl) (by kernel_rfl) (by kernel_rfl) (fun _ _ _ h => h) (Or.inl ⟨by rfl, fun w => by go_simp⟩) ?_
      (try simp only [Act.put, List.setIfInBounds_toArray, List.set_cons_zero, List.set_cons_succ])
      refine wpAny_take (i := 5) (oi := { dst := some 17, op := Op.binOp BinOp.quo 5 (Operand.tmp 16) (Operand.const (Value.int IntKind.u8 16)) 5, type := 5, pos := "ref.go:82", after := #[{ on := 4, ground := Ground.data }], guard := none }) (v := .int .u8 x) rfl (by kernel_rfl) (by kernel_rfl) (by kernel_rfl) (fun _ _ _ h => h) (Or.inl ⟨by rfl, fun w => by go_simp⟩) ?_
      (try simp only [Act.put, List.setIfInBounds_toArray, List.set_cons_zero, List.set_cons_succ])
      refine wpAny_take (i := 6) (oi := { dst := some 18, op := Op.index 9 (Operand.tmp 13) (Operand.tmp 17), type := 5, pos := "ref.go:82", after := #[{ on := 1, ground := Ground.data }, { on := 5, ground := Ground.data }], guard := none }) (v := .int .u8 (dg x : Nat)) rfl (by kernel_rfl) (by kernel_rfl) (by kernel_rfl) (fun _ _ _ h => h) (Or.inl ⟨by rfl, fun w => by go_simp⟩) ?_
      (try simp only [Act.put, List.setIfInBounds_toArray, List.set_cons_zero, List.set_cons_succ])
      refine wpAny_take (i := 7) (oi := { dst := some 19, op := Op.move (Operand.tmp 3), type := 9, pos := "ref.go:82", after := #[], guard := none }) (v := .string ⟨#[48, 49, 50, 51, 52, 53, 54, 55, 56, 57, 97, 98, 99, 100, 101, 102]⟩) rfl (by kernel_rfl) (by kernel_rfl) (by kernel_rfl) (fun _ _ _ h => h) (Or.inl ⟨by rfl, fun w => by go_simp⟩) ?_
      (try simp only [Act.put, List.setIfInBounds_toArray, List.set_cons_zero, List.set_cons_succ])
      refine wpAny_take (i := 8) (oi := { dst := some 20, op := Op.move (Operand.tmp 0), type := 9, pos := "ref.go:82", after := #[], guard := none }) (v := .string s) rfl (by kernel_rfl) (by kernel_rfl) (by kernel_rfl) (fun _ _ _ h => h) (Or.inl ⟨by rfl, fun w => by go_simp⟩) ?_
      (try simp only [Act.put, List.setIfInBounds_toArray, List.set_cons_zero, List.set_cons_succ])
      refine wpAny_take (i := 9) (oi := { dst := some 21, op := Op.move (Operand.tmp 5), type := 3, pos := "ref.go:82", after := #[], guard := none }) (v := .int .i64 k) rfl (by kernel_rfl) (by kernel_rfl) (by kernel_rfl) (fun _ _ _ h => h) (Or.inl ⟨by rfl, fun w => by go_simp⟩) ?_
      (try simp only [Act.put, List.setIfInBounds_toArray, List.set_cons_zero, List.set_cons_succ])
      refine wpAny_take (i := 10) (oi := { dst := some 22, op := Op.index 9 (Operand.tmp 20) (Operand.tmp 21), type := 5, pos := "ref.go:82", after := #[{ on := 8, ground := Ground.data }, { on := 9, ground := Ground.data }], guard := none }) (v := .int .u8 c) rfl (by kernel_rfl) (by kernel_rfl) (by kernel_rfl) (fun _ _ _ h => h) (Or.inl ⟨by rfl, fun w => by go_simp⟩) ?_
      (try simp only [Act.put, List.setIfInBounds_toArray, List.set_cons_zero, List.set_cons_succ])
      refine wpAny_take (i := 11) (oi := { dst := some 23, op := Op.binOp BinOp.rem 5 (Operand.tmp 22) (Operand.const (Value.int IntKind.u8 16)) 5, type := 5, pos := "ref.go:82", after := #[{ on := 10, ground := Ground.data }], guard := none }) (v := .int .u8 y) rfl (by kernel_rfl) (by kernel_rfl) (by kernel_rfl) (fun _ _ _ h => h) (Or.inl ⟨by rfl, fun w => by go_simp⟩) ?_
      (try simp only [Act.put, List.setIfInBounds_toArray, List.set_cons_zero, List.set_cons_succ])
      refine wpAny_take (i := 12) (oi := { dst := some 24, op := Op.index 9 (Operand.tmp 19) (Operand.tmp 23), type := 5, pos := "ref.go:82", after := #[{ on := 7, ground := Ground.data }, { on := 11, ground := Ground.data }], guard := none }) (v := .int .u8 (dg y : Nat)) rfl (by kernel_rfl) (by kernel_rfl) (by kernel_rfl) (fun _ _ _ h => h) (Or.inl ⟨by rfl, fun w => by go_simp⟩) ?_
      (try simp only [Act.put, List.setIfInBounds_toArray, List.set_cons_zero, List.set_cons_succ])
      refine wpAny_ready (rs := [13]) (by kernel_rfl) (by simp) ?_
      refine AllReady.cons (o := { dst := some 25, op := Op.buildSlice 30 2 #[(0, Operand.tmp 18), (1, Operand.tmp 24)], type := 30, pos := "ref.go:82", after := #[{ on := 6, ground := Ground.data }, { on := 12, ground := Ground.data }], guard := none }) rfl (fun K hK => ?_) AllReady.nil
      go_simp
      refine hK _ _ ?_
      clear hK K
      (try simp only [Act.put, List.setIfInBounds_toArray, List.set_cons_zero, List.set_cons_succ])
      refine wpAny_ready (rs := [14]) (by kernel_rfl) (by simp) ?_
      refine AllReady.cons (o := { dst := some 26, op := Op.call { callee := Callee.builtin Builtin.append, args := #[Operand.tmp 12, Operand.tmp 25], argTypes := #[30, 30] }, type := 30, pos := "ref.go:82", after := #[{ on := 0, ground := Ground.data }, { on := 13, ground := Ground.data }], guard := none }) rfl (fun K hK => ?_) AllReady.nil
      refine step_append_lies _ (by rfl) (.tmp 12) (.tmp 25) 30 (by rfl) w.heap.size 5 i0 (.int .u8 0) 1 1 Tryd.underlying30 hi hz0 hz1 hz2 rfl (by decide) u4 (2 * k) (u8s (hexl ((nums s).take k))) (by rfl) (hown.out.alloc _) ⟨wr.heap.size, 0, none⟩ 2 2 [.int .u8 (dg x : Nat), .int .u8 (dg y : Nat)] (by rfl) rfl
        (World.news_of_block (Go.heap_alloc_new wr (.cells #[.int .u8 (dg x : Nat), .int .u8 (dg y : Nat)] 5))) (by intro u hu; simp only [List.mem_cons, List.not_mem_nil, or_false] at hu; rcases hu with rfl | rfl <;> rfl) (by decide) (by unfold maxLen; omega) (by omega) (by have := hbw.out.size; simp; omega) _ rfl ?_
      intro g cap w1 hown1 hgrow _ _
      refine hK _ _ ?_
      clear hK K
      have hb1 : Below w.heap.size w w1 := Below.grown ((hbw.out.alloc (by have := hbw.out.size; omega) _).drew) hgrow (by have := hbw.out.size; show w.heap.size ≤ (wr.alloc _).heap.size; rw [size_alloc']; omega) (fun k hk => (hown.out.lt k hk).1)
      have HO1 := Lib.hid hown1
      have HB1 := Lib.hid hb1
      clear hown1 hb1 hgrow
      (try simp only [Act.put, List.setIfInBounds_toArray, List.set_cons_zero, List.set_cons_succ])
      refine wpAny_take (i := 15) (oi := { dst := some 4, op := Op.assign (Operand.tmp 26), type := 30, pos := "ref.go:82", after := #[{ on := 14, ground := Ground.data }, { on := 14, ground := Ground.chain }, { on := 0, ground := Ground.phase }, { on := 1, ground := Ground.phase }, { on := 2, ground := Ground.phase }, { on := 3, ground := Ground.phase }, { on := 4, ground := Ground.phase }, { on := 5, ground := Ground.phase }, { on := 6, ground := Ground.phase }, { on := 7, ground := Ground.phase }, { on := 8, ground := Ground.phase }, { on := 9, ground := Ground.phase }, { on := 10, ground := Ground.phase }, { on := 11, ground := Ground.phase }, { on := 12, ground := Ground.phase }, { on := 13, ground := Ground.phase }, { on := 14, ground := Ground.phase }], guard := none }) (v := .slice (some ⟨g, 0, none⟩) (2 * k + 2) cap) rfl (by kernel_rfl) (by kernel_rfl) (by kernel_rfl) (fun _ _ _ h => h) (Or.inl ⟨by rfl, fun w => by go_simp⟩) ?_
      (try simp only [Act.put, List.setIfInBounds_toArray, List.set_cons_zero, List.set_cons_succ])
      refine wpAny_done (by kernel_rfl) ?_ _
      go_wp2_with fail
      go_roundw
      case rel =>
        refine ⟨k + 1, by omega, by go_num, Lib.hid ?_, HB1⟩
        have e : hexl ((nums s).take (k + 1)) = hexl ((nums s).take k) ++ [dg x, dg y] := by
          rw [take_next _ _ (by rw [nums_length]; exact hlt), hexl_append, ← EC.out]
          simp only [hexl, List.flatMap_cons, List.flatMap_nil, List.append_nil, ← EX.out, ← EY.out]
        rw [e, show 2 * (k + 1) = 2 * k + 2 by omega]
        have h := HO1.out
        rwa [show [Value.int .u8 ((dg x : Nat) : Int), Value.int .u8 ((dg y : Nat) : Int)] = u8s [dg x, dg y] from rfl, show u8s (hexl ((nums s).take k)) ++ u8s [dg x, dg y] = u8s (hexl ((nums s).take k) ++ [dg x, dg y]) from (List.map_append ..).symm] at h
      case measure => simp [intOf]; omega
    · obtain rfl : k = s.size := by omega
      obtain ⟨g, cap, rfl, _, _⟩ := hown.out.form (by omega)
      have hall : (nums s).take s.size = nums s := List.take_of_length_le (by rw [nums_length]; exact Nat.le_refl _)
      have ho := hown.out
      rw [hall] at ho
      have hln : (hexl (nums s)).length = 2 * s.size := by rw [hexl_length, nums_length]
      have hcv := back_string wr g 0 cap (hexl (nums s)) (fun j => (hexl_lt (nums_bytes s)).at j) (fun j hj => by
        have := ho.cellAt (j := j) (by omega)
        rw [Nat.zero_add, this]
        simp [u8s, List.getD_eq_getElem?_getD, hj])
      rw [hln] at hcv
      have HCV := Lib.hid hcv
      clear hown ho hall hln hcv
      have hcv := HCV.out
      go_wp2_with fail
      go_ret
      exact ⟨rfl, hbw.out⟩
end Go.Proofs.YtghldnnnhlgmkaaDoor.Pl
