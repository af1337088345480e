/- What blockOf answers: the block of a key. -/
import Derived.Test.YtbhcjdpachboaaaDoorKeysBase3
import Derived.Laws.CopyRow
namespace Go.Proofs.YtbhcjdpachboaaaDoor.Pl
open Go.RowKit

theorem zero64 (w : World) : (zeroValue 75).run Tryd.prog w = .ok (.agg (row .u8 (List.replicate 64 0))) w := by kernel_rfl
theorem all64 (g : Nat) (V : World) : (Instr.sliceAt 75 (.pointer (some ⟨g, 0, none⟩)) none none none).run Tryd.prog V = .ok (.slice (some ⟨g, 0, none⟩) 64 64) V := by
  have ha : Tryd.prog.arrayLen 75 = 64 := by simp [Program.arrayLen, Tryd.underlying75]
  have he : Tryd.prog.elem 75 = 5 := by simp [Program.elem, Tryd.underlying75]
  rw [run_sliceAt_array_all V 75 ⟨g, 0, none⟩ (by rw [ha, he]; exact Tryd.underlying75), ha, he]
  have hs : (sizeOf 5).run Tryd.prog V = .ok 1 V := by kernel_rfl
  rw [hs]
  simp only [Result.andThen, slicedAt]
  rw [if_neg (by omega), add_none]
theorem copy_row (g : Nat) (W : World) (h : W.heap[g]? = some (.cells (row .u8 (List.replicate 64 0)) 75 (0, 0))) (x : ByteArray) (hx : x.size ≤ 64) :
    (Builtin.copy_ #[74, 9] 3 #[.slice (some ⟨g, 0, none⟩) 64 64, .string x]).run Tryd.prog W = .ok (goInt x.size) (W.setRow g (row .u8 (nums x ++ List.replicate (64 - x.size) 0))) := by
  have hu : (u8s (nums x)).length = x.size := by rw [u8s, List.length_map, nums_length]
  have hst := run_storeCells_at Tryd.prog g 0 _ (u8s (nums x)) 0 _ W h (by rw [hu, row_size, List.length_replicate]; omega) (by
    intro v hv
    obtain ⟨_, _, rfl⟩ := List.mem_map.1 hv
    rfl)
  rw [hu] at hst
  simp only [Nat.add_zero, Nat.zero_add, List.take_zero, List.nil_append] at hst
  have hs : (sizeOf 5).run Tryd.prog W = .ok 1 W := by kernel_rfl
  have hmin : Nat.min x.size 64 = x.size := Nat.min_eq_left hx
  have htk : List.map (fun (c : UInt8) => Value.int .u8 (c.toNat : Int)) x.data.toList = u8s (nums x) := by simp only [u8s, nums, List.map_map]; rfl
  have htk2 : List.take x.size (List.map (fun (c : UInt8) => Value.int .u8 (c.toNat : Int)) x.data.toList) = u8s (nums x) := by
    rw [htk, List.take_of_length_le (by rw [hu]; exact Nat.le_refl _)]
  simp [Builtin.copy_, run_underlying Tryd.underlying74, Builtin.lenOf, Builtin.firstCells, hs, hmin]
  rw [htk2, hst]
  simp only [row, u8s, List.map_append, List.map_replicate, List.drop_replicate, List.toList_toArray]
  rfl
theorem kblock_short (k : List Nat) (h : k.length ≤ 64) : kblock k = k ++ List.replicate (64 - k.length) 0 := by
  rw [kblock, kshort, if_neg (by omega)]
theorem kblock_of_long (k : List Nat) (h : 64 < k.length) : kblock k = digest k ++ List.replicate (64 - (digest k).length) 0 := by
  rw [kblock, kshort, if_pos h]

set_option maxHeartbeats 1000000 in
set_option maxRecDepth 100000 in
theorem block_any (key : ByteArray) (hl : key.size < 2305843009213693952) (w : World) (hT : Tab w) :
    Calls Tryd.prog 39 #[.string key] w fun e w' => e = .returned (.agg (row .u8 (kblock (nums key)))) ∧ Below w.heap.size w w' := by
  have hz := zero64
  have HS : Hid ((Tryd.prog.info? 75).map (·.size) = some (row .u8 (kblock (nums key))).size) := Lib.hid (by rw [row_size, kblock_length]; kernel_rfl)
  by_cases hk : key.size ≤ 64
  · have hlen : ¬ (64 : Int) < (key.size : Int) := by omega
    have e : nums key ++ List.replicate (64 - key.size) 0 = kblock (nums key) := by rw [kblock_short _ (by rw [nums_length]; exact hk), nums_length]
    have h2 := heap2_1 w (.cells (row .u8 (List.replicate 64 0)) 75) (.cells (row .u8 (List.replicate 64 0)) 75)
    have h1 := heap2_0 w (.cells (row .u8 (List.replicate 64 0)) 75) (.cells (row .u8 (List.replicate 64 0)) 75)
    have hsl := all64 (w.heap.size + 1)
    have hcp := copy_row (w.heap.size + 1) _ h2 key hk
    rw [e] at hcp
    have HZ : Hid ((row .u8 (List.replicate 64 0)).size = (row .u8 (kblock (nums key))).size) := Lib.hid (by rw [row_size, row_size, kblock_length, List.length_replicate])
    have H1 := Lib.hid (heap_setRow h1 (g := w.heap.size + 1) (by omega) (row .u8 (kblock (nums key))))
    have H2 := Lib.hid (setRow_heap _ _ _ (row .u8 (kblock (nums key))) _ _ h2)
    have HB := Lib.hid (below_setRow (below2 w (.cells (row .u8 (List.replicate 64 0)) 75) (.cells (row .u8 (List.replicate 64 0)) 75)) (g := w.heap.size + 1) (by omega) (row .u8 (kblock (nums key))))
    generalize kblock (nums key) = kb at *
    generalize eW : (((w.alloc (.cells (row .u8 (List.replicate 64 0)) 75)).alloc (.cells (row .u8 (List.replicate 64 0)) 75)).setRow (w.heap.size + 1) (row .u8 (kb))) = W at *
    clear eW h1 h2 hl hT e
    generalize List.replicate 64 0 = Z at *
    go_enter Tryd.func39, Tryd.ntmps39
    go_wp2_with (first
      | (refine wpList_load_row rfl 75 _ rfl (w.heap.size + 1) rfl 75 _ _ _ H2.out Tryd.underlying75 rfl HS.out ?_)
      | (refine wpList_store_row rfl 75 _ _ rfl w.heap.size (row .u8 (kb)) rfl rfl 75 (row .u8 Z) H1.out HS.out HZ.out (row_one _ _) ?_))
    refine bodyPost_ret (v := .agg (row .u8 (kb))) ?_ rfl ⟨rfl, below_setRow HB.out (Nat.le_refl _) _⟩
    exact results_cell_row rfl _ _ w.heap.size 75 _ (0, 0) _ rfl (setRow_heap _ _ _ _ _ _ H1.out) Tryd.underlying75 rfl HS.out
  · have hlen : (64 : Int) < (key.size : Int) := by omega
    have hgt : 64 < (nums key).length := by rw [nums_length]; exact Nat.lt_of_not_le hk
    have hd : nums (bytesOf (digest (nums key))) = digest (nums key) := nums_bytesOf (digest_bytes _)
    have hx : (bytesOf (digest (nums key))).size = 32 := by rw [bytesOf_size, digest_length]
    have e : nums (bytesOf (digest (nums key))) ++ List.replicate (64 - (bytesOf (digest (nums key))).size) 0 = kblock (nums key) := by
      rw [kblock_of_long _ hgt, hd, hx, digest_length]
    have HZ : Hid ((row .u8 (List.replicate 64 0)).size = (row .u8 (kblock (nums key))).size) := Lib.hid (by rw [row_size, row_size, kblock_length, List.length_replicate])
    have h1 := Go.heap_alloc_new w (.cells (row .u8 (List.replicate 64 0)) 75)
    have HCP : Hid (∀ g W, W.heap[g]? = some (.cells (row .u8 (List.replicate 64 0)) 75 (0, 0)) → (Builtin.copy_ #[74, 9] 3 #[.slice (some ⟨g, 0, none⟩) 64 64, .string (bytesOf (digest (nums key)))]).run Tryd.prog W = .ok (goInt 32) (W.setRow g (row .u8 (kblock (nums key))))) := Lib.hid (fun g W h => by
      have := copy_row g W h (bytesOf (digest (nums key))) (by rw [hx]; decide)
      rw [e, hx] at this
      exact this)
    have B1 : Hid (Below w.heap.size w (w.alloc (.cells (row .u8 (List.replicate 64 0)) 75))) := Lib.hid ((Below.refl _ _).alloc (Nat.le_refl _) _)
    have H1 := Lib.hid h1
    have T1 := Lib.hid (hT.below B1.out)
    have HK := Lib.hid (fun W => sum_any key hl W)
    clear h1 hT hl e hx hd hgt
    generalize kblock (nums key) = kb at *
    generalize List.replicate 64 0 = Z at *
    generalize bytesOf (digest (nums key)) = X at *
    go_enter Tryd.func39, Tryd.ntmps39
    go_wp2_with fail
    generalize w.alloc (.cells (row .u8 Z) 75) = W at *
    refine (HK.out W T1.out).mono ?_; rintro e w1 ⟨rfl, hb1⟩
    have B2 := Lib.hid (B1.out.trans (hb1.mono B1.out.size))
    have hne : Hid (w.heap.size ≠ w1.heap.size) := Lib.hid (by have := (Array.getElem?_eq_some_iff.1 H1.out).1; have := hb1.size; omega)
    have h3 := Go.heap_alloc_new w1 (.cells (row .u8 Z) 75)
    have hsl := all64 w1.heap.size
    have hcp := HCP.out w1.heap.size _ h3
    have C1 := Lib.hid (heap_setRow (heap_alloc (heap_below hb1 H1.out) (.cells (row .u8 Z) 75)) hne.out (row .u8 (kb)))
    have C2 := Lib.hid (setRow_heap _ _ _ (row .u8 (kb)) _ _ h3)
    have C3 := Lib.hid (below_setRow (B2.out.alloc B2.out.size (.cells (row .u8 Z) 75)) B2.out.size (row .u8 (kb)))
    generalize eW : (w1.alloc (.cells (row .u8 Z) 75)).setRow w1.heap.size (row .u8 (kb)) = V at *
    clear eW h3 hb1
    go_wp2_with (first
      | (refine wpList_load_row rfl 75 _ rfl w1.heap.size rfl 75 _ _ _ C2.out Tryd.underlying75 rfl HS.out ?_)
      | (refine wpList_store_row rfl 75 _ _ rfl w.heap.size (row .u8 (kb)) rfl rfl 75 (row .u8 Z) C1.out HS.out HZ.out (row_one _ _) ?_))
    refine bodyPost_ret (v := .agg (row .u8 (kb))) ?_ rfl ⟨rfl, below_setRow C3.out (Nat.le_refl _) _⟩
    exact results_cell_row rfl _ _ w.heap.size 75 _ (0, 0) _ rfl (setRow_heap _ _ _ _ _ _ C1.out) Tryd.underlying75 rfl HS.out
end Go.Proofs.YtbhcjdpachboaaaDoor.Pl
