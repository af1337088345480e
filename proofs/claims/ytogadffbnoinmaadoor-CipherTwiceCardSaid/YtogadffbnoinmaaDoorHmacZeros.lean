/- string(make([]byte, n)); texts out of their bytes. -/
import Derived.Test.YtogadffbnoinmaaDoorHmacSpec
import Derived.Laws.OwnMore
namespace Go.Proofs.YtogadffbnoinmaaDoor.Pl
open Go.RowKit

theorem zeros_made (n : Nat) (hn : n ≤ 1000) (V : World) :
    (Instr.makeSlice 31 (.int .i64 (n : Int)) (.int .i64 (n : Int))).run Tryd.prog V = .ok (.slice (some ⟨V.heap.size, 0, none⟩) n n) (V.alloc (.cells (row .u8 (List.replicate n 0)) 5)) := by
  obtain ⟨i0, hi, hz0, hz1, hz2⟩ := info_parts info_u8
  have h := run_make (P := Tryd.prog) V 31 5 i0 (.int .u8 0) Tryd.underlying31 hi hz0 .i64 .i64 (n : Int) (n : Int) (by omega) (Int.le_refl _) (by rw [hz2]; omega) (by omega)
  rw [h, hz1, Int.toNat_natCast, Nat.mul_one]
  congr 3
  apply Array.ext'
  rw [show (Value.int .u8 0).cells = #[Value.int .u8 0] from rfl, toList_madeCells_one]
  simp [row]
theorem zeros_string (n : Nat) (V : World) :
    (convert 31 9 (.slice (some ⟨V.heap.size, 0, none⟩) n n)).run Tryd.prog (V.alloc (.cells (row .u8 (List.replicate n 0)) 5)) = .ok (.string (bytesOf (List.replicate n 0))) (V.alloc (.cells (row .u8 (List.replicate n 0)) 5)) := by
  have hb : Bytes (List.replicate n 0) := fun x hx => by rw [List.eq_of_mem_replicate hx]; decide
  have h := back_string (V.alloc (.cells (row .u8 (List.replicate n 0)) 5)) V.heap.size 0 n (List.replicate n 0) (fun j => hb.at j) (fun j hj => by
    rw [Nat.zero_add]; exact (at_row (Go.heap_alloc_new V _) j hj).1)
  rwa [List.length_replicate] at h
theorem bytesOf_append (l m : List Nat) : bytesOf (l ++ m) = bytesOf l ++ bytesOf m := by
  apply ByteArray.ext
  simp [bytesOf]
theorem bytesOf_nums (s : ByteArray) : bytesOf (nums s) = s := by
  apply ByteArray.ext
  apply Array.ext'
  simp only [bytesOf, nums, List.map_map]
  conv => rhs; rw [← List.map_id s.data.toList]
  apply List.map_congr_left
  intro x _
  simp
theorem zeros_size (n : Nat) : (bytesOf (List.replicate n 0)).size = n := by rw [bytesOf_size, List.length_replicate]
end Go.Proofs.YtogadffbnoinmaaDoor.Pl
