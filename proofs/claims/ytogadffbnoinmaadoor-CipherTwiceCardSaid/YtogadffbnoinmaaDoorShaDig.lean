/- Texts and their bytes; the hash's size; the sum's digits; copies, over plain numbers. -/
import Derived.Test.YtogadffbnoinmaaDoorShaOne
namespace Go.Proofs.YtogadffbnoinmaaDoor.Pl
open Go.RowKit

theorem nums_bytesOf {l : List Nat} (h : Bytes l) : nums (bytesOf l) = l := by
  simp only [nums, bytesOf, List.map_map]
  conv => rhs; rw [← List.map_id l]
  apply List.map_congr_left
  intro x hx
  have := h x hx
  simp only [Function.comp, id, UInt8.toNat_ofNat']
  omega
theorem bytesOf_size (l : List Nat) : (bytesOf l).size = l.length := by simp [bytesOf, ByteArray.size]
theorem digest_bytes (m : List Nat) : Bytes (digest m) := by
  intro x hx
  obtain ⟨i, _, rfl⟩ := List.mem_map.1 hx
  exact outAt_lt _ _
theorem digest_length (m : List Nat) : (digest m).length = 32 := outs_length _
theorem nums_append (s t : ByteArray) : nums (s ++ t) = nums s ++ nums t := by simp [nums]
theorem copy_holds (w : World) (b : Nat) (m : List Nat) (h : Holds w b m) :
    Calls Tryd.prog 30 #[.pointer (some ⟨b, 0, none⟩)] w fun e w' => e = .returned (.pointer (some ⟨w.heap.size, 0, none⟩)) ∧ Holds w' w.heap.size m ∧ w.heap.size < w'.heap.size ∧ Below w.heap.size w w' := by
  obtain ⟨wt, h1, h2, h3⟩ := h
  exact (copy_any w b (st m) wt m.length h1).mono fun _ _ ⟨k1, k2, k3, k4⟩ => ⟨k1, ⟨wt, k2, h2, h3⟩, k3, k4⟩
end Go.Proofs.YtogadffbnoinmaaDoor.Pl
