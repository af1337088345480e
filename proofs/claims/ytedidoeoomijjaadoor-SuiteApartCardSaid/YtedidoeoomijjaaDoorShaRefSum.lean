/- What the document's Sum answers. -/
import Derived.Test.YtedidoeoomijjaaDoorShaPadded
import Derived.Test.YtedidoeoomijjaaDoorShaRefTook
import Derived.Test.YtedidoeoomijjaaDoorShaWrite
import Derived.Deep.RegionLaw
import Derived.Deep.AppendLies
namespace Go.Proofs.YtedidoeoomijjaaDoor.Pl
open Go.RowKit

theorem bytesOf_size_r (l : List Nat) : (bytesOf l).size = l.length := by simp [bytesOf, ByteArray.size]
theorem nums_bytesOf_r {l : List Nat} (h : Bytes l) : nums (bytesOf l) = l := by
  simp only [nums, bytesOf, List.map_map]
  conv => rhs; rw [← List.map_id l]
  refine List.map_congr_left fun x hx => ?_
  have := h x hx
  simp; omega
theorem nums_extract (P : ByteArray) (a b : Nat) : nums (P.extract a b) = ((nums P).drop a).take (b - a) := by
  simp [nums, ByteArray.data_extract, List.map_drop, List.map_take]
theorem outs_next (q : S8) (k : Nat) (h : k < 8) : (outs q).take (4 * (k + 1)) = (outs q).take (4 * k) ++ [q.list.getD k 0 / 16777216 % 256, q.list.getD k 0 / 65536 % 256, q.list.getD k 0 / 256 % 256, q.list.getD k 0 % 256] := by
  have e0 : (outs q).getD (4 * k) 0 = q.list.getD k 0 / 16777216 % 256 := by
    rw [outs_at q _ (by omega), outAt, show 4 * k / 4 = k by omega, show 3 - 4 * k % 4 = 3 by omega]
  have e1 : (outs q).getD (4 * k + 1) 0 = q.list.getD k 0 / 65536 % 256 := by
    rw [outs_at q _ (by omega), outAt, show (4 * k + 1) / 4 = k by omega, show 3 - (4 * k + 1) % 4 = 2 by omega]
  have e2 : (outs q).getD (4 * k + 2) 0 = q.list.getD k 0 / 256 % 256 := by
    rw [outs_at q _ (by omega), outAt, show (4 * k + 2) / 4 = k by omega, show 3 - (4 * k + 2) % 4 = 1 by omega]
  have e3 : (outs q).getD (4 * k + 3) 0 = q.list.getD k 0 % 256 := by
    rw [outs_at q _ (by omega), outAt, show (4 * k + 3) / 4 = k by omega, show 3 - (4 * k + 3) % 4 = 0 by omega, Nat.mul_zero, Nat.pow_zero, Nat.div_one]
  rw [show 4 * (k + 1) = 4 * k + 1 + 1 + 1 + 1 by omega, take_next _ _ (by rw [outs_length]; omega), take_next _ _ (by rw [outs_length]; omega), take_next _ _ (by rw [outs_length]; omega), take_next _ _ (by rw [outs_length]; omega), e0, e1, e2, e3]
  simp
end Go.Proofs.YtedidoeoomijjaaDoor.Pl
