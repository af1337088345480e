/- Hexadecimal digits; an index into a text; plain facts. -/
import Derived.Test.YtogadffbnoinmaaDoorShaJoined
import Derived.Test.YtogadffbnoinmaaDoorShaSpec
import Derived.Deep.RegionLaw
import Derived.Deep.AppendLies
namespace Go.Proofs.YtogadffbnoinmaaDoor.Pl
open Go.RowKit

/-- The hexadecimal digit of a number below 16. -/
def dg (x : Nat) : Nat := if x < 10 then 48 + x else 87 + x
def hexl (l : List Nat) : List Nat := l.flatMap fun c => [dg (c / 16), dg (c % 16)]
theorem hexl_length (l : List Nat) : (hexl l).length = 2 * l.length := by
  induction l with
  | nil => rfl
  | cons c l ih => simp only [hexl, List.flatMap_cons, List.length_append, List.length_cons, List.length_nil] at *; omega
theorem hexl_append (l m : List Nat) : hexl (l ++ m) = hexl l ++ hexl m := by simp [hexl]
theorem dg_lt {x : Nat} (h : x < 16) : dg x < 256 := by unfold dg; split <;> omega
theorem hexl_lt {l : List Nat} (h : Bytes l) : Bytes (hexl l) := by
  intro x hx
  obtain ⟨c, hc, hx⟩ := List.mem_flatMap.1 hx
  have := h c hc
  simp only [List.mem_cons, List.not_mem_nil, or_false] at hx
  rcases hx with rfl | rfl
  · exact dg_lt (by omega)
  · exact dg_lt (by omega)
theorem hex_index (x : Nat) (h : x < 16) (V : World) : (Instr.index 9 (.string ⟨#[48, 49, 50, 51, 52, 53, 54, 55, 56, 57, 97, 98, 99, 100, 101, 102]⟩) (.int .u8 (x : Int))).run Tryd.prog V = .ok (.int .u8 ((dg x : Nat) : Int)) V := by
  obtain rfl | rfl | rfl | rfl | rfl | rfl | rfl | rfl | rfl | rfl | rfl | rfl | rfl | rfl | rfl | rfl : x = 0 ∨ x = 1 ∨ x = 2 ∨ x = 3 ∨ x = 4 ∨ x = 5 ∨ x = 6 ∨ x = 7 ∨ x = 8 ∨ x = 9 ∨ x = 10 ∨ x = 11 ∨ x = 12 ∨ x = 13 ∨ x = 14 ∨ x = 15 := by omega
  all_goals kernel_rfl
theorem info_u8 : (Tryd.prog.info? 5).map (fun i => (i.zero, i.size, i.bytes)) = some (some (.int .u8 0), 1, 1) := by kernel_rfl

theorem str_index (s : ByteArray) (k c : Nat) (hk : k < s.size) (hc : c = (nums s).getD k 0) (V : World) : (Instr.index 9 (.string s) (.int .i64 (k : Int))).run Tryd.prog V = .ok (.int .u8 (c : Int)) V := by
  rw [run_index_string V 9 s .i64 k Tryd.underlying9, dif_pos ⟨by omega, by omega⟩, hc]
  congr 2
  have hk' : k < s.data.toList.length := by simpa using hk
  simp only [nums, List.getD_eq_getElem?_getD, List.getElem?_map, List.getElem?_eq_getElem hk', Option.map_some, Option.getD_some, Int.toNat_natCast]
  rfl
theorem take_next (l : List Nat) (k : Nat) (h : k < l.length) : l.take (k + 1) = l.take k ++ [l.getD k 0] := by
  rw [List.take_succ_eq_append_getElem h, List.getD_eq_getElem?_getD, List.getElem?_eq_getElem h, Option.getD_some]
end Go.Proofs.YtogadffbnoinmaaDoor.Pl
