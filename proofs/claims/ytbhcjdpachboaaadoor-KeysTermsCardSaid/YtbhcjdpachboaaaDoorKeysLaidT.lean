/- What the listed tables of numbers, of letters and of kinds give the walks: their cells. -/
import Derived.Test.YtbhcjdpachboaaaDoorKeysLaid
import Derived.Test.YtbhcjdpachboaaaDoorShaLaid
namespace Go.Proofs.YtbhcjdpachboaaaDoor.Pl
open Go.RowKit

/-- The three tables are laid. -/
def KeyTabs (w : World) : Prop := KeyTab w ∧ Tab w
abbrev laidT9 : List (String × DataW Unit) := ("chirograph/sha.tableK", Rows.laid_chirograph_sha_tableK) :: laidK9
theorem laid_terms {W : World} (h : laidMetH Tryd.prog laidT9 W) : KeyTabs W := by
  rw [MakeChecks.laidMetH_plain _ _ _ (by kernel_rfl)] at h
  refine ⟨keys_of (laidMet.tail h), ?_⟩
  have hd : (Rows.laid_chirograph_sha_tableK : DataW Unit) = Lib.tabData .u32 (KL.map fun (x : Nat) => (x : Int)) := by rfl
  rw [laidT9, hd] at h
  have ht := Lib.tabIs_of_head gTab tTab Tryd.underlying99 Tryd.underlying90 c34 c45 h
  have hc : ∀ j, j < 64 → W.cell? ⟨2, j, none⟩ = some (.int .u32 ((KL.getD j 0 : Nat) : Int)) := fun j hj => by
    have := ht.cell gTab j (by rw [List.length_map, KL_length]; exact hj)
    rw [this]
    have hj' : j < KL.length := by rw [KL_length]; exact hj
    simp [List.getD_eq_getElem?_getD, hj']
  have h0 := block_lt_of_cell (hc 0 (by decide))
  exact ⟨h0, hc⟩
theorem door_met9t (os : Os) (args : Array Value) : laidMetH Tryd.prog laidT9 ((World.doorLaid Tryd.prog 400 os).forCall (fun _ _ => 0) ⟨#[], args, []⟩).memory :=
  laidMetH_of_parts3 (fuel := 8) (laidMet_of_run' 8 (by kernel_rfl) (by kernel_rfl)) (by kernel_rfl) (by kernel_rfl)
end Go.Proofs.YtbhcjdpachboaaaDoor.Pl
