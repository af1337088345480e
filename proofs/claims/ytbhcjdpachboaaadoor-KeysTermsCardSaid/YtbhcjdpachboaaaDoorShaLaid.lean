/- What the listed table gives the walks: its cells. -/
import Derived.Test.YtbhcjdpachboaaaDoorRows
import Derived.Test.YtbhcjdpachboaaaDoorKeysBase2
import Derived.Lib.LaidTab
import Derived.ProofKit
import Derived.LaidMore
import Derived.OpenShut
import Derived.Stop.Joined
namespace Go.Proofs.YtbhcjdpachboaaaDoor.Pl
open Go.RowKit

theorem gTab : Tryd.prog.globalNamed "chirograph/sha.tableK" = some 2 := by kernel_rfl
theorem tTab : (Tryd.prog.globals[2]?).map (·.type) = some 99 := by kernel_rfl
theorem c34 : Tryd.prog.cellsOf 90 = 1 := by kernel_rfl
theorem c45 : Tryd.prog.cellsOf 99 = 64 := by kernel_rfl
abbrev laidK : List (String × DataW Unit) := [("chirograph/sha.tableK", Rows.laid_chirograph_sha_tableK)]
theorem laid_tab {W : World} (h : laidMetH Tryd.prog laidK W) : Tab W := by
  rw [MakeChecks.laidMetH_plain _ _ _ (by kernel_rfl)] at h
  have hd : (Rows.laid_chirograph_sha_tableK : DataW Unit) = Lib.tabData .u32 (KL.map fun (x : Nat) => (x : Int)) := by rfl
  rw [laidK, hd] at h
  have ht := Lib.tabIs_of_head gTab tTab Tryd.underlying99 Tryd.underlying90 c34 c45 h
  have hc : ∀ j, j < 64 → W.cell? ⟨2, j, none⟩ = some (.int .u32 ((KL.getD j 0 : Nat) : Int)) := fun j hj => by
    have := ht.cell gTab j (by rw [List.length_map, KL_length]; exact hj)
    rw [this]
    have hj' : j < KL.length := by rw [KL_length]; exact hj
    simp [List.getD_eq_getElem?_getD, hj']
  have h0 := block_lt_of_cell (hc 0 (by decide))
  exact ⟨h0, hc⟩
theorem door_met (os : Os) (args : Array Value) : laidMetH Tryd.prog laidK ((World.doorLaid Tryd.prog 400 os).forCall (fun _ _ => 0) ⟨#[], args, []⟩).memory :=
  laidMetH_of_parts3 (fuel := 8) (laidMet_of_run' 8 (by kernel_rfl) (by kernel_rfl)) (by kernel_rfl) (by kernel_rfl)
end Go.Proofs.YtbhcjdpachboaaaDoor.Pl
