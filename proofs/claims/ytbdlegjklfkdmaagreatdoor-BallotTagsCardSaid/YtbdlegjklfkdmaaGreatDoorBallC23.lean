/- What the listed tables give the walks that read the table of letters alone: its cells. -/
import Derived.Test.YtbdlegjklfkdmaaGreatDoorRows
import Derived.Test.YtbdlegjklfkdmaaGreatDoorBallC18
import Derived.Lib.LaidTab
import Derived.ProofKit
import Derived.LaidMore
import Derived.OpenShut
import Derived.Stop.Joined
import Derived.Stop.LaidErr
namespace Go.Proofs.YtbdlegjklfkdmaaGreatDoor.Pl
open Go.RowKit

theorem gLet : Tryz.prog.globalNamed "chirograph/keys.letters" = some 0 := by kernel_rfl
theorem tLet : (Tryz.prog.globals[0]?).map (·.type) = some 165 := by kernel_rfl
theorem cU8k : Tryz.prog.cellsOf 5 = 1 := by kernel_rfl
theorem cLet : Tryz.prog.cellsOf 165 = 3 := by kernel_rfl
abbrev laidT13 : List (String × DataW Unit) := [("chirograph/sha.tableK", Rows.laid_chirograph_sha_tableK), ("chirograph/keys.letters", Rows.laid_chirograph_keys_letters)]
theorem laid_13k {W : World} (h : laidMetH Tryz.prog laidT13 W) : KeyTab W := by
  rw [MakeChecks.laidMetH_plain _ _ _ (by kernel_rfl)] at h
  have h := laidMet.tail h
  have hl : (Rows.laid_chirograph_keys_letters : DataW Unit) = Lib.tabData .u8 [0, 107, 115] := rfl
  rw [hl] at h
  have h1 := Lib.tabIs_of_head gLet tLet Tryz.underlying165 Tryz.underlying5 cU8k cLet h
  have a1 : W.cell? ⟨0, 1, none⟩ = some (.int .u8 107) := h1.cell gLet 1 (by decide)
  have a2 : W.cell? ⟨0, 2, none⟩ = some (.int .u8 115) := h1.cell gLet 2 (by decide)
  exact ⟨trivial, World.block_lt_of_cell? _ _ a1, a1, a2⟩
theorem door_met13 (os : Os) (args : Array Value) : laidMetH Tryz.prog laidT13 ((World.doorLaid Tryz.prog 400 os).forCall (fun _ _ => 0) ⟨#[], args, []⟩).memory :=
  laidMetH_of_parts3 (fuel := 8) (laidMet_of_run' 8 (by kernel_rfl) (by kernel_rfl)) (by kernel_rfl) (by kernel_rfl)
end Go.Proofs.YtbdlegjklfkdmaaGreatDoor.Pl
