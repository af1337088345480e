/- What the listed tables of letters and of kinds give the walks: their cells. -/
import Derived.Test.YtbhcjdpachboaaaDoorRows
import Derived.Test.YtbhcjdpachboaaaDoorKeysOwn1
import Derived.Test.YtbhcjdpachboaaaDoorKeysBase2
import Derived.Lib.LaidTab
import Derived.ProofKit
import Derived.LaidMore
import Derived.OpenShut
import Derived.Stop.Joined
import Derived.Stop.LaidErr
namespace Go.Proofs.YtbhcjdpachboaaaDoor.Pl
open Go.RowKit

theorem gLet : Tryd.prog.globalNamed "chirograph/keys.letters" = some 1 := by kernel_rfl
theorem tLet : (Tryd.prog.globals[1]?).map (·.type) = some 73 := by kernel_rfl
theorem gKin : Tryd.prog.globalNamed "chirograph/keys.kinds" = some 0 := by kernel_rfl
theorem tKin : (Tryd.prog.globals[0]?).map (·.type) = some 51 := by kernel_rfl
theorem cU8k : Tryd.prog.cellsOf 5 = 1 := by kernel_rfl
theorem cLet : Tryd.prog.cellsOf 73 = 3 := by kernel_rfl
theorem cKin : Tryd.prog.cellsOf 51 = 2 := by kernel_rfl
abbrev laidK9 : List (String × DataW Unit) := [("chirograph/keys.letters", Rows.laid_chirograph_keys_letters), ("chirograph/keys.kinds", Rows.laid_chirograph_keys_kinds)]
theorem keys_of {W : World} (h : laidMet Tryd.prog laidK9 W) : KeyTab W := by
  have hd : (Rows.laid_chirograph_keys_letters : DataW Unit) = Lib.tabData .u8 [0, 107, 115] := rfl
  have hk : (Rows.laid_chirograph_keys_kinds : DataW Unit) = Lib.tabData .u8 [1, 2] := rfl
  rw [laidK9, hd, hk] at h
  have h1 := Lib.tabIs_of_head gLet tLet Tryd.underlying73 Tryd.underlying5 cU8k cLet h
  have h2 := Lib.tabIs_of_head gKin tKin Tryd.underlying51 Tryd.underlying5 cU8k cKin (laidMet.tail h)
  have a1 : W.cell? ⟨1, 1, none⟩ = some (.int .u8 107) := h1.cell gLet 1 (by decide)
  have a2 : W.cell? ⟨1, 2, none⟩ = some (.int .u8 115) := h1.cell gLet 2 (by decide)
  have b0 : W.cell? ⟨0, 0, none⟩ = some (.int .u8 1) := h2.cell gKin 0 (by decide)
  have b1 : W.cell? ⟨0, 1, none⟩ = some (.int .u8 2) := h2.cell gKin 1 (by decide)
  exact ⟨⟨World.block_lt_of_cell? _ _ b0, b0, b1⟩, World.block_lt_of_cell? _ _ a1, a1, a2⟩
theorem laid_keys {W : World} (h : laidMetH Tryd.prog laidK9 W) : KeyTab W := by
  rw [MakeChecks.laidMetH_plain _ _ _ (by kernel_rfl)] at h
  exact keys_of h
theorem door_met9 (os : Os) (args : Array Value) : laidMetH Tryd.prog laidK9 ((World.doorLaid Tryd.prog 400 os).forCall (fun _ _ => 0) ⟨#[], args, []⟩).memory :=
  laidMetH_of_parts3 (fuel := 8) (laidMet_of_run' 8 (by kernel_rfl) (by kernel_rfl)) (by kernel_rfl) (by kernel_rfl)
end Go.Proofs.YtbhcjdpachboaaaDoor.Pl
