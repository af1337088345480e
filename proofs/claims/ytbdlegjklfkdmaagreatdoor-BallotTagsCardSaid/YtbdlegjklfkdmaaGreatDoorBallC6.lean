/- What the listed table gives the walks: its cells. -/
import Derived.Test.YtbdlegjklfkdmaaGreatDoorRows
import Derived.Test.YtbdlegjklfkdmaaGreatDoorBallC3
import Derived.Lib.LaidTab
import Derived.ProofKit
import Derived.LaidMore
import Derived.OpenShut
import Derived.Stop.Joined
namespace Go.Proofs.YtbdlegjklfkdmaaGreatDoor.Pl
open Go.RowKit

theorem gTab : Tryz.prog.globalNamed "chirograph/sha.tableK" = some 1 := by kernel_rfl
theorem tTab : (Tryz.prog.globals[1]?).map (·.type) = some 178 := by kernel_rfl
theorem c34 : Tryz.prog.cellsOf 160 = 1 := by kernel_rfl
theorem c45 : Tryz.prog.cellsOf 178 = 64 := by kernel_rfl
end Go.Proofs.YtbdlegjklfkdmaaGreatDoor.Pl
