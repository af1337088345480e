/-
  DERIVED. GIVEN WITH THE SEED: THE CARDS: each row of YtedidoeoomijjaaGreatDoorRows.lean that lists a variable, with what it lists TIED to the program's text (the seventh form; the later family's looks); each row that meets fmt, with fmt's text TOLD by the authors' own Lean function (tested against real Go, not proved from fmt's source: count such statements apart). THE CARD IS WHAT COUNTS. Prove the row's statement (the work); the ties are given (YtedidoeoomijjaaGreatDoorTie.lean); close each card by the builder's one call (the guide's Derived/Test/ToyasCard.lean, 'card_holds'). Laid BY PROGRAM, IN A SANDBOX (cutbox-door.mjs). By AI agents, Wed Nov 11 2026. No macro, syntax, notation, axiom, sorry.
-/
import Derived.Test.YtedidoeoomijjaaGreatDoorRows
import GoSem.ClaimSeven
namespace Go.Proofs.YtedidoeoomijjaaGreatDoor
namespace Rows

/-- THE TIED CARD OF 'chirographlaw08.SuiteTells'. -/
def suiteTellsCard : Claim7 := { stood := { row := suiteTellsRow, standIns := [], harness := (true, "331d1f943ae621204a75d29c97b336593e6ae09585806ce770e24347fdd355ca"), looks := true }, kinds := [], alts := [], laidByText := true, laidKinds := [.data], laidTests := true, laidLooks := .later }
def SuiteTellsCardSaid : Prop := Claim7.holds Tryz.pinned (.plain (OpenSpec.ofChange suiteTellsSpec)) suiteTellsCard

/-- THE SECOND FORM's CARD OF 'chirographlaw08.SuiteTells'. -/
def suiteTellsUptoCard : Claim7 := { stood := { row := suiteTellsUptoRow, standIns := [], harness := (true, "331d1f943ae621204a75d29c97b336593e6ae09585806ce770e24347fdd355ca"), looks := true }, kinds := [], alts := [], laidByText := true, laidKinds := [.data], laidTests := true, laidLooks := .later }
def SuiteTellsUptoCardSaid : Prop := Claim7.holds Tryz.pinned (.plain (OpenSpec.upto suiteTellsSpec)) suiteTellsUptoCard
end Rows
end Go.Proofs.YtedidoeoomijjaaGreatDoor
