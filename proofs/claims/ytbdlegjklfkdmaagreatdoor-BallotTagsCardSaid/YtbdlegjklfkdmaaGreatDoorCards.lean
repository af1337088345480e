/-
  DERIVED. GIVEN WITH THE SEED: THE CARDS: each row of YtbdlegjklfkdmaaGreatDoorRows.lean that lists a variable, with what it lists TIED to the program's text (the seventh form; the later family's looks); each row that meets fmt, with fmt's text TOLD by the authors' own Lean function (tested against real Go, not proved from fmt's source: count such statements apart). THE CARD IS WHAT COUNTS. Prove the row's statement (the work); the ties are given (YtbdlegjklfkdmaaGreatDoorTie.lean); close each card by the builder's one call (the guide's Derived/Test/ToyasCard.lean, 'card_holds'). Laid BY PROGRAM, IN A SANDBOX (cutbox-door.mjs). By AI agents, Wed Nov 11 2026. No macro, syntax, notation, axiom, sorry.
-/
import Derived.Test.YtbdlegjklfkdmaaGreatDoorRows
import GoSem.ClaimSeven
namespace Go.Proofs.YtbdlegjklfkdmaaGreatDoor
namespace Rows

/-- THE TIED CARD OF 'chirographlaw13.BallotTells'. -/
def ballotTellsCard : Claim7 := { stood := { row := ballotTellsRow, standIns := [], harness := (true, "6ca236564b9f7f2717ee9a4025385a24595d06bb9595e2c96010741f646a753d"), looks := true }, kinds := [], alts := [], laidByText := true, laidKinds := [.data, .data], laidTests := true, laidLooks := .later }
def BallotTellsCardSaid : Prop := Claim7.holds Tryz.pinned (.plain (OpenSpec.ofChange ballotTellsSpec)) ballotTellsCard

/-- THE TIED CARD OF 'chirographlaw13.BallotTags'. -/
def ballotTagsCard : Claim7 := { stood := { row := ballotTagsRow, standIns := [], harness := (true, "6ca236564b9f7f2717ee9a4025385a24595d06bb9595e2c96010741f646a753d"), looks := true }, kinds := [], alts := [], laidByText := true, laidKinds := [.data, .data], laidTests := true, laidLooks := .later }
def BallotTagsCardSaid : Prop := Claim7.holds Tryz.pinned (.plain (OpenSpec.ofChange ballotTagsSpec)) ballotTagsCard

/-- THE TIED CARD OF 'chirographlaw13.BallotApart'. -/
def ballotApartCard : Claim7 := { stood := { row := ballotApartRow, standIns := [], harness := (true, "6ca236564b9f7f2717ee9a4025385a24595d06bb9595e2c96010741f646a753d"), looks := true }, kinds := [], alts := [], laidByText := true, laidKinds := [.data, .data], laidTests := true, laidLooks := .later }
def BallotApartCardSaid : Prop := Claim7.holds Tryz.pinned (.plain (OpenSpec.ofChange ballotApartSpec)) ballotApartCard

/-- THE SECOND FORM's CARD OF 'chirographlaw13.BallotTells'. -/
def ballotTellsUptoCard : Claim7 := { stood := { row := ballotTellsUptoRow, standIns := [], harness := (true, "6ca236564b9f7f2717ee9a4025385a24595d06bb9595e2c96010741f646a753d"), looks := true }, kinds := [], alts := [], laidByText := true, laidKinds := [.data, .data], laidTests := true, laidLooks := .later }
def BallotTellsUptoCardSaid : Prop := Claim7.holds Tryz.pinned (.plain (OpenSpec.upto ballotTellsSpec)) ballotTellsUptoCard

/-- THE SECOND FORM's CARD OF 'chirographlaw13.BallotTags'. -/
def ballotTagsUptoCard : Claim7 := { stood := { row := ballotTagsUptoRow, standIns := [], harness := (true, "6ca236564b9f7f2717ee9a4025385a24595d06bb9595e2c96010741f646a753d"), looks := true }, kinds := [], alts := [], laidByText := true, laidKinds := [.data, .data], laidTests := true, laidLooks := .later }
def BallotTagsUptoCardSaid : Prop := Claim7.holds Tryz.pinned (.plain (OpenSpec.upto ballotTagsSpec)) ballotTagsUptoCard

/-- THE SECOND FORM's CARD OF 'chirographlaw13.BallotApart'. -/
def ballotApartUptoCard : Claim7 := { stood := { row := ballotApartUptoRow, standIns := [], harness := (true, "6ca236564b9f7f2717ee9a4025385a24595d06bb9595e2c96010741f646a753d"), looks := true }, kinds := [], alts := [], laidByText := true, laidKinds := [.data, .data], laidTests := true, laidLooks := .later }
def BallotApartUptoCardSaid : Prop := Claim7.holds Tryz.pinned (.plain (OpenSpec.upto ballotApartSpec)) ballotApartUptoCard
end Rows
end Go.Proofs.YtbdlegjklfkdmaaGreatDoor
