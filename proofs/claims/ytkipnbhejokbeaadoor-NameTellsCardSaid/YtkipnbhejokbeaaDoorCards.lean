/-
  DERIVED. GIVEN WITH THE SEED: THE CARDS: each row of YtkipnbhejokbeaaDoorRows.lean that lists a variable, with what it lists TIED to the program's text (the seventh form; the later family's looks); each row that meets fmt, with fmt's text TOLD by the authors' own Lean function (tested against real Go, not proved from fmt's source: count such statements apart). THE CARD IS WHAT COUNTS. Prove the row's statement (the work); the ties are given (YtkipnbhejokbeaaDoorTie.lean); close each card by the builder's one call (the guide's Derived/Test/ToyasCard.lean, 'card_holds'). Laid BY PROGRAM, IN A SANDBOX (cutbox-door.mjs). By AI agents, Wed Nov 11 2026. No macro, syntax, notation, axiom, sorry.
-/
import Derived.Test.YtkipnbhejokbeaaDoorRows
import GoSem.ClaimSeven
namespace Go.Proofs.YtkipnbhejokbeaaDoor
namespace Rows

/-- THE TIED CARD OF 'chirographlaw05.NameTells'. -/
def nameTellsCard : Claim7 := { stood := { row := nameTellsRow, standIns := [], harness := (true, "efe2eb55af04b7833076d7300bf665e656fbaa8db9a77d08e2a2ef300a7cc0c7"), looks := false }, kinds := [], alts := [], laidByText := true, laidKinds := [.data], laidTests := true, laidLooks := .later }
def NameTellsCardSaid : Prop := Claim7.holds Tryd.pinned (.plain (OpenSpec.ofChange nameTellsSpec)) nameTellsCard

/-- THE TIED CARD OF 'chirographlaw05.NameOrders'. -/
def nameOrdersCard : Claim7 := { stood := { row := nameOrdersRow, standIns := [], harness := (true, "efe2eb55af04b7833076d7300bf665e656fbaa8db9a77d08e2a2ef300a7cc0c7"), looks := false }, kinds := [], alts := [], laidByText := true, laidKinds := [.data], laidTests := true, laidLooks := .later }
def NameOrdersCardSaid : Prop := Claim7.holds Tryd.pinned (.plain (OpenSpec.ofChange nameOrdersSpec)) nameOrdersCard

/-- THE TIED CARD OF 'chirographlaw05.NameClash'. -/
def nameClashCard : Claim7 := { stood := { row := nameClashRow, standIns := [], harness := (true, "efe2eb55af04b7833076d7300bf665e656fbaa8db9a77d08e2a2ef300a7cc0c7"), looks := false }, kinds := [], alts := [], laidByText := true, laidKinds := [.data], laidTests := true, laidLooks := .later }
def NameClashCardSaid : Prop := Claim7.holds Tryd.pinned (.plain (OpenSpec.ofChange nameClashSpec)) nameClashCard

/-- THE TIED CARD OF 'chirographlaw05.NameRow'. -/
def nameRowCard : Claim7 := { stood := { row := nameRowRow, standIns := [], harness := (true, "efe2eb55af04b7833076d7300bf665e656fbaa8db9a77d08e2a2ef300a7cc0c7"), looks := false }, kinds := [], alts := [], laidByText := true, laidKinds := [.data], laidTests := true, laidLooks := .later }
def NameRowCardSaid : Prop := Claim7.holds Tryd.pinned (.plain (OpenSpec.ofChange nameRowSpec)) nameRowCard

/-- THE SECOND FORM's CARD OF 'chirographlaw05.NameTells'. -/
def nameTellsUptoCard : Claim7 := { stood := { row := nameTellsUptoRow, standIns := [], harness := (true, "efe2eb55af04b7833076d7300bf665e656fbaa8db9a77d08e2a2ef300a7cc0c7"), looks := false }, kinds := [], alts := [], laidByText := true, laidKinds := [.data], laidTests := true, laidLooks := .later }
def NameTellsUptoCardSaid : Prop := Claim7.holds Tryd.pinned (.plain (OpenSpec.upto nameTellsSpec)) nameTellsUptoCard

/-- THE SECOND FORM's CARD OF 'chirographlaw05.NameOrders'. -/
def nameOrdersUptoCard : Claim7 := { stood := { row := nameOrdersUptoRow, standIns := [], harness := (true, "efe2eb55af04b7833076d7300bf665e656fbaa8db9a77d08e2a2ef300a7cc0c7"), looks := false }, kinds := [], alts := [], laidByText := true, laidKinds := [.data], laidTests := true, laidLooks := .later }
def NameOrdersUptoCardSaid : Prop := Claim7.holds Tryd.pinned (.plain (OpenSpec.upto nameOrdersSpec)) nameOrdersUptoCard

/-- THE SECOND FORM's CARD OF 'chirographlaw05.NameClash'. -/
def nameClashUptoCard : Claim7 := { stood := { row := nameClashUptoRow, standIns := [], harness := (true, "efe2eb55af04b7833076d7300bf665e656fbaa8db9a77d08e2a2ef300a7cc0c7"), looks := false }, kinds := [], alts := [], laidByText := true, laidKinds := [.data], laidTests := true, laidLooks := .later }
def NameClashUptoCardSaid : Prop := Claim7.holds Tryd.pinned (.plain (OpenSpec.upto nameClashSpec)) nameClashUptoCard

/-- THE SECOND FORM's CARD OF 'chirographlaw05.NameRow'. -/
def nameRowUptoCard : Claim7 := { stood := { row := nameRowUptoRow, standIns := [], harness := (true, "efe2eb55af04b7833076d7300bf665e656fbaa8db9a77d08e2a2ef300a7cc0c7"), looks := false }, kinds := [], alts := [], laidByText := true, laidKinds := [.data], laidTests := true, laidLooks := .later }
def NameRowUptoCardSaid : Prop := Claim7.holds Tryd.pinned (.plain (OpenSpec.upto nameRowSpec)) nameRowUptoCard
end Rows
end Go.Proofs.YtkipnbhejokbeaaDoor
