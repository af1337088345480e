/-
  DERIVED. GIVEN WITH THE SEED: THE CARDS: each row of YtedidoeoomijjaaDoorRows.lean that lists a variable, with what it lists TIED to the program's text (the seventh form; the later family's looks); each row that meets fmt, with fmt's text TOLD by the authors' own Lean function (tested against real Go, not proved from fmt's source: count such statements apart). THE CARD IS WHAT COUNTS. Prove the row's statement (the work); the ties are given (YtedidoeoomijjaaDoorTie.lean); close each card by the builder's one call (the guide's Derived/Test/ToyasCard.lean, 'card_holds'). Laid BY PROGRAM, IN A SANDBOX (cutbox-door.mjs). By AI agents, Wed Nov 11 2026. No macro, syntax, notation, axiom, sorry.
-/
import Derived.Test.YtedidoeoomijjaaDoorRows
import GoSem.ClaimSeven
namespace Go.Proofs.YtedidoeoomijjaaDoor
namespace Rows

/-- THE TIED CARD OF 'chirographlaw08.SuiteNonces'. -/
def suiteNoncesCard : Claim7 := { stood := { row := suiteNoncesRow, standIns := [], harness := (true, "bb5fa0cb1f53e0a57be9f1113a249207cf4017ca1e144d5d430840d02c117e9a"), looks := true }, kinds := [], alts := [], laidByText := true, laidKinds := [.data], laidTests := true, laidLooks := .later }
def SuiteNoncesCardSaid : Prop := Claim7.holds Tryd.pinned (.plain (OpenSpec.ofChange suiteNoncesSpec)) suiteNoncesCard

/-- THE TIED CARD OF 'chirographlaw08.SuiteBack'. -/
def suiteBackCard : Claim7 := { stood := { row := suiteBackRow, standIns := [], harness := (true, "bb5fa0cb1f53e0a57be9f1113a249207cf4017ca1e144d5d430840d02c117e9a"), looks := true }, kinds := [], alts := [], laidByText := true, laidKinds := [.data], laidTests := true, laidLooks := .later }
def SuiteBackCardSaid : Prop := Claim7.holds Tryd.pinned (.plain (OpenSpec.ofChange suiteBackSpec)) suiteBackCard

/-- THE TIED CARD OF 'chirographlaw08.SuiteApart'. -/
def suiteApartCard : Claim7 := { stood := { row := suiteApartRow, standIns := [], harness := (true, "bb5fa0cb1f53e0a57be9f1113a249207cf4017ca1e144d5d430840d02c117e9a"), looks := true }, kinds := [], alts := [], laidByText := true, laidKinds := [.data], laidTests := true, laidLooks := .later }
def SuiteApartCardSaid : Prop := Claim7.holds Tryd.pinned (.plain (OpenSpec.ofChange suiteApartSpec)) suiteApartCard

/-- THE TIED CARD OF 'chirographlaw08.SuiteImages'. -/
def suiteImagesCard : Claim7 := { stood := { row := suiteImagesRow, standIns := [], harness := (true, "bb5fa0cb1f53e0a57be9f1113a249207cf4017ca1e144d5d430840d02c117e9a"), looks := true }, kinds := [], alts := [], laidByText := true, laidKinds := [.data], laidTests := true, laidLooks := .later }
def SuiteImagesCardSaid : Prop := Claim7.holds Tryd.pinned (.plain (OpenSpec.ofChange suiteImagesSpec)) suiteImagesCard

/-- THE SECOND FORM's CARD OF 'chirographlaw08.SuiteNonces'. -/
def suiteNoncesUptoCard : Claim7 := { stood := { row := suiteNoncesUptoRow, standIns := [], harness := (true, "bb5fa0cb1f53e0a57be9f1113a249207cf4017ca1e144d5d430840d02c117e9a"), looks := true }, kinds := [], alts := [], laidByText := true, laidKinds := [.data], laidTests := true, laidLooks := .later }
def SuiteNoncesUptoCardSaid : Prop := Claim7.holds Tryd.pinned (.plain (OpenSpec.upto suiteNoncesSpec)) suiteNoncesUptoCard

/-- THE SECOND FORM's CARD OF 'chirographlaw08.SuiteBack'. -/
def suiteBackUptoCard : Claim7 := { stood := { row := suiteBackUptoRow, standIns := [], harness := (true, "bb5fa0cb1f53e0a57be9f1113a249207cf4017ca1e144d5d430840d02c117e9a"), looks := true }, kinds := [], alts := [], laidByText := true, laidKinds := [.data], laidTests := true, laidLooks := .later }
def SuiteBackUptoCardSaid : Prop := Claim7.holds Tryd.pinned (.plain (OpenSpec.upto suiteBackSpec)) suiteBackUptoCard

/-- THE SECOND FORM's CARD OF 'chirographlaw08.SuiteApart'. -/
def suiteApartUptoCard : Claim7 := { stood := { row := suiteApartUptoRow, standIns := [], harness := (true, "bb5fa0cb1f53e0a57be9f1113a249207cf4017ca1e144d5d430840d02c117e9a"), looks := true }, kinds := [], alts := [], laidByText := true, laidKinds := [.data], laidTests := true, laidLooks := .later }
def SuiteApartUptoCardSaid : Prop := Claim7.holds Tryd.pinned (.plain (OpenSpec.upto suiteApartSpec)) suiteApartUptoCard

/-- THE SECOND FORM's CARD OF 'chirographlaw08.SuiteImages'. -/
def suiteImagesUptoCard : Claim7 := { stood := { row := suiteImagesUptoRow, standIns := [], harness := (true, "bb5fa0cb1f53e0a57be9f1113a249207cf4017ca1e144d5d430840d02c117e9a"), looks := true }, kinds := [], alts := [], laidByText := true, laidKinds := [.data], laidTests := true, laidLooks := .later }
def SuiteImagesUptoCardSaid : Prop := Claim7.holds Tryd.pinned (.plain (OpenSpec.upto suiteImagesSpec)) suiteImagesUptoCard
end Rows
end Go.Proofs.YtedidoeoomijjaaDoor
