/-
  DERIVED. GIVEN WITH THE SEED: THE CARDS: each row of YtklbmlnghindjaaDoorRows.lean that lists a variable, with what it lists TIED to the program's text (the seventh form; the later family's looks); each row that meets fmt, with fmt's text TOLD by the authors' own Lean function (tested against real Go, not proved from fmt's source: count such statements apart). THE CARD IS WHAT COUNTS. Prove the row's statement (the work); the ties are given (YtklbmlnghindjaaDoorTie.lean); close each card by the builder's one call (the guide's Derived/Test/ToyasCard.lean, 'card_holds'). Laid BY PROGRAM, IN A SANDBOX (cutbox-door.mjs). By AI agents, Wed Nov 11 2026. No macro, syntax, notation, axiom, sorry.
-/
import Derived.Test.YtklbmlnghindjaaDoorRows
import GoSem.ClaimSeven
namespace Go.Proofs.YtklbmlnghindjaaDoor
namespace Rows

/-- THE TIED CARD OF 'decklelaw12.SheetUnpacks'. -/
def sheetUnpacksCard : Claim7 := { stood := { row := sheetUnpacksRow, standIns := [], harness := (true, "4c7076cd6dfbad8fd1f72e953165e54ffe85d17ba35b4196c45e8078efbd2736"), looks := false }, kinds := [], alts := [], laidByText := true, laidKinds := [.data, .pinned], laidTests := true, laidLooks := .later }
def SheetUnpacksCardSaid : Prop := Claim7.holds Tryd.pinned (.plain (OpenSpec.ofChange sheetUnpacksSpec)) sheetUnpacksCard

/-- THE TIED CARD OF 'decklelaw12.SheetBack'. -/
def sheetBackCard : Claim7 := { stood := { row := sheetBackRow, standIns := [], harness := (true, "4c7076cd6dfbad8fd1f72e953165e54ffe85d17ba35b4196c45e8078efbd2736"), looks := false }, kinds := [], alts := [], laidByText := true, laidKinds := [.data, .pinned], laidTests := true, laidLooks := .later }
def SheetBackCardSaid : Prop := Claim7.holds Tryd.pinned (.plain (OpenSpec.ofChange sheetBackSpec)) sheetBackCard

/-- THE TIED CARD OF 'decklelaw12.SheetAgain'. -/
def sheetAgainCard : Claim7 := { stood := { row := sheetAgainRow, standIns := [], harness := (true, "4c7076cd6dfbad8fd1f72e953165e54ffe85d17ba35b4196c45e8078efbd2736"), looks := false }, kinds := [], alts := [], laidByText := true, laidKinds := [.data, .pinned], laidTests := true, laidLooks := .later }
def SheetAgainCardSaid : Prop := Claim7.holds Tryd.pinned (.plain (OpenSpec.ofChange sheetAgainSpec)) sheetAgainCard

/-- THE SECOND FORM's CARD OF 'decklelaw12.SheetUnpacks'. -/
def sheetUnpacksUptoCard : Claim7 := { stood := { row := sheetUnpacksUptoRow, standIns := [], harness := (true, "4c7076cd6dfbad8fd1f72e953165e54ffe85d17ba35b4196c45e8078efbd2736"), looks := false }, kinds := [], alts := [], laidByText := true, laidKinds := [.data, .pinned], laidTests := true, laidLooks := .later }
def SheetUnpacksUptoCardSaid : Prop := Claim7.holds Tryd.pinned (.plain (OpenSpec.upto sheetUnpacksSpec)) sheetUnpacksUptoCard

/-- THE SECOND FORM's CARD OF 'decklelaw12.SheetBack'. -/
def sheetBackUptoCard : Claim7 := { stood := { row := sheetBackUptoRow, standIns := [], harness := (true, "4c7076cd6dfbad8fd1f72e953165e54ffe85d17ba35b4196c45e8078efbd2736"), looks := false }, kinds := [], alts := [], laidByText := true, laidKinds := [.data, .pinned], laidTests := true, laidLooks := .later }
def SheetBackUptoCardSaid : Prop := Claim7.holds Tryd.pinned (.plain (OpenSpec.upto sheetBackSpec)) sheetBackUptoCard

/-- THE SECOND FORM's CARD OF 'decklelaw12.SheetAgain'. -/
def sheetAgainUptoCard : Claim7 := { stood := { row := sheetAgainUptoRow, standIns := [], harness := (true, "4c7076cd6dfbad8fd1f72e953165e54ffe85d17ba35b4196c45e8078efbd2736"), looks := false }, kinds := [], alts := [], laidByText := true, laidKinds := [.data, .pinned], laidTests := true, laidLooks := .later }
def SheetAgainUptoCardSaid : Prop := Claim7.holds Tryd.pinned (.plain (OpenSpec.upto sheetAgainSpec)) sheetAgainUptoCard
end Rows
end Go.Proofs.YtklbmlnghindjaaDoor
