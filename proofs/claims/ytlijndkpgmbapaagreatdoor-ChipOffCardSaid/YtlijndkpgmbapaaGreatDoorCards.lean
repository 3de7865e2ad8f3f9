/-
  DERIVED. GIVEN WITH THE SEED: THE CARDS: each row of YtlijndkpgmbapaaGreatDoorRows.lean that lists a variable, with what it lists TIED to the program's text (the seventh form; the later family's looks); each row that meets fmt, with fmt's text TOLD by the authors' own Lean function (tested against real Go, not proved from fmt's source: count such statements apart). THE CARD IS WHAT COUNTS. Prove the row's statement (the work); the ties are given (YtlijndkpgmbapaaGreatDoorTie.lean); close each card by the builder's one call (the guide's Derived/Test/ToyasCard.lean, 'card_holds'). Laid BY PROGRAM, IN A SANDBOX (cutbox-door.mjs). By AI agents, Wed Nov 11 2026. No macro, syntax, notation, axiom, sorry.
-/
import Derived.Test.YtlijndkpgmbapaaGreatDoorRows
import GoSem.ClaimSeven
namespace Go.Proofs.YtlijndkpgmbapaaGreatDoor
namespace Rows

/-- THE TIED CARD OF 'decklelaw10.ChipPlays'. -/
def chipPlaysCard : Claim7 := { stood := { row := chipPlaysRow, standIns := [], harness := (true, "846368c91fa385ed3312104917ddf410f7fcd35a0fbd066c68926128e5d2b907"), looks := false }, kinds := [], alts := [], laidByText := true, laidKinds := [.data, .data], laidTests := true, laidLooks := .later }
def ChipPlaysCardSaid : Prop := Claim7.holds Tryz.pinned (.plain (OpenSpec.ofChange chipPlaysSpec)) chipPlaysCard

/-- THE TIED CARD OF 'decklelaw10.ChipOff'. -/
def chipOffCard : Claim7 := { stood := { row := chipOffRow, standIns := [], harness := (true, "846368c91fa385ed3312104917ddf410f7fcd35a0fbd066c68926128e5d2b907"), looks := false }, kinds := [], alts := [], laidByText := true, laidKinds := [.data, .data], laidTests := true, laidLooks := .later }
def ChipOffCardSaid : Prop := Claim7.holds Tryz.pinned (.plain (OpenSpec.ofChange chipOffSpec)) chipOffCard

/-- THE TIED CARD OF 'decklelaw10.ChipOthers'. -/
def chipOthersCard : Claim7 := { stood := { row := chipOthersRow, standIns := [], harness := (true, "846368c91fa385ed3312104917ddf410f7fcd35a0fbd066c68926128e5d2b907"), looks := false }, kinds := [], alts := [], laidByText := true, laidKinds := [.data, .data], laidTests := true, laidLooks := .later }
def ChipOthersCardSaid : Prop := Claim7.holds Tryz.pinned (.plain (OpenSpec.ofChange chipOthersSpec)) chipOthersCard

/-- THE TIED CARD OF 'decklelaw10.ChipCalm'. -/
def chipCalmCard : Claim7 := { stood := { row := chipCalmRow, standIns := [], harness := (true, "846368c91fa385ed3312104917ddf410f7fcd35a0fbd066c68926128e5d2b907"), looks := false }, kinds := [], alts := [], laidByText := true, laidKinds := [.data, .data], laidTests := true, laidLooks := .later }
def ChipCalmCardSaid : Prop := Claim7.holds Tryz.pinned (.plain (OpenSpec.ofChange chipCalmSpec)) chipCalmCard

/-- THE SECOND FORM's CARD OF 'decklelaw10.ChipPlays'. -/
def chipPlaysUptoCard : Claim7 := { stood := { row := chipPlaysUptoRow, standIns := [], harness := (true, "846368c91fa385ed3312104917ddf410f7fcd35a0fbd066c68926128e5d2b907"), looks := false }, kinds := [], alts := [], laidByText := true, laidKinds := [.data, .data], laidTests := true, laidLooks := .later }
def ChipPlaysUptoCardSaid : Prop := Claim7.holds Tryz.pinned (.plain (OpenSpec.upto chipPlaysSpec)) chipPlaysUptoCard

/-- THE SECOND FORM's CARD OF 'decklelaw10.ChipOff'. -/
def chipOffUptoCard : Claim7 := { stood := { row := chipOffUptoRow, standIns := [], harness := (true, "846368c91fa385ed3312104917ddf410f7fcd35a0fbd066c68926128e5d2b907"), looks := false }, kinds := [], alts := [], laidByText := true, laidKinds := [.data, .data], laidTests := true, laidLooks := .later }
def ChipOffUptoCardSaid : Prop := Claim7.holds Tryz.pinned (.plain (OpenSpec.upto chipOffSpec)) chipOffUptoCard

/-- THE SECOND FORM's CARD OF 'decklelaw10.ChipOthers'. -/
def chipOthersUptoCard : Claim7 := { stood := { row := chipOthersUptoRow, standIns := [], harness := (true, "846368c91fa385ed3312104917ddf410f7fcd35a0fbd066c68926128e5d2b907"), looks := false }, kinds := [], alts := [], laidByText := true, laidKinds := [.data, .data], laidTests := true, laidLooks := .later }
def ChipOthersUptoCardSaid : Prop := Claim7.holds Tryz.pinned (.plain (OpenSpec.upto chipOthersSpec)) chipOthersUptoCard

/-- THE SECOND FORM's CARD OF 'decklelaw10.ChipCalm'. -/
def chipCalmUptoCard : Claim7 := { stood := { row := chipCalmUptoRow, standIns := [], harness := (true, "846368c91fa385ed3312104917ddf410f7fcd35a0fbd066c68926128e5d2b907"), looks := false }, kinds := [], alts := [], laidByText := true, laidKinds := [.data, .data], laidTests := true, laidLooks := .later }
def ChipCalmUptoCardSaid : Prop := Claim7.holds Tryz.pinned (.plain (OpenSpec.upto chipCalmSpec)) chipCalmUptoCard
end Rows
end Go.Proofs.YtlijndkpgmbapaaGreatDoor
