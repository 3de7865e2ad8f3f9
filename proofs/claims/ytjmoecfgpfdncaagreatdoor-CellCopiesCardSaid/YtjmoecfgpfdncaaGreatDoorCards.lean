/-
  DERIVED. GIVEN WITH THE SEED: THE CARDS: each row of YtjmoecfgpfdncaaGreatDoorRows.lean that lists a variable, with what it lists TIED to the program's text (the seventh form; the later family's looks); each row that meets fmt, with fmt's text TOLD by the authors' own Lean function (tested against real Go, not proved from fmt's source: count such statements apart). THE CARD IS WHAT COUNTS. Prove the row's statement (the work); the ties are given (YtjmoecfgpfdncaaGreatDoorTie.lean); close each card by the builder's one call (the guide's Derived/Test/ToyasCard.lean, 'card_holds'). Laid BY PROGRAM, IN A SANDBOX (cutbox-door.mjs). By AI agents, Wed Nov 11 2026. No macro, syntax, notation, axiom, sorry.
-/
import Derived.Test.YtjmoecfgpfdncaaGreatDoorRows
import GoSem.ClaimSeven
namespace Go.Proofs.YtjmoecfgpfdncaaGreatDoor
namespace Rows

/-- THE TIED CARD OF 'decklelaw08.CellPlays'. -/
def cellPlaysCard : Claim7 := { stood := { row := cellPlaysRow, standIns := [], harness := (true, "bdf8256dbe20960649c01a8fc9f5ea0a9e38930a70239acba30822e2abf4e0ae"), looks := false }, kinds := [], alts := [], laidByText := true, laidKinds := [.data, .data], laidTests := true, laidLooks := .later }
def CellPlaysCardSaid : Prop := Claim7.holds Tryz.pinned (.plain (OpenSpec.ofChange cellPlaysSpec)) cellPlaysCard

/-- THE TIED CARD OF 'decklelaw08.CellCopies'. -/
def cellCopiesCard : Claim7 := { stood := { row := cellCopiesRow, standIns := [], harness := (true, "bdf8256dbe20960649c01a8fc9f5ea0a9e38930a70239acba30822e2abf4e0ae"), looks := false }, kinds := [], alts := [], laidByText := true, laidKinds := [.data, .data], laidTests := true, laidLooks := .later }
def CellCopiesCardSaid : Prop := Claim7.holds Tryz.pinned (.plain (OpenSpec.ofChange cellCopiesSpec)) cellCopiesCard

/-- THE SECOND FORM's CARD OF 'decklelaw08.CellPlays'. -/
def cellPlaysUptoCard : Claim7 := { stood := { row := cellPlaysUptoRow, standIns := [], harness := (true, "bdf8256dbe20960649c01a8fc9f5ea0a9e38930a70239acba30822e2abf4e0ae"), looks := false }, kinds := [], alts := [], laidByText := true, laidKinds := [.data, .data], laidTests := true, laidLooks := .later }
def CellPlaysUptoCardSaid : Prop := Claim7.holds Tryz.pinned (.plain (OpenSpec.upto cellPlaysSpec)) cellPlaysUptoCard

/-- THE SECOND FORM's CARD OF 'decklelaw08.CellCopies'. -/
def cellCopiesUptoCard : Claim7 := { stood := { row := cellCopiesUptoRow, standIns := [], harness := (true, "bdf8256dbe20960649c01a8fc9f5ea0a9e38930a70239acba30822e2abf4e0ae"), looks := false }, kinds := [], alts := [], laidByText := true, laidKinds := [.data, .data], laidTests := true, laidLooks := .later }
def CellCopiesUptoCardSaid : Prop := Claim7.holds Tryz.pinned (.plain (OpenSpec.upto cellCopiesSpec)) cellCopiesUptoCard
end Rows
end Go.Proofs.YtjmoecfgpfdncaaGreatDoor
