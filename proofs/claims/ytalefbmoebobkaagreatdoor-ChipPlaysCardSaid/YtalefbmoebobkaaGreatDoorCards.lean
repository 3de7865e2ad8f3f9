/-
  DERIVED. GIVEN WITH THE SEED: THE CARDS: each row of YtalefbmoebobkaaGreatDoorRows.lean that lists a variable, with what it lists TIED to the program's text (the seventh form; the later family's looks); each row that meets fmt, with fmt's text TOLD by the authors' own Lean function (tested against real Go, not proved from fmt's source: count such statements apart). THE CARD IS WHAT COUNTS. Prove the row's statement (the work); the ties are given (YtalefbmoebobkaaGreatDoorTie.lean); close each card by the builder's one call (the guide's Derived/Test/ToyasCard.lean, 'card_holds'). Laid BY PROGRAM, IN A SANDBOX (cutbox-door.mjs). By AI agents, Wed Nov 11 2026. No macro, syntax, notation, axiom, sorry.
-/
import Derived.Test.YtalefbmoebobkaaGreatDoorRows
import GoSem.ClaimSeven
namespace Go.Proofs.YtalefbmoebobkaaGreatDoor
namespace Rows

/-- THE TIED CARD OF 'decklelaw10.ChipPlays'. -/
def chipPlaysCard : Claim7 := { stood := { row := chipPlaysRow, standIns := [], harness := (true, "04f1d55765f84b03f920e403506946119123107cfb464dcd4528ce5466274a1a"), looks := false }, kinds := [], alts := [], laidByText := true, laidKinds := [.data, .data], laidTests := true, laidLooks := .later }
def ChipPlaysCardSaid : Prop := Claim7.holds Tryz.pinned (.plain (OpenSpec.ofChange chipPlaysSpec)) chipPlaysCard

/-- THE SECOND FORM's CARD OF 'decklelaw10.ChipPlays'. -/
def chipPlaysUptoCard : Claim7 := { stood := { row := chipPlaysUptoRow, standIns := [], harness := (true, "04f1d55765f84b03f920e403506946119123107cfb464dcd4528ce5466274a1a"), looks := false }, kinds := [], alts := [], laidByText := true, laidKinds := [.data, .data], laidTests := true, laidLooks := .later }
def ChipPlaysUptoCardSaid : Prop := Claim7.holds Tryz.pinned (.plain (OpenSpec.upto chipPlaysSpec)) chipPlaysUptoCard
end Rows
end Go.Proofs.YtalefbmoebobkaaGreatDoor
