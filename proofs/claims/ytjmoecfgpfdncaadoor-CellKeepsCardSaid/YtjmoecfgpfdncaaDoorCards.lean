/-
  DERIVED. GIVEN WITH THE SEED: THE CARDS: each row of YtjmoecfgpfdncaaDoorRows.lean that lists a variable, with what it lists TIED to the program's text (the seventh form; the later family's looks); each row that meets fmt, with fmt's text TOLD by the authors' own Lean function (tested against real Go, not proved from fmt's source: count such statements apart). THE CARD IS WHAT COUNTS. Prove the row's statement (the work); the ties are given (YtjmoecfgpfdncaaDoorTie.lean); close each card by the builder's one call (the guide's Derived/Test/ToyasCard.lean, 'card_holds'). Laid BY PROGRAM, IN A SANDBOX (cutbox-door.mjs). By AI agents, Wed Nov 11 2026. No macro, syntax, notation, axiom, sorry.
-/
import Derived.Test.YtjmoecfgpfdncaaDoorRows
import GoSem.ClaimSeven
namespace Go.Proofs.YtjmoecfgpfdncaaDoor
namespace Rows

/-- THE TIED CARD OF 'decklelaw08.CellKeeps'. -/
def cellKeepsCard : Claim7 := { stood := { row := cellKeepsRow, standIns := [], harness := (true, "0af9c2b57cb2416cef90220e1167fc003364d24298e46ea9ba1ec006c5c09245"), looks := false }, kinds := [], alts := [], laidByText := true, laidKinds := [.data, .data], laidTests := true, laidLooks := .later }
def CellKeepsCardSaid : Prop := Claim7.holds Tryd.pinned (.plain (OpenSpec.ofChange cellKeepsSpec)) cellKeepsCard

/-- THE TIED CARD OF 'decklelaw08.CellTwoPass'. -/
def cellTwoPassCard : Claim7 := { stood := { row := cellTwoPassRow, standIns := [], harness := (true, "0af9c2b57cb2416cef90220e1167fc003364d24298e46ea9ba1ec006c5c09245"), looks := false }, kinds := [], alts := [], laidByText := true, laidKinds := [.data, .data], laidTests := true, laidLooks := .later }
def CellTwoPassCardSaid : Prop := Claim7.holds Tryd.pinned (.plain (OpenSpec.ofChange cellTwoPassSpec)) cellTwoPassCard

/-- THE TIED CARD OF 'decklelaw08.CellErases'. -/
def cellErasesCard : Claim7 := { stood := { row := cellErasesRow, standIns := [], harness := (true, "0af9c2b57cb2416cef90220e1167fc003364d24298e46ea9ba1ec006c5c09245"), looks := false }, kinds := [], alts := [], laidByText := true, laidKinds := [.data, .data], laidTests := true, laidLooks := .later }
def CellErasesCardSaid : Prop := Claim7.holds Tryd.pinned (.plain (OpenSpec.ofChange cellErasesSpec)) cellErasesCard

/-- THE SECOND FORM's CARD OF 'decklelaw08.CellKeeps'. -/
def cellKeepsUptoCard : Claim7 := { stood := { row := cellKeepsUptoRow, standIns := [], harness := (true, "0af9c2b57cb2416cef90220e1167fc003364d24298e46ea9ba1ec006c5c09245"), looks := false }, kinds := [], alts := [], laidByText := true, laidKinds := [.data, .data], laidTests := true, laidLooks := .later }
def CellKeepsUptoCardSaid : Prop := Claim7.holds Tryd.pinned (.plain (OpenSpec.upto cellKeepsSpec)) cellKeepsUptoCard

/-- THE SECOND FORM's CARD OF 'decklelaw08.CellTwoPass'. -/
def cellTwoPassUptoCard : Claim7 := { stood := { row := cellTwoPassUptoRow, standIns := [], harness := (true, "0af9c2b57cb2416cef90220e1167fc003364d24298e46ea9ba1ec006c5c09245"), looks := false }, kinds := [], alts := [], laidByText := true, laidKinds := [.data, .data], laidTests := true, laidLooks := .later }
def CellTwoPassUptoCardSaid : Prop := Claim7.holds Tryd.pinned (.plain (OpenSpec.upto cellTwoPassSpec)) cellTwoPassUptoCard

/-- THE SECOND FORM's CARD OF 'decklelaw08.CellErases'. -/
def cellErasesUptoCard : Claim7 := { stood := { row := cellErasesUptoRow, standIns := [], harness := (true, "0af9c2b57cb2416cef90220e1167fc003364d24298e46ea9ba1ec006c5c09245"), looks := false }, kinds := [], alts := [], laidByText := true, laidKinds := [.data, .data], laidTests := true, laidLooks := .later }
def CellErasesUptoCardSaid : Prop := Claim7.holds Tryd.pinned (.plain (OpenSpec.upto cellErasesSpec)) cellErasesUptoCard
end Rows
end Go.Proofs.YtjmoecfgpfdncaaDoor
