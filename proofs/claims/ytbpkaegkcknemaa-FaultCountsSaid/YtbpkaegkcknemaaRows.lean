/-
  No cell of these rows narrows 'for every input' (looked for: loops, veiled, ifaces, maps, wideKeys, modest, calm, conditions, laid).
  DERIVED. THE GIVEN ROWS OF THIS SEAT. 4 by the template 'for every input the law returns true; each argument reads behind the call as it read before'; 0 by the template 'total and deterministic' (their statements: YtbpkaegkcknemaaTotals.lean).
  GIVEN WITH THE SEED: the statements are not yours to turn. If you find one false, say at which input.
  Laid BY PROGRAM, IN A SANDBOX (cutbox-rows.mjs): the forced cells as the released guide's own fill.sh prints them over the translation 0d56b39427c9c259… (all of the seat's roots in one cut). By AI agents, Wed Nov 11 2026. No macro, syntax, notation, axiom, sorry.
-/
import Derived.Test.YtbpkaegkcknemaaChecked
import GoSem.Claim
import GoSem.ClaimJoined
import GoSem.ClaimMapViews
import Derived.JoinedTies
import Derived.KernelRfl
namespace Go.Proofs.Ytbpkaegkcknemaa
/- THE CELL 'sum', in the pinned program and in every row, IS THE sha256 OF THE DUMP (.gsa) THAT YtbpkaegkcknemaaProg.lean LOADS. Nothing in Lean hashes anything: it is a label: what it is worth is what the hold of that sum in a sandbox is worth. -/
noncomputable def Try.pinned : Pinned := { name := "ytbpkaegkcknemaa", sum := "0d56b39427c9c2594956c10832fc60bf71a5d17dac01f6ee82d6fff5d516cb1a", checked := Try.checked }
namespace Rows
def none {H : Type} : Left H := { results := [], args := [] }

/-- 'decklelaw09.FaultMeets': WHATEVER THE INPUT: true; the input reads as it did. -/
def faultMeetsSpec : ChangeSpec := { name := "faultMeets", fn := fun _ => fun
  | [d1, d2, d3] => { results := [.lit (.bool true)], args := [d1, d2, d3] }
  | _ => none }
def faultMeetsRow : OpenClaim := { program := "ytbpkaegkcknemaa", sum := "0d56b39427c9c2594956c10832fc60bf71a5d17dac01f6ee82d6fff5d516cb1a", func := "deckle/decklelaw09.FaultMeets", spec := "faultMeets", unfollowed := true, recurses := true, apart := false }
def FaultMeetsSaid : Prop := faultMeetsRow.holds Try.pinned (OpenSpec.ofChange faultMeetsSpec)

/-- ITS FALSE NEIGHBOUR: 'it returns false'. Refute it at one input. -/
def faultMeetsWrong : ChangeSpec := { name := "faultMeets", fn := fun _ => fun
  | [d1, d2, d3] => { results := [.lit (.bool false)], args := [d1, d2, d3] }
  | _ => none }
def FaultMeetsWrongFalsely : Prop := faultMeetsRow.holds Try.pinned (OpenSpec.ofChange faultMeetsWrong)

/-- 'decklelaw09.FaultCounts': WHATEVER THE INPUT: true; the input reads as it did. -/
def faultCountsSpec : ChangeSpec := { name := "faultCounts", fn := fun _ => fun
  | [d1, d2, d3] => { results := [.lit (.bool true)], args := [d1, d2, d3] }
  | _ => none }
def faultCountsRow : OpenClaim := { program := "ytbpkaegkcknemaa", sum := "0d56b39427c9c2594956c10832fc60bf71a5d17dac01f6ee82d6fff5d516cb1a", func := "deckle/decklelaw09.FaultCounts", spec := "faultCounts", unfollowed := true, recurses := true, apart := false }
def FaultCountsSaid : Prop := faultCountsRow.holds Try.pinned (OpenSpec.ofChange faultCountsSpec)

/-- ITS FALSE NEIGHBOUR: 'it returns false'. Refute it at one input. -/
def faultCountsWrong : ChangeSpec := { name := "faultCounts", fn := fun _ => fun
  | [d1, d2, d3] => { results := [.lit (.bool false)], args := [d1, d2, d3] }
  | _ => none }
def FaultCountsWrongFalsely : Prop := faultCountsRow.holds Try.pinned (OpenSpec.ofChange faultCountsWrong)

/-- 'decklelaw09.FaultFits': WHATEVER THE INPUT: true; the input reads as it did. -/
def faultFitsSpec : ChangeSpec := { name := "faultFits", fn := fun _ => fun
  | [d1, d2, d3] => { results := [.lit (.bool true)], args := [d1, d2, d3] }
  | _ => none }
def faultFitsRow : OpenClaim := { program := "ytbpkaegkcknemaa", sum := "0d56b39427c9c2594956c10832fc60bf71a5d17dac01f6ee82d6fff5d516cb1a", func := "deckle/decklelaw09.FaultFits", spec := "faultFits", unfollowed := true, recurses := true, apart := false }
def FaultFitsSaid : Prop := faultFitsRow.holds Try.pinned (OpenSpec.ofChange faultFitsSpec)

/-- ITS FALSE NEIGHBOUR: 'it returns false'. Refute it at one input. -/
def faultFitsWrong : ChangeSpec := { name := "faultFits", fn := fun _ => fun
  | [d1, d2, d3] => { results := [.lit (.bool false)], args := [d1, d2, d3] }
  | _ => none }
def FaultFitsWrongFalsely : Prop := faultFitsRow.holds Try.pinned (OpenSpec.ofChange faultFitsWrong)

/-- 'decklelaw09.FaultTwice': WHATEVER THE INPUT: true; the input reads as it did. -/
def faultTwiceSpec : ChangeSpec := { name := "faultTwice", fn := fun _ => fun
  | [d1, d2] => { results := [.lit (.bool true)], args := [d1, d2] }
  | _ => none }
def faultTwiceRow : OpenClaim := { program := "ytbpkaegkcknemaa", sum := "0d56b39427c9c2594956c10832fc60bf71a5d17dac01f6ee82d6fff5d516cb1a", func := "deckle/decklelaw09.FaultTwice", spec := "faultTwice", unfollowed := true, recurses := true, apart := false }
def FaultTwiceSaid : Prop := faultTwiceRow.holds Try.pinned (OpenSpec.ofChange faultTwiceSpec)

/-- ITS FALSE NEIGHBOUR: 'it returns false'. Refute it at one input. -/
def faultTwiceWrong : ChangeSpec := { name := "faultTwice", fn := fun _ => fun
  | [d1, d2] => { results := [.lit (.bool false)], args := [d1, d2] }
  | _ => none }
def FaultTwiceWrongFalsely : Prop := faultTwiceRow.holds Try.pinned (OpenSpec.ofChange faultTwiceWrong)

/- THE SECOND FORM. 'bulk': how many values and letters a reading holds, each counted each time it is reached (what is shared counts as often as it is met; a slice's spare places count too). A statement '..UptoSaid' is the law's where the arguments, and the package variables that the reading takes, are together of bulk at most 1048576: NARROWER than '..Said'. Prove '..Said' where nothing that the law and all that it calls make is longer than what came in: it says more and counts as full. Else prove '..UptoSaid'. A law counts once. -/
mutual
def uptoBulk {H : Type} : DataW H → Nat
  | .lit (.string bytes) => bytes.length + 1
  | .lit _ => 1
  | .nil => 1
  | .ptr d => uptoBulk d + 1
  | .slice elems spare => uptoBulkAll elems + uptoBulkAll spare + 1
  | .agg parts => uptoBulkAll parts + 1
  | .iface _ d => uptoBulk d + 1
  | .map entries => uptoBulkEntries entries + 1
  | .held _ => 1
def uptoBulkAll {H : Type} : List (DataW H) → Nat
  | [] => 0
  | d :: r => uptoBulk d + uptoBulkAll r
def uptoBulkEntries {H : Type} : List (Lit × DataW H) → Nat
  | [] => 0
  | x :: r => uptoBulkEntry x + uptoBulkEntries r
def uptoBulkEntry {H : Type} : Lit × DataW H → Nat
  | (.string bytes, d) => bytes.length + uptoBulk d + 1
  | (_, d) => uptoBulk d + 1
 end
def uptoSmall : (H : Type) → List (DataW H) → Bool := fun _ ds => decide (uptoBulkAll ds ≤ 1048576)
def OpenSpec.upto (s : _root_.Go.ChangeSpec) : _root_.Go.OpenSpec := { _root_.Go.OpenSpec.ofChange s with cond := some uptoSmall }

/-- 'decklelaw09.FaultMeets', WHERE WHAT IT READS IS OF BULK AT MOST 1048576: true; the input reads as it did. -/
def faultMeetsUptoRow : OpenClaim := { program := "ytbpkaegkcknemaa", sum := "0d56b39427c9c2594956c10832fc60bf71a5d17dac01f6ee82d6fff5d516cb1a", func := "deckle/decklelaw09.FaultMeets", spec := "faultMeets", unfollowed := true, recurses := true, apart := false, narrowed := true }
def FaultMeetsUptoSaid : Prop := faultMeetsUptoRow.holds Try.pinned (OpenSpec.upto faultMeetsSpec)

/-- 'decklelaw09.FaultCounts', WHERE WHAT IT READS IS OF BULK AT MOST 1048576: true; the input reads as it did. -/
def faultCountsUptoRow : OpenClaim := { program := "ytbpkaegkcknemaa", sum := "0d56b39427c9c2594956c10832fc60bf71a5d17dac01f6ee82d6fff5d516cb1a", func := "deckle/decklelaw09.FaultCounts", spec := "faultCounts", unfollowed := true, recurses := true, apart := false, narrowed := true }
def FaultCountsUptoSaid : Prop := faultCountsUptoRow.holds Try.pinned (OpenSpec.upto faultCountsSpec)

/-- 'decklelaw09.FaultFits', WHERE WHAT IT READS IS OF BULK AT MOST 1048576: true; the input reads as it did. -/
def faultFitsUptoRow : OpenClaim := { program := "ytbpkaegkcknemaa", sum := "0d56b39427c9c2594956c10832fc60bf71a5d17dac01f6ee82d6fff5d516cb1a", func := "deckle/decklelaw09.FaultFits", spec := "faultFits", unfollowed := true, recurses := true, apart := false, narrowed := true }
def FaultFitsUptoSaid : Prop := faultFitsUptoRow.holds Try.pinned (OpenSpec.upto faultFitsSpec)

/-- 'decklelaw09.FaultTwice', WHERE WHAT IT READS IS OF BULK AT MOST 1048576: true; the input reads as it did. -/
def faultTwiceUptoRow : OpenClaim := { program := "ytbpkaegkcknemaa", sum := "0d56b39427c9c2594956c10832fc60bf71a5d17dac01f6ee82d6fff5d516cb1a", func := "deckle/decklelaw09.FaultTwice", spec := "faultTwice", unfollowed := true, recurses := true, apart := false, narrowed := true }
def FaultTwiceUptoSaid : Prop := faultTwiceUptoRow.holds Try.pinned (OpenSpec.upto faultTwiceSpec)

end Rows
end Go.Proofs.Ytbpkaegkcknemaa
