/- Facts of a drawn region's operations: a value in a slot each, or a fact of one's own. -/
import Derived.Test.YtklbmlnghindjaaDoorInv2
import Derived.Test.YtklbmlnghindjaaDoorBlk
namespace Go.Proofs.YtklbmlnghindjaaDoor
open Go.RowKit

/-- operation j has left this value in this slot; where the list says nothing: Sp -/
def RV (vs : List (Option (Tmp × Value))) (Sp : Nat → Act → World → Prop) (j : Nat) (a : Act) (w : World) : Prop :=
  match vs[j]? with
  | some (some (d, v)) => a.tmps.getD d undef = v
  | some none => Sp j a w
  | none => True
/-- the slots that a fact looks at -/
def SV (vs : List (Option (Tmp × Value))) (sp : List Tmp) : List (List Tmp) := vs.map fun o => match o with
  | some (d, _) => [d]
  | none => sp
theorem RV.ext {vs : List (Option (Tmp × Value))} {sp : List Tmp} {Sp : Nat → Act → World → Prop} {T : World → World → Prop}
    (hsp : ∀ j a a' w w', Sp j a w → (∀ d ∈ sp, a'.tmps.getD d undef = a.tmps.getD d undef) → T w w' → Sp j a' w') :
    ∀ j a a' w w', RV vs Sp j a w → (∀ s ∈ (SV vs sp).getD j [], a'.tmps.getD s undef = a.tmps.getD s undef) → T w w' → RV vs Sp j a' w' := by
  intro j a a' w w' h hd hT
  unfold RV at *
  rw [List.getD_eq_getElem?_getD] at hd
  cases hj : vs[j]? with
  | none => trivial
  | some o =>
    rw [hj] at h
    cases o with
    | none => exact hsp j a a' w w' h (fun d hm => hd d (by simp [SV, hj]; exact hm)) hT
    | some p => exact (hd p.1 (by simp [SV, hj])).trans h

/-- a world goes on: nothing that was there turns -/
def Goes (w w' : World) : Prop := Below w.heap.size w w'
theorem Goes.refl (w : World) : Goes w w := Below.refl _ _

end Go.Proofs.YtklbmlnghindjaaDoor
