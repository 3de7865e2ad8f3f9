/- A struct of four numbers, by value, as a parameter: opened and shut. -/
import Derived.Test.YtbpkaegkcknemaaRows
import Derived.WalkKit
import Derived.ProofKit
import Derived.OpenShut
import Derived.Lib.SmallJoins
namespace Go.Proofs.Ytbpkaegkcknemaa
open Go.RowKit Go.ChangeShapes Go.WideShapes Go.ChangeAt

section
variable {H : Type} {enc : TypeId × Value → H} {P : Program} {w : World} {base : Nat} {spare : Nat → Bool} {held : Bool}
theorem open_ints4 {r : Reach} {b0 : Nat} {t : TypeId} {f0 f1 f2 f3 : Field} {v : Value} {d : DataW H} {ps : List MemPlace} (hs : P.underlying t = some (.struct #[f0, f1, f2, f3])) (hone : Deep.oneCellFields P #[f0, f1, f2, f3] = true) (hC : P.cellsOf t = 4)
    (e0 : P.underlying f0.type = some (.int .i64)) (e1 : P.underlying f1.type = some (.int .i64)) (e2 : P.underlying f2.type = some (.int .i64)) (e3 : P.underlying f3.type = some (.int .i64))
    (hv : Value.okWide P w r b0 t v) (h : DataW.Trod enc P w base spare held t v d ps) :
    ∃ a b c x : Int, v = .agg #[.int .i64 a, .int .i64 b, .int .i64 c, .int .i64 x] ∧ d = .agg [.lit (.int .i64 a), .lit (.int .i64 b), .lit (.int .i64 c), .lit (.int .i64 x)] ∧ ps = [] ∧
      (Lit.int .i64 a).wf = true ∧ (Lit.int .i64 b).wf = true ∧ (Lit.int .i64 c).wf = true ∧ (Lit.int .i64 x).wf = true := by
  obtain ⟨v0, v1, v2, v3, y0, y1, y2, y3, n, rfl, rfl, rfl, k0, k1, k2, k3⟩ := Joins.open_agg4 hs hone hC hv h
  obtain ⟨a, a0, a1, wa⟩ := DataW.trod_int e0 k0
  obtain ⟨b, b0, b1, wb⟩ := DataW.trod_int e1 k1
  obtain ⟨c, c0, c1, wc⟩ := DataW.trod_int e2 k2
  obtain ⟨x, x0, x1, wx⟩ := DataW.trod_int e3 k3
  simp at a0 b0 c0 x0
  subst a0 b0 c0 x0 a1 b1 c1 x1
  exact ⟨a, b, c, x, rfl, rfl, rfl, wa, wb, wc, wx⟩
theorem shut_ints4 {t : TypeId} {f0 f1 f2 f3 : Field} {a b c x : Int} (hs : P.underlying t = some (.struct #[f0, f1, f2, f3])) (hone : Deep.oneCellFields P #[f0, f1, f2, f3] = true) (hC : P.cellsOf t = 4)
    (e0 : P.underlying f0.type = some (.int .i64)) (e1 : P.underlying f1.type = some (.int .i64)) (e2 : P.underlying f2.type = some (.int .i64)) (e3 : P.underlying f3.type = some (.int .i64))
    (wa : (Lit.int .i64 a).wf = true) (wb : (Lit.int .i64 b).wf = true) (wc : (Lit.int .i64 c).wf = true) (wx : (Lit.int .i64 x).wf = true) :
    DataW.Trod enc P w base spare held t (.agg #[.int .i64 a, .int .i64 b, .int .i64 c, .int .i64 x]) (.agg [.lit (.int .i64 a), .lit (.int .i64 b), .lit (.int .i64 c), .lit (.int .i64 x)]) [] :=
  Joins.shut_agg4 hs hone hC (Joins.field_of_Trod (shut_int e0 wa) rfl) (Joins.field_of_Trod (shut_int e1 wb) rfl) (Joins.field_of_Trod (shut_int e2 wc) rfl) (Joins.field_of_Trod (shut_int e3 wx) rfl)
end

end Go.Proofs.Ytbpkaegkcknemaa
