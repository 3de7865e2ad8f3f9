/- Parameters of two numbers: opened and shut. -/
import Derived.Test.YtklbmlnghindjaaDoorKit
import Derived.ShutString
import Derived.OpenShut
import Derived.Lib.SmallJoins
namespace Go.Proofs.YtklbmlnghindjaaDoor
set_option maxRecDepth 100000
open Go.RowKit

section
variable {H : Type} {enc : TypeId × Value → H} {P : Program}
/-- a parameter of two numbers -/
theorem open_ints2 {w : World} {r : Go.Reach} {b0 base : Nat} {sp : Nat → Bool} {held : Bool} {t e : TypeId} {v : Value} {d : DataW H} {ps : List MemPlace} (ht : P.underlying t = some (.array 2 e)) (he : P.underlying e = some (.int .i64)) (hc : P.cellsOf e = 1) (hC : P.cellsOf t = 2)
    (hval : Value.okWide P w r b0 t v) (hd : DataW.Trod enc P w base sp held t v d ps) :
    ∃ a b : Int, v = .agg #[.int .i64 a, .int .i64 b] ∧ d = .agg [.lit (.int .i64 a), .lit (.int .i64 b)] ∧ ps = [] ∧ (Lit.int .i64 a).wf = true ∧ (Lit.int .i64 b).wf = true := by
  obtain ⟨cs, rfl, hsz, _⟩ : ∃ cs, v = .agg cs ∧ cs.size = P.cellsOf t ∧ Row.okWide P w r b0 t cs := by
    simpa [Value.okWide, ht] using hval
  obtain ⟨v0, v1, rfl⟩ := Joins.array2 (hsz.trans hC)
  obtain ⟨fuel, hf⟩ := hd
  obtain ⟨xs, m, _, ex, _, hl, hel⟩ := DataW.trod_array ht hf
  match xs, hl with
  | [x0, x1], _ =>
    have k0 := hel 0 (by omega); have k1 := hel 1 (by omega)
    rw [hc] at k0 k1
    obtain ⟨a, a0, a1, wa⟩ := DataW.trod_int he k0
    obtain ⟨b, b0, b1, wb⟩ := DataW.trod_int he k1
    simp [Value.cells] at a0 b0
    subst a0 b0 a1 b1
    simp only [Prod.mk.injEq] at ex
    exact ⟨a, b, rfl, ex.1, ex.2, wa, wb⟩
theorem shut_ints2 {w : World} {base : Nat} {sp : Nat → Bool} {held : Bool} {t e : TypeId} {a b : Int} (ht : P.underlying t = some (.array 2 e)) (he : P.underlying e = some (.int .i64)) (hc : P.cellsOf e = 1) (hC : P.cellsOf t = 2)
    (ha : (Lit.int .i64 a).wf = true) (hb : (Lit.int .i64 b).wf = true) :
    DataW.Trod enc P w base sp held t (.agg #[.int .i64 a, .int .i64 b]) (.agg [.lit (.int .i64 a), .lit (.int .i64 b)]) [] :=
  ⟨2, by simp [DataW.trod, Value.cells, ht, he, hc, hC, ha, hb, List.range, List.range.loop]⟩
end

end Go.Proofs.YtklbmlnghindjaaDoor
