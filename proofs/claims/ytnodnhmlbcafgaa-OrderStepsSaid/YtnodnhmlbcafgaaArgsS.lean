/- Parameters that are structs of a number and a truth value: opened (shut by Below.trod: XArgs). -/
import Derived.Test.YtnodnhmlbcafgaaArgs
namespace Go.Proofs.Ytnodnhmlbcafgaa
set_option maxRecDepth 100000
open Go.RowKit Go.ChangeShapes Go.WideShapes Go.ChangeAt

section
variable {H : Type} {enc : TypeId × Value → H} {P : Program} {w : World}
theorem open_ib {base : Nat} {sp : Nat → Bool} {held : Bool} {r : Reach} {b0 : Nat} {t : TypeId} {f0 f1 : Field} {v : Value} {d : DataW H} {ps : List MemPlace} (hs : P.underlying t = some (.struct #[f0, f1])) (hone : Deep.oneCellFields P #[f0, f1] = true)
    (h0 : P.underlying f0.type = some (.int .i64)) (h1 : P.underlying f1.type = some .bool) (hC : P.cellsOf t = 2)
    (hval : Value.okWide P w r b0 t v) (hd : DataW.Trod enc P w base sp held t v d ps) : ∃ (a : Int) (b : Bool), v = .agg #[.int .i64 a, .bool b] ∧ (Lit.int .i64 a).wf = true := by
  obtain ⟨cs, rfl, hsz⟩ := okWide_struct hs hval
  obtain ⟨fuel, hf⟩ := hd
  obtain ⟨xs, n, _, _, hl, hlen, hx⟩ := DataW.trod_struct hs hf
  have hcs : cs.size = 2 := hsz.trans hC
  have hl2 : xs.length = 2 := by simpa using hlen
  have get : ∀ (i : Nat) (u : Value), List.take 1 (List.drop i (Value.agg cs).cells.toList) = [u] → cs[i]? = some u := by
    intro i u h
    have h2 : (List.take 1 (List.drop i (Value.agg cs).cells.toList))[0]? = some u := by rw [h]; rfl
    rw [List.getElem?_take_of_lt (by decide), List.getElem?_drop] at h2
    simpa [Value.cells] using h2
  have e0 := hx 0 f0 rfl
  obtain ⟨o0, k0⟩ := Deep.hone_of hone 0 f0 rfl
  rw [o0, k0, List.getElem?_eq_getElem (by omega)] at e0
  obtain ⟨a, ha, _, hw⟩ := DataW.trod_int h0 e0
  have e1 := hx 1 f1 rfl
  obtain ⟨o1, k1⟩ := Deep.hone_of hone 1 f1 rfl
  rw [o1, k1, List.getElem?_eq_getElem (by omega)] at e1
  obtain ⟨b, hb, _⟩ := DataW.trod_bool h1 e1
  refine ⟨a, b, ?_, hw⟩
  congr 1
  have c0 := get 0 _ ha
  have c1 := get 1 _ hb
  apply Array.ext_getElem?
  intro i
  rcases i with _ | _ | i
  · rw [c0]; rfl
  · rw [c1]; rfl
  · rw [Array.getElem?_eq_none (by omega), Array.getElem?_eq_none (by simp)]
end

end Go.Proofs.Ytnodnhmlbcafgaa
