/- Texts of one claim, merged: ArgsN. -/
import Derived.Test.YtgnjknboahcmgaaS8

/- Parameters that are structs of numbers alone: opened (shut by Below.trod: XArgs). -/
namespace Go.Proofs.Ytgnjknboahcmgaa
set_option maxRecDepth 100000
open Go.RowKit Go.ChangeShapes Go.WideShapes Go.ChangeAt

/-- a cell's number -/
def numIn : Value → Int
  | .int _ a => a
  | _ => 0
theorem list6 {α : Type} {l : List α} (h : l.length = 6) : ∃ a b c d e f, l = [a, b, c, d, e, f] := by
  match l, h with
  | [a, b, c, d, e, f], _ => exact ⟨a, b, c, d, e, f, rfl⟩
section
variable {H : Type} {enc : TypeId × Value → H} {P : Program} {w : World}
theorem open_intsN {base : Nat} {sp : Nat → Bool} {held : Bool} {r : Go.Reach} {b0 : Nat} {t : TypeId} {fs : Array Field} {v : Value} {d : DataW H} {ps : List MemPlace} (hs : P.underlying t = some (.struct fs)) (hone : Deep.oneCellFields P fs = true)
    (hint : ∀ (i : Nat) f, fs[i]? = some f → P.underlying f.type = some (.int .i64)) (hC : P.cellsOf t = fs.size)
    (hval : Value.okWide P w r b0 t v) (hd : DataW.Trod enc P w base sp held t v d ps) : ∃ zs : List Int, zs.length = fs.size ∧ v = .agg (zs.map (Value.int .i64)).toArray := by
  obtain ⟨cs, rfl, hsz⟩ := okWide_struct hs hval
  obtain ⟨fuel, hf⟩ := hd
  obtain ⟨xs, n, _, _, hl, hlen, hx⟩ := DataW.trod_struct hs hf
  have hcs : cs.size = fs.size := hsz.trans hC
  refine ⟨cs.toList.map numIn, by simp [hcs], ?_⟩
  congr 1
  apply Array.ext_getElem?
  intro i
  by_cases hi : i < cs.size
  · have hif : i < fs.size := by omega
    have hfi : fs[i]? = some fs[i] := by simp [hif]
    have h1 := hx i fs[i] hfi
    obtain ⟨o0, k0⟩ := Deep.hone_of hone i fs[i] hfi
    have hxi : i < xs.length := by omega
    rw [o0, k0, List.getElem?_eq_getElem hxi] at h1
    obtain ⟨a, ha, _⟩ := DataW.trod_int (hint i fs[i] hfi) h1
    have hc : cs[i]? = some (.int .i64 a) := by
      have h2 : (List.take 1 (List.drop i (Value.agg cs).cells.toList))[0]? = some (.int .i64 a) := by rw [ha]; rfl
      rw [List.getElem?_take_of_lt (by decide), List.getElem?_drop] at h2
      simpa [Value.cells] using h2
    rw [hc]
    simp [hc, numIn]
  · rw [Array.getElem?_eq_none (by omega), Array.getElem?_eq_none (by simp; omega)]
end

end Go.Proofs.Ytgnjknboahcmgaa
