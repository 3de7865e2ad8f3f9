/- Parameters that are slices or arrays of numbers: opened; shut again by Below.trod (an argument reads behind the call as it did). -/
import Derived.Test.YtklbmlnghindjaaDoorKit
import Derived.Carry
import Derived.ChangeSlices
import Derived.Lib.SmallJoins
namespace Go.Proofs.YtklbmlnghindjaaDoor
open Go.RowKit Go.ChangeShapes Go.WideShapes Go.ChangeAt

/-- the cells of a slice of numbers -/
def IntsArg (w : World) (oa : Option Addr) (zs : List Int) : Prop := ∀ i, i < zs.length → ∃ a, oa = some a ∧ a.block < w.heap.size ∧ w.cell? (a.add i) = some (.int .i64 (zs.getD i 0))
theorem add_block (a : Addr) (i : Nat) : (a.add i).block = a.block := by unfold Addr.add; split <;> rfl

section
variable {H : Type} {enc : TypeId × Value → H} {P : Program} {w : World}
theorem open_intsv {base : Nat} {r : Go.Reach} {b0 : Nat} {t e : TypeId} {v : Value} {d : DataW H} {ps : List MemPlace} (ht : P.underlying t = some (.slice e)) (he : P.underlying e = some (.int .i64)) (hc : P.cellsOf e = 1)
    (hval : Value.okWide P w r b0 t v) (hd : DataW.Trod enc P w base (fun _ => true) true t v d ps) :
    ∃ (oa : Option Addr) (cap : Nat) (zs : List Int), v = .slice oa zs.length cap ∧ zs.length ≤ maxLen ∧ IntsArg w oa zs ∧ (∀ n ∈ zs, (Lit.int .i64 n).wf = true) := by
  obtain ⟨a0, len, cap, rfl⟩ := okWide_slice ht hval
  obtain ⟨fuel, hf⟩ := hd
  rcases open_ints ht he hc hf with ⟨hcs, _⟩ | ⟨a, len', cap', zs, hcs, _, hl, hm, hz, _, hcell, hwz⟩
  · simp [Value.cells] at hcs
    obtain ⟨rfl, rfl, rfl⟩ := hcs
    exact ⟨none, 0, [], rfl, Nat.zero_le _, fun i hi => absurd hi (Nat.not_lt_zero i), fun n hn => by cases hn⟩
  · simp [Value.cells] at hcs
    obtain ⟨rfl, rfl, rfl⟩ := hcs
    simp only [if_true] at hz
    have hlen : (zs.take len).length = len := by rw [List.length_take]; omega
    refine ⟨some a, cap, zs.take len, by rw [hlen], by omega, fun i hi => ?_, fun n hn => hwz n (List.mem_of_mem_take hn)⟩
    have hi2 : i < zs.length := by omega
    have h := hcell i hi2
    refine ⟨a, rfl, by have := cell_lt h; rwa [add_block] at this, ?_⟩
    rw [h]
    simp [List.getD, List.getElem?_take_of_lt (show i < len by omega)]
theorem open_arr4 {base : Nat} {sp : Nat → Bool} {held : Bool} {r : Go.Reach} {b0 : Nat} {t e : TypeId} {v : Value} {d : DataW H} {ps : List MemPlace} (ht : P.underlying t = some (.array 4 e)) (he : P.underlying e = some (.int .i64)) (hc : P.cellsOf e = 1) (hC : P.cellsOf t = 4)
    (hval : Value.okWide P w r b0 t v) (hd : DataW.Trod enc P w base sp held t v d ps) : ∃ a b c x : Int, v = .agg #[.int .i64 a, .int .i64 b, .int .i64 c, .int .i64 x] := by
  obtain ⟨cs, rfl, hsz, _⟩ : ∃ cs, v = .agg cs ∧ cs.size = P.cellsOf t ∧ Row.okWide P w r b0 t cs := by
    simpa [Value.okWide, ht] using hval
  obtain ⟨v0, v1, v2, v3, rfl⟩ := Joins.array4 (hsz.trans hC)
  obtain ⟨fuel, hf⟩ := hd
  obtain ⟨xs, m, _, ex, _, hl, hel⟩ := DataW.trod_array ht hf
  obtain ⟨x0, y0⟩ : ∃ x, xs[0]? = some x := ⟨xs[0], by simp⟩
  obtain ⟨x1, y1⟩ : ∃ x, xs[1]? = some x := ⟨xs[1], by simp⟩
  obtain ⟨x2, y2⟩ : ∃ x, xs[2]? = some x := ⟨xs[2], by simp⟩
  obtain ⟨x3, y3⟩ : ∃ x, xs[3]? = some x := ⟨xs[3], by simp⟩
  have k0 := (hel 0 (by omega)).trans y0; have k1 := (hel 1 (by omega)).trans y1; have k2 := (hel 2 (by omega)).trans y2; have k3 := (hel 3 (by omega)).trans y3
  rw [hc] at k0 k1 k2 k3
  obtain ⟨a, a0, _⟩ := DataW.trod_int he k0
  obtain ⟨b, b0, _⟩ := DataW.trod_int he k1
  obtain ⟨c, c0, _⟩ := DataW.trod_int he k2
  obtain ⟨x, z0, _⟩ := DataW.trod_int he k3
  simp [Value.cells] at a0 b0 c0 z0
  exact ⟨a, b, c, x, by rw [a0, b0, c0, z0]⟩
end

end Go.Proofs.YtklbmlnghindjaaDoor
