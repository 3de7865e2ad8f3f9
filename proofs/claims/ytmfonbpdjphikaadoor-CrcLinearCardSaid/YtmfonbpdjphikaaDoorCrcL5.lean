/- The walk of the law CrcLinear, whole; and a parameter of three texts, opened and read again. -/
import Derived.Test.YtmfonbpdjphikaaDoorCrcL4
import Derived.ShutString
import Derived.OpenShut
import Derived.Lib.SmallJoins
namespace Go.Proofs.YtmfonbpdjphikaaDoor
open Go.RowKit

set_option maxHeartbeats 1600000 in
set_option maxRecDepth 100000 in
theorem linear_out (a b c : ByteArray) (w : World) (_ha : (a.size : Int) ≤ 9223372036854775807) (_hb : (b.size : Int) ≤ 9223372036854775807) (_hc : (c.size : Int) ≤ 9223372036854775807)
    (n : Nat) (hn : min a.size (min b.size c.size) = n) (hn2 : 1000 < n) (hT : TabAt w) (hg : 0 < w.heap.size) :
    Calls Tryd.prog 5 #[.agg #[.string a, .string b, .string c]] w fun e w' => e = .returned (.bool true) ∧ Below w.heap.size w w' := by
  have HT := Lib.hid hT
  have hcases : (b.size < a.size ∧ c.size < b.size ∧ c.size = n) ∨ (b.size < a.size ∧ b.size ≤ c.size ∧ b.size = n) ∨ (a.size ≤ b.size ∧ c.size < a.size ∧ c.size = n) ∨ (a.size ≤ b.size ∧ a.size ≤ c.size ∧ a.size = n) := by omega
  clear hT hn
  rcases hcases with ⟨h1, h2, h3⟩ | ⟨h1, h2, h3⟩ | ⟨h1, h2, h3⟩ | ⟨h1, h2, h3⟩
  all_goals
    go_enter Tryd.func5, Tryd.ntmps5
    go_wp2_with fail
    have hb0 : Below w.heap.size w (w.alloc (.cells #[.string a, .string b, .string c] 30)) := (Below.refl _ _).alloc (Nat.le_refl _) _
    refine (works_any _ (HT.out.below hb0 hg) (by simp)).mono ?_
    rintro e w1 ⟨rfl, hb1⟩
    have c0 : w1.cell? ⟨w.heap.size, 0, none⟩ = some (.string a) := by rw [hb1.cell (p := ⟨w.heap.size, 0, none⟩) (by simp), World.cell?_alloc_new]; rfl
    have c1 : w1.cell? ⟨w.heap.size, 1, none⟩ = some (.string b) := by rw [hb1.cell (p := ⟨w.heap.size, 1, none⟩) (by simp), World.cell?_alloc_new]; rfl
    have c2 : w1.cell? ⟨w.heap.size, 2, none⟩ = some (.string c) := by rw [hb1.cell (p := ⟨w.heap.size, 2, none⟩) (by simp), World.cell?_alloc_new]; rfl
    have HB1 : Hid (Below w.heap.size w w1) := hb0.trans (hb1.mono (by simp))
    clear hb0 hb1
    go_wp2_with fail
    go_ret
    exact ⟨rfl, HB1.out⟩

theorem walk_CrcLinear (a b c : ByteArray) (ha : a.size ≤ maxLen) (hb : b.size ≤ maxLen) (hc : c.size ≤ maxLen) (w : World) (hT : TabAt w) (hg : 0 < w.heap.size) :
    Calls Tryd.prog 5 #[.agg #[.string a, .string b, .string c]] w fun e w' => e = .returned (.bool true) ∧ Below w.heap.size w w' := by
  unfold maxLen at ha hb hc
  by_cases h : min a.size (min b.size c.size) ≤ 1000
  · exact linear_in a b c w (by omega) (by omega) (by omega) _ rfl h hT hg
  · exact linear_out a b c w (by omega) (by omega) (by omega) _ rfl (by omega) hT hg

section
variable {H : Type} {enc : TypeId × Value → H} {P : Program}
/-- a parameter of three texts -/
theorem open_strings3 {w : World} {r : Reach} {b0 base : Nat} {sp : Nat → Bool} {held : Bool} {t e : TypeId} {v : Value} {d : DataW H} {ps : List MemPlace} (ht : P.underlying t = some (.array 3 e)) (he : P.underlying e = some .string) (hc : P.cellsOf e = 1) (hC : P.cellsOf t = 3)
    (hval : Value.okWide P w r b0 t v) (hd : DataW.Trod enc P w base sp held t v d ps) :
    ∃ a b c : ByteArray, v = .agg #[.string a, .string b, .string c] ∧ d = .agg [.lit (.string a.data.toList), .lit (.string b.data.toList), .lit (.string c.data.toList)] ∧ ps = [] ∧ a.size ≤ maxLen ∧ b.size ≤ maxLen ∧ c.size ≤ maxLen := by
  obtain ⟨cs, rfl, hsz, _⟩ : ∃ cs, v = .agg cs ∧ cs.size = P.cellsOf t ∧ Row.okWide P w r b0 t cs := by
    simpa [Value.okWide, ht] using hval
  obtain ⟨v0, v1, v2, rfl⟩ := Joins.array3 (hsz.trans hC)
  obtain ⟨fuel, hf⟩ := hd
  obtain ⟨xs, m, _, ex, _, hl, hel⟩ := DataW.trod_array ht hf
  match xs, hl with
  | [x0, x1, x2], _ =>
    have k0 := hel 0 (by omega); have k1 := hel 1 (by omega); have k2 := hel 2 (by omega)
    rw [hc] at k0 k1 k2
    obtain ⟨a, a0, a1, wa⟩ := DataW.trod_string he k0
    obtain ⟨b, b0, b1, wb⟩ := DataW.trod_string he k1
    obtain ⟨c, c0, c1, wc⟩ := DataW.trod_string he k2
    simp [Value.cells] at a0 b0 c0
    subst a0 b0 c0 a1 b1 c1
    simp only [Prod.mk.injEq] at ex
    exact ⟨a, b, c, rfl, ex.1, ex.2, wa, wb, wc⟩
theorem shut_strings3 {w : World} {base : Nat} {sp : Nat → Bool} {held : Bool} {t e : TypeId} {a b c : ByteArray} (ht : P.underlying t = some (.array 3 e)) (he : P.underlying e = some .string) (hc : P.cellsOf e = 1) (hC : P.cellsOf t = 3)
    (ha : a.size ≤ maxLen) (hb : b.size ≤ maxLen) (hcs : c.size ≤ maxLen) :
    DataW.Trod enc P w base sp held t (.agg #[.string a, .string b, .string c]) (.agg [.lit (.string a.data.toList), .lit (.string b.data.toList), .lit (.string c.data.toList)]) [] :=
  ⟨2, by simp [DataW.trod, Value.cells, ht, he, hc, hC, ha, hb, hcs, List.range, List.range.loop]⟩
end

end Go.Proofs.YtmfonbpdjphikaaDoor
