/- Texts of one claim, merged: ArgsA. -/
import Derived.Test.YtjmoecfgpfdncaaGreatDoorM1
import Derived.Test.YtjmoecfgpfdncaaGreatDoorM14
import Derived.Deep.Slices

/- Parameters that are slices of acts: opened; shut again by Below.trod. The laws' walks as these take them. -/
namespace Go.Proofs.YtjmoecfgpfdncaaGreatDoor
set_option maxRecDepth 100000
open Go.RowKit Go.ChangeShapes Go.WideShapes Go.ChangeAt

section
variable {H : Type} {enc : TypeId × Value → H} {P : Program} {w : World} {base : Nat} {sp : Nat → Bool} {held : Bool}
theorem list10 {α : Type} {l : List α} (h : l.length = 10) : ∃ a b c d e f g i j k, l = [a, b, c, d, e, f, g, i, j, k] := by
  match l, h with
  | [a, b, c, d, e, f, g, i, j, k], _ => exact ⟨a, b, c, d, e, f, g, i, j, k, rfl⟩
/-- an act's cells -/
theorem open_act {e : TypeId} {f0 f1 f2 f3 f4 g0 g1 g2 g3 : Field} {s : TypeId} {fuel : Nat} {cs : List Value} {x : DataW H × List MemPlace}
    (he : P.underlying e = some (.struct #[f0, f1, f2, f3, f4])) (hC : P.cellsOf e = 10)
    (ho : f0.offset = 0 ∧ f1.offset = 1 ∧ f2.offset = 2 ∧ f3.offset = 3 ∧ f4.offset = 6) (hc : P.cellsOf f0.type = 1 ∧ P.cellsOf f1.type = 1 ∧ P.cellsOf f2.type = 1 ∧ P.cellsOf f3.type = 3 ∧ P.cellsOf f4.type = 4)
    (h0 : P.underlying f0.type = some (.int .i64)) (h1 : P.underlying f1.type = some (.int .i64)) (h2 : P.underlying f2.type = some (.int .i64)) (h3 : P.underlying f3.type = some (.array 3 s)) (hs : P.underlying s = some .string) (hsc : P.cellsOf s = 1)
    (h4 : P.underlying f4.type = some (.struct #[g0, g1, g2, g3])) (go : g0.offset = 0 ∧ g1.offset = 1 ∧ g2.offset = 2 ∧ g3.offset = 3) (gc : P.cellsOf g0.type = 1 ∧ P.cellsOf g1.type = 1 ∧ P.cellsOf g2.type = 1 ∧ P.cellsOf g3.type = 1)
    (k0 : P.underlying g0.type = some (.int .i64)) (k1 : P.underlying g1.type = some (.int .i64)) (k2 : P.underlying g2.type = some (.int .i64)) (k3 : P.underlying g3.type = some (.int .i64))
    (h : DataW.trod enc P w base sp held fuel e cs = some x) : ∃ A : ActS, cs = (actv A).toList := by
  obtain ⟨xs, n, _, _, hl, hlen, hx⟩ := DataW.trod_struct he h
  have hl10 : cs.length = 10 := hl.trans hC
  obtain ⟨a, b, c, d, e', f, g, i, j, k, rfl⟩ := list10 hl10
  have hl5 : xs.length = 5 := by simpa using hlen
  obtain ⟨o0, o1, o2, o3, o4⟩ := ho
  obtain ⟨c0, c1, c2, c3, c4⟩ := hc
  obtain ⟨q0, q1, q2, q3⟩ := go
  obtain ⟨r0, r1, r2, r3⟩ := gc
  have e0 := hx 0 f0 rfl
  rw [o0, c0, List.getElem?_eq_getElem (by omega)] at e0
  obtain ⟨n0, z0, _⟩ := DataW.trod_int h0 e0
  have e1 := hx 1 f1 rfl
  rw [o1, c1, List.getElem?_eq_getElem (by omega)] at e1
  obtain ⟨n1, z1, _⟩ := DataW.trod_int h1 e1
  have e2 := hx 2 f2 rfl
  rw [o2, c2, List.getElem?_eq_getElem (by omega)] at e2
  obtain ⟨n2, z2, _⟩ := DataW.trod_int h2 e2
  have e3 := hx 3 f3 rfl
  rw [o3, c3, List.getElem?_eq_getElem (by omega)] at e3
  obtain ⟨ys, m, _, _, _, hly, hy⟩ := DataW.trod_array h3 e3
  have y0 := hy 0 (by omega)
  have y1 := hy 1 (by omega)
  have y2 := hy 2 (by omega)
  rw [hsc, List.getElem?_eq_getElem (by omega)] at y0 y1 y2
  obtain ⟨p, zp, _⟩ := DataW.trod_string hs y0
  obtain ⟨q, zq, _⟩ := DataW.trod_string hs y1
  obtain ⟨r, zr, _⟩ := DataW.trod_string hs y2
  have e4 := hx 4 f4 rfl
  rw [o4, c4, List.getElem?_eq_getElem (by omega)] at e4
  obtain ⟨us, m2, _, _, _, hlu, hu⟩ := DataW.trod_struct h4 e4
  have hl4 : us.length = 4 := by simpa using hlu
  have u0 := hu 0 g0 rfl
  rw [q0, r0, List.getElem?_eq_getElem (by omega)] at u0
  obtain ⟨t0, v0, _⟩ := DataW.trod_int k0 u0
  have u1 := hu 1 g1 rfl
  rw [q1, r1, List.getElem?_eq_getElem (by omega)] at u1
  obtain ⟨t1, v1, _⟩ := DataW.trod_int k1 u1
  have u2 := hu 2 g2 rfl
  rw [q2, r2, List.getElem?_eq_getElem (by omega)] at u2
  obtain ⟨t2, v2, _⟩ := DataW.trod_int k2 u2
  have u3 := hu 3 g3 rfl
  rw [q3, r3, List.getElem?_eq_getElem (by omega)] at u3
  obtain ⟨t3, v3, _⟩ := DataW.trod_int k3 u3
  simp at z0 z1 z2 zp zq zr v0 v1 v2 v3
  exact ⟨⟨n0, n1, n2, p, q, r, t0, t1, t2, t3⟩, by rw [z0, z1, z2, zp, zq, zr, v0, v1, v2, v3]; rfl⟩
end

theorem open_acts {H : Type} {enc : TypeId × Value → H} {w : World} {base : Nat} {r : Reach} {b0 : Nat} {v : Value} {d : DataW H} {ps : List MemPlace}
    (hval : Value.okWide Tryz.prog w r b0 22 v) (hd : DataW.Trod enc Tryz.prog w base (fun _ => true) true 22 v d ps) :
    ∃ (oa : Option Addr) (cap : Nat) (l : List ActS), v = .slice oa l.length cap ∧ l.length ≤ maxLen ∧ ActsArg w oa l := by
  have hu := Tryz.underlying40
  have hC : Tryz.prog.cellsOf 40 = 10 := by kernel_rfl
  obtain ⟨a0, len, cap, rfl⟩ := okWide_slice Tryz.underlying22 hval
  obtain ⟨fuel, hf⟩ := hd
  rcases Deep.open_slice Tryz.underlying22 hf with ⟨hcs, _⟩ | ⟨a, len', cap', m, n, D, Pl, hcs, _, hl, hm, hmm, _, hx⟩
  · simp [Value.cells] at hcs
    obtain ⟨rfl, rfl, rfl⟩ := hcs
    exact ⟨none, 0, [], rfl, Nat.zero_le _, fun i hi => absurd hi (Nat.not_lt_zero i)⟩
  · simp [Value.cells] at hcs
    obtain ⟨rfl, rfl, rfl⟩ := hcs
    simp only [if_true] at hmm
    have each : ∀ i, i < len → ∃ A : ActS, a.block < w.heap.size ∧ ∀ t, t < 10 → w.cell? ((a.add (i * 10)).add t) = (actv A)[t]? := by
      intro i hi
      obtain ⟨cs', h1, h2⟩ := hx i (by omega)
      rw [hC] at h1
      obtain ⟨_, hlen, hcell⟩ := World.cells?_some h1
      obtain ⟨A, hA⟩ : ∃ A : ActS, cs' = (actv A).toList := open_act hu hC ⟨rfl, rfl, rfl, rfl, rfl⟩ ⟨by kernel_rfl, by kernel_rfl, by kernel_rfl, by kernel_rfl, by kernel_rfl⟩ Tryz.underlying3 Tryz.underlying3 Tryz.underlying3 Tryz.underlying36 Tryz.underlying9 (by kernel_rfl) Tryz.underlying38 ⟨rfl, rfl, rfl, rfl⟩ ⟨by kernel_rfl, by kernel_rfl, by kernel_rfl, by kernel_rfl⟩ Tryz.underlying3 Tryz.underlying3 Tryz.underlying3 Tryz.underlying3 h2
      subst hA
      have h0 := hcell 0 (by omega)
      refine ⟨A, ?_, fun t ht => ?_⟩
      · have h5 : w.cell? ((a.add (i * 10)).add 0) = some (.int .i64 A.kd) := h0
        have := cell_lt h5
        rwa [add_block, add_block] at this
      · rw [hcell t ht, Array.getElem?_toList]
    have : Inhabited ActS := ⟨⟨0, 0, 0, ByteArray.empty, ByteArray.empty, ByteArray.empty, 0, 0, 0, 0⟩⟩
    obtain ⟨f, hf2⟩ := Deep.choose_lt each
    refine ⟨some a, cap, (List.range len).map f, by simp, by simp; omega, fun i hi => ?_⟩
    have hi2 : i < len := by simpa using hi
    have h := hf2 i hi2
    refine ⟨a, rfl, h.1, fun t ht => ?_⟩
    rw [h.2 t ht]
    simp

/-- the laws, as they are taken -/
theorem walkw_CellPlays (ln by' : Int) (oa : Option Addr) (cap : Nat) (l : List ActS) (_ : (Lit.int .i64 ln).wf = true) (_ : (Lit.int .i64 by').wf = true) (hl : l.length ≤ maxLen) (w : World) (hT : Tabs w) (ha : ActsArg w oa l) :
    Calls Tryz.prog 3 #[.int .i64 ln, .int .i64 by', .slice oa l.length cap] w fun e w' => e = .returned (.bool true) ∧ Below w.heap.size w w' := walk_CellPlays ln by' oa cap l hl w hT ha
theorem walkw_CellCopies (ln : Int) (oa : Option Addr) (cap : Nat) (l : List ActS) (ob : Option Addr) (cap2 : Nat) (l2 : List ActS) (_ : (Lit.int .i64 ln).wf = true) (hl : l.length ≤ maxLen) (hl2 : l2.length ≤ maxLen) (w : World) (hT : Tabs w) (ha : ActsArg w oa l) (ha2 : ActsArg w ob l2) :
    Calls Tryz.prog 4 #[.int .i64 ln, .slice oa l.length cap, .slice ob l2.length cap2] w fun e w' => e = .returned (.bool true) ∧ Below w.heap.size w w' := walk_CellCopies ln oa cap l ob cap2 l2 hl hl2 w hT ha ha2

end Go.Proofs.YtjmoecfgpfdncaaGreatDoor
