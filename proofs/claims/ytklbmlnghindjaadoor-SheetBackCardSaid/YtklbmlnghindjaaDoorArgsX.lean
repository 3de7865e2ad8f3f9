/- Parameters that are slices of records: opened; shut again by Below.trod. -/
import Derived.Test.YtklbmlnghindjaaDoorArgs
import Derived.Test.YtklbmlnghindjaaDoorStr2
import Derived.Test.YtklbmlnghindjaaDoorShM
import Derived.Deep.Slices
namespace Go.Proofs.YtklbmlnghindjaaDoor
set_option maxRecDepth 100000
open Go.RowKit Go.ChangeShapes Go.WideShapes Go.ChangeAt

instance : Inhabited Rc := ⟨⟨0, 0, 0⟩⟩

section
variable {H : Type} {enc : TypeId × Value → H} {P : Program} {w : World} {base : Nat} {sp : Nat → Bool} {held : Bool}
theorem open_rec {e : TypeId} {g0 g1 g2 : Field} {fuel : Nat} {cs : List Value} {x : DataW H × List MemPlace}
    (h4 : P.underlying e = some (.struct #[g0, g1, g2])) (hC : P.cellsOf e = 3) (go : g0.offset = 0 ∧ g1.offset = 1 ∧ g2.offset = 2) (gc : P.cellsOf g0.type = 1 ∧ P.cellsOf g1.type = 1 ∧ P.cellsOf g2.type = 1)
    (k0 : P.underlying g0.type = some (.int .i64)) (k1 : P.underlying g1.type = some (.int .i64)) (k2 : P.underlying g2.type = some (.int .i64))
    (h : DataW.trod enc P w base sp held fuel e cs = some x) : ∃ A : Rc, cs = A.cells := by
  obtain ⟨us, m2, _, _, hl, hlu, hu⟩ := DataW.trod_struct h4 h
  have hl4 : us.length = 3 := by simpa using hlu
  have hc4 : cs.length = 3 := hl.trans hC
  obtain ⟨c0, c1, c2, rfl⟩ : ∃ a b c, cs = [a, b, c] := by
    match cs, hc4 with
    | [a, b, c], _ => exact ⟨a, b, c, rfl⟩
  obtain ⟨q0, q1, q2⟩ := go
  obtain ⟨r0, r1, r2⟩ := gc
  have u0 := hu 0 g0 rfl
  rw [q0, r0, List.getElem?_eq_getElem (by omega)] at u0
  obtain ⟨t0, v0, _⟩ := DataW.trod_int k0 u0
  have u1 := hu 1 g1 rfl
  rw [q1, r1, List.getElem?_eq_getElem (by omega)] at u1
  obtain ⟨t1, v1, _⟩ := DataW.trod_int k1 u1
  have u2 := hu 2 g2 rfl
  rw [q2, r2, List.getElem?_eq_getElem (by omega)] at u2
  obtain ⟨t2, v2, _⟩ := DataW.trod_int k2 u2
  simp at v0 v1 v2
  exact ⟨⟨t0, t1, t2⟩, by rw [v0, v1, v2]; rfl⟩
end

theorem open_recs {H : Type} {enc : TypeId × Value → H} {w : World} {base : Nat} {r : Go.Reach} {b0 : Nat} {v : Value} {d : DataW H} {ps : List MemPlace}
    (hval : Value.okWide Tryd.prog w r b0 24 v) (hd : DataW.Trod enc Tryd.prog w base (fun _ => true) true 24 v d ps) :
    ∃ (oa : Option Addr) (cap : Nat) (l : List Rc), v = .slice oa l.length cap ∧ (l.length ≤ cap ∧ cap ≤ maxLen) ∧ XsAt w oa l := by
  have hu := Tryd.underlying32
  have hC : Tryd.prog.cellsOf 32 = 3 := by kernel_rfl
  obtain ⟨a0, len, cap, rfl⟩ := okWide_slice Tryd.underlying24 hval
  obtain ⟨fuel, hf⟩ := hd
  rcases Deep.open_slice Tryd.underlying24 hf with ⟨hcs, _⟩ | ⟨a, len', cap', m, n, D, Pl, hcs, _, hl, hm, hmm, _, hx⟩
  · simp [Value.cells] at hcs
    obtain ⟨rfl, rfl, rfl⟩ := hcs
    exact ⟨none, 0, [], rfl, ⟨Nat.zero_le _, Nat.zero_le _⟩, XsAt.nil _ _⟩
  · simp [Value.cells] at hcs
    obtain ⟨rfl, rfl, rfl⟩ := hcs
    simp only [if_true] at hmm
    have each : ∀ i, i < len → ∃ A : Rc, ∀ t, t < 3 → w.cell? ((a.add (i * 3)).add t) = (A.cells)[t]? := by
      intro i hi
      obtain ⟨cs', h1, h2⟩ := hx i (by omega)
      rw [hC] at h1
      obtain ⟨_, hlen, hcell⟩ := World.cells?_some h1
      obtain ⟨A, hA⟩ : ∃ A : Rc, cs' = A.cells := open_rec hu hC ⟨rfl, rfl, rfl⟩ ⟨by kernel_rfl, by kernel_rfl, by kernel_rfl⟩ Tryd.underlying3 Tryd.underlying3 Tryd.underlying3 h2
      subst hA
      exact ⟨A, fun t ht => hcell t ht⟩
    obtain ⟨f, hf2⟩ := Deep.choose_lt each
    refine ⟨some a, cap, (List.range len).map f, by simp, ⟨by simp; omega, by omega⟩, fun hne => ?_⟩
    have hlen : 0 < len := by
      rcases Nat.eq_zero_or_pos len with h | h
      · subst h; simp at hne
      · exact h
    obtain ⟨b, off, spot⟩ := a
    have h00 : w.cell? (((⟨b, off, spot⟩ : Addr).add (0 * 3)).add 0) = some (.int .i64 (f 0).k) := hf2 0 hlen 0 (by omega)
    have hspot : spot = none := by simpa [Addr.add] using World.cell?_spot h00
    subst hspot
    refine ⟨b, off, rfl, ?_, fun i hi j v hj => ?_⟩
    · have := cell_lt h00
      rwa [add_block, add_block] at this
    · have hi2 : i < len := by simpa using hi
      have hj4 : j < 3 := (List.getElem?_eq_some_iff.1 hj).1
      have h := hf2 i hi2 j hj4
      rw [Addr.add_lit, Addr.add_lit] at h
      rw [h]
      simpa using hj

/-- how many there are, by the reading -/
theorem recs_len {H : Type} {enc : TypeId × Value → H} {w : World} {base : Nat} {v : Value} {d : DataW H} {ps : List MemPlace} {oa : Option Addr} {n cap : Nat}
    (hd : DataW.Trod enc Tryd.prog w base (fun _ => true) true 24 v d ps) (hv : v = .slice oa n cap) : n = 0 ∨ ∃ el sp, d = .slice el sp ∧ el.length = n := by
  subst hv
  obtain ⟨fuel, hf⟩ := hd
  rcases Deep.open_slice Tryd.underlying24 hf with ⟨hcs, _⟩ | ⟨a, len', cap', m, k, D, Pl, hcs, _, _, _, _, hx, _⟩
  · simp [Value.cells] at hcs
    exact Or.inl hcs.2.1
  · simp [Value.cells] at hcs
    obtain ⟨rfl, rfl, rfl⟩ := hcs
    exact Or.inr ⟨_, _, (Prod.mk.inj hx).1, by simp⟩

end Go.Proofs.YtklbmlnghindjaaDoor
