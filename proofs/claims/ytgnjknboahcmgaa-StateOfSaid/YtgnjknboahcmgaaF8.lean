/- Texts of one claim, merged: ArgsX, ArgsZ, ArgsW. -/
import Derived.Test.YtgnjknboahcmgaaF7
import Derived.Test.YtgnjknboahcmgaaF1
import Derived.Deep.Slices
import Derived.SizedLaws

/- Parameters that are slices of records: opened; shut again by Below.trod. -/
namespace Go.Proofs.Ytgnjknboahcmgaa
set_option maxRecDepth 100000
open Go.RowKit Go.ChangeShapes Go.WideShapes Go.ChangeAt

instance : Inhabited Rc := ⟨⟨0, 0, 0⟩⟩

section
variable {H : Type} {enc : TypeId × Value → H} {P : Program} {w : World} {base : Nat} {sp : Nat → Bool} {held : Bool}
theorem open_rec {e : TypeId} {g0 g1 g2 : Field} {fuel : Nat} {cs : List Value} {x : DataW H × List MemPlace}
    (h4 : P.underlying e = some (.struct #[g0, g1, g2])) (hC : P.cellsOf e = 3) (go : g0.offset = 0 ∧ g1.offset = 1 ∧ g2.offset = 2) (gc : P.cellsOf g0.type = 1 ∧ P.cellsOf g1.type = 1 ∧ P.cellsOf g2.type = 1)
    (k0 : P.underlying g0.type = some (.int .i64)) (k1 : P.underlying g1.type = some (.int .i64)) (k2 : P.underlying g2.type = some (.int .i64))
    (h : DataW.trod enc P w base sp held fuel e cs = some x) : ∃ A : Rc, cs = A.cells := by
  obtain ⟨us, m2, _, _, hl, hlu, hu⟩ := DataW.trod_struct h4 h
  have hl4 : us.length = 3 := by simpa using hlu
  have hc4 : cs.length = 3 := hl.trans hC
  obtain ⟨c0, c1, c2, rfl⟩ : ∃ a b c, cs = [a, b, c] := by
    match cs, hc4 with
    | [a, b, c], _ => exact ⟨a, b, c, rfl⟩
  obtain ⟨q0, q1, q2⟩ := go
  obtain ⟨r0, r1, r2⟩ := gc
  have u0 := hu 0 g0 rfl
  rw [q0, r0, List.getElem?_eq_getElem (by omega)] at u0
  obtain ⟨t0, v0, _⟩ := DataW.trod_int k0 u0
  have u1 := hu 1 g1 rfl
  rw [q1, r1, List.getElem?_eq_getElem (by omega)] at u1
  obtain ⟨t1, v1, _⟩ := DataW.trod_int k1 u1
  have u2 := hu 2 g2 rfl
  rw [q2, r2, List.getElem?_eq_getElem (by omega)] at u2
  obtain ⟨t2, v2, _⟩ := DataW.trod_int k2 u2
  simp at v0 v1 v2
  exact ⟨⟨t0, t1, t2⟩, by rw [v0, v1, v2]; rfl⟩
end

theorem open_recs {H : Type} {enc : TypeId × Value → H} {w : World} {base : Nat} {r : Go.Reach} {b0 : Nat} {v : Value} {d : DataW H} {ps : List MemPlace}
    (hval : Value.okWide Try.prog w r b0 24 v) (hd : DataW.Trod enc Try.prog w base (fun _ => true) true 24 v d ps) :
    ∃ (oa : Option Addr) (cap : Nat) (l : List Rc), v = .slice oa l.length cap ∧ (l.length ≤ cap ∧ cap ≤ maxLen) ∧ XsAt w oa l := by
  have hu := Try.underlying37
  have hC : Try.prog.cellsOf 37 = 3 := by kernel_rfl
  obtain ⟨a0, len, cap, rfl⟩ := okWide_slice Try.underlying24 hval
  obtain ⟨fuel, hf⟩ := hd
  rcases Deep.open_slice Try.underlying24 hf with ⟨hcs, _⟩ | ⟨a, len', cap', m, n, D, Pl, hcs, _, hl, hm, hmm, _, hx⟩
  · simp [Value.cells] at hcs
    obtain ⟨rfl, rfl, rfl⟩ := hcs
    exact ⟨none, 0, [], rfl, ⟨Nat.zero_le _, Nat.zero_le _⟩, XsAt.nil _ _⟩
  · simp [Value.cells] at hcs
    obtain ⟨rfl, rfl, rfl⟩ := hcs
    simp only [if_true] at hmm
    have each : ∀ i, i < len → ∃ A : Rc, ∀ t, t < 3 → w.cell? ((a.add (i * 3)).add t) = (A.cells)[t]? := by
      intro i hi
      obtain ⟨cs', h1, h2⟩ := hx i (by omega)
      rw [hC] at h1
      obtain ⟨_, hlen, hcell⟩ := World.cells?_some h1
      obtain ⟨A, hA⟩ : ∃ A : Rc, cs' = A.cells := open_rec hu hC ⟨rfl, rfl, rfl⟩ ⟨by kernel_rfl, by kernel_rfl, by kernel_rfl⟩ Try.underlying3 Try.underlying3 Try.underlying3 h2
      subst hA
      exact ⟨A, fun t ht => hcell t ht⟩
    obtain ⟨f, hf2⟩ := Deep.choose_lt each
    refine ⟨some a, cap, (List.range len).map f, by simp, ⟨by simp; omega, by omega⟩, fun hne => ?_⟩
    have hlen : 0 < len := by
      rcases Nat.eq_zero_or_pos len with h | h
      · subst h; simp at hne
      · exact h
    obtain ⟨b, off, spot⟩ := a
    have h00 : w.cell? (((⟨b, off, spot⟩ : Addr).add (0 * 3)).add 0) = some (.int .i64 (f 0).k) := hf2 0 hlen 0 (by omega)
    have hspot : spot = none := by simpa [Addr.add] using World.cell?_spot h00
    subst hspot
    refine ⟨b, off, rfl, ?_, fun i hi j v hj => ?_⟩
    · have := cell_lt h00
      rwa [add_block, add_block] at this
    · have hi2 : i < len := by simpa using hi
      have hj4 : j < 3 := (List.getElem?_eq_some_iff.1 hj).1
      have h := hf2 i hi2 j hj4
      rw [Addr.add_lit, Addr.add_lit] at h
      rw [h]
      simpa using hj

end Go.Proofs.Ytgnjknboahcmgaa

/- Parameters that are what is durable (a struct of four slices of numbers): opened; shut again by Below.trod. -/
namespace Go.Proofs.Ytgnjknboahcmgaa
set_option maxRecDepth 100000
open Go.RowKit Go.ChangeShapes Go.WideShapes Go.ChangeAt

theorem open_iv {H : Type} {enc : TypeId × Value → H} {P : Program} {w : World} {base : Nat} {t e : TypeId} {fuel : Nat} {cs : List Value} {x : DataW H × List MemPlace} (ht : P.underlying t = some (.slice e)) (he : P.underlying e = some (.int .i64)) (hc : P.cellsOf e = 1)
    (hf : DataW.trod enc P w base (fun _ => true) true fuel t cs = some x) : ∃ (v : Value) (l : List Int), cs = [v] ∧ IvAt w v l := by
  rcases open_ints ht he hc hf with ⟨hcs, _⟩ | ⟨a, len', cap', zs, hcs, _, hl, hm, hz, _, hcell, hwz⟩
  · exact ⟨_, [], hcs, none, 0, rfl, ⟨Nat.zero_le _, Nat.zero_le _⟩, IsAt.nil _ _⟩
  · simp only [if_true] at hz
    have hlen : (zs.take len').length = len' := by rw [List.length_take]; omega
    refine ⟨_, zs.take len', hcs, some a, cap', by rw [hlen], ⟨by omega, by omega⟩, fun hne => ?_⟩
    have h0 : 0 < len' := by
      rcases Nat.eq_zero_or_pos len' with h | h
      · subst h; simp at hne
      · exact h
    obtain ⟨b, off, spot⟩ := a
    have h00 := hcell 0 (by omega)
    have hspot : spot = none := by simpa [Addr.add] using World.cell?_spot h00
    subst hspot
    refine ⟨b, off, rfl, ?_, fun i hi => ?_⟩
    · have := cell_lt h00
      rwa [add_block] at this
    · have hi2 : i < len' := by omega
      have h := hcell i (by omega)
      rw [Addr.add_lit] at h
      rw [h]
      simp [List.getD, show i < zs.length by omega]

theorem open_state {H : Type} {enc : TypeId × Value → H} {w : World} {base : Nat} {r : Go.Reach} {b0 : Nat} {v : Value} {d : DataW H} {ps : List MemPlace}
    (hval : Value.okWide Try.prog w r b0 32 v) (hd : DataW.Trod enc Try.prog w base (fun _ => true) true 32 v d ps) : ∃ (A : Array Value) (x : Sn), v = .agg A ∧ SnAt w A x := by
  have hs := Try.underlying32
  obtain ⟨cs, rfl, hsz⟩ := okWide_struct hs hval
  obtain ⟨fuel, hf⟩ := hd
  obtain ⟨xs, n, _, _, hl, hlen, hx⟩ := DataW.trod_struct hs hf
  have hcs : cs.size = 4 := hsz.trans (by kernel_rfl)
  have hl4 : xs.length = 4 := hlen
  have hc : Try.prog.cellsOf 30 = 1 := by kernel_rfl
  obtain ⟨c0, c1, c2, c3, hcl⟩ : ∃ a b c d, cs.toList = [a, b, c, d] := by
    have hll : cs.toList.length = 4 := by rw [Array.length_toList]; exact hcs
    generalize cs.toList = l at hll
    match l, hll with
    | [a, b, c, d], _ => exact ⟨a, b, c, d, rfl⟩
  have hcells : (Value.agg cs).cells.toList = [c0, c1, c2, c3] := hcl
  rw [hcells] at hx
  have e0 := hx 0 _ rfl
  have e1 := hx 1 _ rfl
  have e2 := hx 2 _ rfl
  have e3 := hx 3 _ rfl
  change DataW.trod _ _ _ _ _ _ _ 30 (List.take (Try.prog.cellsOf 30) (List.drop 0 [c0, c1, c2, c3])) = _ at e0
  change DataW.trod _ _ _ _ _ _ _ 30 (List.take (Try.prog.cellsOf 30) (List.drop 1 [c0, c1, c2, c3])) = _ at e1
  change DataW.trod _ _ _ _ _ _ _ 30 (List.take (Try.prog.cellsOf 30) (List.drop 2 [c0, c1, c2, c3])) = _ at e2
  change DataW.trod _ _ _ _ _ _ _ 30 (List.take (Try.prog.cellsOf 30) (List.drop 3 [c0, c1, c2, c3])) = _ at e3
  rw [hc] at e0 e1 e2 e3
  rw [List.getElem?_eq_getElem (by omega)] at e0 e1 e2 e3
  obtain ⟨v0, l0, h0, i0⟩ := open_iv Try.underlying30 Try.underlying3 (by kernel_rfl) e0
  obtain ⟨v1, l1, h1, i1⟩ := open_iv Try.underlying30 Try.underlying3 (by kernel_rfl) e1
  obtain ⟨v2, l2, h2, i2⟩ := open_iv Try.underlying30 Try.underlying3 (by kernel_rfl) e2
  obtain ⟨v3, l3, h3, i3⟩ := open_iv Try.underlying30 Try.underlying3 (by kernel_rfl) e3
  simp at h0 h1 h2 h3
  subst h0 h1 h2 h3
  refine ⟨cs, ⟨l0, l1, l2, l3⟩, rfl, c0, c1, c2, c3, ?_, i0, i1, i2, i3⟩
  apply Array.toList_inj.1
  exact hcl

end Go.Proofs.Ytgnjknboahcmgaa

/- Parameters that are what is durable: how many numbers they may have (the form's own reach). -/
namespace Go.Proofs.Ytgnjknboahcmgaa
set_option maxRecDepth 100000
open Go.RowKit Go.ChangeShapes Go.WideShapes Go.ChangeAt

theorem ints_len {H : Type} {enc : TypeId × Value → H} {w : World} {base : Nat} {fuel : Nat} {oa : Option Addr} {n cap : Nat} {x : DataW H × List MemPlace}
    (hf : DataW.trod enc Try.prog w base (fun _ => true) true fuel 30 [.slice oa n cap] = some x) : n = 0 ∨ ∃ el sp, x.1 = .slice el sp ∧ el.length = n := by
  rcases Deep.open_slice Try.underlying30 hf with ⟨hcs, _⟩ | ⟨a, len', cap', m, k, D, Pl, hcs, _, _, _, _, hx, _⟩
  · simp at hcs
    exact Or.inl hcs.2.1
  · simp at hcs
    obtain ⟨rfl, rfl, rfl⟩ := hcs
    exact Or.inr ⟨_, _, congrArg Prod.fst hx, by simp⟩
theorem state_reach {H : Type} {enc : TypeId × Value → H} {w : World} {base : Nat} {A : Array Value} {x : Sn} {d : DataW H} {ps : List MemPlace}
    (hd : DataW.Trod enc Try.prog w base (fun _ => true) true 32 (.agg A) d ps) (hA : SnAt w A x) (hz : ∀ n ∈ d.weights Try.prog 32, n ≤ reachBytes) :
    x.f.length ≤ 17592186043904 ∧ x.c.length ≤ 17592186043904 ∧ x.s.length ≤ 17592186043904 ∧ x.t.length ≤ 17592186043904 := by
  have hs := Try.underlying32
  obtain ⟨vf, vc, vs, vt, rfl, ⟨oa0, c0, rfl, _⟩, ⟨oa1, c1, rfl, _⟩, ⟨oa2, c2, rfl, _⟩, ⟨oa3, c3, rfl, _⟩⟩ := hA
  obtain ⟨fuel, hf⟩ := hd
  obtain ⟨xs, n, _, hxd, hl, hlen, hx⟩ := DataW.trod_struct hs hf
  have hl4 : xs.length = 4 := hlen
  have hc : Try.prog.cellsOf 30 = 1 := by kernel_rfl
  have hbytes : Try.prog.bytesOf 3 = 8 := by kernel_rfl
  have hde : d = .agg (xs.map (·.1)) := congrArg Prod.fst hxd
  have key : ∀ (i : Nat) (oa : Option Addr) (m cap : Nat), i < 4 → (Value.agg #[.slice oa0 x.f.length c0, .slice oa1 x.c.length c1, .slice oa2 x.s.length c2, .slice oa3 x.t.length c3]).cells.toList[i]? = some (.slice oa m cap) → m ≤ 17592186043904 := by
    intro i oa m cap hi hv
    have hfi : DataW.trod enc Try.prog w base (fun _ => true) true n 30 [.slice oa m cap] = xs[i]? := by
      match i, hi with
      | 0, _ =>
        have e := hx 0 _ rfl
        change DataW.trod _ _ _ _ _ _ _ 30 (List.take (Try.prog.cellsOf 30) (List.drop 0 _)) = _ at e
        rw [hc] at e
        cases hv
        exact e
      | 1, _ =>
        have e := hx 1 _ rfl
        change DataW.trod _ _ _ _ _ _ _ 30 (List.take (Try.prog.cellsOf 30) (List.drop 1 _)) = _ at e
        rw [hc] at e
        cases hv
        exact e
      | 2, _ =>
        have e := hx 2 _ rfl
        change DataW.trod _ _ _ _ _ _ _ 30 (List.take (Try.prog.cellsOf 30) (List.drop 2 _)) = _ at e
        rw [hc] at e
        cases hv
        exact e
      | 3, _ =>
        have e := hx 3 _ rfl
        change DataW.trod _ _ _ _ _ _ _ 30 (List.take (Try.prog.cellsOf 30) (List.drop 3 _)) = _ at e
        rw [hc] at e
        cases hv
        exact e
    rw [List.getElem?_eq_getElem (by omega)] at hfi
    rcases ints_len hfi with h0 | ⟨el, sp, hel, hel2⟩
    · omega
    · have hp : (xs.map (·.1))[i]? = some (.slice el sp) := by rw [List.getElem?_map, List.getElem?_eq_getElem (by omega)]; exact congrArg some hel
      have hw : (el.length + sp.length) * Try.prog.bytesOf 3 ≤ reachBytes := by
        refine hz _ ?_
        rw [hde]
        simp only [DataW.weights, hs]
        refine DataW.weights_mem_each (j := i) (t := 30) ?_ hp _ ?_
        · match i, hi with
          | 0, _ => rfl
          | 1, _ => rfl
          | 2, _ => rfl
          | 3, _ => rfl
        · simp [DataW.weights, Try.underlying30]
      rw [hbytes, show reachBytes = 140737488351232 from rfl] at hw
      omega
  exact ⟨key 0 _ _ _ (by omega) rfl, key 1 _ _ _ (by omega) rfl, key 2 _ _ _ (by omega) rfl, key 3 _ _ _ (by omega) rfl⟩

end Go.Proofs.Ytgnjknboahcmgaa
