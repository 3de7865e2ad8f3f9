/- Package fault, walked: a row of faults of the call's own; slices.Clone; Without's closure. -/
import Derived.Test.YtbpkaegkcknemaaFaE
import Derived.Laws.AppendOwn
namespace Go.Proofs.Ytbpkaegkcknemaa
set_option maxRecDepth 100000
open Go.RowKit Go.Shelf Go.Proofs

/-- their cells, one behind the other -/
def flatF (l : List Fa) : List Value := l.flatMap encF
theorem flatF_len (l : List Fa) : (flatF l).length = l.length * 4 := by
  unfold flatF
  induction l with
  | nil => rfl
  | cons x r ih => rw [List.flatMap_cons, List.length_append, ih, encF_len, List.length_cons]; omega
theorem flatF_get : ∀ (l : List Fa) (i j : Nat) (hi : i < l.length), j < 4 → (flatF l)[i * 4 + j]? = (encF l[i])[j]?
  | [], i, j, hi, hj => absurd hi (Nat.not_lt_zero i)
  | x :: r, 0, j, hi, hj => by
    unfold flatF
    rw [List.flatMap_cons, List.getElem?_append_left (by rw [encF_len]; omega)]
    simp
  | x :: r, i + 1, j, hi, hj => by
    unfold flatF
    rw [List.flatMap_cons, List.getElem?_append_right (by rw [encF_len]; omega), encF_len, show (i + 1) * 4 + j - 4 = i * 4 + j by omega]
    exact flatF_get r i j (by simpa using hi) hj
theorem flatF_one (l : List Fa) : ∀ u ∈ flatF l, u.oneCell' = true := by
  intro u hu
  unfold flatF at hu
  rw [List.mem_flatMap] at hu
  obtain ⟨x, _, h⟩ := hu
  exact encF_one x u h
theorem flatF_app (l : List Fa) (x : Fa) : flatF (l ++ [x]) = flatF l ++ encF x := by
  unfold flatF; rw [List.flatMap_append]; simp

/-- block g holds these faults from its beginning on, and they may be written -/
def FRow (w : World) (g : Nat) (l : List Fa) : Prop := g < w.heap.size ∧ ∀ i (hi : i < l.length), w.rangeAt g (i * 4) (encF l[i]) ∧ w.there g (i * 4) 4
theorem FRow.keep {w w' : World} {g : Nat} {l : List Fa} (h : FRow w g l) (hg : w'.heap[g]? = w.heap[g]?) (hs : w.heap.size ≤ w'.heap.size) : FRow w' g l := by
  refine ⟨Nat.lt_of_lt_of_le h.1 hs, fun i hi => ?_⟩
  obtain ⟨h1, h2⟩ := h.2 i hi
  refine ⟨fun j v hj => ?_, fun j hj => ?_⟩
  · rw [World.cell?_of_block (w := w) hg]; exact h1 j v hj
  · rw [World.cell?_of_block (w := w) hg, World.frozen?_of_block (w := w) hg]; exact h2 j hj
theorem FRow.after {w w' : World} {g : Nat} {l : List Fa} (h : FRow w g l) (hb : Below w.heap.size w w') : FRow w' g l := h.keep (hb.block g h.1) hb.size
theorem size_setCellsF (b : Nat) : ∀ (vs : List Value) (o : Nat) (w : World), (w.setCells b o vs).heap.size = w.heap.size
  | [], _, _ => rfl
  | v :: r, o, w => by rw [World.setCells, size_setCellsF b r]; exact World.size_setCell _ _ _
theorem setCells_neF (b k : Nat) (hne : k ≠ b) : ∀ (vs : List Value) (o : Nat) (w : World), (w.setCells b o vs).heap[k]? = w.heap[k]?
  | [], _, _ => rfl
  | v :: r, o, w => by
    rw [World.setCells, setCells_neF b k hne r (o + 1) _]
    exact Below.heap_setCell _ _ _ _ hne
theorem FRow.set {w : World} {g : Nat} {l : List Fa} (h : FRow w g l) (i : Nat) (x : Fa) (hi : i < l.length) : FRow (w.setCells g (i * 4) (encF x)) g (l.set i x) := by
  refine ⟨by rw [size_setCellsF]; exact h.1, fun k hk => ?_⟩
  have hk' : k < l.length := by simpa using hk
  have ht : w.there g (i * 4) (encF x).length := (h.2 i hi).2
  refine ⟨?_, World.there_setCells (h.2 k hk').2 g (i * 4) (encF x)⟩
  by_cases e : i = k
  · subst e
    rw [List.getElem_set_self]
    exact World.rangeAt_setCells_same w g (i * 4) (encF x) ht
  · rw [List.getElem_set_ne e]
    refine World.rangeAt_setCells_apart (h.2 k hk').1 g (i * 4) (encF x) (Or.inr ?_)
    show k * 4 + 4 ≤ i * 4 ∨ i * 4 + 4 ≤ k * 4
    omega
theorem FRow.fs {w : World} {g : Nat} {l : List Fa} (h : FRow w g l) : FsAt w (some ⟨g, 0, none⟩) l :=
  fun _ => ⟨g, 0, rfl, h.1, fun i hi => by rw [Nat.zero_add]; exact (h.2 i hi).1⟩
theorem FRow.of_blk {w : World} {g : Nat} {cs : Array Value} {t : TypeId} {l : List Fa} (h : Blk w g cs t) (hc : cs.toList.take (l.length * 4) = flatF l) : FRow w g l := by
  have key : ∀ i j, (hi : i < l.length) → j < 4 → w.cell? ⟨g, i * 4 + j, none⟩ = (encF l[i])[j]? := by
    intro i j hi hj
    rw [h.cell, ← flatF_get l i j hi hj, ← hc, List.getElem?_take_of_lt (by omega)]
    simp
  refine ⟨h.lt, fun i hi => ⟨fun j v hv => ?_, fun j hj => ?_⟩⟩
  · have hj : j < 4 := (List.getElem?_eq_some_iff.1 hv).1
    rw [key i j hi hj]; exact hv
  · refine ⟨?_, h.free _⟩
    rw [key i j hi hj, List.getElem?_eq_getElem (by rw [encF_len]; exact hj)]; rfl

theorem infoFault : (Try.prog.info? 26).map (fun i => (i.zero, i.size, i.bytes)) = some (some (.agg (encF f0).toArray), 4, 32) := by kernel_rfl
theorem info_partsF {P : Program} {t : TypeId} {z : Option Value} {a b : Nat} (h : (P.info? t).map (fun i => (i.zero, i.size, i.bytes)) = some (z, a, b)) : ∃ i0, P.info? t = some i0 ∧ i0.zero = z ∧ i0.size = a ∧ i0.bytes = b := by
  cases hi : P.info? t with
  | none => rw [hi] at h; cases h
  | some i0 =>
    rw [hi] at h
    simp at h
    exact ⟨i0, rfl, h.1, h.2.1, h.2.2⟩

/-- a slice of the call's own: nil, or a row in a new block -/
def OwnF (w0 w : World) (v : Value) (l : List Fa) : Prop := (v = .slice none 0 0 ∧ l = []) ∨ ∃ g cap, v = .slice (some ⟨g, 0, none⟩) l.length cap ∧ w0.heap.size ≤ g ∧ l.length ≤ cap ∧ FRow w g l

set_option maxHeartbeats 1000000 in
theorem fa_clone (oa : Option Addr) (cap : Nat) (l : List Fa) (hl : l.length ≤ 1000000) (w : World) (ha : FsAt w oa l) :
    Calls Try.prog 27 #[.slice oa l.length cap] w fun e w' => ∃ v, e = .returned v ∧ OwnF w w' v l ∧ Below w.heap.size w w' := by
  cases oa with
  | none =>
    have h0 : l = [] := by
      apply Classical.byContradiction
      intro h
      obtain ⟨b, off, hc, _⟩ := ha h
      cases hc
    subst h0
    have h := AnyE.slices_Clone_nil Try.clone 0 cap w
    refine Calls.mono (P := Try.prog) (f := 27) h ?_
    rintro e w' ⟨rfl, rfl⟩
    exact ⟨_, rfl, Or.inl ⟨rfl, rfl⟩, Below.refl _ _⟩
  | some a =>
    obtain ⟨i0, hi, hz0, hz1, hz2⟩ := info_partsF infoFault
    have q : ∀ w, Sem.run Try.prog (binOp .eql 22 (.slice (some a) l.length cap) (.slice none 0 0)) w = .ok (.bool false) w := fun w => Lib.run_eql_slice_nil w _ 26 _ l.length cap 0 0 Try.underlying22
    have HCL : Hid (∀ j u, (flatF l)[j]? = some u → w.cell? (a.add j) = some u) := fun j u hj => by
      have hjn : j < l.length * 4 := by
        have := (List.getElem?_eq_some_iff.1 hj).1
        rwa [flatF_len] at this
      obtain ⟨b, off, hab, _, hc⟩ := ha (fun e => by rw [e] at hjn; simp at hjn)
      cases hab
      have h3 := hc (j / 4) (by omega) (j % 4) u (by rw [← flatF_get l (j / 4) (j % 4) (by omega) (by omega), show j / 4 * 4 + j % 4 = j by omega]; exact hj)
      rw [show off + j / 4 * 4 + j % 4 = off + j by omega] at h3
      rw [Addr.add_lit]; exact h3
    obtain ⟨n, hn⟩ : ∃ n, l.length = n := ⟨_, rfl⟩
    have HN := Lib.hid hn
    rw [hn] at q ⊢
    rw [hn] at hl
    clear ha hn
    go_enter Try.func27, Try.ntmps27
    go_wp2_with (at_builtin; refine wpList_append_own _ rfl _ _ 22 rfl w.heap.size 26 i0 (.agg (encF f0).toArray) 4 32 Try.underlying22 hi hz0 hz1 hz2 rfl (by decide) _ _ _ rfl (World.ownsRow_made w #[] 0 (Nat.le_refl _) (Nat.zero_le _) rfl) a n cap (flatF l) rfl ?c1 ?c2 ?c3 ?c4 ?c5 ?c6 ?_)
    case c1 => rw [flatF_len, HN.out]
    case c2 =>
      intro j u hj
      exact Lib.cell?_alloc_some _ (HCL.out j u hj)
    case c3 => exact flatF_one l
    case c4 => unfold maxLen; omega
    case c5 => omega
    case c6 => simp
    intro v' w1 hown hgrow hnil
    have hb : Below w.heap.size w w1 := ((Below.refl _ w).alloc (Nat.le_refl _) _).grown hgrow (by simp) (by intro k hk; simp [Value.ownBlock] at hk; omega)
    obtain ⟨_, hown⟩ := hown
    have HR : Hid (OwnF w w1 v' l) := by
      rcases hown with ⟨hv, hn0⟩ | ⟨g2, cap2, cur, rfl, hg2, hcur, hcp, _, _, ht⟩
      · exact Or.inl ⟨hv, List.eq_nil_of_length_eq_zero (by have := HN.out; omega)⟩
      · refine Or.inr ⟨g2, cap2, by rw [HN.out], hg2, by have := HN.out; omega, ?_⟩
        have hb4 : Blk w1 g2 cur 26 := hcur
        exact FRow.of_blk hb4 (by rw [HN.out]; simpa using ht)
    have HB := Lib.hid hb
    clear hgrow hb hown hnil hi hz0 hz1 hz2 q
    go_wp2_with fail
    go_ret
    exact ⟨v', rfl, HR.out, HB.out⟩

theorem fa_other (k : Int) (B : Nat) (x : Fa) (W : World) (hB : B < W.heap.size) (hc : W.cell? ⟨B, 0, none⟩ = some (.int .i64 k)) :
    Calls Try.prog 33 #[.agg (encF x).toArray, .pointer (some ⟨B, 0, none⟩)] W fun e w' => e = .returned (.bool (x.2.1 == k)) ∧ Below W.heap.size W w' := by
  obtain ⟨x1, x2, x3, x4⟩ := x
  have hne : B ≠ W.heap.size := by omega
  show Calls Try.prog 33 #[.agg #[.int .i64 x1, .int .i64 x2, .int .i64 x3, .int .i64 x4], .pointer (some ⟨B, 0, none⟩)] W fun e w' => e = .returned (.bool (x2 == k)) ∧ Below W.heap.size W w'
  go_enter Try.func33, Try.ntmps33
  go_wp2
  go_ret
  exact ⟨by simp, (Below.refl _ _).alloc (Nat.le_refl _) _⟩

end Go.Proofs.Ytbpkaegkcknemaa
