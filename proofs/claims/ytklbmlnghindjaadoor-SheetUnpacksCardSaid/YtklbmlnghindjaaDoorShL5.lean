/- Layer 12: what SheetUnpacks collects. -/
import Derived.Test.YtklbmlnghindjaaDoorShC8
import Derived.Test.YtklbmlnghindjaaDoorShL2
import Derived.Test.YtklbmlnghindjaaDoorShS
import Derived.Deep.AppendLies
namespace Go.Proofs.YtklbmlnghindjaaDoor
set_option maxRecDepth 100000
open Go.RowKit

/-- what a function of one result gives, in a block of its own -/
theorem results_cell_oneX {P : Program} {fn : Func} {p : Tmp} {ty : TypeId} (h : fn.results = #[.cell p ty]) (tmps : Array Value) (w : World) (g : Nat) (u : Value)
    (hp : tmps.getD p undef = .pointer (some ⟨g, 0, none⟩)) (hc1 : w.cell? ⟨g, 0, none⟩ = some u) (ha1 : ∀ w, (isAgg ty).run P w = .ok false w) :
    (results fn tmps).run P w = .ok u w := by
  have hp' : tmps[p]?.getD undef = .pointer (some ⟨g, 0, none⟩) := by simpa using hp
  have h1 : Sem.run P (loadVar ty ⟨g, 0, none⟩) w = .ok u w := by
    simp [loadVar, ha1]
    rw [hc1]
  simp [results, h, hp', asAddr, h1]

theorem infoIntX : (Tryd.prog.info? 3).map (fun i => (i.zero, i.size, i.bytes)) = some (some (.int .i64 0), 1, 8) := by kernel_rfl
theorem ne_recX (k a b k' a' b' : Int) (w : World) : Sem.run Tryd.prog (binOp .neq 32 (.agg (ra k a b)) (.agg (ra k' a' b'))) w = .ok (.bool (!sameR k a b k' a' b')) w := by
  rw [run_neq_struct, run_equalIn_agg _ _ _ _ _ (by kernel_rfl) (by kernel_rfl), fields_rec]
  rfl
def plsV (T : List (Nat × Rc)) : List Value := T.map fun x => .int .i64 x.1
/-- what has been collected: the blocks of the call, the records (of T) and the places (of S) -/
structure UnS (w : World) (b : Nat) (most : Int) (T S : List (Nat × Rc)) (W : World) : Prop where
  m : Blk W b #[.int .i64 most] 3
  r : Blk W (b + 1) #[.bool false] 4
  want : ∃ u, Boxed W (b + 1 + 1) 24 u ∧ W.ownsRow (b + 4) 32 3 u T.length (flatX (T.map (·.2))) ∧ True
  places : ∃ u, Boxed W (b + 1 + 1 + 1) 25 u ∧ W.ownsRow (b + 4) 3 1 u S.length (plsV S) ∧ True
  below : Below w.heap.size w W
  size : b + 4 ≤ W.heap.size
  start : w.heap.size ≤ b
theorem UnS.after {w W W' : World} {b : Nat} {most : Int} {T S : List (Nat × Rc)} (h : UnS w b most T S W) (hb : Below W.heap.size W W') : UnS w b most T S W' := by
  obtain ⟨u, h1, h2, _⟩ := h.want
  obtain ⟨v, h3, h4, _⟩ := h.places
  exact ⟨h.m.after hb, h.r.after hb, ⟨u, boxed_afterX h1 hb, ownsRow_afterX h2 hb, trivial⟩, ⟨v, boxed_afterX h3 hb, ownsRow_afterX h4 hb, trivial⟩, h.below.trans (hb.mono h.below.size), Nat.le_trans h.size hb.size, h.start⟩
theorem UnS.drew {w W : World} {b : Nat} {most : Int} {T S : List (Nat × Rc)} (h : UnS w b most T S W) : UnS w b most T S W.drew :=
  ⟨h.m, h.r, h.want, h.places, ⟨h.below.os, h.below.tape, h.below.output, h.below.size, h.below.block⟩, h.size, h.start⟩
theorem ownsRow_keepX {W W' : World} {B z : Nat} {e : TypeId} {v : Value} {n : Nat} {xs : List Value} (h : W.ownsRow B e z v n xs) (hk : ∀ g, v.ownBlock = some g → W'.heap[g]? = W.heap[g]?) : W'.ownsRow B e z v n xs := by
  refine ⟨h.1, ?_⟩
  rcases h.2 with ⟨rfl, h0⟩ | ⟨g, cap, cur, rfl, hbg, hg, h1⟩
  · exact .inl ⟨rfl, h0⟩
  · exact .inr ⟨g, cap, cur, rfl, hbg, (hk g rfl).trans hg, h1⟩
/-- two rows of other elements lie in other blocks -/
theorem rows_apart {W : World} {B B' z z' : Nat} {e e' : TypeId} {v v' : Value} {n n' : Nat} {xs xs' : List Value} (h : W.ownsRow B e z v n xs) (h' : W.ownsRow B' e' z' v' n' xs') (hne : e ≠ e') : ∀ g, v.ownBlock = some g → some g ≠ v'.ownBlock := by
  intro g hg he
  rcases h.2 with ⟨rfl, _⟩ | ⟨g1, c1, r1, rfl, _, h1, _⟩
  · cases hg
  · rcases h'.2 with ⟨rfl, _⟩ | ⟨g2, c2, r2, rfl, _, h2, _⟩
    · cases he
    · simp [Value.ownBlock] at hg he
      subst hg
      rw [← he, h1] at h2
      simp at h2
      exact hne h2.2
/-- the frame of an append to a slice in a box -/
theorem app_frame {W w4 : World} {o : Obj} {u v' : Value} {B : Nat} (hg : (W.alloc o).grownBy w4 u.ownBlock) : ∀ p, p < W.heap.size → p ≠ B → some p ≠ u.ownBlock → (w4.setCell ⟨B, 0, none⟩ v').heap[p]? = W.heap[p]? := by
  intro p p1 p2 p3
  exact (Below.heap_setCell w4 ⟨B, 0, none⟩ _ p p2).trans ((hg.block p (by rw [World.size_alloc]; omega) p3).trans (Below.heap_alloc _ _ _ p1))
theorem own_ge {W : World} {B z : Nat} {e : TypeId} {v : Value} {n : Nat} {xs : List Value} (h : W.ownsRow B e z v n xs) (p : Nat) (hp : p < B) : some p ≠ v.ownBlock := fun e => by have := (h.lt p e.symm).1; omega
theorem own_lt {W : World} {B z : Nat} {e : TypeId} {v : Value} {n : Nat} {xs : List Value} (h : W.ownsRow B e z v n xs) (p : Nat) (hp : v.ownBlock = some p) : p < W.heap.size := (h.lt p hp).2

theorem un_want {w W w4 : World} {b : Nat} {most : Int} {T S : List (Nat × Rc)} {o : Obj} {u v' : Value} {x : Nat × Rc} (h : UnS w b most T S W)
    (hu : Boxed W (b + 1 + 1) 24 u) (ho : W.ownsRow (b + 4) 32 3 u T.length (flatX (T.map (·.2))))
    (hown' : w4.ownsRow (b + 4) 32 3 v' (T.length + 1) (flatX (T.map (·.2)) ++ x.2.cells)) (hg : (W.alloc o).grownBy w4 u.ownBlock) :
    UnS w b most (T ++ [x]) S (w4.setCell ⟨b + 1 + 1, 0, none⟩ v') ∧ Boxed w4 (b + 1 + 1) 24 u ∧ Boxed (w4.setCell ⟨b + 1 + 1, 0, none⟩ v') (b + 1 + 1) 24 v' ∧ KeepsOthers W (w4.setCell ⟨b + 1 + 1, 0, none⟩ v') := by
  have hsz := h.size
  obtain ⟨hx1, hx2, _, hx4, hx5⟩ := Boxed.appended (n₀ := b + 1 + 1) hu (by decide) (ownsRow_monoX ho (by omega)) (by omega) (Nat.le_refl _) (ownsRow_monoX hown' (by omega)) hg
  have hx3 := hown'.kept (grownBy_setCell' w4 (b + 1 + 1) v') (.inr (hx1.not_row (by decide) hown').symm)
  have hfr := app_frame (v' := v') (B := b + 1 + 1) hg
  obtain ⟨v, h3, h4, _⟩ := h.places
  refine ⟨⟨h.m.below hx5 (by omega), h.r.below hx5 (by omega), ⟨v', hx2, by rw [List.length_append, List.map_append, List.map_singleton, flatX_app]; exact hx3, trivial⟩,
    ⟨v, (hfr _ h3.lt (by omega) (own_ge ho _ (by omega))).trans h3, ownsRow_keepX h4 (fun g e => hfr g (own_lt h4 g e) (by have := (h4.lt g e).1; omega) (rows_apart h4 ho (by decide) g e)), trivial⟩,
    h.below.trans (hx5.mono (by have := h.start; omega)), by have := hx5.size; omega, h.start⟩, hx1, hx2, hx4⟩
theorem un_place {w W w4 : World} {b : Nat} {most : Int} {T S : List (Nat × Rc)} {o : Obj} {u v' : Value} {x : Nat × Rc} (h : UnS w b most T S W)
    (hu : Boxed W (b + 1 + 1 + 1) 25 u) (ho : W.ownsRow (b + 4) 3 1 u S.length (plsV S))
    (hown' : w4.ownsRow (b + 4) 3 1 v' (S.length + 1) (plsV S ++ [.int .i64 x.1])) (hg : (W.alloc o).grownBy w4 u.ownBlock) :
    UnS w b most T (S ++ [x]) (w4.setCell ⟨b + 1 + 1 + 1, 0, none⟩ v') ∧ Boxed w4 (b + 1 + 1 + 1) 25 u ∧ (∀ u', Boxed W (b + 1 + 1) 24 u' → Boxed (w4.setCell ⟨b + 1 + 1 + 1, 0, none⟩ v') (b + 1 + 1) 24 u') ∧ KeepsOthers W (w4.setCell ⟨b + 1 + 1 + 1, 0, none⟩ v') := by
  have hsz := h.size
  obtain ⟨hx1, hx2, _, hx4, hx5⟩ := Boxed.appended (n₀ := b + 1 + 1 + 1) hu (by decide) (ownsRow_monoX ho (by omega)) (by omega) (Nat.le_refl _) (ownsRow_monoX hown' (by omega)) hg
  have hx3 := hown'.kept (grownBy_setCell' w4 (b + 1 + 1 + 1) v') (.inr (hx1.not_row (by decide) hown').symm)
  have hfr := app_frame (v' := v') (B := b + 1 + 1 + 1) hg
  obtain ⟨v, h3, h4, _⟩ := h.want
  have hwb : ∀ u', Boxed W (b + 1 + 1) 24 u' → Boxed (w4.setCell ⟨b + 1 + 1 + 1, 0, none⟩ v') (b + 1 + 1) 24 u' := fun u' h' => (hx5.block (b + 1 + 1) (by omega)).trans h'
  refine ⟨⟨h.m.below hx5 (by omega), h.r.below hx5 (by omega),
    ⟨v, hwb v h3, ownsRow_keepX h4 (fun g e => hfr g (own_lt h4 g e) (by have := (h4.lt g e).1; omega) (rows_apart h4 ho (by decide) g e)), trivial⟩,
    ⟨v', hx2, by rw [List.length_append]; unfold plsV at *; rw [List.map_append]; exact hx3, trivial⟩,
    h.below.trans (hx5.mono (by have := h.start; omega)), by have := hx5.size; omega, h.start⟩, hx1, hwb, hx4⟩
theorem UnS.kept {w X Y : World} {b B0 : Nat} {most : Int} {T S : List (Nat × Rc)} {row : Option Nat} (h : UnS w b most T S X) (hg : X.grownBy Y row) (hB : b ≤ B0) (hr : ∀ r, row = some r → B0 ≤ r ∧ ∃ o : Obj, X.heap[r]? = some o ∧ o.isCells = false) : UnS w b most T S Y :=
  ⟨blk_kept h.m hg (fun r e => (hr r e).2), blk_kept h.r hg (fun r e => (hr r e).2),
    holdsRow_own (b + 4) (b + 1 + 1) _ _ 3 List.length (fun T : List (Nat × Rc) => flatX (T.map (·.2))) (fun _ _ => True) T X Y row h.want hg (fun r e => (hr r e).2),
    holdsRow_own (b + 4) (b + 1 + 1 + 1) _ _ 1 List.length plsV (fun _ _ => True) S X Y row h.places hg (fun r e => (hr r e).2),
    h.below.grown hg h.below.size (fun r e => by have := (hr r e).1; have := h.start; omega), Nat.le_trans h.size hg.size, h.start⟩
theorem UnS.set {w W : World} {b c : Nat} {most : Int} {T S : List (Nat × Rc)} (h : UnS w b most T S W) (hc : b + 4 ≤ c) (t : TypeId) (v v' : Value) (hk : Blk W c #[v] t) (h1 : t ≠ 32) (h2 : ∀ x, Boxed W (b + 1 + 1 + 1) 25 x → x.ownBlock ≠ some c) : UnS w b most T S (W.setCell ⟨c, 0, none⟩ v') := by
  obtain ⟨x, h3, h4, _⟩ := h.want
  obtain ⟨y, h5, h6, _⟩ := h.places
  have hfr : ∀ p, p ≠ c → (W.setCell ⟨c, 0, none⟩ v').heap[p]? = W.heap[p]? := fun p hp => Below.heap_setCell _ _ _ _ hp
  refine ⟨h.m.set_other (by omega) _ _, h.r.set_other (by omega) _ _, ⟨x, (hfr _ (by omega)).trans h3, ownsRow_keepX h4 (fun g e => hfr g (fun e2 => ?_)), trivial⟩, ⟨y, (hfr _ (by omega)).trans h5, ownsRow_keepX h6 (fun g e => hfr g (fun e2 => ?_)), trivial⟩,
    h.below.setCell (p := ⟨c, 0, none⟩) (by show _ ≤ c; have := h.start; omega) _, by rw [World.size_setCell]; exact h.size, h.start⟩
  · subst e2
    rcases h4.2 with ⟨rfl, _⟩ | ⟨g1, c1, r1, rfl, _, h7, _⟩
    · cases e
    · have e3 : g1 = g := by simpa [Value.ownBlock] using e
      subst e3
      have h8 := (show W.heap[g1]? = _ from hk).symm.trans h7
      simp at h8
      exact h1 h8.2
  · subst e2
    rcases h6.2 with ⟨rfl, _⟩ | ⟨g1, c1, r1, rfl, _, h7, _⟩
    · cases e
    · have e3 : g1 = g := by simpa [Value.ownBlock] using e
      subst e3
      exact h2 _ h5 e
/-- the state while what Each tells is held against what was collected -/
structure IS (w : World) (b : Nat) (most : Int) (T : List (Nat × Rc)) (c n : Nat) (W : World) : Prop where
  un : UnS w b most T T W
  k : Blk W c #[.int .i64 (n : Int)] 3
  ne : ∀ x, Boxed W (b + 1 + 1 + 1) 25 x → x.ownBlock ≠ some c
theorem boxed_back {W W' : World} {p : Nat} {t : TypeId} {v : Value} (h : Boxed W' p t v) (hb : W'.heap[p]? = W.heap[p]?) : Boxed W p t v := hb.symm.trans h
theorem IS.after {w W W' : World} {b c n : Nat} {most : Int} {T : List (Nat × Rc)} (h : IS w b most T c n W) (hb : Below W.heap.size W W') : IS w b most T c n W' :=
  ⟨h.un.after hb, h.k.after hb, fun x hx => h.ne x (boxed_back hx (hb.block _ (by have := h.un.size; omega)))⟩
theorem IS.kept {w X Y : World} {b B0 c n : Nat} {most : Int} {T : List (Nat × Rc)} {row : Option Nat} (h : IS w b most T c n X) (hg : X.grownBy Y row) (hB : b ≤ B0) (hr : ∀ r, row = some r → B0 ≤ r ∧ ∃ o : Obj, X.heap[r]? = some o ∧ o.isCells = false) : IS w b most T c n Y := by
  refine ⟨h.un.kept hg hB hr, blk_kept h.k hg (fun r e => (hr r e).2), fun x hx => ?_⟩
  obtain ⟨y, hy, _⟩ := h.un.places
  have hne : some (b + 1 + 1 + 1) ≠ row := fun e => by
    obtain ⟨_, o, ho, hc⟩ := hr _ e.symm
    rw [show X.heap[b + 1 + 1 + 1]? = _ from hy] at ho
    cases ho
    cases hc
  exact h.ne x (boxed_back hx (hg.block _ hy.lt hne))
theorem IS.next {w W : World} {b c n : Nat} {most : Int} {T : List (Nat × Rc)} (h : IS w b most T c n W) (hc : b + 4 ≤ c) : IS w b most T c (n + 1) (W.setCell ⟨c, 0, none⟩ (.int .i64 ((n : Int) + 1))) :=
  ⟨h.un.set hc 3 _ _ h.k (by decide) h.ne, h.k.set 0 _ rfl, fun x hx => h.ne x (boxed_back hx (Below.heap_setCell _ _ _ _ (by show b + 1 + 1 + 1 ≠ c; omega)))⟩
theorem keeps_drewX (B : Nat) (W : World) (q : Nat) : KeepsFrom B W (W.drewN q) := ⟨Nat.le_refl _, fun _ _ _ h _ => h⟩
theorem KpE.drewN (bs : List Nat) (n0 : Nat) (W : World) (q : Nat) : KpE bs n0 W (W.drewN q) := ⟨fun _ _ => rfl, fun _ _ _ _ _ h => h, Nat.le_refl _⟩
theorem IS.drewN {w W : World} {b c n : Nat} {most : Int} {T : List (Nat × Rc)} (h : IS w b most T c n W) (q : Nat) : IS w b most T c n (W.drewN q) :=
  ⟨⟨h.un.m, h.un.r, h.un.want, h.un.places, ⟨h.un.below.os, h.un.below.tape, h.un.below.output, h.un.below.size, h.un.below.block⟩, h.un.size, h.un.start⟩, h.k, h.ne⟩
theorem mism {pre T : List (Nat × Rc)} {x y : Nat × Rc} {k : Nat} (h : pre ++ [x] = T.take k) (hy : T[pre.length]? = some y) : x = y := by
  have h1 : (pre ++ [x])[pre.length]? = some x := by rw [List.getElem?_append_right (Nat.le_refl _), Nat.sub_self]; rfl
  have hl : pre.length < (T.take k).length := by rw [← h, List.length_append, List.length_singleton]; omega
  rw [List.length_take] at hl
  rw [h, List.getElem?_take_of_lt (by omega), hy] at h1
  exact (Option.some.inj h1).symm
theorem in_block4 {K : Act → World → Prop} {Q' : Exit → Act → World → Prop} {e : Exit} {a : Act} {w : World} (he : e = .normal ∨ e = .exit 4) (h : Exit.inBlock 4 (Exit.then K Q') .normal a w) : Exit.inBlock 4 (Exit.then K Q') e a w := by
  rcases he with rfl | rfl
  · exact h
  · exact h
theorem un_start (w : World) (most : Int) : ∃ W0, (((w.alloc (.cells #[.int .i64 most] 3)).alloc (.cells #[.bool false] 4)).alloc (.cells #[.slice none 0 0] 24)).alloc (.cells #[.slice none 0 0] 25) = W0 ∧
    UnS w w.heap.size most [] [] W0 := by
  obtain ⟨w1, h1⟩ : ∃ w1, w.alloc (.cells #[.int .i64 most] 3) = w1 := ⟨_, rfl⟩
  obtain ⟨w2, h2⟩ : ∃ w2, w1.alloc (.cells #[.bool false] 4) = w2 := ⟨_, rfl⟩
  obtain ⟨w3, h3⟩ : ∃ w3, w2.alloc (.cells #[.slice none 0 0] 24) = w3 := ⟨_, rfl⟩
  obtain ⟨w4, h4⟩ : ∃ w4, w3.alloc (.cells #[.slice none 0 0] 25) = w4 := ⟨_, rfl⟩
  have s1 : w1.heap.size = w.heap.size + 1 := by rw [← h1]; simp
  have s2 : w2.heap.size = w.heap.size + 2 := by rw [← h2]; simp [s1]
  have s3 : w3.heap.size = w.heap.size + 3 := by rw [← h3]; simp [s2]
  have s4 : w4.heap.size = w.heap.size + 4 := by rw [← h4]; simp [s3]
  have b12 : Below w1.heap.size w1 w2 := by rw [← h2]; exact (Below.refl _ _).alloc (Nat.le_refl _) _
  have b23 : Below w2.heap.size w2 w3 := by rw [← h3]; exact (Below.refl _ _).alloc (Nat.le_refl _) _
  have b34 : Below w3.heap.size w3 w4 := by rw [← h4]; exact (Below.refl _ _).alloc (Nat.le_refl _) _
  have b01 : Below w.heap.size w w1 := by rw [← h1]; exact (Below.refl _ _).alloc (Nat.le_refl _) _
  have b24 := b23.trans (b34.mono b23.size)
  have b14 := b12.trans (b24.mono b12.size)
  have k1 : Blk w1 w.heap.size #[.int .i64 most] 3 := by rw [← h1]; exact Blk.new _ _ _
  have k2 : Blk w2 (w.heap.size + 1) #[.bool false] 4 := by rw [← h2, ← s1]; exact Blk.new _ _ _
  have k3 : Boxed w3 (w.heap.size + 1 + 1) 24 (.slice none 0 0) := by rw [← h3, show w.heap.size + 1 + 1 = w2.heap.size by omega]; exact Boxed.new _ _ _
  have k4 : Boxed w4 (w.heap.size + 1 + 1 + 1) 25 (.slice none 0 0) := by rw [← h4, show w.heap.size + 1 + 1 + 1 = w3.heap.size by omega]; exact Boxed.new _ _ _
  exact ⟨w4, by rw [h1, h2, h3, h4], k1.after b14, k2.after b24, ⟨_, boxed_afterX k3 b34, World.ownsRow_nil _ _ _ _, trivial⟩, ⟨_, k4, World.ownsRow_nil _ _ _ _, trivial⟩, b01.trans (b14.mono b01.size), by omega, Nat.le_refl _⟩

/-- a piece of code that only goes on: so the tactics for drawn regions serve in a function that holds a range over a function -/
def NQ (K : Act → World → Prop) : Exit → Act → World → Prop := fun e a w => match e with
  | .normal => K a w
  | _ => False
theorem NQ.to {Q : Exit → Act → World → Prop} {e : Exit} {a : Act} {w : World} (h : NQ (Q .normal) e a w) : Q e a w := by
  cases e <;> first | exact h | exact h.elim
theorem NQ.normal {K : Act → World → Prop} {a : Act} {w : World} (h : K a w) : NQ K .normal a w := h
theorem wpStill_load_midX {P : Program} {ops : Array Oper} {rest : List Oper} {o : Oper} {a : Act} {w : World} {Q : Act → Prop} (hgd : o.guard = none) (ty : TypeId) (x : Operand) (ho : o.op = .load ty x)
    (g k : Nat) (hx : a.eval x = .pointer (some ⟨g, k, none⟩)) (cs : List Value) (d : TypeDesc) (hc : w.rangeAt g k cs)
    (hu : P.underlying ty = some d) (hd : d.isRow = true) (hi : (P.info? ty).map (·.size) = some cs.length)
    (h : wpStill P ops w Q rest (a.put o.dst (.agg cs.toArray))) : wpStill P ops w Q (o :: rest) a := by
  unfold wpStill
  rw [if_pos (by simp [Region.wanted, hgd])]
  unfold Oper.still execOp
  simp only [ho, hx, Instr.loadAt, Instr.sureAddr, Sem.run_bind, Sem.run_pure, Result.andThen_ok, run_loadVar_mid w g k ty cs d hc hu hd hi]
  exact ⟨rfl, h⟩
/-- what Unpack answers, as plain functions -/
noncomputable def unpC (s : ByteArray) : Int := open Classical in if PageOk s then 0 else unpE s
noncomputable def recsU (s : ByteArray) : List Rc := open Classical in if PageOk s then recsT s else []
theorem unpT_all {s : ByteArray} {w w' : World} {e : Ending} (h : UnpT s w e w') : ∃ v, e = .returned (.tuple #[v, .int .i64 (unpC s)]) ∧ w'.ownsRow w.heap.size 32 3 v (recsU s).length (flatX (recsU s)) ∧ Below w.heap.size w w' := by
  obtain ⟨h1, h2, h3⟩ := h
  unfold unpC recsU
  by_cases hp : PageOk s
  · rw [if_pos hp, if_pos hp]
    obtain ⟨v, he, ho⟩ := h1 hp
    exact ⟨v, he, ho, h3⟩
  · rw [if_neg hp, if_neg hp]
    exact ⟨_, h2 hp, World.ownsRow_nil _ _ _ _, h3⟩
theorem recsU_len (s : ByteArray) : (recsU s).length ≤ 28 := by
  unfold recsU
  split
  · rename_i h
    have := h.many
    have := holdN_le s.size
    rw [recsT_len]; omega
  · simp
theorem unpC_cases (s : ByteArray) : (PageOk s ∧ unpC s = 0 ∧ recsU s = recsT s) ∨ (¬ PageOk s ∧ (unpC s = 2 ∨ unpC s = 3) ∧ recsU s = []) := by
  unfold unpC recsU
  by_cases h : PageOk s
  · rw [if_pos h, if_pos h]; exact .inl ⟨h, rfl, rfl⟩
  · rw [if_neg h, if_neg h]
    refine .inr ⟨h, ?_, rfl⟩
    unfold unpE; split <;> simp
theorem toldE_len : ∀ (l : List ByteArray) (i : Nat), (toldE i l).length ≤ 28 * l.length
  | [], i => Nat.zero_le _
  | p :: r, i => by
    by_cases h : PageOk p
    · rw [toldE_ok h, List.length_append, List.length_map, recsT_len, List.length_cons]
      have := toldE_len r (i + 1)
      have := h.many
      have := holdN_le p.size
      omega
    · rw [toldE_no h]; simp

end Go.Proofs.YtklbmlnghindjaaDoor
