/- Layer 7: OrderSteps's walk. -/
import Derived.Test.YtnodnhmlbcafgaaOrS
import Derived.Test.YtnodnhmlbcafgaaOrL1
import Derived.Test.YtnodnhmlbcafgaaRng
import Derived.RangeFuncBox
import Derived.OwnWalkIn
namespace Go.Proofs.Ytnodnhmlbcafgaa
set_option maxRecDepth 100000
open Go.RowKit
attribute [local go_sem] Oper.semAt_some

theorem eql_fnil (gf : Fn) (lb : Array Value) (w : World) : Sem.run Try.prog (binOp .eql 25 (.func gf #[] lb) .nilFunc) w = .ok (.bool false) w := by
  rfl
theorem inBlock_both {K : Act → World → Prop} {Q' : Exit → Act → World → Prop} {e : Exit} {a : Act} {w : World} (he : e = .normal ∨ e = .exit 0) (h : Exit.inBlock 0 (Exit.then K Q') .normal a w) : Exit.inBlock 0 (Exit.then K Q') e a w := by
  rcases he with rfl | rfl
  · exact h
  · exact h
theorem wpIn_exit0 {F : Fence} {n : Nat} {P : Program} {Q : Exit → Act → World → Prop} {a : Act} {w : World} (h : Q (.exit 0) a w) : (Code.exit 0).wpIn F n P Q a w := by
  exact wpIn_exit h
/-- what has been collected: in the box b8 a slice of the call's own; k's box; what lay before, and what the reference gave, as it was -/
structure Coll (w w2 : World) (b4 b8 : Nat) (k : Int) (l : Int) (f : Bool) (xs : List (Nat × Bool)) (W : World) : Prop where
  some : ∃ u, Boxed W b8 27 u ∧ W.ownsRow w2.heap.size 23 2 u xs.length (cellsS xs) ∧ True
  kbox : Boxed W b4 3 (.int .i64 k)
  sbox : Blk W (b4 + 1) #[.int .i64 l, .bool f] 23
  below : Below w.heap.size w W
  mid : ∀ p, b8 < p → p < w2.heap.size → W.heap[p]? = w2.heap[p]?

theorem ownsRow_after {W W' : World} {B : Nat} {e : TypeId} {size : Nat} {v : Value} {n : Nat} {xs : List Value} (h : W.ownsRow B e size v n xs) (hb : Below W.heap.size W W') : W'.ownsRow B e size v n xs := by
  refine ⟨h.1, ?_⟩
  rcases h.2 with ⟨rfl, h0⟩ | ⟨g, cap, cur, rfl, hbg, hg, h1⟩
  · exact .inl ⟨rfl, h0⟩
  · exact .inr ⟨g, cap, cur, rfl, hbg, (hb.block g (Array.getElem?_eq_some_iff.1 hg).1).trans hg, h1⟩
theorem boxed_after {W W' : World} {B : Nat} {t : TypeId} {v : Value} (h : Boxed W B t v) (hb : Below W.heap.size W W') : Boxed W' B t v := (hb.block B h.lt).trans h
theorem ownsRow_mono {W : World} {B B' : Nat} {e : TypeId} {size : Nat} {v : Value} {n : Nat} {xs : List Value} (h : W.ownsRow B e size v n xs) (hb : B' ≤ B) : W.ownsRow B' e size v n xs := by
  refine ⟨h.1, ?_⟩
  rcases h.2 with ⟨rfl, h0⟩ | ⟨g, cap, cur, rfl, hbg, hg, h1⟩
  · exact .inl ⟨rfl, h0⟩
  · exact .inr ⟨g, cap, cur, rfl, by omega, hg, h1⟩
theorem ownsRow_mid {W W' : World} {B : Nat} {e : TypeId} {size : Nat} {v : Value} {n : Nat} {xs : List Value} (h : W.ownsRow B e size v n xs) (hm : ∀ p, B ≤ p → p < W.heap.size → W'.heap[p]? = W.heap[p]?) : W'.ownsRow B e size v n xs := by
  refine ⟨h.1, ?_⟩
  rcases h.2 with ⟨rfl, h0⟩ | ⟨g, cap, cur, rfl, hbg, hg, h1⟩
  · exact .inl ⟨rfl, h0⟩
  · exact .inr ⟨g, cap, cur, rfl, hbg, (hm g hbg (Array.getElem?_eq_some_iff.1 hg).1).trans hg, h1⟩
theorem Coll.lt {w w2 W : World} {b4 b8 : Nat} {k l : Int} {f : Bool} {xs : List (Nat × Bool)} (h : Coll w w2 b4 b8 k l f xs W) {p : Nat} (h1 : b8 < p) (h2 : p < w2.heap.size) : p < W.heap.size := by
  have hm := h.mid p h1 h2
  rw [Array.getElem?_eq_getElem h2] at hm
  exact (Array.getElem?_eq_some_iff.1 hm).1
theorem Coll.after {w w2 W W' : World} {b4 b8 : Nat} {k l : Int} {f : Bool} {xs : List (Nat × Bool)} (h : Coll w w2 b4 b8 k l f xs W) (hb : Below W.heap.size W W') : Coll w w2 b4 b8 k l f xs W' := by
  obtain ⟨u, h1, h2, _⟩ := h.some
  exact ⟨⟨u, boxed_after h1 hb, ownsRow_after h2 hb, trivial⟩, boxed_after h.kbox hb, h.sbox.after hb, h.below.trans (hb.mono h.below.size), fun p p1 p2 => (hb.block p (h.lt p1 p2)).trans (h.mid p p1 p2)⟩
theorem coll_from {w w2 : World} {b4 b8 : Nat} {k l : Int} {f : Bool} (h4 : b4 + 1 < w2.heap.size) (hw : w.heap.size ≤ w2.heap.size) : OwnFrom w2.heap.size (fun xs W => Coll w w2 b4 b8 k l f xs W) := by
  intro xs X Y row h hg hr
  have hr2 : ∀ r, row = Option.some r → w2.heap.size ≤ r := fun r e => (hr r e).1
  refine ⟨holdsRow_own w2.heap.size b8 _ _ 2 List.length cellsS (fun _ _ => True) xs X Y row h.some hg (fun r e => (hr r e).2), h.kbox.kept hg (fun e => ?_), blk_kept h.sbox hg (fun r e => (hr r e).2), h.below.grown hg h.below.size (fun r e => by have := hr2 r e; omega), fun p p1 p2 => (hg.block p (h.lt p1 p2) (fun e => ?_)).trans (h.mid p p1 p2)⟩
  · have := hr2 _ e.symm; omega
  · have := hr2 _ e.symm; omega

set_option maxHeartbeats 2000000 in
theorem walkb_OrderSteps (n k l : Int) (f : Bool) (w : World) :
    Calls Try.prog 3 #[.int .i64 n, .int .i64 k, .agg (sv l f)] w fun e w' => e = .returned (.bool true) ∧ Below w.heap.size w w' := by
  refine calls_of_marks Try.func3 rfl ?_
  simp only [Try.ntmps3, List.size_toArray, List.length_cons, List.length_nil, Nat.reduceAdd, Nat.reduceSub, Array.replicate_succ, Array.replicate_zero, List.push_toArray, List.append_toArray, List.nil_append, List.cons_append]
  go_wp2_with fail
  refine (or_steps n _).mono ?_
  rintro r w1 ⟨gf, lb, rfl, hb1, heg, hsq⟩
  have HB1 := Lib.hid hb1
  clear hb1
  go_wp2_with (rw [eql_fnil])
  refine (ror_steps n _).mono ?_
  rintro r w2 ⟨⟨v, rfl, hv1, hv2⟩, hb2⟩
  have hown : OwnSteps w2 (w1.heap.size + 1) v (allL n) := by
    unfold allL
    by_cases h : LinesOk n
    · rw [if_pos h]
      have := hv1 h
      rwa [World.size_alloc] at this
    · rw [if_neg h, hv2 h]
      exact World.ownsRow_nil _ _ _ _
  clear hv1 hv2
  have HOWN := Lib.hid hown
  obtain ⟨b4, hb4⟩ : ∃ b, w.heap.size = b := ⟨_, rfl⟩
  have hk1 : Boxed w1 b4 3 (.int .i64 k) := by
    have h : Boxed ((w.alloc (.cells #[.int .i64 k] 3)).alloc (.cells (sv l f) 23)) b4 3 (.int .i64 k) := by rw [← hb4]; exact (Boxed.new w _ _).alloc _
    exact boxed_after h HB1.out
  have hp1 : Blk w1 (b4 + 1) #[.int .i64 l, .bool f] 23 := by
    have h := Blk.new (w.alloc (.cells #[.int .i64 k] 3)) (sv l f) 23
    rw [World.size_alloc, hb4] at h
    exact h.after HB1.out
  have hz1 : w.heap.size + 2 ≤ w1.heap.size := by have := HB1.out.size; simpa using this
  have hz2 : w1.heap.size + 1 ≤ w2.heap.size := by have := hb2.size; simpa using this
  have hk2 : Boxed w2 b4 3 (.int .i64 k) := boxed_after (hk1.alloc _) hb2
  have h8 : Boxed w2 w1.heap.size 27 (.slice none 0 0) := boxed_after (Boxed.new w1 _ _) hb2
  have hBW : Below w.heap.size w w2 := ((((Below.refl _ _).alloc (Nat.le_refl _) _).alloc (by simp) _).trans (HB1.out.mono (by simp; omega))).trans (((Below.refl _ _).alloc (Nat.le_refl _) _).mono (by omega) |>.trans (hb2.mono (by simp; omega)))
  have h12 : Below w1.heap.size w1 w2 := ((Below.refl _ _).alloc (Nat.le_refl _) _).trans (hb2.mono (by simp))
  have hc0 : Coll w w2 b4 w1.heap.size k l f [] w2 := ⟨⟨_, h8, World.ownsRow_nil _ _ _ _, trivial⟩, hk2, (hp1.alloc _).after hb2, hBW, fun _ _ _ => rfl⟩
  clear hk1 hp1 hk2 h8 hBW hown HB1 hb2
  have hs8 : b4 + 1 < w1.heap.size := by omega
  have HH4 := Lib.hid hb4
  clear hb4
  go_wp2_with fail
  rw [HH4.out]
  have hb4 := HH4.out
  obtain ⟨b8, hb8⟩ : ∃ b, w1.heap.size = b := ⟨_, rfl⟩
  rw [hb8] at hc0 hs8 h12 hz2 HOWN ⊢
  refine Code.wp_mono (Q := fun e a' W => (e = .normal ∨ e = .exit 0) ∧ ∃ (D : Nat) (xs : List (Nat × Bool)), w2.heap.size ≤ D ∧ W.heap[D]? = some (.deferred (some [])) ∧ Coll w w2 b4 b8 k l f xs W ∧
      ((xs = allL n ∧ ¬ (0 ≤ k ∧ k < (allL n).length)) ∨ ((xs.length : Int) = k ∧ xs.length < (allL n).length ∧ xs = (allL n).take xs.length)) ∧ a' = { tmps := #[Value.int IntKind.i64 n, Value.int IntKind.i64 k, Value.agg (sv l f), undef, Value.pointer (some { block := b4, off := 0 }), Value.pointer (some { block := b4 + 1, off := 0 }), Value.bool false, Value.func (Fn.func gf) #[] lb, Value.pointer (some { block := b8, off := 0 }), v, undef, undef, undef, undef, undef, undef, undef, undef, undef, undef, undef, undef, undef, Value.int IntKind.i64 n, Value.func (Fn.func gf) #[] lb, Value.func (Fn.func gf) #[] lb, Value.bool false, Value.int IntKind.i64 n, v, Value.func (Fn.func gf) #[] lb, undef, undef, undef, undef, undef, undef, undef, undef, undef, undef, undef, undef, undef, undef, undef, undef, undef, undef, undef, undef, undef, undef, undef, undef, undef, undef, undef, undef, undef, undef, undef, undef, undef, undef, undef, undef, undef, undef, undef, undef, undef, undef, undef, undef, undef, undef, undef, undef, undef, undef, undef, undef, undef, undef, undef, undef, undef, undef, undef, undef, undef, undef, undef, undef, undef, undef, undef, undef, undef, undef, undef, undef, undef, undef, undef, undef, undef, undef, undef, undef, undef, undef, undef, undef, undef, undef, undef, undef, undef, undef, undef, undef, undef, undef, undef, undef], defers := [{ target := .collected D, args := #[] }] }) ?tail
    (wpIn_wide.1 (wpIn_rangeFunc_ownH (F := Fence.wide) (n := 9) rfl (by decide) (gf := gf) (lb := lb) rfl trivial heg hsq (fun h k => h.trans k) (belowK_b (by omega)) (by rw [hb8]; exact h12) (fun _ => rfl)
    (fun xs W => Coll w w2 b4 b8 k l f xs W ∧ ∀ j, j < xs.length → (j : Int) ≠ k) (fun c xs W => c = .exit 0 ∧ ∃ ys x, xs = ys ++ [x] ∧ (ys.length : Int) = k ∧ Coll w w2 b4 b8 k l f ys W)
    ?hI ?hIx ⟨hc0, fun j hj => absurd hj (Nat.not_lt_zero j)⟩
    (fun x a' W => ∃ g, a' = { tmps := #[Value.int IntKind.i64 n, Value.int IntKind.i64 k, Value.agg (sv l f), undef, Value.pointer (some { block := b4, off := 0 }), Value.pointer (some { block := b4 + 1, off := 0 }), Value.bool false, Value.func (Fn.func gf) #[] lb, Value.pointer (some { block := b8, off := 0 }), v, Value.pointer (some { block := g, off := 0 }), undef, undef, undef, undef, undef, undef, undef, undef, undef, undef, undef, undef, Value.int IntKind.i64 n, Value.func (Fn.func gf) #[] lb, Value.func (Fn.func gf) #[] lb, Value.bool false, Value.int IntKind.i64 n, v, Value.func (Fn.func gf) #[] lb, Value.agg (sv x.1 x.2), undef, undef, undef, undef, undef, undef, undef, undef, undef, undef, undef, undef, undef, undef, undef, undef, undef, undef, undef, undef, undef, undef, undef, undef, undef, undef, undef, undef, undef, undef, undef, undef, undef, undef, undef, undef, undef, undef, undef, undef, undef, undef, undef, undef, undef, undef, undef, undef, undef, undef, undef, undef, undef, undef, undef, undef, undef, undef, undef, undef, undef, undef, undef, undef, undef, undef, undef, undef, undef, undef, undef, undef, undef, undef, undef, undef, undef, undef, undef, undef, undef, undef, undef, undef, undef, undef, undef, undef, undef, undef, undef, undef, undef, undef, undef], defers := [] } ∧ Blk W g #[.int .i64 x.1, .bool x.2] 23) ?hAx ?assign ?body ?done ?stop))
  case hI =>
    intro xs X Y row h hg hr
    exact ⟨coll_from (by omega) (by omega) xs X Y row h.1 hg hr, h.2⟩
  case hIx =>
    rintro c xs X Y row ⟨hc, ys, x, h1, h2, h3⟩ hg hr
    exact ⟨hc, ys, x, h1, h2, coll_from (by omega) (by omega) ys X Y row h3 hg hr⟩
  case hAx =>
    rintro x a' _ X Y row ⟨g, h1, h2⟩ hg hr
    exact ⟨g, h1, blk_kept h2 hg (fun r e => (hr r e).2)⟩
  case assign =>
    rintro l' pre x W K ⟨hC, hne⟩ hK
    have HC := Lib.hid hC
    have HNE := Lib.hid hne
    clear hC hne
    gi_wp2_with (refine wpListIn_store_row rfl 23 (.tmp 10) (.tmp 30) rfl W.heap.size (sv x.1 x.2) rfl rfl 23 (sv 0 false) (Blk.new W (sv 0 false) 23) size_step rfl (sv_one _ _) ?_)
    have hb : Below W.heap.size W ((W.alloc (.cells (sv 0 false) 23)).setRow W.heap.size (sv x.1 x.2)) := below_put (Nat.le_refl _) _ ((Below.refl _ _).alloc (Nat.le_refl _) _)
    have hw1W : b8 < W.heap.size := HC.out.some.choose_spec.1.lt
    exact hK _ _ (keeps_of_below _ hb) (hb.mono (by omega)) ⟨HC.out.after hb, HNE.out⟩ ⟨W.heap.size, rfl, (Blk.new W (sv 0 false) 23).put _⟩
  case body =>
    rintro l' pre x a' W _ _ ⟨hC, hne⟩ ⟨g, rfl, hblk⟩ hlen
    obtain ⟨u, hbu, hown, _⟩ := hC.some
    have hk4 := hC.kbox
    have c8 := hbu.cell
    have c4 := hk4.cell
    have f8 := hbu.frozen
    have HC := Lib.hid hC
    have HNE := Lib.hid hne
    have HBU := Lib.hid hbu
    have HO := Lib.hid hown
    have hpl : pre.length ≤ 1000 := by have := allL_le n; omega
    obtain ⟨ad, cap, hu⟩ : ∃ ad cap, u = .slice ad pre.length cap := by
      rcases hown.2 with ⟨h, h0⟩ | ⟨g, cap, cur, h, _⟩
      · exact ⟨none, 0, by rw [h, h0]⟩
      · exact ⟨_, cap, h⟩
    subst hu
    clear hC hne hown hk4
    by_cases hk : (pre.length : Int) = k
    · clear hbu
      subst hk
      gi_wp2_with fail
      exact ⟨KeepsFrom.refl _ _, rfl, pre, x, rfl, rfl, HC.out⟩
    · have hkb : ((pre.length : Int) == k) = false := by simpa using hk
      obtain ⟨i0, hi, hz0, hz1', hz2'⟩ := info_parts infoStep
      have hwW : w2.heap.size ≤ W.heap.size := by
        rcases Nat.lt_or_ge W.heap.size w2.heap.size with h | h
        · exact absurd (HC.out.lt (p := W.heap.size) HBU.out.lt h) (by omega)
        · exact h
      gi_wp2_with (first
        | (refine wpListIn_load_row rfl 23 (.tmp 10) rfl g rfl 23 #[.int .i64 x.1, .bool x.2] (0, 0) _ hblk Try.underlying23 rfl size_step ?_)
        | (gi_at_builtin; refine wpListIn_append_own _ rfl _ _ 27 rfl w2.heap.size 23 i0 (.agg #[.int .i64 0, .bool false]) 2 16 Try.underlying27 hi hz0 hz1' hz2' rfl (by decide) _ _ _ rfl (HO.out.alloc _) ⟨W.heap.size, 0, none⟩ 1 1 [.int .i64 x.1, .bool x.2] rfl rfl ?c1 ?c2 ?c3 ?c4 ?c5 ?_))
      case c1 => exact cells_new W [.int .i64 x.1, .bool x.2] _
      case c2 => intro u hu; simp at hu; rcases hu with rfl | rfl <;> rfl
      case c3 => unfold maxLen; omega
      case c4 => omega
      case c5 => simp; omega
      intro v' w3 hown1 hgrow _
      obtain ⟨g', cap', rfl⟩ := ownsRow_succ hown1
      have hte : (27 : TypeId) ≠ 23 := by decide
      have hbW : b8 < W.heap.size := HBU.out.lt
      obtain ⟨hx1, hx2, hx0, hx4, hx5⟩ := Boxed.appended (n₀ := b8) HBU.out hte (ownsRow_mono HO.out (by omega)) (by omega) (Nat.le_refl _) (ownsRow_mono hown1 (by omega)) hgrow
      have hx3 := hown1.kept (grownBy_setCell' w3 b8 (.slice (some ⟨g', 0, none⟩) (pre.length + 1) cap')) (.inr (hx1.not_row hte hown1).symm)
      have c8' := hx1.cell
      have f8' := hx1.frozen
      have hmid : ∀ p, b8 < p → p < w2.heap.size → (w3.setCell ⟨b8, 0, none⟩ (.slice (some ⟨g', 0, none⟩) (pre.length + 1) cap')).heap[p]? = w2.heap[p]? := fun p p1 p2 =>
        (Below.heap_setCell w3 ⟨b8, 0, none⟩ _ p (by show p ≠ b8; omega)).trans ((hgrow.block p (by have := HC.out.lt p1 p2; simp; omega) (fun e => by have := (HO.out.lt p e.symm).1; omega)).trans ((Below.heap_alloc _ _ _ (HC.out.lt p1 p2)).trans (HC.out.mid p p1 p2)))
      have e1 : (pre ++ [x]).length = pre.length + 1 := by simp
      have e2 : cellsS (pre ++ [x]) = cellsS pre ++ [.int .i64 x.1, .bool x.2] := by rw [cellsS_append]; rfl
      have hCn : Coll w w2 b4 b8 k l f (pre ++ [x]) (w3.setCell ⟨b8, 0, none⟩ (.slice (some ⟨g', 0, none⟩) (pre.length + 1) cap')) :=
        ⟨⟨_, hx2, by rw [e1, e2]; exact hx3, trivial⟩, (hx5.block b4 (by omega)).trans HC.out.kbox, (hx5.block (b4 + 1) (by omega)).trans HC.out.sbox, HC.out.below.trans (hx5.mono (by omega)), hmid⟩
      have HCN := Lib.hid hCn
      have HX4 := Lib.hid hx4
      have HX5 := Lib.hid hx5
      clear hCn hmid hx0 hx1 hx2 hx3 hx4 hx5 hgrow
      gi_wp2_with fail
      refine ⟨HX4.out.from _, by rw [hb8]; exact HX5.out, HCN.out, fun j hj => ?_⟩
      rw [e1] at hj
      by_cases hjl : j < pre.length
      · exact HNE.out j hjl
      · obtain rfl : j = pre.length := by omega
        exact hk
  case done =>
    rintro D xs W hD hS ⟨hC, hne⟩ hdef
    have hS' : xs = allL n := hS
    exact ⟨.inl rfl, D, xs, hD, hdef, hC, .inl ⟨hS', fun h => hne k.toNat (by rw [hS']; omega) (by omega)⟩, rfl⟩
  case stop =>
    rintro D c pre W hD ⟨j, hj, rfl⟩ ⟨rfl, ys, x, hys, hk, hC⟩ hdef
    have hl := congrArg List.length hys
    rw [List.length_take, List.length_append, List.length_singleton, Nat.min_eq_left hj] at hl
    have hy : ys = (allL n).take ys.length := by
      have h := congrArg (List.take ys.length) hys
      rw [List.take_take, Nat.min_eq_left (by omega), List.take_left'] at h
      · exact h.symm
      · rfl
    refine wpIn_exit0 ?_
    exact ⟨.inr rfl, D, ys, hD, hdef, hC, .inr ⟨hk, by omega, hy⟩, rfl⟩
  case tail =>
    rintro e a' W ⟨he, D, xs, hD, hdef, hC, hxs, rfl⟩
    refine inBlock_both he ?_
    clear he heg hsq
    have hown : OwnSteps W (b8 + 1) v (allL n) := ownsRow_mid HOWN.out (fun p p1 p2 => hC.mid p (by omega) p2)
    have hst := hown.steps
    obtain ⟨u, hu, hur, _⟩ := hC.some
    have c8 := hu.cell
    have HBOX := Lib.hid hu
    have hus : StepsAt W u xs := OwnSteps.steps hur
    have c4 := hC.kbox.cell
    have c5 := hC.sbox
    have HC := Lib.hid hC
    have HV := Lib.hid hst
    have HU := Lib.hid hus
    have HD := Lib.hid hD
    have HDEF := Lib.hid hdef
    obtain ⟨va, vc, hve⟩ : ∃ va vc, v = .slice va (allL n).length vc := by
      obtain ⟨va, vc, h, _⟩ := hst
      exact ⟨va, vc, h⟩
    have hvc : (allL n).length ≤ vc := by
      obtain ⟨va', vc', h, h2, _⟩ := hst
      rw [hve] at h
      cases h
      exact h2
    subst hve
    obtain ⟨ua, uc, hue⟩ : ∃ ua uc, u = .slice ua xs.length uc := by
      obtain ⟨va, vc, h, _⟩ := hus
      exact ⟨va, vc, h⟩
    subst hue
    have hal := allL_le n
    have HXS := Lib.hid hxs
    clear hst hus hown hC hD hdef hur hu hxs HOWN hc0 h12
    by_cases h0 : 0 ≤ k
    · by_cases h1 : k < (allL n).length
      · obtain ⟨m, rfl⟩ : ∃ m : Nat, k = m := ⟨k.toNat, by omega⟩
        have hx : xs.length = m ∧ xs = (allL n).take m := by
          rcases HXS.out with ⟨_, hx⟩ | ⟨hx, hx2, hx3⟩
          · omega
          · have h : xs.length = m := by omega
            rw [h] at hx3
            exact ⟨h, hx3⟩
        have HW : Hid (StepsAt W (.slice va m vc) xs) := by
          show StepsAt W (.slice va m vc) xs
          rw [hx.2]
          exact HV.out.first m (by omega)
        have HXL : Hid (xs.length ≤ 1000) := by
          show xs.length ≤ 1000
          omega
        clear HXS HV hx
        go_wp2_with fail
        have hbW : b8 < W.heap.size := HBOX.out.lt
        have h4W : b4 < W.heap.size := by omega
        have h5W : b4 + 1 < W.heap.size := by omega
        refine (or_at n (m : Int) _).mono ?_
        rintro r w3 ⟨rfl, hb3⟩
        have hsz3 := hb3.size
        obtain ⟨W4, hW4⟩ : ∃ W4, (w3.alloc (.cells #[.int .i64 0, .bool false] 23)).setRow w3.heap.size (sv (stL n (m : Int)) (stF n (m : Int))) = W4 := ⟨_, rfl⟩
        have HK4 : Hid (Blk W4 w3.heap.size (sv (stL n (m : Int)) (stF n (m : Int))) 23) := by
          show Blk W4 w3.heap.size (sv (stL n (m : Int)) (stF n (m : Int))) 23
          rw [← hW4]
          exact (Blk.new w3 (sv 0 false) 23).put _
        have HB4 : Hid (Below W.heap.size W W4) := by
          show Below W.heap.size W W4
          rw [← hW4]
          exact below_put hsz3 _ (Below.alloc hb3 hsz3 _)
        have hz4 : w3.heap.size < W4.heap.size := HK4.out.lt
        have c44 : W4.cell? ⟨b4, 0, none⟩ = some (.int .i64 (m : Int)) := (HB4.out.cell (p := ⟨b4, 0, none⟩) h4W).trans c4
        have C4 := Lib.hid c4
        clear hb3 c4
        go_wp2_with (refine wpList_store_row rfl 23 (.tmp 11) (.tmp 54) rfl w3.heap.size (sv (stL n (m : Int)) (stF n (m : Int))) rfl rfl 23 (sv 0 false) (Blk.new w3 (sv 0 false) 23) size_step rfl (sv_one _ _) ?_; try rw [show (w3.alloc (.cells (sv 0 false) 23)).setRow w3.heap.size (sv (stL n (m : Int)) (stF n (m : Int))) = W4 from hW4])
        clear hW4
        obtain ⟨g11, hg11⟩ : ∃ g, w3.heap.size = g := ⟨_, rfl⟩
        rw [hg11] at HK4 hz4 ⊢
        clear hg11 hsz3
        refine (ror_at n (m : Int) _).mono ?_
        rintro r w5 ⟨rfl, hb5⟩
        have hsz5 := hb5.size
        obtain ⟨W6, hW6⟩ : ∃ W6, (w5.alloc (.cells #[.int .i64 0, .bool false] 23)).setRow w5.heap.size (sv (stL n (m : Int)) (stF n (m : Int))) = W6 := ⟨_, rfl⟩
        have hbW6 : Below W4.heap.size W4 W6 := by
          rw [← hW6]
          exact below_put hsz5 _ (Below.alloc hb5 hsz5 _)
        have HK6 : Hid (Blk W6 w5.heap.size (sv (stL n (m : Int)) (stF n (m : Int))) 23) := by
          show Blk W6 w5.heap.size (sv (stL n (m : Int)) (stF n (m : Int))) 23
          rw [← hW6]
          exact (Blk.new w5 (sv 0 false) 23).put _
        have HJ6 : Hid (Blk W6 g11 (sv (stL n (m : Int)) (stF n (m : Int))) 23) := HK4.out.after hbW6
        have HB6 : Hid (Below W.heap.size W W6) := HB4.out.trans (hbW6.mono HB4.out.size)
        have c56 : Blk W6 (b4 + 1) #[.int .i64 l, .bool f] 23 := c5.after HB6.out
        clear hb5 hbW6 c44 HB4 HK4
        go_wp2_with (first
          | (refine wpList_store_row rfl 23 (.tmp 13) (.tmp 60) rfl w5.heap.size (sv (stL n (m : Int)) (stF n (m : Int))) rfl rfl 23 (sv 0 false) (Blk.new w5 (sv 0 false) 23) size_step rfl (sv_one _ _) ?_; try rw [show (w5.alloc (.cells (sv 0 false) 23)).setRow w5.heap.size (sv (stL n (m : Int)) (stF n (m : Int))) = W6 from hW6])
          | (refine wpList_load_row rfl 23 (.tmp 5) rfl (b4 + 1) rfl 23 #[.int .i64 l, .bool f] (0, 0) _ c56 Try.underlying23 rfl size_step ?_))
        clear hW6 c56
        obtain ⟨g13, hg13⟩ : ∃ g, w5.heap.size = g := ⟨_, rfl⟩
        rw [hg13] at HK6 ⊢
        clear hg13 hsz5
        refine (or_place n l f _).mono ?_
        rintro r w7 ⟨rfl, hb⟩
        have HB7 : Hid (Below W.heap.size W w7) := HB6.out.trans (hb.mono HB6.out.size)
        have HJ7 : Hid (Blk w7 g11 (sv (stL n (m : Int)) (stF n (m : Int))) 23) := HJ6.out.after hb
        have HK7 : Hid (Blk w7 g13 (sv (stL n (m : Int)) (stF n (m : Int))) 23) := HK6.out.after hb
        clear hb
        have c4x := (HB7.out.cell (p := ⟨b4, 0, none⟩) h4W).trans C4.out
        have c5x := c5.after HB7.out
        have c5f := c5x.cell 0
        go_wp2_with (first
          | (refine wpList_load_row rfl 23 (.tmp 5) rfl (b4 + 1) rfl 23 #[.int .i64 l, .bool f] (0, 0) _ c5x Try.underlying23 rfl size_step ?_))
        clear c4x c5x c5f
        refine (ror_place n l f _).mono ?_
        rintro r w8 ⟨rfl, hb⟩
        have HB8 : Hid (Below W.heap.size W w8) := HB7.out.trans (hb.mono HB7.out.size)
        have HJ8 : Hid (Blk w8 g11 (sv (stL n (m : Int)) (stF n (m : Int))) 23) := HJ7.out.after hb
        have HK8 : Hid (Blk w8 g13 (sv (stL n (m : Int)) (stF n (m : Int))) 23) := HK7.out.after hb
        clear hb
        have c4x := (HB8.out.cell (p := ⟨b4, 0, none⟩) h4W).trans C4.out
        have c5x := c5.after HB8.out
        have c5f := c5x.cell 0
        go_wp2_with (first
          | (refine wpList_load_row rfl 23 (.tmp 5) rfl (b4 + 1) rfl 23 #[.int .i64 l, .bool f] (0, 0) _ c5x Try.underlying23 rfl size_step ?_))
        clear c4x c5x c5f
        refine (or_after n (m : Int) l _).mono ?_
        rintro r w9 ⟨rfl, hb⟩
        have HB9 : Hid (Below W.heap.size W w9) := HB8.out.trans (hb.mono HB8.out.size)
        have HJ9 : Hid (Blk w9 g11 (sv (stL n (m : Int)) (stF n (m : Int))) 23) := HJ8.out.after hb
        have HK9 : Hid (Blk w9 g13 (sv (stL n (m : Int)) (stF n (m : Int))) 23) := HK8.out.after hb
        clear hb
        have c4x := (HB9.out.cell (p := ⟨b4, 0, none⟩) h4W).trans C4.out
        have c5x := c5.after HB9.out
        have c5f := c5x.cell 0
        go_wp2_with (first
          | (refine wpList_load_row rfl 23 (.tmp 5) rfl (b4 + 1) rfl 23 #[.int .i64 l, .bool f] (0, 0) _ c5x Try.underlying23 rfl size_step ?_))
        clear c4x c5x c5f
        refine (ror_after n (m : Int) l _).mono ?_
        rintro r w10 ⟨rfl, hb⟩
        have HB10 : Hid (Below W.heap.size W w10) := HB9.out.trans (hb.mono HB9.out.size)
        have HJ10 : Hid (Blk w10 g11 (sv (stL n (m : Int)) (stF n (m : Int))) 23) := HJ9.out.after hb
        have HK10 : Hid (Blk w10 g13 (sv (stL n (m : Int)) (stF n (m : Int))) 23) := HK9.out.after hb
        have hbw : w.heap.size ≤ W.heap.size := by omega
        have HBX : Hid (Below w.heap.size w w10) := HC.out.below.trans (HB10.out.mono hbw)
        have hDE : w10.heap[D]? = some (.deferred (some [])) := (HB10.out.block D (Array.getElem?_eq_some_iff.1 HDEF.out).1).trans HDEF.out
        have HDX := Lib.hid hDE
        have HS1 : Hid (StepsAt w10 (.slice ua xs.length uc) xs) := HU.out.below HB10.out
        have HS2 : Hid (StepsAt w10 (.slice va m vc) xs) := HW.out.below HB10.out
        have c8x := (HB10.out.cell (p := ⟨b8, 0, none⟩) hbW).trans c8
        clear hb HB6 HB7 HB8 HB9 HJ6 HJ7 HJ8 HJ9 HK6 HK7 HK8 HK9 HC HDEF HU HW c8 c5 C4 hDE
        generalize stL n (m : Int) = sL at HJ10 HK10 ⊢
        generalize stF n (m : Int) = sF at HJ10 HK10 ⊢
        generalize stC n (m : Int) = sC
        generalize plN n l f = pN
        generalize plC n l = pC
        generalize afN n (m : Int) l = aN
        generalize afC n (m : Int) l = aC
        have hdD : w.heap.size ≤ D := by have := HD.out; omega
        go_wp2_with fail
        refine (book_steps _ _ _ xs HXL.out HS1.out HS2.out).mono ?_
        rintro r w11 ⟨rfl, hb⟩
        have HBX11 : Hid (Below w.heap.size w w11) := HBX.out.trans (hb.mono HBX.out.size)
        have hj := HJ10.out.after hb
        have hk := HK10.out.after hb
        have HDY : Hid (w11.heap[D]? = some (.deferred (some []))) := (hb.block D (Array.getElem?_eq_some_iff.1 HDX.out).1).trans HDX.out
        have heq : ∀ W, Sem.run Try.prog (binOp .eql 23 (.agg (sv sL sF)) (.agg (sv sL sF))) W = .ok (.bool true) W := fun W => by
          show Sem.run Try.prog (binOp .eql 23 (.agg #[.int .i64 sL, .bool sF]) (.agg #[.int .i64 sL, .bool sF])) W = _
          rw [eql_step, sameS_self]
        clear hb HBX HS1 HS2 HJ10 HK10 HDX c8x HB10
        go_wp2_with (first
          | (refine wpList_load_row_if (by kernel_rfl) 23 (.tmp 11) rfl g11 rfl 23 (sv sL sF) (0, 0) _ hj Try.underlying23 rfl size_step ?_)
          | (refine wpList_load_row_if (by kernel_rfl) 23 (.tmp 13) rfl g13 rfl 23 (sv sL sF) (0, 0) _ hk Try.underlying23 rfl size_step ?_))
        refine (orworks_any _).mono ?_
        rintro r w12 ⟨rfl, hb⟩
        have HDZ : Hid (w12.heap[D]? = some (.deferred (some []))) := (hb.block D (Array.getElem?_eq_some_iff.1 HDY.out).1).trans HDY.out
        have HM : Hid (Below w.heap.size w (w12.putObj D (.deferred none))) := below_mark (HBX11.out.trans (hb.mono HBX11.out.size)) hdD HDZ.out
        clear hb HBX11 HDY hj hk heq
        go_wp2_with fail
        exact leave_one rfl HDZ.out (results_tmp rfl _ _ _) ⟨rfl, HM.out⟩
      · have HW : Hid (StepsAt W (.slice va (allL n).length vc) xs) := by
          rcases HXS.out with ⟨hx, _⟩ | ⟨hx, hx2, _⟩
          · rw [hx]; exact HV.out
          · omega
        have HXL : Hid (xs.length ≤ 1000) := by
          show xs.length ≤ 1000
          rcases HXS.out with ⟨hx, _⟩ | ⟨hx, hx2, _⟩
          · rw [hx]; omega
          · omega
        clear HXS HV
        go_wp2_with fail
        have hbW : b8 < W.heap.size := HBOX.out.lt
        have h4W : b4 < W.heap.size := by omega
        have h5W : b4 + 1 < W.heap.size := by omega
        refine (or_at n k _).mono ?_
        rintro r w3 ⟨rfl, hb3⟩
        have hsz3 := hb3.size
        obtain ⟨W4, hW4⟩ : ∃ W4, (w3.alloc (.cells #[.int .i64 0, .bool false] 23)).setRow w3.heap.size (sv (stL n k) (stF n k)) = W4 := ⟨_, rfl⟩
        have HK4 : Hid (Blk W4 w3.heap.size (sv (stL n k) (stF n k)) 23) := by
          show Blk W4 w3.heap.size (sv (stL n k) (stF n k)) 23
          rw [← hW4]
          exact (Blk.new w3 (sv 0 false) 23).put _
        have HB4 : Hid (Below W.heap.size W W4) := by
          show Below W.heap.size W W4
          rw [← hW4]
          exact below_put hsz3 _ (Below.alloc hb3 hsz3 _)
        have hz4 : w3.heap.size < W4.heap.size := HK4.out.lt
        have c44 : W4.cell? ⟨b4, 0, none⟩ = some (.int .i64 k) := (HB4.out.cell (p := ⟨b4, 0, none⟩) h4W).trans c4
        have C4 := Lib.hid c4
        clear hb3 c4
        go_wp2_with (refine wpList_store_row rfl 23 (.tmp 11) (.tmp 54) rfl w3.heap.size (sv (stL n k) (stF n k)) rfl rfl 23 (sv 0 false) (Blk.new w3 (sv 0 false) 23) size_step rfl (sv_one _ _) ?_; try rw [show (w3.alloc (.cells (sv 0 false) 23)).setRow w3.heap.size (sv (stL n k) (stF n k)) = W4 from hW4])
        clear hW4
        obtain ⟨g11, hg11⟩ : ∃ g, w3.heap.size = g := ⟨_, rfl⟩
        rw [hg11] at HK4 hz4 ⊢
        clear hg11 hsz3
        refine (ror_at n k _).mono ?_
        rintro r w5 ⟨rfl, hb5⟩
        have hsz5 := hb5.size
        obtain ⟨W6, hW6⟩ : ∃ W6, (w5.alloc (.cells #[.int .i64 0, .bool false] 23)).setRow w5.heap.size (sv (stL n k) (stF n k)) = W6 := ⟨_, rfl⟩
        have hbW6 : Below W4.heap.size W4 W6 := by
          rw [← hW6]
          exact below_put hsz5 _ (Below.alloc hb5 hsz5 _)
        have HK6 : Hid (Blk W6 w5.heap.size (sv (stL n k) (stF n k)) 23) := by
          show Blk W6 w5.heap.size (sv (stL n k) (stF n k)) 23
          rw [← hW6]
          exact (Blk.new w5 (sv 0 false) 23).put _
        have HJ6 : Hid (Blk W6 g11 (sv (stL n k) (stF n k)) 23) := HK4.out.after hbW6
        have HB6 : Hid (Below W.heap.size W W6) := HB4.out.trans (hbW6.mono HB4.out.size)
        have c56 : Blk W6 (b4 + 1) #[.int .i64 l, .bool f] 23 := c5.after HB6.out
        clear hb5 hbW6 c44 HB4 HK4
        go_wp2_with (first
          | (refine wpList_store_row rfl 23 (.tmp 13) (.tmp 60) rfl w5.heap.size (sv (stL n k) (stF n k)) rfl rfl 23 (sv 0 false) (Blk.new w5 (sv 0 false) 23) size_step rfl (sv_one _ _) ?_; try rw [show (w5.alloc (.cells (sv 0 false) 23)).setRow w5.heap.size (sv (stL n k) (stF n k)) = W6 from hW6])
          | (refine wpList_load_row rfl 23 (.tmp 5) rfl (b4 + 1) rfl 23 #[.int .i64 l, .bool f] (0, 0) _ c56 Try.underlying23 rfl size_step ?_))
        clear hW6 c56
        obtain ⟨g13, hg13⟩ : ∃ g, w5.heap.size = g := ⟨_, rfl⟩
        rw [hg13] at HK6 ⊢
        clear hg13 hsz5
        refine (or_place n l f _).mono ?_
        rintro r w7 ⟨rfl, hb⟩
        have HB7 : Hid (Below W.heap.size W w7) := HB6.out.trans (hb.mono HB6.out.size)
        have HJ7 : Hid (Blk w7 g11 (sv (stL n k) (stF n k)) 23) := HJ6.out.after hb
        have HK7 : Hid (Blk w7 g13 (sv (stL n k) (stF n k)) 23) := HK6.out.after hb
        clear hb
        have c4x := (HB7.out.cell (p := ⟨b4, 0, none⟩) h4W).trans C4.out
        have c5x := c5.after HB7.out
        have c5f := c5x.cell 0
        go_wp2_with (first
          | (refine wpList_load_row rfl 23 (.tmp 5) rfl (b4 + 1) rfl 23 #[.int .i64 l, .bool f] (0, 0) _ c5x Try.underlying23 rfl size_step ?_))
        clear c4x c5x c5f
        refine (ror_place n l f _).mono ?_
        rintro r w8 ⟨rfl, hb⟩
        have HB8 : Hid (Below W.heap.size W w8) := HB7.out.trans (hb.mono HB7.out.size)
        have HJ8 : Hid (Blk w8 g11 (sv (stL n k) (stF n k)) 23) := HJ7.out.after hb
        have HK8 : Hid (Blk w8 g13 (sv (stL n k) (stF n k)) 23) := HK7.out.after hb
        clear hb
        have c4x := (HB8.out.cell (p := ⟨b4, 0, none⟩) h4W).trans C4.out
        have c5x := c5.after HB8.out
        have c5f := c5x.cell 0
        go_wp2_with (first
          | (refine wpList_load_row rfl 23 (.tmp 5) rfl (b4 + 1) rfl 23 #[.int .i64 l, .bool f] (0, 0) _ c5x Try.underlying23 rfl size_step ?_))
        clear c4x c5x c5f
        refine (or_after n k l _).mono ?_
        rintro r w9 ⟨rfl, hb⟩
        have HB9 : Hid (Below W.heap.size W w9) := HB8.out.trans (hb.mono HB8.out.size)
        have HJ9 : Hid (Blk w9 g11 (sv (stL n k) (stF n k)) 23) := HJ8.out.after hb
        have HK9 : Hid (Blk w9 g13 (sv (stL n k) (stF n k)) 23) := HK8.out.after hb
        clear hb
        have c4x := (HB9.out.cell (p := ⟨b4, 0, none⟩) h4W).trans C4.out
        have c5x := c5.after HB9.out
        have c5f := c5x.cell 0
        go_wp2_with (first
          | (refine wpList_load_row rfl 23 (.tmp 5) rfl (b4 + 1) rfl 23 #[.int .i64 l, .bool f] (0, 0) _ c5x Try.underlying23 rfl size_step ?_))
        clear c4x c5x c5f
        refine (ror_after n k l _).mono ?_
        rintro r w10 ⟨rfl, hb⟩
        have HB10 : Hid (Below W.heap.size W w10) := HB9.out.trans (hb.mono HB9.out.size)
        have HJ10 : Hid (Blk w10 g11 (sv (stL n k) (stF n k)) 23) := HJ9.out.after hb
        have HK10 : Hid (Blk w10 g13 (sv (stL n k) (stF n k)) 23) := HK9.out.after hb
        have hbw : w.heap.size ≤ W.heap.size := by omega
        have HBX : Hid (Below w.heap.size w w10) := HC.out.below.trans (HB10.out.mono hbw)
        have hDE : w10.heap[D]? = some (.deferred (some [])) := (HB10.out.block D (Array.getElem?_eq_some_iff.1 HDEF.out).1).trans HDEF.out
        have HDX := Lib.hid hDE
        have HS1 : Hid (StepsAt w10 (.slice ua xs.length uc) xs) := HU.out.below HB10.out
        have HS2 : Hid (StepsAt w10 (.slice va (allL n).length vc) xs) := HW.out.below HB10.out
        have c8x := (HB10.out.cell (p := ⟨b8, 0, none⟩) hbW).trans c8
        clear hb HB6 HB7 HB8 HB9 HJ6 HJ7 HJ8 HJ9 HK6 HK7 HK8 HK9 HC HDEF HU HW c8 c5 C4 hDE
        generalize stL n k = sL at HJ10 HK10 ⊢
        generalize stF n k = sF at HJ10 HK10 ⊢
        generalize stC n k = sC
        generalize plN n l f = pN
        generalize plC n l = pC
        generalize afN n k l = aN
        generalize afC n k l = aC
        have hdD : w.heap.size ≤ D := by have := HD.out; omega
        go_wp2_with fail
        refine (book_steps _ _ _ xs HXL.out HS1.out HS2.out).mono ?_
        rintro r w11 ⟨rfl, hb⟩
        have HBX11 : Hid (Below w.heap.size w w11) := HBX.out.trans (hb.mono HBX.out.size)
        have hj := HJ10.out.after hb
        have hk := HK10.out.after hb
        have HDY : Hid (w11.heap[D]? = some (.deferred (some []))) := (hb.block D (Array.getElem?_eq_some_iff.1 HDX.out).1).trans HDX.out
        have heq : ∀ W, Sem.run Try.prog (binOp .eql 23 (.agg (sv sL sF)) (.agg (sv sL sF))) W = .ok (.bool true) W := fun W => by
          show Sem.run Try.prog (binOp .eql 23 (.agg #[.int .i64 sL, .bool sF]) (.agg #[.int .i64 sL, .bool sF])) W = _
          rw [eql_step, sameS_self]
        clear hb HBX HS1 HS2 HJ10 HK10 HDX c8x HB10
        go_wp2_with (first
          | (refine wpList_load_row_if (by kernel_rfl) 23 (.tmp 11) rfl g11 rfl 23 (sv sL sF) (0, 0) _ hj Try.underlying23 rfl size_step ?_)
          | (refine wpList_load_row_if (by kernel_rfl) 23 (.tmp 13) rfl g13 rfl 23 (sv sL sF) (0, 0) _ hk Try.underlying23 rfl size_step ?_))
        refine (orworks_any _).mono ?_
        rintro r w12 ⟨rfl, hb⟩
        have HDZ : Hid (w12.heap[D]? = some (.deferred (some []))) := (hb.block D (Array.getElem?_eq_some_iff.1 HDY.out).1).trans HDY.out
        have HM : Hid (Below w.heap.size w (w12.putObj D (.deferred none))) := below_mark (HBX11.out.trans (hb.mono HBX11.out.size)) hdD HDZ.out
        clear hb HBX11 HDY hj hk heq
        go_wp2_with fail
        exact leave_one rfl HDZ.out (results_tmp rfl _ _ _) ⟨rfl, HM.out⟩
    · have HW : Hid (StepsAt W (.slice va (allL n).length vc) xs) := by
        rcases HXS.out with ⟨hx, _⟩ | ⟨hx, hx2, _⟩
        · rw [hx]; exact HV.out
        · omega
      have HXL : Hid (xs.length ≤ 1000) := by
        show xs.length ≤ 1000
        rcases HXS.out with ⟨hx, _⟩ | ⟨hx, hx2, _⟩
        · rw [hx]; omega
        · omega
      clear HXS HV
      go_wp2_with fail
      have hbW : b8 < W.heap.size := HBOX.out.lt
      have h4W : b4 < W.heap.size := by omega
      have h5W : b4 + 1 < W.heap.size := by omega
      refine (or_at n k _).mono ?_
      rintro r w3 ⟨rfl, hb3⟩
      have hsz3 := hb3.size
      obtain ⟨W4, hW4⟩ : ∃ W4, (w3.alloc (.cells #[.int .i64 0, .bool false] 23)).setRow w3.heap.size (sv (stL n k) (stF n k)) = W4 := ⟨_, rfl⟩
      have HK4 : Hid (Blk W4 w3.heap.size (sv (stL n k) (stF n k)) 23) := by
        show Blk W4 w3.heap.size (sv (stL n k) (stF n k)) 23
        rw [← hW4]
        exact (Blk.new w3 (sv 0 false) 23).put _
      have HB4 : Hid (Below W.heap.size W W4) := by
        show Below W.heap.size W W4
        rw [← hW4]
        exact below_put hsz3 _ (Below.alloc hb3 hsz3 _)
      have hz4 : w3.heap.size < W4.heap.size := HK4.out.lt
      have c44 : W4.cell? ⟨b4, 0, none⟩ = some (.int .i64 k) := (HB4.out.cell (p := ⟨b4, 0, none⟩) h4W).trans c4
      have C4 := Lib.hid c4
      clear hb3 c4
      go_wp2_with (refine wpList_store_row rfl 23 (.tmp 11) (.tmp 54) rfl w3.heap.size (sv (stL n k) (stF n k)) rfl rfl 23 (sv 0 false) (Blk.new w3 (sv 0 false) 23) size_step rfl (sv_one _ _) ?_; try rw [show (w3.alloc (.cells (sv 0 false) 23)).setRow w3.heap.size (sv (stL n k) (stF n k)) = W4 from hW4])
      clear hW4
      obtain ⟨g11, hg11⟩ : ∃ g, w3.heap.size = g := ⟨_, rfl⟩
      rw [hg11] at HK4 hz4 ⊢
      clear hg11 hsz3
      refine (ror_at n k _).mono ?_
      rintro r w5 ⟨rfl, hb5⟩
      have hsz5 := hb5.size
      obtain ⟨W6, hW6⟩ : ∃ W6, (w5.alloc (.cells #[.int .i64 0, .bool false] 23)).setRow w5.heap.size (sv (stL n k) (stF n k)) = W6 := ⟨_, rfl⟩
      have hbW6 : Below W4.heap.size W4 W6 := by
        rw [← hW6]
        exact below_put hsz5 _ (Below.alloc hb5 hsz5 _)
      have HK6 : Hid (Blk W6 w5.heap.size (sv (stL n k) (stF n k)) 23) := by
        show Blk W6 w5.heap.size (sv (stL n k) (stF n k)) 23
        rw [← hW6]
        exact (Blk.new w5 (sv 0 false) 23).put _
      have HJ6 : Hid (Blk W6 g11 (sv (stL n k) (stF n k)) 23) := HK4.out.after hbW6
      have HB6 : Hid (Below W.heap.size W W6) := HB4.out.trans (hbW6.mono HB4.out.size)
      have c56 : Blk W6 (b4 + 1) #[.int .i64 l, .bool f] 23 := c5.after HB6.out
      clear hb5 hbW6 c44 HB4 HK4
      go_wp2_with (first
        | (refine wpList_store_row rfl 23 (.tmp 13) (.tmp 60) rfl w5.heap.size (sv (stL n k) (stF n k)) rfl rfl 23 (sv 0 false) (Blk.new w5 (sv 0 false) 23) size_step rfl (sv_one _ _) ?_; try rw [show (w5.alloc (.cells (sv 0 false) 23)).setRow w5.heap.size (sv (stL n k) (stF n k)) = W6 from hW6])
        | (refine wpList_load_row rfl 23 (.tmp 5) rfl (b4 + 1) rfl 23 #[.int .i64 l, .bool f] (0, 0) _ c56 Try.underlying23 rfl size_step ?_))
      clear hW6 c56
      obtain ⟨g13, hg13⟩ : ∃ g, w5.heap.size = g := ⟨_, rfl⟩
      rw [hg13] at HK6 ⊢
      clear hg13 hsz5
      refine (or_place n l f _).mono ?_
      rintro r w7 ⟨rfl, hb⟩
      have HB7 : Hid (Below W.heap.size W w7) := HB6.out.trans (hb.mono HB6.out.size)
      have HJ7 : Hid (Blk w7 g11 (sv (stL n k) (stF n k)) 23) := HJ6.out.after hb
      have HK7 : Hid (Blk w7 g13 (sv (stL n k) (stF n k)) 23) := HK6.out.after hb
      clear hb
      have c4x := (HB7.out.cell (p := ⟨b4, 0, none⟩) h4W).trans C4.out
      have c5x := c5.after HB7.out
      have c5f := c5x.cell 0
      go_wp2_with (first
        | (refine wpList_load_row rfl 23 (.tmp 5) rfl (b4 + 1) rfl 23 #[.int .i64 l, .bool f] (0, 0) _ c5x Try.underlying23 rfl size_step ?_))
      clear c4x c5x c5f
      refine (ror_place n l f _).mono ?_
      rintro r w8 ⟨rfl, hb⟩
      have HB8 : Hid (Below W.heap.size W w8) := HB7.out.trans (hb.mono HB7.out.size)
      have HJ8 : Hid (Blk w8 g11 (sv (stL n k) (stF n k)) 23) := HJ7.out.after hb
      have HK8 : Hid (Blk w8 g13 (sv (stL n k) (stF n k)) 23) := HK7.out.after hb
      clear hb
      have c4x := (HB8.out.cell (p := ⟨b4, 0, none⟩) h4W).trans C4.out
      have c5x := c5.after HB8.out
      have c5f := c5x.cell 0
      go_wp2_with (first
        | (refine wpList_load_row rfl 23 (.tmp 5) rfl (b4 + 1) rfl 23 #[.int .i64 l, .bool f] (0, 0) _ c5x Try.underlying23 rfl size_step ?_))
      clear c4x c5x c5f
      refine (or_after n k l _).mono ?_
      rintro r w9 ⟨rfl, hb⟩
      have HB9 : Hid (Below W.heap.size W w9) := HB8.out.trans (hb.mono HB8.out.size)
      have HJ9 : Hid (Blk w9 g11 (sv (stL n k) (stF n k)) 23) := HJ8.out.after hb
      have HK9 : Hid (Blk w9 g13 (sv (stL n k) (stF n k)) 23) := HK8.out.after hb
      clear hb
      have c4x := (HB9.out.cell (p := ⟨b4, 0, none⟩) h4W).trans C4.out
      have c5x := c5.after HB9.out
      have c5f := c5x.cell 0
      go_wp2_with (first
        | (refine wpList_load_row rfl 23 (.tmp 5) rfl (b4 + 1) rfl 23 #[.int .i64 l, .bool f] (0, 0) _ c5x Try.underlying23 rfl size_step ?_))
      clear c4x c5x c5f
      refine (ror_after n k l _).mono ?_
      rintro r w10 ⟨rfl, hb⟩
      have HB10 : Hid (Below W.heap.size W w10) := HB9.out.trans (hb.mono HB9.out.size)
      have HJ10 : Hid (Blk w10 g11 (sv (stL n k) (stF n k)) 23) := HJ9.out.after hb
      have HK10 : Hid (Blk w10 g13 (sv (stL n k) (stF n k)) 23) := HK9.out.after hb
      have hbw : w.heap.size ≤ W.heap.size := by omega
      have HBX : Hid (Below w.heap.size w w10) := HC.out.below.trans (HB10.out.mono hbw)
      have hDE : w10.heap[D]? = some (.deferred (some [])) := (HB10.out.block D (Array.getElem?_eq_some_iff.1 HDEF.out).1).trans HDEF.out
      have HDX := Lib.hid hDE
      have HS1 : Hid (StepsAt w10 (.slice ua xs.length uc) xs) := HU.out.below HB10.out
      have HS2 : Hid (StepsAt w10 (.slice va (allL n).length vc) xs) := HW.out.below HB10.out
      have c8x := (HB10.out.cell (p := ⟨b8, 0, none⟩) hbW).trans c8
      clear hb HB6 HB7 HB8 HB9 HJ6 HJ7 HJ8 HJ9 HK6 HK7 HK8 HK9 HC HDEF HU HW c8 c5 C4 hDE
      generalize stL n k = sL at HJ10 HK10 ⊢
      generalize stF n k = sF at HJ10 HK10 ⊢
      generalize stC n k = sC
      generalize plN n l f = pN
      generalize plC n l = pC
      generalize afN n k l = aN
      generalize afC n k l = aC
      have hdD : w.heap.size ≤ D := by have := HD.out; omega
      go_wp2_with fail
      refine (book_steps _ _ _ xs HXL.out HS1.out HS2.out).mono ?_
      rintro r w11 ⟨rfl, hb⟩
      have HBX11 : Hid (Below w.heap.size w w11) := HBX.out.trans (hb.mono HBX.out.size)
      have hj := HJ10.out.after hb
      have hk := HK10.out.after hb
      have HDY : Hid (w11.heap[D]? = some (.deferred (some []))) := (hb.block D (Array.getElem?_eq_some_iff.1 HDX.out).1).trans HDX.out
      have heq : ∀ W, Sem.run Try.prog (binOp .eql 23 (.agg (sv sL sF)) (.agg (sv sL sF))) W = .ok (.bool true) W := fun W => by
        show Sem.run Try.prog (binOp .eql 23 (.agg #[.int .i64 sL, .bool sF]) (.agg #[.int .i64 sL, .bool sF])) W = _
        rw [eql_step, sameS_self]
      clear hb HBX HS1 HS2 HJ10 HK10 HDX c8x HB10
      go_wp2_with (first
        | (refine wpList_load_row_if (by kernel_rfl) 23 (.tmp 11) rfl g11 rfl 23 (sv sL sF) (0, 0) _ hj Try.underlying23 rfl size_step ?_)
        | (refine wpList_load_row_if (by kernel_rfl) 23 (.tmp 13) rfl g13 rfl 23 (sv sL sF) (0, 0) _ hk Try.underlying23 rfl size_step ?_))
      refine (orworks_any _).mono ?_
      rintro r w12 ⟨rfl, hb⟩
      have HDZ : Hid (w12.heap[D]? = some (.deferred (some []))) := (hb.block D (Array.getElem?_eq_some_iff.1 HDY.out).1).trans HDY.out
      have HM : Hid (Below w.heap.size w (w12.putObj D (.deferred none))) := below_mark (HBX11.out.trans (hb.mono HBX11.out.size)) hdD HDZ.out
      clear hb HBX11 HDY hj hk heq
      go_wp2_with fail
      exact leave_one rfl HDZ.out (results_tmp rfl _ _ _) ⟨rfl, HM.out⟩

end Go.Proofs.Ytnodnhmlbcafgaa
