/- Package order, walked: At, Place, After. -/
import Derived.Test.YtnodnhmlbcafgaaOrI
import Derived.RangeFuncBox
import Derived.OwnWalkIn
namespace Go.Proofs.Ytnodnhmlbcafgaa
set_option maxRecDepth 100000
open Go.RowKit
attribute [local go_sem] Oper.semAt_some

theorem wpListIn_store_row {F : Fence} {n : Nat} {P : Program} {ops : Array Oper} {rest : List Oper} {o : Oper} {a : Act} {w : World} {Q : Exit → Act → World → Prop} (hgd : o.guard = none) (ty : TypeId) (x y : Operand) (ho : o.op = .store ty x y)
    (g : Nat) (cells : Array Value) (hx : a.eval x = .pointer (some ⟨g, 0, none⟩)) (hy : a.eval y = .agg cells)
    (t : TypeId) (old : Array Value) (hg : w.heap[g]? = some (.cells old t (0, 0))) (hi : (P.info? ty).map (·.size) = some cells.size)
    (hold : old.size = cells.size) (h1 : cells.all (·.oneCell') = true)
    (h : wpListIn F n P ops Q rest (a.put o.dst undef) (w.setRow g cells)) : wpListIn F n P ops Q (o :: rest) a w := by
  refine wpListIn_plain hgd fun K hK => ?_
  unfold Oper.wpIn
  refine ⟨?_, ?_⟩
  · simp [Oper.about, ho]
  · rw [Oper.semAt_plain F _ _ (by rw [ho]; intro c hc'; cases hc')]
    simp only [execOp, ho, hx, hy, Instr.storeAt, Instr.sureAddr, Sem.run_bind, Sem.run_pure, Result.andThen_ok, run_storeVar_row w g t ty old cells hg hi hold h1]
    exact hK _ _ h
theorem wpListIn_load_row {F : Fence} {n : Nat} {P : Program} {ops : Array Oper} {rest : List Oper} {o : Oper} {a : Act} {w : World} {Q : Exit → Act → World → Prop} (hgd : o.guard = none) (ty : TypeId) (x : Operand) (ho : o.op = .load ty x)
    (g : Nat) (hx : a.eval x = .pointer (some ⟨g, 0, none⟩)) (t : TypeId) (cs : Array Value) (fr : Nat × Nat) (d : TypeDesc) (hg : w.heap[g]? = some (.cells cs t fr))
    (hu : P.underlying ty = some d) (hd : (match d with | .struct _ | .array _ _ => true | _ => false) = true) (hi : (P.info? ty).map (·.size) = some cs.size)
    (h : wpListIn F n P ops Q rest (a.put o.dst (.agg cs)) w) : wpListIn F n P ops Q (o :: rest) a w := by
  refine wpListIn_plain hgd fun K hK => ?_
  unfold Oper.wpIn
  refine ⟨?_, ?_⟩
  · simp [Oper.about, ho]
  · rw [Oper.semAt_plain F _ _ (by rw [ho]; intro c hc'; cases hc')]
    simp only [execOp, ho, hx, Instr.loadAt, Instr.sureAddr, Sem.run_bind, Sem.run_pure, Result.andThen_ok, run_loadVar_row w g t ty cs fr d hg hu hd hi]
    exact hK _ _ h

/-- what a function of two results gives, each in a block of its own -/
theorem results_cells_row {P : Program} {fn : Func} {p q : Tmp} {ty ty2 : TypeId} (h : fn.results = #[.cell p ty, .cell q ty2]) (tmps : Array Value) (w : World) (g g2 : Nat) (t : TypeId) (cs : Array Value) (d : TypeDesc) (v : Value)
    (hp : tmps.getD p undef = .pointer (some ⟨g, 0, none⟩)) (hg : Blk w g cs t)
    (hu : P.underlying ty = some d) (hd : (match d with | .struct _ | .array _ _ => true | _ => false) = true) (hi : (P.info? ty).map (·.size) = some cs.size)
    (hq : tmps.getD q undef = .pointer (some ⟨g2, 0, none⟩)) (hc : w.cell? ⟨g2, 0, none⟩ = some v) (ha : ∀ w, (isAgg ty2).run P w = .ok false w) :
    (results fn tmps).run P w = .ok (.tuple #[.agg cs, v]) w := by
  have hp' : tmps[p]?.getD undef = .pointer (some ⟨g, 0, none⟩) := by simpa using hp
  have hq' : tmps[q]?.getD undef = .pointer (some ⟨g2, 0, none⟩) := by simpa using hq
  have h2 : Sem.run P (loadVar ty2 ⟨g2, 0, none⟩) w = .ok v w := by
    simp [loadVar, ha]
    rw [hc]
  simp [results, h, hp', hq', asAddr, run_loadVar_row w g t ty cs (0, 0) d hg hu hd hi, h2]
theorem results_cells_two {P : Program} {fn : Func} {p q : Tmp} {ty ty2 : TypeId} (h : fn.results = #[.cell p ty, .cell q ty2]) (tmps : Array Value) (w : World) (g g2 : Nat) (u v : Value)
    (hp : tmps.getD p undef = .pointer (some ⟨g, 0, none⟩)) (hc1 : w.cell? ⟨g, 0, none⟩ = some u) (ha1 : ∀ w, (isAgg ty).run P w = .ok false w)
    (hq : tmps.getD q undef = .pointer (some ⟨g2, 0, none⟩)) (hc : w.cell? ⟨g2, 0, none⟩ = some v) (ha : ∀ w, (isAgg ty2).run P w = .ok false w) :
    (results fn tmps).run P w = .ok (.tuple #[u, v]) w := by
  have hp' : tmps[p]?.getD undef = .pointer (some ⟨g, 0, none⟩) := by simpa using hp
  have hq' : tmps[q]?.getD undef = .pointer (some ⟨g2, 0, none⟩) := by simpa using hq
  have h1 : Sem.run P (loadVar ty ⟨g, 0, none⟩) w = .ok u w := by
    simp [loadVar, ha1]
    rw [hc1]
  have h2 : Sem.run P (loadVar ty2 ⟨g2, 0, none⟩) w = .ok v w := by
    simp [loadVar, ha]
    rw [hc]
  simp [results, h, hp', hq', asAddr, h1, h2]

theorem allL_step {n : Int} {j : Nat} {ys : List (Nat × Bool)} {x : Nat × Bool} (h : ys ++ [x] = (allL n).take j) (hj : j ≤ (allL n).length) :
    LinesOk n ∧ ys.length < 2 * n.toNat ∧ stepC n.toNat ys.length = x := by
  have hl : ys.length + 1 = j := by
    have := congrArg List.length h
    rw [List.length_take, List.length_append, List.length_singleton, Nat.min_eq_left hj] at this
    exact this
  by_cases ho : LinesOk n
  · have h1 : 1 ≤ n.toNat := by unfold LinesOk at ho; omega
    have h64 : n.toNat ≤ 64 := by unfold LinesOk at ho; omega
    have he : allL n = refL n.toNat := if_pos ho
    rw [he] at h hj
    have hlen := refL_length n.toNat h1
    refine ⟨ho, by omega, ?_⟩
    have hk : ys.length < 2 * n.toNat := by omega
    rw [← refL_at h1 h64 hk]
    have h2 := congrArg (fun l => l.getD ys.length (0, false)) h
    simp only [List.getD_eq_getElem?_getD] at h2 ⊢
    rw [List.getElem?_append_right (Nat.le_refl _), Nat.sub_self, List.getElem?_take_of_lt (by omega)] at h2
    exact h2.symm
  · have he : allL n = [] := if_neg ho
    rw [he] at hj
    simp at hj
    omega
theorem allL_mem {n : Int} (ho : LinesOk n) {k : Nat} (hk : k < 2 * n.toNat) : k < (allL n).length ∧ stepC n.toNat k ∈ allL n := by
  have h1 : 1 ≤ n.toNat := by unfold LinesOk at ho; omega
  have h64 : n.toNat ≤ 64 := by unfold LinesOk at ho; omega
  have he : allL n = refL n.toNat := if_pos ho
  rw [he]
  refine ⟨by rw [refL_length _ h1]; exact hk, ?_⟩
  rw [refL_map _ h64 h1]
  exact List.mem_map.2 ⟨k, List.mem_range.2 hk, rfl⟩

theorem keeps_put {B g : Nat} (W : World) (cs : Array Value) (hg : g < B) : KeepsFrom B W (W.setRow g cs) :=
  ⟨by rw [size_setRow]; exact Nat.le_refl _, fun k o hk ho _ => by
    simp only [World.setRow, Array.getElem?_modify]
    rw [if_neg (by omega)]; exact ho⟩
/-- the blocks of a call while its loop runs: what it was asked of, its results as they are at first, the place; what lay before is as it was -/
structure AtS (w : World) (b : Nat) (q : Array Value) (tq : TypeId) (r1 : Array Value) (t1 : TypeId) (p : Nat) (W : World) : Prop where
  q : Blk W b q tq
  r1 : Blk W (b + 1) r1 t1
  r2 : Blk W (b + 1 + 1) #[.int .i64 0] 29
  p : Blk W (b + 1 + 1 + 1) #[.int .i64 p] 3
  below : Below w.heap.size w W
  size : b + 5 ≤ W.heap.size
theorem AtS.after {w W W' : World} {b : Nat} {q : Array Value} {tq : TypeId} {r1 : Array Value} {t1 : TypeId} {p : Nat} (h : AtS w b q tq r1 t1 p W) (hb : Below W.heap.size W W') : AtS w b q tq r1 t1 p W' :=
  ⟨h.q.after hb, h.r1.after hb, h.r2.after hb, h.p.after hb, h.below.trans (hb.mono h.below.size), Nat.le_trans h.size hb.size⟩
theorem AtS.kept {w W W' : World} {b B : Nat} {q : Array Value} {tq : TypeId} {r1 : Array Value} {t1 : TypeId} {p : Nat} {row : Option Nat} (h : AtS w b q tq r1 t1 p W) (hg : W.grownBy W' row)
    (hB : w.heap.size ≤ B) (hr : ∀ r, row = some r → B ≤ r ∧ ∃ o : Obj, W.heap[r]? = some o ∧ o.isCells = false) : AtS w b q tq r1 t1 p W' :=
  ⟨blk_kept h.q hg (fun r e => (hr r e).2), blk_kept h.r1 hg (fun r e => (hr r e).2), blk_kept h.r2 hg (fun r e => (hr r e).2), blk_kept h.p hg (fun r e => (hr r e).2), h.below.grown hg h.below.size (fun r e => by have := (hr r e).1; omega), Nat.le_trans h.size hg.size⟩
theorem AtS.next {w W : World} {b : Nat} {q : Array Value} {tq : TypeId} {r1 : Array Value} {t1 : TypeId} {p : Nat} (h : AtS w b q tq r1 t1 p W) (hb : w.heap.size ≤ b) : AtS w b q tq r1 t1 (p + 1) (W.setCell ⟨b + 1 + 1 + 1, 0, none⟩ (.int .i64 ((p : Int) + 1))) :=
  ⟨h.q.set_other (by omega) _ _, h.r1.set_other (by omega) _ _, h.r2.set_other (by omega) _ _, h.p.set 0 _ rfl, h.below.setCell (p := ⟨b + 1 + 1 + 1, 0, none⟩) (by show _ ≤ b + 1 + 1 + 1; omega) _, by simpa using h.size⟩

theorem blk_at0 (w : World) (A B C D : Obj) (cs : Array Value) (t : TypeId) : Blk (((((w.alloc (.cells cs t)).alloc A).alloc B).alloc C).alloc D) w.heap.size cs t := (((((Blk.new w cs t).alloc A).alloc B).alloc C).alloc D)
theorem blk_at1 (w : World) (A B C D : Obj) (cs : Array Value) (t : TypeId) : Blk (((((w.alloc A).alloc (.cells cs t)).alloc B).alloc C).alloc D) (w.heap.size + 1) cs t := by
  have h := ((((Blk.new (w.alloc A) cs t).alloc B).alloc C).alloc D)
  rwa [World.size_alloc] at h
theorem blk_at2 (w : World) (A B C D : Obj) (cs : Array Value) (t : TypeId) : Blk (((((w.alloc A).alloc B).alloc (.cells cs t)).alloc C).alloc D) (w.heap.size + 1 + 1) cs t := by
  have h := ((Blk.new ((w.alloc A).alloc B) cs t).alloc C).alloc D
  rwa [World.size_alloc, World.size_alloc] at h
theorem blk_at3 (w : World) (A B C D : Obj) (cs : Array Value) (t : TypeId) : Blk (((((w.alloc A).alloc B).alloc C).alloc (.cells cs t)).alloc D) (w.heap.size + 1 + 1 + 1) cs t := by
  have h := (Blk.new (((w.alloc A).alloc B).alloc C) cs t).alloc D
  rwa [World.size_alloc, World.size_alloc, World.size_alloc] at h
theorem blk_at4 (w : World) (A B C D : Obj) (cs : Array Value) (t : TypeId) : Blk (((((w.alloc A).alloc B).alloc C).alloc D).alloc (.cells cs t)) (w.heap.size + 1 + 1 + 1 + 1) cs t := by
  have h := Blk.new ((((w.alloc A).alloc B).alloc C).alloc D) cs t
  rwa [World.size_alloc, World.size_alloc, World.size_alloc, World.size_alloc] at h
theorem below_at (w : World) (A B C D E : Obj) : Below w.heap.size w (((((w.alloc A).alloc B).alloc C).alloc D).alloc E) :=
  (((((Below.refl _ _).alloc (Nat.le_refl _) _).alloc (by simp) _).alloc (by simp; omega) _).alloc (by simp; omega) _).alloc (by simp; omega) _
/-- the world ahead of the loop -/
theorem at_start (w : World) (n : Int) (q r1 : Array Value) (tq t1 : TypeId) : ∃ W0, (((((w.alloc (.cells q tq)).alloc (.cells r1 t1)).alloc (.cells #[.int .i64 0] 29)).alloc (.cells #[.int .i64 0] 3)).alloc (.cells #[.int .i64 n] 3)) = W0 ∧
    AtS w w.heap.size q tq r1 t1 0 W0 ∧ W0.heap.size = w.heap.size + 5 ∧ W0.cell? ⟨w.heap.size + 1 + 1 + 1 + 1, 0, none⟩ = some (.int .i64 n) :=
  ⟨_, rfl, ⟨blk_at0 _ _ _ _ _ _ _, blk_at1 _ _ _ _ _ _ _, blk_at2 _ _ _ _ _ _ _, blk_at3 _ _ _ _ _ _ _, below_at _ _ _ _ _ _, by simp⟩, by simp, (blk_at4 _ _ _ _ _ _ _).cell 0⟩

set_option maxHeartbeats 2000000 in
theorem or_at (n k : Int) (w : World) : Calls Try.prog 9 #[.int .i64 n, .int .i64 k] w (StepT n k w) := by
  refine calls_of_marks Try.func9 rfl ?_
  simp only [Try.ntmps9, List.size_toArray, List.length_cons, List.length_nil, Nat.reduceAdd, Nat.reduceSub, Array.replicate_succ, Array.replicate_zero, List.push_toArray, List.append_toArray, List.nil_append, List.cons_append]
  go_wp2_with fail
  refine (or_steps_raw n _).mono ?_
  rintro r w1 ⟨rfl, rfl⟩
  go_wp2_with fail
  obtain ⟨W0, hW0, hS0, hz, hc4⟩ := at_start w n #[.int .i64 k] (sv 0 false) 3 23
  obtain ⟨b, hb⟩ : ∃ b, w.heap.size = b := ⟨_, rfl⟩
  have HB := Lib.hid hb
  have hWx : (((((w.alloc (.cells #[.int .i64 k] 3)).alloc (.cells #[.int .i64 0, .bool false] 23)).alloc (.cells #[.int .i64 0] 29)).alloc (.cells #[.int .i64 0] 3)).alloc (.cells #[.int .i64 n] 3)) = W0 := hW0
  rw [hWx]
  rw [hb] at hS0 hz hc4 ⊢
  have HBe : w.heap.size ≤ b := Nat.le_of_eq hb
  clear hW0 hWx hb
  refine wpIn_wide.1 (wpIn_rangeFunc_ownH (F := Fence.wide) (n := 9) rfl (by decide) (gf := 17) (lb := #[.pointer (some ⟨b + 1 + 1 + 1 + 1, 0, none⟩)]) rfl trivial steps_enters
    (steps_stops 8 (by decide) (b + 1 + 1 + 1 + 1) n W0 (by omega) hc4) KeepB.trans (KeepB.mark (by simp; omega)) (Below.refl _ _) (fun _ => rfl)
    (fun xs W => AtS w b #[.int .i64 k] 3 (sv 0 false) 23 xs.length W ∧ ∀ j, j < xs.length → (j : Int) ≠ k)
    (fun c xs W => c = .ret ∧ ∃ ys x, xs = ys ++ [x] ∧ (ys.length : Int) = k ∧ Blk W (b + 1) (sv x.1 x.2) 23 ∧ Blk W (b + 1 + 1) #[.int .i64 0] 29 ∧ Below w.heap.size w W)
    ?hI ?hIx ⟨hS0, fun j hj => absurd hj (Nat.not_lt_zero j)⟩
    (fun x a' W => ∃ g, a' = { tmps := #[Value.int IntKind.i64 n, Value.int IntKind.i64 k, undef,
          Value.pointer (some { block := b, off := 0 }),
          Value.pointer (some { block := b + 1, off := 0 }),
          Value.pointer (some { block := b + 1 + 1, off := 0 }),
          Value.pointer (some { block := b + 1 + 1 + 1, off := 0 }), Value.pointer (some { block := g, off := 0 }), Value.int IntKind.i64 n,
          Value.func (Fn.func 17) #[] #[Value.pointer (some { block := b + 1 + 1 + 1 + 1, off := 0 })], Value.agg (sv x.1 x.2),
          undef, undef, undef, undef, undef, undef, undef], defers := [] } ∧ Blk W g (sv x.1 x.2) 23 ∧ b + 5 ≤ g) ?hAx ?assign ?body ?done ?stop)
  case hI =>
    intro xs X Y row h hg hr
    exact ⟨h.1.kept hg (by have := HB.out; omega) hr, h.2⟩
  case hIx =>
    rintro c xs X Y row ⟨hc, ys, x, h1, h2, h3, h4, h5⟩ hg hr
    exact ⟨hc, ys, x, h1, h2, blk_kept h3 hg (fun r e => (hr r e).2), blk_kept h4 hg (fun r e => (hr r e).2), h5.grown hg h5.size (fun r e => by have := (hr r e).1; have := HB.out; omega)⟩
  case hAx =>
    rintro x a' _ X Y row ⟨g, h1, h2, h3⟩ hg hr
    exact ⟨g, h1, blk_kept h2 hg (fun r e => (hr r e).2), h3⟩
  case assign =>
    rintro l' pre x W K ⟨hC, hne⟩ hK
    have HC := Lib.hid hC
    have HNE := Lib.hid hne
    clear hC hne
    gi_wp2_with (refine wpListIn_store_row rfl 23 (.tmp 7) (.tmp 10) rfl W.heap.size (sv x.1 x.2) rfl rfl 23 (sv 0 false) (Blk.new W (sv 0 false) 23) size_step rfl (sv_one _ _) ?_)
    have hb' : Below W.heap.size W ((W.alloc (.cells (sv 0 false) 23)).setRow W.heap.size (sv x.1 x.2)) := below_put (Nat.le_refl _) _ ((Below.refl _ _).alloc (Nat.le_refl _) _)
    exact hK _ _ (keeps_of_below _ hb') (KeepB.of_below hb' (by have := HC.out.size; simp; omega)) ⟨HC.out.after hb', HNE.out⟩ ⟨W.heap.size, rfl, (Blk.new W (sv 0 false) 23).put _, HC.out.size⟩
  case body =>
    rintro l' pre x a' W _ _ ⟨hC, hne⟩ ⟨g, rfl, hblk, hg5⟩ hlen
    have cp := hC.p.cell 0
    have ck := hC.q.cell 0
    have fp := hC.p.free 0
    have hr1 := hC.r1
    have hpl : pre.length ≤ 1000 := by have := allL_le n; omega
    have HC := Lib.hid hC
    have HNE := Lib.hid hne
    have HBL := Lib.hid hblk
    clear hC hne
    by_cases hk : (pre.length : Int) = k
    · subst hk
      have hr2 : Blk (W.setRow (b + 1) (sv x.1 x.2)) (b + 1 + 1) #[.int .i64 0] 29 := HC.out.r2.put_other (by omega) _
      have c2 := hr2.cell 0
      have f2 := hr2.free 0
      gi_wp2_with (first
        | (refine wpListIn_load_row rfl 23 (.tmp 7) rfl g rfl 23 (sv x.1 x.2) (0, 0) _ hblk Try.underlying23 rfl size_step ?_)
        | (refine wpListIn_store_row rfl 23 (.tmp 4) (.tmp 14) rfl (b + 1) (sv x.1 x.2) rfl rfl 23 (sv 0 false) hr1 size_step rfl (sv_one _ _) ?_))
      refine ⟨(keeps_put W _ (by omega)).trans (keeps_set _ _ _), rfl, pre, x, rfl, rfl, ?_, hr2.set 0 _ rfl, ?_⟩
      · exact (hr1.put (sv x.1 x.2)).set_other (by omega) _ _
      · exact (below_put (by omega) _ HC.out.below).setCell (p := ⟨b + 1 + 1, 0, none⟩) (by show _ ≤ b + 1 + 1; omega) _
    · have hkb : ((pre.length : Int) == k) = false := by simpa using hk
      have e1 : (pre ++ [x]).length = pre.length + 1 := by simp
      have HE := Lib.hid e1
      clear e1
      gi_wp2_with fail
      refine ⟨keeps_set _ _ _, KeepB.set 0 _ (by simp), by rw [HE.out]; exact HC.out.next HBe, fun j hj => ?_⟩
      rw [HE.out] at hj
      by_cases hjl : j < pre.length
      · exact HNE.out j hjl
      · obtain rfl : j = pre.length := by omega
        exact hk
  case done =>
    rintro D xs W hD hS ⟨hC, hne⟩ hdef
    have hS' : xs = allL n := hS
    have hno : ¬ IsStep n k := by
      rintro ⟨h1, h2, h3⟩
      have := (allL_mem h1 (k := k.toNat) (by omega)).1
      exact hne k.toNat (by rw [hS']; exact this) (by omega)
    have HT : Hid (stL n k = 0 ∧ stF n k = false ∧ stC n k = 1) := ⟨if_neg hno, if_neg hno, if_neg hno⟩
    have hr1 := hC.r1
    have hr2 : Blk (W.setRow (b + 1) (sv 0 false)) (b + 1 + 1) #[.int .i64 0] 29 := hC.r2.put_other (by omega) _
    have c2 := hr2.cell 0
    have f2 := hr2.free 0
    have HC := Lib.hid hC
    have HD := Lib.hid hD
    have HDEF := Lib.hid hdef
    clear hC hne hS hS' hno hD hdef
    go_wp2_with (refine wpList_store_row rfl 23 (.tmp 4) (.tmp 17) rfl (b + 1) (sv 0 false) rfl rfl 23 (sv 0 false) hr1 size_step rfl (sv_one _ _) ?_)
    have hDW : D < W.heap.size := (Array.getElem?_eq_some_iff.1 HDEF.out).1
    have hK2 : ((W.setRow (b + 1) (sv 0 false)).setCell ⟨b + 1 + 1, 0, none⟩ (.int .i64 1)).heap[D]? = some (.deferred (some [])) :=
      (keeps_set (b + 5) ⟨b + 1 + 1, 0, none⟩ (.int .i64 1)).same D _ (by have := HD.out; omega) ((keeps_put W (sv 0 false) (B := b + 5) (by omega)).same D _ (by have := HD.out; omega) HDEF.out rfl) rfl
    have hB2 : Below w.heap.size w ((W.setRow (b + 1) (sv 0 false)).setCell ⟨b + 1 + 1, 0, none⟩ (.int .i64 1)) := (below_put (by omega) _ HC.out.below).setCell (p := ⟨b + 1 + 1, 0, none⟩) (by show _ ≤ b + 1 + 1; omega) _
    have hq1 : Blk ((W.setRow (b + 1) (sv 0 false)).setCell ⟨b + 1 + 1, 0, none⟩ (.int .i64 1)) (b + 1) (sv 0 false) 23 := (hr1.put (sv 0 false)).set_other (by omega) _ _
    have hq2 : Blk ((W.setRow (b + 1) (sv 0 false)).setCell ⟨b + 1 + 1, 0, none⟩ (.int .i64 1)) (b + 1 + 1) #[.int .i64 1] 29 := hr2.set 0 _ rfl
    refine leave_one rfl hK2 (results_cells_row rfl _ _ (b + 1) (b + 1 + 1) 23 (sv 0 false) _ (.int .i64 1) rfl (blk_mark hq1 hK2) Try.underlying23 rfl size_step rfl ((blk_mark hq2 hK2).cell 0) Try.isAgg29) ⟨?_, below_mark hB2 (by have := HD.out; omega) hK2⟩
    rw [HT.out.1, HT.out.2.1, HT.out.2.2]
  case stop =>
    rintro D c pre W hD ⟨j, hj, hpre⟩ ⟨rfl, ys, x, hys, hk, hr1, hr2, hBW⟩ hdef
    obtain ⟨hl, h2, h3⟩ := allL_step (hys.symm.trans hpre) hj
    have hyes : IsStep n k := ⟨hl, by omega, by omega⟩
    have hkn : k.toNat = ys.length := by omega
    have HT : Hid (stL n k = (x.1 : Nat) ∧ stF n k = x.2 ∧ stC n k = 0) := by
      refine ⟨(if_pos hyes).trans ?_, (if_pos hyes).trans ?_, if_pos hyes⟩
      · rw [hkn, h3]
      · rw [hkn, h3]
    have HBW := Lib.hid hBW
    have HD := Lib.hid hD
    have HDEF := Lib.hid hdef
    have HR1 := Lib.hid hr1
    have HR2 := Lib.hid hr2
    clear hj hpre hys hk hr1 hr2 hBW hdef hl h2 h3 hyes hkn hD
    gi_wp2_with fail
    refine leave_one rfl HDEF.out (results_cells_row rfl _ _ (b + 1) (b + 1 + 1) 23 (sv x.1 x.2) _ (.int .i64 0) rfl (blk_mark HR1.out HDEF.out) Try.underlying23 rfl size_step rfl ((blk_mark HR2.out HDEF.out).cell 0) Try.isAgg29) ⟨?_, below_mark HBW.out (by have := HD.out; omega) HDEF.out⟩
    rw [HT.out.1, HT.out.2.1, HT.out.2.2]

set_option maxHeartbeats 2000000 in
theorem or_place (n l : Int) (f : Bool) (w : World) : Calls Try.prog 11 #[.int .i64 n, .agg (sv l f)] w (PlaceT n l f w) := by
  refine calls_of_marks Try.func11 rfl ?_
  simp only [Try.ntmps11, List.size_toArray, List.length_cons, List.length_nil, Nat.reduceAdd, Nat.reduceSub, Array.replicate_succ, Array.replicate_zero, List.push_toArray, List.append_toArray, List.nil_append, List.cons_append]
  go_wp2_with fail
  refine (or_steps_raw n _).mono ?_
  rintro r w1 ⟨rfl, rfl⟩
  go_wp2_with fail
  obtain ⟨W0, hW0, hS0, hz, hc4⟩ := at_start w n (sv l f) #[.int .i64 0] 23 3
  obtain ⟨b, hb⟩ : ∃ b, w.heap.size = b := ⟨_, rfl⟩
  have HB := Lib.hid hb
  rw [hW0]
  rw [hb] at hS0 hz hc4 ⊢
  have HBe : w.heap.size ≤ b := Nat.le_of_eq hb
  clear hW0 hb
  refine wpIn_wide.1 (wpIn_rangeFunc_ownH (F := Fence.wide) (n := 9) rfl (by decide) (gf := 17) (lb := #[.pointer (some ⟨b + 1 + 1 + 1 + 1, 0, none⟩)]) rfl trivial steps_enters
    (steps_stops 8 (by decide) (b + 1 + 1 + 1 + 1) n W0 (by omega) hc4) KeepB.trans (KeepB.mark (by simp; omega)) (Below.refl _ _) (fun _ => rfl)
    (fun xs W => AtS w b (sv l f) 23 #[.int .i64 0] 3 xs.length W ∧ ∀ x ∈ xs, sameS (x.1 : Nat) x.2 l f = false)
    (fun c xs W => c = .ret ∧ ∃ ys x, xs = ys ++ [x] ∧ sameS (x.1 : Nat) x.2 l f = true ∧ Blk W (b + 1) #[.int .i64 ys.length] 3 ∧ Blk W (b + 1 + 1) #[.int .i64 0] 29 ∧ Below w.heap.size w W)
    ?hI ?hIx ⟨hS0, fun x hx => absurd hx List.not_mem_nil⟩
    (fun x a' W => ∃ g, a' = { tmps := #[Value.int IntKind.i64 n, Value.agg (sv l f), undef,
          Value.pointer (some { block := b, off := 0 }),
          Value.pointer (some { block := b + 1, off := 0 }),
          Value.pointer (some { block := b + 1 + 1, off := 0 }),
          Value.pointer (some { block := b + 1 + 1 + 1, off := 0 }), Value.pointer (some { block := g, off := 0 }), Value.int IntKind.i64 n,
          Value.func (Fn.func 17) #[] #[Value.pointer (some { block := b + 1 + 1 + 1 + 1, off := 0 })], Value.agg (sv x.1 x.2),
          undef, undef, undef, undef, undef, undef], defers := [] } ∧ Blk W g (sv x.1 x.2) 23 ∧ b + 5 ≤ g) ?hAx ?assign ?body ?done ?stop)
  case hI =>
    intro xs X Y row h hg hr
    exact ⟨h.1.kept hg (by have := HB.out; omega) hr, h.2⟩
  case hIx =>
    rintro c xs X Y row ⟨hc, ys, x, h1, h2, h3, h4, h5⟩ hg hr
    exact ⟨hc, ys, x, h1, h2, blk_kept h3 hg (fun r e => (hr r e).2), blk_kept h4 hg (fun r e => (hr r e).2), h5.grown hg h5.size (fun r e => by have := (hr r e).1; have := HB.out; omega)⟩
  case hAx =>
    rintro x a' _ X Y row ⟨g, h1, h2, h3⟩ hg hr
    exact ⟨g, h1, blk_kept h2 hg (fun r e => (hr r e).2), h3⟩
  case assign =>
    rintro l' pre x W K ⟨hC, hne⟩ hK
    have HC := Lib.hid hC
    have HNE := Lib.hid hne
    clear hC hne
    gi_wp2_with (refine wpListIn_store_row rfl 23 (.tmp 7) (.tmp 10) rfl W.heap.size (sv x.1 x.2) rfl rfl 23 (sv 0 false) (Blk.new W (sv 0 false) 23) size_step rfl (sv_one _ _) ?_)
    have hb' : Below W.heap.size W ((W.alloc (.cells (sv 0 false) 23)).setRow W.heap.size (sv x.1 x.2)) := below_put (Nat.le_refl _) _ ((Below.refl _ _).alloc (Nat.le_refl _) _)
    exact hK _ _ (keeps_of_below _ hb') (KeepB.of_below hb' (by have := HC.out.size; simp; omega)) ⟨HC.out.after hb', HNE.out⟩ ⟨W.heap.size, rfl, (Blk.new W (sv 0 false) 23).put _, HC.out.size⟩
  case body =>
    rintro l' pre x a' W _ _ ⟨hC, hne⟩ ⟨g, rfl, hblk, hg5⟩ hlen
    have cp := hC.p.cell 0
    have fp := hC.p.free 0
    have hq : Blk W b #[.int .i64 l, .bool f] 23 := hC.q
    have hx : Blk W g #[.int .i64 (x.1 : Nat), .bool x.2] 23 := hblk
    have c1 := hC.r1.cell 0
    have f1 := hC.r1.free 0
    have hpl : pre.length ≤ 1000 := by have := allL_le n; omega
    have heq := fun w => eql_step (x.1 : Nat) l x.2 f w
    have HC := Lib.hid hC
    have HNE := Lib.hid hne
    clear hC hne hblk
    by_cases hs : sameS (x.1 : Nat) x.2 l f = true
    · have hr2 : Blk (W.setCell ⟨b + 1, 0, none⟩ (.int .i64 pre.length)) (b + 1 + 1) #[.int .i64 0] 29 := HC.out.r2.set_other (by omega) _ _
      have c2 := hr2.cell 0
      have f2 := hr2.free 0
      have HS := Lib.hid hs
      rw [hs] at heq
      clear hs
      gi_wp2_with (first
        | (refine wpListIn_load_row rfl 23 (.tmp 7) rfl g rfl 23 #[.int .i64 (x.1 : Nat), .bool x.2] (0, 0) _ hx Try.underlying23 rfl size_step ?_)
        | (refine wpListIn_load_row rfl 23 (.tmp 3) rfl b rfl 23 #[.int .i64 l, .bool f] (0, 0) _ hq Try.underlying23 rfl size_step ?_))
      refine ⟨(keeps_set _ _ _).trans (keeps_set _ _ _), rfl, pre, x, rfl, HS.out, ?_, hr2.set 0 _ rfl, ?_⟩
      · exact (HC.out.r1.set 0 _ rfl).set_other (by omega) _ _
      · exact (HC.out.below.setCell (p := ⟨b + 1, 0, none⟩) (by show _ ≤ b + 1; omega) _).setCell (p := ⟨b + 1 + 1, 0, none⟩) (by show _ ≤ b + 1 + 1; omega) _
    · have hsf : sameS (x.1 : Nat) x.2 l f = false := by simpa using hs
      have e1 : (pre ++ [x]).length = pre.length + 1 := by simp
      have HE := Lib.hid e1
      have HS := Lib.hid hsf
      rw [hsf] at heq
      clear e1 hs hsf
      gi_wp2_with (first
        | (refine wpListIn_load_row rfl 23 (.tmp 7) rfl g rfl 23 #[.int .i64 (x.1 : Nat), .bool x.2] (0, 0) _ hx Try.underlying23 rfl size_step ?_)
        | (refine wpListIn_load_row rfl 23 (.tmp 3) rfl b rfl 23 #[.int .i64 l, .bool f] (0, 0) _ hq Try.underlying23 rfl size_step ?_))
      refine ⟨keeps_set _ _ _, KeepB.set 0 _ (by simp), by rw [HE.out]; exact HC.out.next HBe, fun y hy => ?_⟩
      rcases List.mem_append.1 hy with hy | hy
      · exact HNE.out y hy
      · rw [List.mem_singleton.1 hy]; exact HS.out
  case done =>
    rintro D xs W hD hS ⟨hC, hne⟩ hdef
    have hS' : xs = allL n := hS
    have hno : ¬ IsLine n l := by
      rintro ⟨h1, h2, h3⟩
      have hsp := step_place (n := n.toNat) (l := l.toNat) f (by omega)
      have hm := (allL_mem h1 hsp.2).2
      rw [hsp.1] at hm
      have h := hne (l.toNat, f) (by rw [hS']; exact hm)
      rw [Bool.eq_false_iff] at h
      exact h ((sameS_iff _ _ _ _).2 ⟨by show (l.toNat : Int) = l; omega, rfl⟩)
    have HT : Hid (plN n l f = 0 ∧ plC n l = 1) := ⟨if_neg hno, if_neg hno⟩
    have c1 := hC.r1.cell 0
    have f1 := hC.r1.free 0
    have hr2 : Blk (W.setCell ⟨b + 1, 0, none⟩ (.int .i64 0)) (b + 1 + 1) #[.int .i64 0] 29 := hC.r2.set_other (by omega) _ _
    have c2 := hr2.cell 0
    have f2 := hr2.free 0
    have HC := Lib.hid hC
    have HD := Lib.hid hD
    have HDEF := Lib.hid hdef
    clear hC hne hS hS' hno hD hdef
    go_wp2_with fail
    have hK2 : ((W.setCell ⟨b + 1, 0, none⟩ (.int .i64 0)).setCell ⟨b + 1 + 1, 0, none⟩ (.int .i64 1)).heap[D]? = some (.deferred (some [])) :=
      (keeps_set (b + 5) ⟨b + 1 + 1, 0, none⟩ (.int .i64 1)).same D _ (by have := HD.out; omega) ((keeps_set (b + 5) ⟨b + 1, 0, none⟩ (.int .i64 0)).same D _ (by have := HD.out; omega) HDEF.out rfl) rfl
    have hB2 : Below w.heap.size w ((W.setCell ⟨b + 1, 0, none⟩ (.int .i64 0)).setCell ⟨b + 1 + 1, 0, none⟩ (.int .i64 1)) :=
      (HC.out.below.setCell (p := ⟨b + 1, 0, none⟩) (by show _ ≤ b + 1; omega) _).setCell (p := ⟨b + 1 + 1, 0, none⟩) (by show _ ≤ b + 1 + 1; omega) _
    have hq1 : Blk ((W.setCell ⟨b + 1, 0, none⟩ (.int .i64 0)).setCell ⟨b + 1 + 1, 0, none⟩ (.int .i64 1)) (b + 1) #[.int .i64 0] 3 := (HC.out.r1.set 0 _ rfl).set_other (by omega) _ _
    have hq2 : Blk ((W.setCell ⟨b + 1, 0, none⟩ (.int .i64 0)).setCell ⟨b + 1 + 1, 0, none⟩ (.int .i64 1)) (b + 1 + 1) #[.int .i64 1] 29 := hr2.set 0 _ rfl
    refine leave_one rfl hK2 (results_cells_two rfl _ _ (b + 1) (b + 1 + 1) (.int .i64 0) (.int .i64 1) rfl ((blk_mark hq1 hK2).cell 0) Try.isAgg3 rfl ((blk_mark hq2 hK2).cell 0) Try.isAgg29) ⟨?_, below_mark hB2 (by have := HD.out; omega) hK2⟩
    rw [HT.out.1, HT.out.2]
  case stop =>
    rintro D c pre W hD ⟨j, hj, hpre⟩ ⟨rfl, ys, x, hys, hs, hr1, hr2, hBW⟩ hdef
    obtain ⟨hl, h2, h3⟩ := allL_step (hys.symm.trans hpre) hj
    obtain ⟨hs1, hs2⟩ := (sameS_iff _ _ _ _).1 hs
    have hps := place_step h2
    rw [h3] at hps
    have hyes : IsLine n l := ⟨hl, by omega, by omega⟩
    have HT : Hid (plN n l f = (ys.length : Nat) ∧ plC n l = 0) := by
      refine ⟨(if_pos hyes).trans ?_, if_pos hyes⟩
      rw [← hps.1, ← hs2, show l.toNat = x.1 by omega]
    have HBW := Lib.hid hBW
    have HD := Lib.hid hD
    have HDEF := Lib.hid hdef
    have HR1 := Lib.hid hr1
    have HR2 := Lib.hid hr2
    clear hj hpre hys hs hr1 hr2 hBW hdef hl h2 h3 hyes hD hps hs1 hs2
    gi_wp2_with fail
    refine leave_one rfl HDEF.out (results_cells_two rfl _ _ (b + 1) (b + 1 + 1) (.int .i64 ys.length) (.int .i64 0) rfl ((blk_mark HR1.out HDEF.out).cell 0) Try.isAgg3 rfl ((blk_mark HR2.out HDEF.out).cell 0) Try.isAgg29) ⟨?_, below_mark HBW.out (by have := HD.out; omega) HDEF.out⟩
    rw [HT.out.1, HT.out.2]

theorem or_after (n k l : Int) (w : World) : Calls Try.prog 13 #[.int .i64 n, .int .i64 k, .int .i64 l] w (AfterT n k l w) := by
  unfold AfterT afN afC
  have hp1 := fun w => or_place n l false w
  have hp2 := fun w => or_place n l true w
  unfold PlaceT plN plC at hp1 hp2
  by_cases hl : IsLine n l
  · have hno : IsAfter n k l ↔ 0 ≤ k ∧ k ≤ 2 * n := ⟨fun h => ⟨h.2.1, h.2.2.1⟩, fun h => ⟨hl.1, h.1, h.2, hl.2.1, hl.2.2⟩⟩
    simp only [if_pos hl] at hp1 hp2
    obtain ⟨m, rfl⟩ : ∃ m : Nat, n = m := ⟨n.toNat, by have := hl.1; unfold LinesOk at this; omega⟩
    obtain ⟨j, rfl⟩ : ∃ j : Nat, l = j := ⟨l.toNat, by have := hl.2.1; omega⟩
    have hm : m ≤ 64 := by have := hl.1; unfold LinesOk at this; omega
    have hj : j < m := by have := hl.2.2; omega
    obtain ⟨p1, hp1e⟩ : ∃ p, placeC m j false = p := ⟨_, rfl⟩
    obtain ⟨p2, hp2e⟩ : ∃ p, placeC m j true = p := ⟨_, rfl⟩
    have hb1 : p1 < 2 * m := by rw [← hp1e]; exact (step_place false hj).2
    have hb2 : p2 < 2 * m := by rw [← hp2e]; exact (step_place true hj).2
    have hlt : p1 < p2 := by rw [← hp1e, ← hp2e]; exact foggy_first m j
    simp only [Int.toNat_natCast, hp1e, hp2e] at hp1 hp2
    have HP1 := Lib.hid hp1
    have HP2 := Lib.hid hp2
    clear hp1 hp2
    by_cases hk : 0 ≤ k ∧ k ≤ 2 * (m : Int)
    · rw [if_pos (hno.2 hk), if_pos (hno.2 hk)]
      obtain ⟨k, rfl⟩ : ∃ q : Nat, k = q := ⟨k.toNat, by omega⟩
      have haf : afterC m k j = if p2 < k then 2 else if p1 < k then 1 else 0 := by unfold afterC; rw [hp1e, hp2e]
      rw [Int.toNat_natCast, Int.toNat_natCast, Int.toNat_natCast, haf]
      have g1 : ¬ (k : Int) < 0 := by omega
      have g2 : ¬ 2 * (m : Int) < (k : Int) := by omega
      have hc : (p2 < k) ∨ (¬ p2 < k ∧ p1 < k) ∨ (¬ p2 < k ∧ ¬ p1 < k) := by omega
      have hkm : k ≤ 2 * m := by omega
      clear hno hl hk haf hp1e hp2e
      rcases hc with hc | ⟨hc, hc2⟩ | ⟨hc, hc2⟩
      · rw [if_pos hc]
        have g3 : (p2 : Int) < (k : Int) := by omega
        go_enter Try.func13, Try.ntmps13
        go_wp2_with fail
        refine (HP1.out _).mono ?_
        rintro r w1 ⟨rfl, hb1⟩
        go_wp2_with fail
        refine (HP2.out _).mono ?_
        rintro r w2 ⟨rfl, hb2⟩
        go_wp2_with fail
        refine bodyPost_ret (results_tmp2 rfl _ _ _) rfl ?_
        exact ⟨rfl, hb1.trans (hb2.mono hb1.size)⟩
      · rw [if_neg hc, if_pos hc2]
        have g3 : ¬ (p2 : Int) < (k : Int) := by omega
        have g4 : (p1 : Int) < (k : Int) := by omega
        go_enter Try.func13, Try.ntmps13
        go_wp2_with fail
        refine (HP1.out _).mono ?_
        rintro r w1 ⟨rfl, hb1⟩
        go_wp2_with fail
        refine (HP2.out _).mono ?_
        rintro r w2 ⟨rfl, hb2⟩
        go_wp2_with fail
        refine bodyPost_ret (results_tmp2 rfl _ _ _) rfl ?_
        exact ⟨rfl, hb1.trans (hb2.mono hb1.size)⟩
      · rw [if_neg hc, if_neg hc2]
        have g3 : ¬ (p2 : Int) < (k : Int) := by omega
        have g4 : ¬ (p1 : Int) < (k : Int) := by omega
        go_enter Try.func13, Try.ntmps13
        go_wp2_with fail
        refine (HP1.out _).mono ?_
        rintro r w1 ⟨rfl, hb1⟩
        go_wp2_with fail
        refine (HP2.out _).mono ?_
        rintro r w2 ⟨rfl, hb2⟩
        go_wp2_with fail
        refine bodyPost_ret (results_tmp2 rfl _ _ _) rfl ?_
        exact ⟨rfl, hb1.trans (hb2.mono hb1.size)⟩
    · rw [if_neg (fun h => hk (hno.1 h)), if_neg (fun h => hk (hno.1 h))]
      have hc : k < 0 ∨ ¬ k < 0 ∧ 2 * (m : Int) < k := by omega
      clear hno hl hk hp1e hp2e HP2
      rcases hc with hc | ⟨hc, hc2⟩
      all_goals
        go_enter Try.func13, Try.ntmps13
        go_wp2_with fail
        refine (HP1.out _).mono ?_
        rintro r w1 ⟨rfl, hb1⟩
        go_wp2_with fail
        refine bodyPost_ret (results_tmp2 rfl _ _ _) rfl ?_
        exact ⟨rfl, hb1⟩
  · have hno : ¬ IsAfter n k l := fun h => hl ⟨h.1, h.2.2.2.1, h.2.2.2.2⟩
    rw [if_neg hno, if_neg hno]
    simp only [if_neg hl] at hp1
    have HP1 := Lib.hid hp1
    clear hp1 hp2 hno hl
    go_enter Try.func13, Try.ntmps13
    go_wp2_with fail
    refine (HP1.out _).mono ?_
    rintro r w1 ⟨rfl, hb1⟩
    go_wp2_with fail
    refine bodyPost_ret (results_tmp2 rfl _ _ _) rfl ?_
    exact ⟨rfl, hb1⟩

end Go.Proofs.Ytnodnhmlbcafgaa
