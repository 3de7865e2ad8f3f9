/- Texts of one claim, merged: OrC1, Inv4, Inv5, GeR1, GeR2, Inv6, GeRC, GeC0, GeC2. -/
import Derived.Test.YtalefbmoebobkaaGreatDoorS3
import Derived.RangeFuncBox
import Derived.OwnWalkIn
import Derived.Test.YtalefbmoebobkaaGreatDoorS1
/- Package order, walked: At, Place, After. -/
namespace Go.Proofs.YtalefbmoebobkaaGreatDoor
set_option maxRecDepth 100000
open Go.RowKit
attribute [local go_sem] Oper.semAt_some
theorem wpListIn_store_row {F : Fence} {n : Nat} {P : Program} {ops : Array Oper} {rest : List Oper} {o : Oper} {a : Act} {w : World} {Q : Exit → Act → World → Prop} (hgd : o.guard = none) (ty : TypeId) (x y : Operand) (ho : o.op = .store ty x y)
  (g : Nat) (cells : Array Value) (hx : a.eval x = .pointer (some ⟨g, 0, none⟩)) (hy : a.eval y = .agg cells)
  (t : TypeId) (old : Array Value) (hg : w.heap[g]? = some (.cells old t (0, 0))) (hi : (P.info? ty).map (·.size) = some cells.size)
  (hold : old.size = cells.size) (h1 : cells.all (·.oneCell') = true)
  (h : wpListIn F n P ops Q rest (a.put o.dst undef) (w.setRow g cells)) : wpListIn F n P ops Q (o :: rest) a w := by
 refine wpListIn_plain hgd fun K hK => ?_
 unfold Oper.wpIn
 refine ⟨?_, ?_⟩
 ·simp [Oper.about, ho]
 ·rw [Oper.semAt_plain F _ _ (by rw [ho]; intro c hc'; cases hc')]
  simp only [execOp, ho, hx, hy, Instr.storeAt, Instr.sureAddr, Sem.run_bind, Sem.run_pure, Result.andThen_ok, run_storeVar_row w g t ty old cells hg hi hold h1]
  exact hK _ _ h
theorem wpListIn_load_row {F : Fence} {n : Nat} {P : Program} {ops : Array Oper} {rest : List Oper} {o : Oper} {a : Act} {w : World} {Q : Exit → Act → World → Prop} (hgd : o.guard = none) (ty : TypeId) (x : Operand) (ho : o.op = .load ty x)
  (g : Nat) (hx : a.eval x = .pointer (some ⟨g, 0, none⟩)) (t : TypeId) (cs : Array Value) (fr : Nat × Nat) (d : TypeDesc) (hg : w.heap[g]? = some (.cells cs t fr))
  (hu : P.underlying ty = some d) (hd : (match d with | .struct _ | .array _ _ => true | _ => false) = true) (hi : (P.info? ty).map (·.size) = some cs.size)
  (h : wpListIn F n P ops Q rest (a.put o.dst (.agg cs)) w) : wpListIn F n P ops Q (o :: rest) a w := by
 refine wpListIn_plain hgd fun K hK => ?_
 unfold Oper.wpIn
 refine ⟨?_, ?_⟩
 ·simp [Oper.about, ho]
 ·rw [Oper.semAt_plain F _ _ (by rw [ho]; intro c hc'; cases hc')]
  simp only [execOp, ho, hx, Instr.loadAt, Instr.sureAddr, Sem.run_bind, Sem.run_pure, Result.andThen_ok, run_loadVar_row w g t ty cs fr d hg hu hd hi]
  exact hK _ _ h
theorem results_cells_row {P : Program} {fn : Func} {p q : Tmp} {ty ty2 : TypeId} (h : fn.results = #[.cell p ty, .cell q ty2]) (tmps : Array Value) (w : World) (g g2 : Nat) (t : TypeId) (cs : Array Value) (d : TypeDesc) (v : Value)
  (hp : tmps.getD p undef = .pointer (some ⟨g, 0, none⟩)) (hg : Blk w g cs t)
  (hu : P.underlying ty = some d) (hd : (match d with | .struct _ | .array _ _ => true | _ => false) = true) (hi : (P.info? ty).map (·.size) = some cs.size)
  (hq : tmps.getD q undef = .pointer (some ⟨g2, 0, none⟩)) (hc : w.cell? ⟨g2, 0, none⟩ = some v) (ha : ∀ w, (isAgg ty2).run P w = .ok false w) :
  (results fn tmps).run P w = .ok (.tuple #[.agg cs, v]) w := by
 have hp' : tmps[p]?.getD undef = .pointer (some ⟨g, 0, none⟩) := by simpa using hp
 have hq' : tmps[q]?.getD undef = .pointer (some ⟨g2, 0, none⟩) := by simpa using hq
 have h2 : Sem.run P (loadVar ty2 ⟨g2, 0, none⟩) w = .ok v w := by
  simp [loadVar, ha]
  rw [hc]
 simp [results, h, hp', hq', asAddr, run_loadVar_row w g t ty cs (0, 0) d hg hu hd hi, h2]
theorem results_cells_two {P : Program} {fn : Func} {p q : Tmp} {ty ty2 : TypeId} (h : fn.results = #[.cell p ty, .cell q ty2]) (tmps : Array Value) (w : World) (g g2 : Nat) (u v : Value)
  (hp : tmps.getD p undef = .pointer (some ⟨g, 0, none⟩)) (hc1 : w.cell? ⟨g, 0, none⟩ = some u) (ha1 : ∀ w, (isAgg ty).run P w = .ok false w)
  (hq : tmps.getD q undef = .pointer (some ⟨g2, 0, none⟩)) (hc : w.cell? ⟨g2, 0, none⟩ = some v) (ha : ∀ w, (isAgg ty2).run P w = .ok false w) :
  (results fn tmps).run P w = .ok (.tuple #[u, v]) w := by
 have hp' : tmps[p]?.getD undef = .pointer (some ⟨g, 0, none⟩) := by simpa using hp
 have hq' : tmps[q]?.getD undef = .pointer (some ⟨g2, 0, none⟩) := by simpa using hq
 have h1 : Sem.run P (loadVar ty ⟨g, 0, none⟩) w = .ok u w := by
  simp [loadVar, ha1]
  rw [hc1]
 have h2 : Sem.run P (loadVar ty2 ⟨g2, 0, none⟩) w = .ok v w := by
  simp [loadVar, ha]
  rw [hc]
 simp [results, h, hp', hq', asAddr, h1, h2]
theorem allL_step {n : Int} {j : Nat} {ys : List (Nat × Bool)} {x : Nat × Bool} (h : ys ++ [x] = (allL n).take j) (hj : j ≤ (allL n).length) :
  LinesOk n ∧ ys.length < 2 * n.toNat ∧ stepC n.toNat ys.length = x := by
 have hl : ys.length + 1 = j := by
  have := congrArg List.length h
  rw [List.length_take, List.length_append, List.length_singleton, Nat.min_eq_left hj] at this
  exact this
 by_cases ho : LinesOk n
 ·have h1 : 1 ≤ n.toNat := by unfold LinesOk at ho; omega
  have h64 : n.toNat ≤ 64 := by unfold LinesOk at ho; omega
  have he : allL n = refL n.toNat := if_pos ho
  rw [he] at h hj
  have hlen := refL_length n.toNat h1
  refine ⟨ho, by omega, ?_⟩
  have hk : ys.length < 2 * n.toNat := by omega
  rw [← refL_at h1 h64 hk]
  have h2 := congrArg (fun l => l.getD ys.length (0, false)) h
  simp only [List.getD_eq_getElem?_getD] at h2 ⊢
  rw [List.getElem?_append_right (Nat.le_refl _), Nat.sub_self, List.getElem?_take_of_lt (by omega)] at h2
  exact h2.symm
 ·have he : allL n = [] := if_neg ho
  rw [he] at hj
  simp at hj
  omega
theorem allL_mem {n : Int} (ho : LinesOk n) {k : Nat} (hk : k < 2 * n.toNat) : k < (allL n).length ∧ stepC n.toNat k ∈ allL n := by
 have h1 : 1 ≤ n.toNat := by unfold LinesOk at ho; omega
 have h64 : n.toNat ≤ 64 := by unfold LinesOk at ho; omega
 have he : allL n = refL n.toNat := if_pos ho
 rw [he]
 refine ⟨by rw [refL_length _ h1]; exact hk, ?_⟩
 rw [refL_map _ h64 h1]
 exact List.mem_map.2 ⟨k, List.mem_range.2 hk, rfl⟩
theorem keeps_put {B g : Nat} (W : World) (cs : Array Value) (hg : g < B) : KeepsFrom B W (W.setRow g cs) :=
 ⟨by rw [size_setRow]; exact Nat.le_refl _, fun k o hk ho _ => by
  simp only [World.setRow, Array.getElem?_modify]
  rw [if_neg (by omega)]; exact ho⟩
structure AtS (w : World) (b : Nat) (q : Array Value) (tq : TypeId) (r1 : Array Value) (t1 : TypeId) (p : Nat) (W : World) : Prop where
 q : Blk W b q tq
 r1 : Blk W (b + 1) r1 t1
 r2 : Blk W (b + 1 + 1) #[.int .i64 0] 27
 p : Blk W (b + 1 + 1 + 1) #[.int .i64 p] 3
 below : Below w.heap.size w W
 size : b + 5 ≤ W.heap.size
theorem AtS.after {w W W' : World} {b : Nat} {q : Array Value} {tq : TypeId} {r1 : Array Value} {t1 : TypeId} {p : Nat} (h : AtS w b q tq r1 t1 p W) (hb : Below W.heap.size W W') : AtS w b q tq r1 t1 p W' :=
 ⟨h.q.after hb, h.r1.after hb, h.r2.after hb, h.p.after hb, h.below.trans (hb.mono h.below.size), Nat.le_trans h.size hb.size⟩
theorem AtS.kept {w W W' : World} {b B : Nat} {q : Array Value} {tq : TypeId} {r1 : Array Value} {t1 : TypeId} {p : Nat} {row : Option Nat} (h : AtS w b q tq r1 t1 p W) (hg : W.grownBy W' row)
  (hB : w.heap.size ≤ B) (hr : ∀ r, row = some r → B ≤ r ∧ ∃ o : Obj, W.heap[r]? = some o ∧ o.isCells = false) : AtS w b q tq r1 t1 p W' :=
 ⟨blk_kept h.q hg (fun r e => (hr r e).2), blk_kept h.r1 hg (fun r e => (hr r e).2), blk_kept h.r2 hg (fun r e => (hr r e).2), blk_kept h.p hg (fun r e => (hr r e).2), h.below.grown hg h.below.size (fun r e => by have := (hr r e).1; omega), Nat.le_trans h.size hg.size⟩
theorem AtS.next {w W : World} {b : Nat} {q : Array Value} {tq : TypeId} {r1 : Array Value} {t1 : TypeId} {p : Nat} (h : AtS w b q tq r1 t1 p W) (hb : w.heap.size ≤ b) : AtS w b q tq r1 t1 (p + 1) (W.setCell ⟨b + 1 + 1 + 1, 0, none⟩ (.int .i64 ((p : Int) + 1))) :=
 ⟨h.q.set_other (by omega) _ _, h.r1.set_other (by omega) _ _, h.r2.set_other (by omega) _ _, h.p.set 0 _ rfl, h.below.setCell (p := ⟨b + 1 + 1 + 1, 0, none⟩) (by show _ ≤ b + 1 + 1 + 1; omega) _, by simpa using h.size⟩
theorem blk_at0 (w : World) (A B C D : Obj) (cs : Array Value) (t : TypeId) : Blk (((((w.alloc (.cells cs t)).alloc A).alloc B).alloc C).alloc D) w.heap.size cs t := (((((Blk.new w cs t).alloc A).alloc B).alloc C).alloc D)
theorem blk_at1 (w : World) (A B C D : Obj) (cs : Array Value) (t : TypeId) : Blk (((((w.alloc A).alloc (.cells cs t)).alloc B).alloc C).alloc D) (w.heap.size + 1) cs t := by
 have h := ((((Blk.new (w.alloc A) cs t).alloc B).alloc C).alloc D)
 rwa [World.size_alloc] at h
theorem blk_at2 (w : World) (A B C D : Obj) (cs : Array Value) (t : TypeId) : Blk (((((w.alloc A).alloc B).alloc (.cells cs t)).alloc C).alloc D) (w.heap.size + 1 + 1) cs t := by
 have h := ((Blk.new ((w.alloc A).alloc B) cs t).alloc C).alloc D
 rwa [World.size_alloc, World.size_alloc] at h
theorem blk_at3 (w : World) (A B C D : Obj) (cs : Array Value) (t : TypeId) : Blk (((((w.alloc A).alloc B).alloc C).alloc (.cells cs t)).alloc D) (w.heap.size + 1 + 1 + 1) cs t := by
 have h := (Blk.new (((w.alloc A).alloc B).alloc C) cs t).alloc D
 rwa [World.size_alloc, World.size_alloc, World.size_alloc] at h
theorem blk_at4 (w : World) (A B C D : Obj) (cs : Array Value) (t : TypeId) : Blk (((((w.alloc A).alloc B).alloc C).alloc D).alloc (.cells cs t)) (w.heap.size + 1 + 1 + 1 + 1) cs t := by
 have h := Blk.new ((((w.alloc A).alloc B).alloc C).alloc D) cs t
 rwa [World.size_alloc, World.size_alloc, World.size_alloc, World.size_alloc] at h
theorem below_at (w : World) (A B C D E : Obj) : Below w.heap.size w (((((w.alloc A).alloc B).alloc C).alloc D).alloc E) :=
 (((((Below.refl _ _).alloc (Nat.le_refl _) _).alloc (by simp) _).alloc (by simp; omega) _).alloc (by simp; omega) _).alloc (by simp; omega) _
theorem at_start (w : World) (n : Int) (q r1 : Array Value) (tq t1 : TypeId) : ∃ W0, (((((w.alloc (.cells q tq)).alloc (.cells r1 t1)).alloc (.cells #[.int .i64 0] 27)).alloc (.cells #[.int .i64 0] 3)).alloc (.cells #[.int .i64 n] 3)) = W0 ∧
  AtS w w.heap.size q tq r1 t1 0 W0 ∧ W0.heap.size = w.heap.size + 5 ∧ W0.cell? ⟨w.heap.size + 1 + 1 + 1 + 1, 0, none⟩ = some (.int .i64 n) :=
 ⟨_, rfl, ⟨blk_at0 _ _ _ _ _ _ _, blk_at1 _ _ _ _ _ _ _, blk_at2 _ _ _ _ _ _ _, blk_at3 _ _ _ _ _ _ _, below_at _ _ _ _ _ _, by simp⟩, by simp, (blk_at4 _ _ _ _ _ _ _).cell 0⟩
set_option maxHeartbeats 2000000 in
theorem or_at (n k : Int) (w : World) : Calls Tryz.prog 135 #[.int .i64 n, .int .i64 k] w (StepT n k w) := by
 refine calls_of_marks Tryz.func135 rfl ?_
 simp only [Tryz.ntmps135, List.size_toArray, List.length_cons, List.length_nil, Nat.reduceAdd, Nat.reduceSub, Array.replicate_succ, Array.replicate_zero, List.push_toArray, List.append_toArray, List.nil_append, List.cons_append]
 go_wp2_with fail
 refine (or_steps_raw n _).mono ?_
 rintro r w1 ⟨rfl, rfl⟩
 go_wp2_with fail
 obtain ⟨W0, hW0, hS0, hz, hc4⟩ := at_start w n #[.int .i64 k] (sv 0 false) 3 131
 obtain ⟨b, hb⟩ : ∃ b, w.heap.size = b := ⟨_, rfl⟩
 have HB := Lib.hid hb
 have hWx : (((((w.alloc (.cells #[.int .i64 k] 3)).alloc (.cells #[.int .i64 0, .bool false] 131)).alloc (.cells #[.int .i64 0] 27)).alloc (.cells #[.int .i64 0] 3)).alloc (.cells #[.int .i64 n] 3)) = W0 := hW0
 rw [hWx]
 rw [hb] at hS0 hz hc4 ⊢
 have HBe : w.heap.size ≤ b := Nat.le_of_eq hb
 clear hW0 hWx hb
 refine wpIn_wide.1 (wpIn_rangeFunc_ownH (F := Fence.wide) (n := 9) rfl (by decide) (gf := 166) (lb := #[.pointer (some ⟨b + 1 + 1 + 1 + 1, 0, none⟩)]) rfl trivial steps_enters
  (steps_stops 8 (by decide) (b + 1 + 1 + 1 + 1) n W0 (by omega) hc4) KeepB.trans (KeepB.mark (by simp; omega)) (Below.refl _ _) (fun _ => rfl)
  (fun xs W => AtS w b #[.int .i64 k] 3 (sv 0 false) 131 xs.length W ∧ ∀ j, j < xs.length → (j : Int) ≠ k)
  (fun c xs W => c = .ret ∧ ∃ ys x, xs = ys ++ [x] ∧ (ys.length : Int) = k ∧ Blk W (b + 1) (sv x.1 x.2) 131 ∧ Blk W (b + 1 + 1) #[.int .i64 0] 27 ∧ Below w.heap.size w W)
  ?hI ?hIx ⟨hS0, fun j hj => absurd hj (Nat.not_lt_zero j)⟩
  (fun x a' W => ∃ g, a' = { tmps := #[Value.int IntKind.i64 n, Value.int IntKind.i64 k, undef,
     Value.pointer (some { block := b, off := 0 }),
     Value.pointer (some { block := b + 1, off := 0 }),
     Value.pointer (some { block := b + 1 + 1, off := 0 }),
     Value.pointer (some { block := b + 1 + 1 + 1, off := 0 }), Value.pointer (some { block := g, off := 0 }), Value.int IntKind.i64 n,
     Value.func (Fn.func 166) #[] #[Value.pointer (some { block := b + 1 + 1 + 1 + 1, off := 0 })], Value.agg (sv x.1 x.2),
     undef, undef, undef, undef, undef, undef, undef], defers := [] } ∧ Blk W g (sv x.1 x.2) 131 ∧ b + 5 ≤ g) ?hAx ?assign ?body ?done ?stop)
 case hI =>
  intro xs X Y row h hg hr
  exact ⟨h.1.kept hg (by have := HB.out; omega) hr, h.2⟩
 case hIx =>
  rintro c xs X Y row ⟨hc, ys, x, h1, h2, h3, h4, h5⟩ hg hr
  exact ⟨hc, ys, x, h1, h2, blk_kept h3 hg (fun r e => (hr r e).2), blk_kept h4 hg (fun r e => (hr r e).2), h5.grown hg h5.size (fun r e => by have := (hr r e).1; have := HB.out; omega)⟩
 case hAx =>
  rintro x a' _ X Y row ⟨g, h1, h2, h3⟩ hg hr
  exact ⟨g, h1, blk_kept h2 hg (fun r e => (hr r e).2), h3⟩
 case assign =>
  rintro l' pre x W K ⟨hC, hne⟩ hK
  have HC := Lib.hid hC
  have HNE := Lib.hid hne
  clear hC hne
  gi_wp2_with (refine wpListIn_store_row rfl 131 (.tmp 7) (.tmp 10) rfl W.heap.size (sv x.1 x.2) rfl rfl 131 (sv 0 false) (Blk.new W (sv 0 false) 131) size_step rfl (sv_one _ _) ?_)
  have hb' : Below W.heap.size W ((W.alloc (.cells (sv 0 false) 131)).setRow W.heap.size (sv x.1 x.2)) := below_put (Nat.le_refl _) _ ((Below.refl _ _).alloc (Nat.le_refl _) _)
  exact hK _ _ (keeps_of_below _ hb') (KeepB.of_below hb' (by have := HC.out.size; simp; omega)) ⟨HC.out.after hb', HNE.out⟩ ⟨W.heap.size, rfl, (Blk.new W (sv 0 false) 131).put _, HC.out.size⟩
 case body =>
  rintro l' pre x a' W _ _ ⟨hC, hne⟩ ⟨g, rfl, hblk, hg5⟩ hlen
  have cp := hC.p.cell 0
  have ck := hC.q.cell 0
  have fp := hC.p.free 0
  have hr1 := hC.r1
  have hpl : pre.length ≤ 1000 := by have := allL_le n; omega
  have HC := Lib.hid hC
  have HNE := Lib.hid hne
  have HBL := Lib.hid hblk
  clear hC hne
  by_cases hk : (pre.length : Int) = k
  ·subst hk
   have hr2 : Blk (W.setRow (b + 1) (sv x.1 x.2)) (b + 1 + 1) #[.int .i64 0] 27 := HC.out.r2.put_other (by omega) _
   have c2 := hr2.cell 0
   have f2 := hr2.free 0
   gi_wp2_with (first
    | (refine wpListIn_load_row rfl 131 (.tmp 7) rfl g rfl 131 (sv x.1 x.2) (0, 0) _ hblk Tryz.underlying131 rfl size_step ?_)
    | (refine wpListIn_store_row rfl 131 (.tmp 4) (.tmp 14) rfl (b + 1) (sv x.1 x.2) rfl rfl 131 (sv 0 false) hr1 size_step rfl (sv_one _ _) ?_))
   refine ⟨(keeps_put W _ (by omega)).trans (keeps_set _ _ _), rfl, pre, x, rfl, rfl, ?_, hr2.set 0 _ rfl, ?_⟩
   ·exact (hr1.put (sv x.1 x.2)).set_other (by omega) _ _
   ·exact (below_put (by omega) _ HC.out.below).setCell (p := ⟨b + 1 + 1, 0, none⟩) (by show _ ≤ b + 1 + 1; omega) _
  ·have hkb : ((pre.length : Int) == k) = false := by simpa using hk
   have e1 : (pre ++ [x]).length = pre.length + 1 := by simp
   have HE := Lib.hid e1
   clear e1
   gi_wp2_with fail
   refine ⟨keeps_set _ _ _, KeepB.set 0 _ (by simp), by rw [HE.out]; exact HC.out.next HBe, fun j hj => ?_⟩
   rw [HE.out] at hj
   by_cases hjl : j < pre.length
   ·exact HNE.out j hjl
   ·obtain rfl : j = pre.length := by omega
    exact hk
 case done =>
  rintro D xs W hD hS ⟨hC, hne⟩ hdef
  have hS' : xs = allL n := hS
  have hno : ¬ IsStep n k := by
   rintro ⟨h1, h2, h3⟩
   have := (allL_mem h1 (k := k.toNat) (by omega)).1
   exact hne k.toNat (by rw [hS']; exact this) (by omega)
  have HT : Hid (stL n k = 0 ∧ stF n k = false ∧ stC n k = 1) := ⟨if_neg hno, if_neg hno, if_neg hno⟩
  have hr1 := hC.r1
  have hr2 : Blk (W.setRow (b + 1) (sv 0 false)) (b + 1 + 1) #[.int .i64 0] 27 := hC.r2.put_other (by omega) _
  have c2 := hr2.cell 0
  have f2 := hr2.free 0
  have HC := Lib.hid hC
  have HD := Lib.hid hD
  have HDEF := Lib.hid hdef
  clear hC hne hS hS' hno hD hdef
  go_wp2_with (refine wpList_store_row rfl 131 (.tmp 4) (.tmp 17) rfl (b + 1) (sv 0 false) rfl rfl 131 (sv 0 false) hr1 size_step rfl (sv_one _ _) ?_)
  have hDW : D < W.heap.size := (Array.getElem?_eq_some_iff.1 HDEF.out).1
  have hK2 : ((W.setRow (b + 1) (sv 0 false)).setCell ⟨b + 1 + 1, 0, none⟩ (.int .i64 1)).heap[D]? = some (.deferred (some [])) :=
   (keeps_set (b + 5) ⟨b + 1 + 1, 0, none⟩ (.int .i64 1)).same D _ (by have := HD.out; omega) ((keeps_put W (sv 0 false) (B := b + 5) (by omega)).same D _ (by have := HD.out; omega) HDEF.out rfl) rfl
  have hB2 : Below w.heap.size w ((W.setRow (b + 1) (sv 0 false)).setCell ⟨b + 1 + 1, 0, none⟩ (.int .i64 1)) := (below_put (by omega) _ HC.out.below).setCell (p := ⟨b + 1 + 1, 0, none⟩) (by show _ ≤ b + 1 + 1; omega) _
  have hq1 : Blk ((W.setRow (b + 1) (sv 0 false)).setCell ⟨b + 1 + 1, 0, none⟩ (.int .i64 1)) (b + 1) (sv 0 false) 131 := (hr1.put (sv 0 false)).set_other (by omega) _ _
  have hq2 : Blk ((W.setRow (b + 1) (sv 0 false)).setCell ⟨b + 1 + 1, 0, none⟩ (.int .i64 1)) (b + 1 + 1) #[.int .i64 1] 27 := hr2.set 0 _ rfl
  refine leave_one rfl hK2 (results_cells_row rfl _ _ (b + 1) (b + 1 + 1) 131 (sv 0 false) _ (.int .i64 1) rfl (blk_mark hq1 hK2) Tryz.underlying131 rfl size_step rfl ((blk_mark hq2 hK2).cell 0) Tryz.isAgg27) ⟨?_, below_mark hB2 (by have := HD.out; omega) hK2⟩
  rw [HT.out.1, HT.out.2.1, HT.out.2.2]
 case stop =>
  rintro D c pre W hD ⟨j, hj, hpre⟩ ⟨rfl, ys, x, hys, hk, hr1, hr2, hBW⟩ hdef
  obtain ⟨hl, h2, h3⟩ := allL_step (hys.symm.trans hpre) hj
  have hyes : IsStep n k := ⟨hl, by omega, by omega⟩
  have hkn : k.toNat = ys.length := by omega
  have HT : Hid (stL n k = (x.1 : Nat) ∧ stF n k = x.2 ∧ stC n k = 0) := by
   refine ⟨(if_pos hyes).trans ?_, (if_pos hyes).trans ?_, if_pos hyes⟩
   ·rw [hkn, h3]
   ·rw [hkn, h3]
  have HBW := Lib.hid hBW
  have HD := Lib.hid hD
  have HDEF := Lib.hid hdef
  have HR1 := Lib.hid hr1
  have HR2 := Lib.hid hr2
  clear hj hpre hys hk hr1 hr2 hBW hdef hl h2 h3 hyes hkn hD
  gi_wp2_with fail
  refine leave_one rfl HDEF.out (results_cells_row rfl _ _ (b + 1) (b + 1 + 1) 131 (sv x.1 x.2) _ (.int .i64 0) rfl (blk_mark HR1.out HDEF.out) Tryz.underlying131 rfl size_step rfl ((blk_mark HR2.out HDEF.out).cell 0) Tryz.isAgg27) ⟨?_, below_mark HBW.out (by have := HD.out; omega) HDEF.out⟩
  rw [HT.out.1, HT.out.2.1, HT.out.2.2]
set_option maxHeartbeats 2000000 in
theorem or_place (n l : Int) (f : Bool) (w : World) : Calls Tryz.prog 152 #[.int .i64 n, .agg (sv l f)] w (PlaceT n l f w) := by
 refine calls_of_marks Tryz.func152 rfl ?_
 simp only [Tryz.ntmps152, List.size_toArray, List.length_cons, List.length_nil, Nat.reduceAdd, Nat.reduceSub, Array.replicate_succ, Array.replicate_zero, List.push_toArray, List.append_toArray, List.nil_append, List.cons_append]
 go_wp2_with fail
 refine (or_steps_raw n _).mono ?_
 rintro r w1 ⟨rfl, rfl⟩
 go_wp2_with fail
 obtain ⟨W0, hW0, hS0, hz, hc4⟩ := at_start w n (sv l f) #[.int .i64 0] 131 3
 obtain ⟨b, hb⟩ : ∃ b, w.heap.size = b := ⟨_, rfl⟩
 have HB := Lib.hid hb
 rw [hW0]
 rw [hb] at hS0 hz hc4 ⊢
 have HBe : w.heap.size ≤ b := Nat.le_of_eq hb
 clear hW0 hb
 refine wpIn_wide.1 (wpIn_rangeFunc_ownH (F := Fence.wide) (n := 9) rfl (by decide) (gf := 166) (lb := #[.pointer (some ⟨b + 1 + 1 + 1 + 1, 0, none⟩)]) rfl trivial steps_enters
  (steps_stops 8 (by decide) (b + 1 + 1 + 1 + 1) n W0 (by omega) hc4) KeepB.trans (KeepB.mark (by simp; omega)) (Below.refl _ _) (fun _ => rfl)
  (fun xs W => AtS w b (sv l f) 131 #[.int .i64 0] 3 xs.length W ∧ ∀ x ∈ xs, sameS (x.1 : Nat) x.2 l f = false)
  (fun c xs W => c = .ret ∧ ∃ ys x, xs = ys ++ [x] ∧ sameS (x.1 : Nat) x.2 l f = true ∧ Blk W (b + 1) #[.int .i64 ys.length] 3 ∧ Blk W (b + 1 + 1) #[.int .i64 0] 27 ∧ Below w.heap.size w W)
  ?hI ?hIx ⟨hS0, fun x hx => absurd hx List.not_mem_nil⟩
  (fun x a' W => ∃ g, a' = { tmps := #[Value.int IntKind.i64 n, Value.agg (sv l f), undef,
     Value.pointer (some { block := b, off := 0 }),
     Value.pointer (some { block := b + 1, off := 0 }),
     Value.pointer (some { block := b + 1 + 1, off := 0 }),
     Value.pointer (some { block := b + 1 + 1 + 1, off := 0 }), Value.pointer (some { block := g, off := 0 }), Value.int IntKind.i64 n,
     Value.func (Fn.func 166) #[] #[Value.pointer (some { block := b + 1 + 1 + 1 + 1, off := 0 })], Value.agg (sv x.1 x.2),
     undef, undef, undef, undef, undef, undef], defers := [] } ∧ Blk W g (sv x.1 x.2) 131 ∧ b + 5 ≤ g) ?hAx ?assign ?body ?done ?stop)
 case hI =>
  intro xs X Y row h hg hr
  exact ⟨h.1.kept hg (by have := HB.out; omega) hr, h.2⟩
 case hIx =>
  rintro c xs X Y row ⟨hc, ys, x, h1, h2, h3, h4, h5⟩ hg hr
  exact ⟨hc, ys, x, h1, h2, blk_kept h3 hg (fun r e => (hr r e).2), blk_kept h4 hg (fun r e => (hr r e).2), h5.grown hg h5.size (fun r e => by have := (hr r e).1; have := HB.out; omega)⟩
 case hAx =>
  rintro x a' _ X Y row ⟨g, h1, h2, h3⟩ hg hr
  exact ⟨g, h1, blk_kept h2 hg (fun r e => (hr r e).2), h3⟩
 case assign =>
  rintro l' pre x W K ⟨hC, hne⟩ hK
  have HC := Lib.hid hC
  have HNE := Lib.hid hne
  clear hC hne
  gi_wp2_with (refine wpListIn_store_row rfl 131 (.tmp 7) (.tmp 10) rfl W.heap.size (sv x.1 x.2) rfl rfl 131 (sv 0 false) (Blk.new W (sv 0 false) 131) size_step rfl (sv_one _ _) ?_)
  have hb' : Below W.heap.size W ((W.alloc (.cells (sv 0 false) 131)).setRow W.heap.size (sv x.1 x.2)) := below_put (Nat.le_refl _) _ ((Below.refl _ _).alloc (Nat.le_refl _) _)
  exact hK _ _ (keeps_of_below _ hb') (KeepB.of_below hb' (by have := HC.out.size; simp; omega)) ⟨HC.out.after hb', HNE.out⟩ ⟨W.heap.size, rfl, (Blk.new W (sv 0 false) 131).put _, HC.out.size⟩
 case body =>
  rintro l' pre x a' W _ _ ⟨hC, hne⟩ ⟨g, rfl, hblk, hg5⟩ hlen
  have cp := hC.p.cell 0
  have fp := hC.p.free 0
  have hq : Blk W b #[.int .i64 l, .bool f] 131 := hC.q
  have hx : Blk W g #[.int .i64 (x.1 : Nat), .bool x.2] 131 := hblk
  have c1 := hC.r1.cell 0
  have f1 := hC.r1.free 0
  have hpl : pre.length ≤ 1000 := by have := allL_le n; omega
  have heq := fun w => eql_step (x.1 : Nat) l x.2 f w
  have HC := Lib.hid hC
  have HNE := Lib.hid hne
  clear hC hne hblk
  by_cases hs : sameS (x.1 : Nat) x.2 l f = true
  ·have hr2 : Blk (W.setCell ⟨b + 1, 0, none⟩ (.int .i64 pre.length)) (b + 1 + 1) #[.int .i64 0] 27 := HC.out.r2.set_other (by omega) _ _
   have c2 := hr2.cell 0
   have f2 := hr2.free 0
   have HS := Lib.hid hs
   rw [hs] at heq
   clear hs
   gi_wp2_with (first
    | (refine wpListIn_load_row rfl 131 (.tmp 7) rfl g rfl 131 #[.int .i64 (x.1 : Nat), .bool x.2] (0, 0) _ hx Tryz.underlying131 rfl size_step ?_)
    | (refine wpListIn_load_row rfl 131 (.tmp 3) rfl b rfl 131 #[.int .i64 l, .bool f] (0, 0) _ hq Tryz.underlying131 rfl size_step ?_))
   refine ⟨(keeps_set _ _ _).trans (keeps_set _ _ _), rfl, pre, x, rfl, HS.out, ?_, hr2.set 0 _ rfl, ?_⟩
   ·exact (HC.out.r1.set 0 _ rfl).set_other (by omega) _ _
   ·exact (HC.out.below.setCell (p := ⟨b + 1, 0, none⟩) (by show _ ≤ b + 1; omega) _).setCell (p := ⟨b + 1 + 1, 0, none⟩) (by show _ ≤ b + 1 + 1; omega) _
  ·have hsf : sameS (x.1 : Nat) x.2 l f = false := by simpa using hs
   have e1 : (pre ++ [x]).length = pre.length + 1 := by simp
   have HE := Lib.hid e1
   have HS := Lib.hid hsf
   rw [hsf] at heq
   clear e1 hs hsf
   gi_wp2_with (first
    | (refine wpListIn_load_row rfl 131 (.tmp 7) rfl g rfl 131 #[.int .i64 (x.1 : Nat), .bool x.2] (0, 0) _ hx Tryz.underlying131 rfl size_step ?_)
    | (refine wpListIn_load_row rfl 131 (.tmp 3) rfl b rfl 131 #[.int .i64 l, .bool f] (0, 0) _ hq Tryz.underlying131 rfl size_step ?_))
   refine ⟨keeps_set _ _ _, KeepB.set 0 _ (by simp), by rw [HE.out]; exact HC.out.next HBe, fun y hy => ?_⟩
   rcases List.mem_append.1 hy with hy | hy
   ·exact HNE.out y hy
   ·rw [List.mem_singleton.1 hy]; exact HS.out
 case done =>
  rintro D xs W hD hS ⟨hC, hne⟩ hdef
  have hS' : xs = allL n := hS
  have hno : ¬ IsLine n l := by
   rintro ⟨h1, h2, h3⟩
   have hsp := step_place (n := n.toNat) (l := l.toNat) f (by omega)
   have hm := (allL_mem h1 hsp.2).2
   rw [hsp.1] at hm
   have h := hne (l.toNat, f) (by rw [hS']; exact hm)
   rw [Bool.eq_false_iff] at h
   exact h ((sameS_iff _ _ _ _).2 ⟨by show (l.toNat : Int) = l; omega, rfl⟩)
  have HT : Hid (plN n l f = 0 ∧ plC n l = 1) := ⟨if_neg hno, if_neg hno⟩
  have c1 := hC.r1.cell 0
  have f1 := hC.r1.free 0
  have hr2 : Blk (W.setCell ⟨b + 1, 0, none⟩ (.int .i64 0)) (b + 1 + 1) #[.int .i64 0] 27 := hC.r2.set_other (by omega) _ _
  have c2 := hr2.cell 0
  have f2 := hr2.free 0
  have HC := Lib.hid hC
  have HD := Lib.hid hD
  have HDEF := Lib.hid hdef
  clear hC hne hS hS' hno hD hdef
  go_wp2_with fail
  have hK2 : ((W.setCell ⟨b + 1, 0, none⟩ (.int .i64 0)).setCell ⟨b + 1 + 1, 0, none⟩ (.int .i64 1)).heap[D]? = some (.deferred (some [])) :=
   (keeps_set (b + 5) ⟨b + 1 + 1, 0, none⟩ (.int .i64 1)).same D _ (by have := HD.out; omega) ((keeps_set (b + 5) ⟨b + 1, 0, none⟩ (.int .i64 0)).same D _ (by have := HD.out; omega) HDEF.out rfl) rfl
  have hB2 : Below w.heap.size w ((W.setCell ⟨b + 1, 0, none⟩ (.int .i64 0)).setCell ⟨b + 1 + 1, 0, none⟩ (.int .i64 1)) :=
   (HC.out.below.setCell (p := ⟨b + 1, 0, none⟩) (by show _ ≤ b + 1; omega) _).setCell (p := ⟨b + 1 + 1, 0, none⟩) (by show _ ≤ b + 1 + 1; omega) _
  have hq1 : Blk ((W.setCell ⟨b + 1, 0, none⟩ (.int .i64 0)).setCell ⟨b + 1 + 1, 0, none⟩ (.int .i64 1)) (b + 1) #[.int .i64 0] 3 := (HC.out.r1.set 0 _ rfl).set_other (by omega) _ _
  have hq2 : Blk ((W.setCell ⟨b + 1, 0, none⟩ (.int .i64 0)).setCell ⟨b + 1 + 1, 0, none⟩ (.int .i64 1)) (b + 1 + 1) #[.int .i64 1] 27 := hr2.set 0 _ rfl
  refine leave_one rfl hK2 (results_cells_two rfl _ _ (b + 1) (b + 1 + 1) (.int .i64 0) (.int .i64 1) rfl ((blk_mark hq1 hK2).cell 0) Tryz.isAgg3 rfl ((blk_mark hq2 hK2).cell 0) Tryz.isAgg27) ⟨?_, below_mark hB2 (by have := HD.out; omega) hK2⟩
  rw [HT.out.1, HT.out.2]
 case stop =>
  rintro D c pre W hD ⟨j, hj, hpre⟩ ⟨rfl, ys, x, hys, hs, hr1, hr2, hBW⟩ hdef
  obtain ⟨hl, h2, h3⟩ := allL_step (hys.symm.trans hpre) hj
  obtain ⟨hs1, hs2⟩ := (sameS_iff _ _ _ _).1 hs
  have hps := place_step h2
  rw [h3] at hps
  have hyes : IsLine n l := ⟨hl, by omega, by omega⟩
  have HT : Hid (plN n l f = (ys.length : Nat) ∧ plC n l = 0) := by
   refine ⟨(if_pos hyes).trans ?_, if_pos hyes⟩
   rw [← hps.1, ← hs2, show l.toNat = x.1 by omega]
  have HBW := Lib.hid hBW
  have HD := Lib.hid hD
  have HDEF := Lib.hid hdef
  have HR1 := Lib.hid hr1
  have HR2 := Lib.hid hr2
  clear hj hpre hys hs hr1 hr2 hBW hdef hl h2 h3 hyes hD hps hs1 hs2
  gi_wp2_with fail
  refine leave_one rfl HDEF.out (results_cells_two rfl _ _ (b + 1) (b + 1 + 1) (.int .i64 ys.length) (.int .i64 0) rfl ((blk_mark HR1.out HDEF.out).cell 0) Tryz.isAgg3 rfl ((blk_mark HR2.out HDEF.out).cell 0) Tryz.isAgg27) ⟨?_, below_mark HBW.out (by have := HD.out; omega) HDEF.out⟩
  rw [HT.out.1, HT.out.2]
theorem or_after (n k l : Int) (w : World) : Calls Tryz.prog 124 #[.int .i64 n, .int .i64 k, .int .i64 l] w (AfterT n k l w) := by
 unfold AfterT afN afC
 have hp1 := fun w => or_place n l false w
 have hp2 := fun w => or_place n l true w
 unfold PlaceT plN plC at hp1 hp2
 by_cases hl : IsLine n l
 ·have hno : IsAfter n k l ↔ 0 ≤ k ∧ k ≤ 2 * n := ⟨fun h => ⟨h.2.1, h.2.2.1⟩, fun h => ⟨hl.1, h.1, h.2, hl.2.1, hl.2.2⟩⟩
  simp only [if_pos hl] at hp1 hp2
  obtain ⟨m, rfl⟩ : ∃ m : Nat, n = m := ⟨n.toNat, by have := hl.1; unfold LinesOk at this; omega⟩
  obtain ⟨j, rfl⟩ : ∃ j : Nat, l = j := ⟨l.toNat, by have := hl.2.1; omega⟩
  have hm : m ≤ 64 := by have := hl.1; unfold LinesOk at this; omega
  have hj : j < m := by have := hl.2.2; omega
  obtain ⟨p1, hp1e⟩ : ∃ p, placeC m j false = p := ⟨_, rfl⟩
  obtain ⟨p2, hp2e⟩ : ∃ p, placeC m j true = p := ⟨_, rfl⟩
  have hb1 : p1 < 2 * m := by rw [← hp1e]; exact (step_place false hj).2
  have hb2 : p2 < 2 * m := by rw [← hp2e]; exact (step_place true hj).2
  have hlt : p1 < p2 := by rw [← hp1e, ← hp2e]; exact foggy_first m j
  simp only [Int.toNat_natCast, hp1e, hp2e] at hp1 hp2
  have HP1 := Lib.hid hp1
  have HP2 := Lib.hid hp2
  clear hp1 hp2
  by_cases hk : 0 ≤ k ∧ k ≤ 2 * (m : Int)
  ·rw [if_pos (hno.2 hk), if_pos (hno.2 hk)]
   obtain ⟨k, rfl⟩ : ∃ q : Nat, k = q := ⟨k.toNat, by omega⟩
   have haf : afterC m k j = if p2 < k then 2 else if p1 < k then 1 else 0 := by unfold afterC; rw [hp1e, hp2e]
   rw [Int.toNat_natCast, Int.toNat_natCast, Int.toNat_natCast, haf]
   have g1 : ¬ (k : Int) < 0 := by omega
   have g2 : ¬ 2 * (m : Int) < (k : Int) := by omega
   have hc : (p2 < k) ∨ (¬ p2 < k ∧ p1 < k) ∨ (¬ p2 < k ∧ ¬ p1 < k) := by omega
   have hkm : k ≤ 2 * m := by omega
   clear hno hl hk haf hp1e hp2e
   rcases hc with hc | ⟨hc, hc2⟩ | ⟨hc, hc2⟩
   ·rw [if_pos hc]
    have g3 : (p2 : Int) < (k : Int) := by omega
    go_enter Tryz.func124, Tryz.ntmps124
    go_wp2_with fail
    refine (HP1.out _).mono ?_
    rintro r w1 ⟨rfl, hb1⟩
    go_wp2_with fail
    refine (HP2.out _).mono ?_
    rintro r w2 ⟨rfl, hb2⟩
    go_wp2_with fail
    refine bodyPost_ret (results_tmp2 rfl _ _ _) rfl ?_
    exact ⟨rfl, hb1.trans (hb2.mono hb1.size)⟩
   ·rw [if_neg hc, if_pos hc2]
    have g3 : ¬ (p2 : Int) < (k : Int) := by omega
    have g4 : (p1 : Int) < (k : Int) := by omega
    go_enter Tryz.func124, Tryz.ntmps124
    go_wp2_with fail
    refine (HP1.out _).mono ?_
    rintro r w1 ⟨rfl, hb1⟩
    go_wp2_with fail
    refine (HP2.out _).mono ?_
    rintro r w2 ⟨rfl, hb2⟩
    go_wp2_with fail
    refine bodyPost_ret (results_tmp2 rfl _ _ _) rfl ?_
    exact ⟨rfl, hb1.trans (hb2.mono hb1.size)⟩
   ·rw [if_neg hc, if_neg hc2]
    have g3 : ¬ (p2 : Int) < (k : Int) := by omega
    have g4 : ¬ (p1 : Int) < (k : Int) := by omega
    go_enter Tryz.func124, Tryz.ntmps124
    go_wp2_with fail
    refine (HP1.out _).mono ?_
    rintro r w1 ⟨rfl, hb1⟩
    go_wp2_with fail
    refine (HP2.out _).mono ?_
    rintro r w2 ⟨rfl, hb2⟩
    go_wp2_with fail
    refine bodyPost_ret (results_tmp2 rfl _ _ _) rfl ?_
    exact ⟨rfl, hb1.trans (hb2.mono hb1.size)⟩
  ·rw [if_neg (fun h => hk (hno.1 h)), if_neg (fun h => hk (hno.1 h))]
   have hc : k < 0 ∨ ¬ k < 0 ∧ 2 * (m : Int) < k := by omega
   clear hno hl hk hp1e hp2e HP2
   rcases hc with hc | ⟨hc, hc2⟩
   all_goals
    go_enter Tryz.func124, Tryz.ntmps124
    go_wp2_with fail
    refine (HP1.out _).mono ?_
    rintro r w1 ⟨rfl, hb1⟩
    go_wp2_with fail
    refine bodyPost_ret (results_tmp2 rfl _ _ _) rfl ?_
    exact ⟨rfl, hb1⟩
 ·have hno : ¬ IsAfter n k l := fun h => hl ⟨h.1, h.2.2.2.1, h.2.2.2.2⟩
  rw [if_neg hno, if_neg hno]
  simp only [if_neg hl] at hp1
  have HP1 := Lib.hid hp1
  clear hp1 hp2 hno hl
  go_enter Tryz.func124, Tryz.ntmps124
  go_wp2_with fail
  refine (HP1.out _).mono ?_
  rintro r w1 ⟨rfl, hb1⟩
  go_wp2_with fail
  refine bodyPost_ret (results_tmp2 rfl _ _ _) rfl ?_
  exact ⟨rfl, hb1⟩
end Go.Proofs.YtalefbmoebobkaaGreatDoor
/- As XInv3, where some operations (those of Post) come behind the one that comes behind all others. -/
namespace Go.Proofs.YtalefbmoebobkaaGreatDoor
set_option maxRecDepth 100000
section
variable {P : Program} {ops : Array Oper} {Q : Exit → Act → World → Prop} {md : Region.Mode}
theorem wpAny_facts5 {Base : Act → Prop} {C : World → Prop} {T : World → World → Prop} {R : Nat → Act → World → Prop} {S : Nat → List Tmp} (z : Nat) (Post : Nat → Bool) (hzb : z < ops.size)
  (hbefore : ∀ (i : Nat) (o : Oper), ops[i]? = some o → ∀ e ∈ o.after, Region.binds md e = true → e.on < i)
  (hslots : ∀ (i j : Nat) (o o' : Oper), ops[i]? = some o → ops[j]? = some o' → j ≠ i → (∀ e ∈ o'.after, Region.binds md e = true → e.on ≠ i) → ∀ d, o.dst = some d → d ∉ S j)
  (hext : ∀ j a a' w w', R j a w → (∀ s ∈ S j, a'.tmps.getD s undef = a.tmps.getD s undef) → T w w' → R j a' w')
  (hbase : ∀ (i : Nat) (o : Oper), ops[i]? = some o → ∀ a v, Base a → Base (a.put o.dst v))
  (hlast : ∀ o, ops[z]? = some o → ∀ i, i < ops.size → i ≠ z → Post i = false → ∃ e ∈ o.after, Region.binds md e = true ∧ (e.on = i ∨ ∃ o2, ops[e.on]? = some o2 ∧ ∃ e2 ∈ o2.after, Region.binds md e2 = true ∧ e2.on = i))
  (hpost : ∀ (i : Nat) (o : Oper), ops[i]? = some o → Post i = true → ∃ e ∈ o.after, Region.binds md e = true ∧ e.on = z)
  (hops : ∀ (i : Nat) (o : Oper), ops[i]? = some o → ∀ a w, (Post i = false → C w) → Base a → (∀ e ∈ o.after, Region.binds md e = true → R e.on a w) →
   wpOp P ops Q i (fun a' w' => ∃ v, a' = a.put o.dst v ∧ (i ≠ z → Post i = false → C w') ∧ T w w' ∧ R i a' w') a w)
  (hfin : ∀ a w, Base a → (∀ i, i < ops.size → R i a w) → Q .normal a w) :
  ∀ (fuel : Nat) (listed : Array Bool) (a : Act) (w : World), still ops.size listed ≤ fuel → listed.size = ops.size → (listed.getD z true = false → C w) → Base a →
   (∀ i, i < ops.size → listed.getD i true = true → R i a w ∧ ∀ o, ops[i]? = some o → ∀ e ∈ o.after, Region.binds md e = true → listed.getD e.on true = true) → wpAny P md ops Q fuel listed a w := by
 have all : ∀ (listed : Array Bool), listed.size = ops.size → Region.ready md ops listed = [] → ∀ i, i < ops.size → listed.getD i true = true := by
  intro listed hsz hr i
  induction i using Nat.strongRecOn with
  | ind i ih =>
   intro hi
   cases hl : listed.getD i true with
   | true => rfl
   | false =>
    exfalso
    have hm : i ∈ Region.ready md ops listed := by
     rw [mem_ready]
     refine ⟨hl, ops[i], by simp [hi], fun e he hb => ?_⟩
     have hlt := hbefore i ops[i] (by simp [hi]) e he hb
     have h2 := ih e.on hlt (by omega)
     have h3 : e.on < listed.size := by omega
     simp [Array.getD, h3] at h2 ⊢
     exact h2
    rw [hr] at hm; cases hm
 intro fuel
 induction fuel with
 | zero =>
  intro listed a w hst hsz hC hB hR
  have hall := still_zero (Nat.le_zero.1 hst)
  have hr : Region.ready md ops listed = [] := by
   cases h : Region.ready md ops listed with
   | nil => rfl
   | cons i l =>
    have hm : i ∈ Region.ready md ops listed := by rw [h]; exact List.mem_cons_self
    obtain ⟨h1, o, ho, _⟩ := mem_ready.1 hm
    have hi : i < ops.size := (Array.getElem?_eq_some_iff.1 ho).1
    rw [hall i hi] at h1; cases h1
  exact ⟨hr, hfin a w hB fun i hi => (hR i hi (hall i hi)).1⟩
 | succ fuel ih =>
  intro listed a w hst hsz hC hB hR
  refine ⟨fun hr => hfin a w hB fun i hi => (hR i hi (all listed hsz hr i hi)).1, fun i hi => ?_⟩
  obtain ⟨h1, o, ho, hdeps⟩ := mem_ready.1 hi
  have hin : i < ops.size := (Array.getElem?_eq_some_iff.1 ho).1
  have hdl : ∀ e ∈ o.after, Region.binds md e = true → listed.getD e.on true = true := by
   intro e he hb
   have hlt := hbefore i o ho e he hb
   have h2 := hdeps e he hb
   have h3 : e.on < listed.size := by omega
   simp [Array.getD, h3] at h2 ⊢
   exact h2
  have hCw : Post i = false → C w := by
   intro hpf
   apply hC
   by_cases e : i = z
   ·rw [← e]; exact h1
   ·cases hz : listed.getD z true with
    | false => rfl
    | true =>
     exfalso
     obtain ⟨_, hdz⟩ := hR z hzb hz
     obtain ⟨e', he', hb', hon⟩ := hlast ops[z] (by simp [hzb]) i hin e hpf
     have h4 := hdz ops[z] (by simp [hzb]) e' he' hb'
     rcases hon with hon | ⟨o2, ho2, e2, he2, hb2, hon⟩
     ·rw [hon, h1] at h4; cases h4
     ·obtain ⟨_, hd2⟩ := hR e'.on (Array.getElem?_eq_some_iff.1 ho2).1 h4
      have h5 := hd2 o2 ho2 e2 he2 hb2
      rw [hon, h1] at h5; cases h5
  refine wpOp_mono ?_ (hops i o ho a w hCw hB fun e he hb => (hR e.on (by have := hbefore i o ho e he hb; omega) (hdl e he hb)).1)
  rintro a' w' ⟨v, rfl, hC', hT, hRv⟩
  have hless := still_less hin h1
  have keep : ∀ k, listed.getD k true = true → (listed.setIfInBounds i true).getD k true = true := by
   intro k hk
   by_cases e : k = i
   ·subst e
    have hs : k < listed.size := by omega
    simp [Array.getD, hs]
   ·rw [getD_set_ne true (Ne.symm e)]; exact hk
  refine ih _ _ _ (by omega) (by simp [hsz]) (fun hz => hC' (fun e => ?_) ?_) (hbase i o ho a v hB) fun j hj hlj => ?_
  ·subst e
   have hs : i < listed.size := by omega
   simp [Array.getD, hs] at hz
  ·cases hp : Post i with
   | false => rfl
   | true =>
    exfalso
    obtain ⟨e', he', hb', hon⟩ := hpost i o ho hp
    have h4 := keep z (by rw [← hon]; exact hdl e' he' hb')
    rw [hz] at h4; cases h4
  by_cases e : j = i
  ·subst e
   refine ⟨hRv, fun o' ho' e he hb => keep _ ?_⟩
   obtain rfl : o' = o := Option.some.inj (ho'.symm.trans ho)
   exact hdl e he hb
  ·rw [getD_set_ne true (Ne.symm e)] at hlj
   obtain ⟨hRj, hdj⟩ := hR j hj hlj
   refine ⟨hext j a _ w w' hRj (fun s hs => put_slot fun x hx hxs => ?_) hT, fun o' ho' e he hb => keep _ (hdj o' ho' e he hb)⟩
   subst hxs
   refine hslots i j o ops[j] ho (by simp [hj]) e (fun e' he' hb' hne => ?_) x hx hs
   have := hdj ops[j] (by simp [hj]) e' he' hb'
   rw [hne, h1] at this; cases this
def lastB5 (l : List Oper) (z : Nat) (Post : Nat → Bool) : Bool := match l[z]? with
 | none => false
 | some o => ((List.range l.length).all fun i => i == z || Post i || o.after.any fun e => Region.binds .any e && (e.on == i || match l[e.on]? with
   | none => false
   | some o2 => o2.after.any fun e2 => Region.binds .any e2 && e2.on == i)) && ((List.range l.length).all fun i => match l[i]? with
  | none => true
  | some o' => !Post i || o'.after.any fun e => Region.binds .any e && e.on == z)
theorem wp_region_list5 {id : Nat} {l : List Oper} {a : Act} {w : World} (z : Nat) (Post : Nat → Bool) (S : List (List Tmp)) (Base : Act → Prop) (C : World → Prop) (T : World → World → Prop) (R : Nat → Act → World → Prop) (hm : P.follows .mixedOrders = true)
  (hzl : z < l.length) (hzB : lastB5 l z Post = true) (hpl : planB l S = true) (hext : ∀ j a a' w w', R j a w → (∀ s ∈ S.getD j [], a'.tmps.getD s undef = a.tmps.getD s undef) → T w w' → R j a' w')
  (hbase : AllFrom (fun _ o => ∀ a v, Base a → Base (a.put o.dst v)) 0 l) (hC : C { w with drawn := w.drawn + 1 }) (hB : Base a)
  (hops : AllFrom (fun i o => ∀ a w, (Post i = false → C w) → Base a → (∀ e ∈ o.after, Region.binds .any e = true → R e.on a w) →
   if Region.wanted o (yielded l.toArray a.tmps) = true then o.wp P a w (Leaves (fun w' => i ≠ z → Post i = false → C w') T R i o a w) Q
   else Leaves (fun w' => i ≠ z → Post i = false → C w') T R i o a w (a.put o.dst undef) w) 0 l)
  (hfin : ∀ a w, Base a → (∀ i, i < l.length → R i a w) → Q .normal a w) : (Code.region id l.toArray true).wp P Q a w := by
 have hp := List.all_eq_true.1 hpl
 refine wp_region_any hm (wpAny_facts5 z Post (by simpa using hzl) (S := fun j => S.getD j []) (Base := Base) (C := C) (T := T) (R := R) ?_ ?_ hext hbase.all ?_ ?_
  (fun i o ho a w h1 h2 h3 => ?_)
  (fun a w h2 h3 => hfin a w h2 fun i hi => h3 i (by simpa using hi)) _ _ _ _ ?_ (by simp) (fun _ => hC) hB ?_)
 ·intro i o ho e he hb
  have ho' : l[i]? = some o := by simpa using ho
  have h1 := hp i (List.mem_range.2 (List.getElem?_eq_some_iff.1 ho').1)
  simp only [ho', Bool.and_eq_true] at h1
  have h2 := (Array.all_eq_true_iff_forall_mem.1 h1.1) e he
  simpa [hb] using h2
 ·intro i j o o' ho ho' hne hno d hd
  have hi : l[i]? = some o := by simpa using ho
  have hj : l[j]? = some o' := by simpa using ho'
  have h1 := hp i (List.mem_range.2 (List.getElem?_eq_some_iff.1 hi).1)
  simp only [hi, hd, Bool.and_eq_true] at h1
  have h2 := List.all_eq_true.1 h1.2 j (List.mem_range.2 (List.getElem?_eq_some_iff.1 hj).1)
  simp only [hj, Bool.or_eq_true, beq_iff_eq] at h2
  rcases h2 with h2 | h2 | h2
  ·exact absurd h2 hne
  ·obtain ⟨k, hk, hb⟩ := Array.any_eq_true.1 h2
   obtain ⟨e, he⟩ : ∃ e, e = o'.after[k] := ⟨_, rfl⟩
   rw [← he] at hb
   have he : e ∈ o'.after := by rw [he]; exact Array.getElem_mem hk
   simp only [Bool.and_eq_true, beq_iff_eq] at hb
   exact absurd hb.2 (hno e he hb.1)
  ·intro hm
   simp at h2
   exact h2 hm
 ·intro o ho i hi hne hpf
  have ho' : l[z]? = some o := by simpa using ho
  have hi' : i < l.length := by simpa using hi
  unfold lastB5 at hzB
  rw [ho'] at hzB
  simp only [Bool.and_eq_true] at hzB
  have h1 := List.all_eq_true.1 hzB.1 i (List.mem_range.2 hi')
  simp only [Bool.or_eq_true, beq_iff_eq] at h1
  rcases h1 with (h1 | h1) | h1
  ·exact absurd h1 hne
  ·rw [hpf] at h1; cases h1
  ·obtain ⟨k, hk, hb⟩ := Array.any_eq_true.1 h1
   simp only [Bool.and_eq_true, Bool.or_eq_true, beq_iff_eq] at hb
   refine ⟨o.after[k], Array.getElem_mem hk, hb.1, hb.2.imp (fun h => h) fun h2 => ?_⟩
   cases ho2 : l[o.after[k].on]? with
   | none => rw [ho2] at h2; cases h2
   | some o2 =>
    rw [ho2] at h2
    obtain ⟨k2, hk2, hb2⟩ := Array.any_eq_true.1 h2
    simp only [Bool.and_eq_true, beq_iff_eq] at hb2
    exact ⟨o2, by simpa using ho2, o2.after[k2], Array.getElem_mem hk2, hb2.1, hb2.2⟩
 ·intro i o ho hpt
  have ho' : l[i]? = some o := by simpa using ho
  have hi' : i < l.length := (List.getElem?_eq_some_iff.1 ho').1
  unfold lastB5 at hzB
  cases hz : l[z]? with
  | none => rw [hz] at hzB; cases hzB
  | some oz =>
   rw [hz] at hzB
   simp only [Bool.and_eq_true] at hzB
   have h1 := List.all_eq_true.1 hzB.2 i (List.mem_range.2 hi')
   rw [ho'] at h1
   simp only [hpt, Bool.not_true, Bool.false_or] at h1
   obtain ⟨k, hk, hb⟩ := Array.any_eq_true.1 h1
   simp only [Bool.and_eq_true, beq_iff_eq] at hb
   exact ⟨o.after[k], Array.getElem_mem hk, hb.1, hb.2⟩
 ·have h4 := hops.all i o ho a w h1 h2 h3
  unfold wpOp
  simp only [ho]
  by_cases hw : Region.wanted o (yielded l.toArray a.tmps) = true
  ·rw [if_pos hw] at h4 ⊢
   exact Or.inl h4
  ·rw [if_neg hw] at h4 ⊢
   exact h4
 ·unfold still
  exact Nat.le_trans (List.length_filter_le _ _) (by simp)
 ·intro i hi h
  have hi' : i < l.length := by simpa using hi
  simp [Array.getD] at h
  omega
end
/- As XInv4, with any number of steps between an operation and the one that comes behind all others. -/
section
variable {P : Program} {ops : Array Oper} {Q : Exit → Act → World → Prop} {md : Region.Mode}
inductive Reach (ops : Array Oper) (md : Region.Mode) : Nat → Nat → Prop
 | refl (k : Nat) : Reach ops md k k
 | step (k i : Nat) (o : Oper) (e : Edge) (ho : ops[k]? = some o) (he : e ∈ o.after) (hb : Region.binds md e = true) (hr : Reach ops md e.on i) : Reach ops md k i
theorem Reach.listed {listed : Array Bool} (hcl : ∀ (k : Nat) (o : Oper), ops[k]? = some o → listed.getD k true = true → ∀ e ∈ o.after, Region.binds md e = true → listed.getD e.on true = true) {k i : Nat} (h : Reach ops md k i) : listed.getD k true = true → listed.getD i true = true := by
 induction h with
 | refl => exact fun h => h
 | step k i o e ho he hb _ ih => exact fun hk => ih (hcl k o ho hk e he hb)
def reachB (l : List Oper) : Nat → Nat → Nat → Bool
 | 0, k, i => k == i
 | n + 1, k, i => k == i || match l[k]? with
  | none => false
  | some o => o.after.any fun e => Region.binds .any e && reachB l n e.on i
theorem reachB.reach {l : List Oper} : ∀ (n k i : Nat), reachB l n k i = true → Reach l.toArray .any k i
 | 0, k, i, h => by
  simp only [reachB, beq_iff_eq] at h
  subst h; exact Reach.refl _
 | n + 1, k, i, h => by
  simp only [reachB, Bool.or_eq_true, beq_iff_eq] at h
  rcases h with h | h
  ·subst h; exact Reach.refl _
  ·cases ho : l[k]? with
   | none => rw [ho] at h; cases h
   | some o =>
    rw [ho] at h
    obtain ⟨j, hj, hb⟩ := Array.any_eq_true.1 h
    simp only [Bool.and_eq_true] at hb
    exact Reach.step k i o o.after[j] (by simpa using ho) (Array.getElem_mem hj) hb.1 (reachB.reach n _ i hb.2)
theorem wpAny_facts6 {Base : Act → Prop} {C : World → Prop} {T : World → World → Prop} {R : Nat → Act → World → Prop} {S : Nat → List Tmp} (z : Nat) (Post : Nat → Bool) (hzb : z < ops.size)
  (hbefore : ∀ (i : Nat) (o : Oper), ops[i]? = some o → ∀ e ∈ o.after, Region.binds md e = true → e.on < i)
  (hslots : ∀ (i j : Nat) (o o' : Oper), ops[i]? = some o → ops[j]? = some o' → j ≠ i → (∀ e ∈ o'.after, Region.binds md e = true → e.on ≠ i) → ∀ d, o.dst = some d → d ∉ S j)
  (hext : ∀ j a a' w w', R j a w → (∀ s ∈ S j, a'.tmps.getD s undef = a.tmps.getD s undef) → T w w' → R j a' w')
  (hbase : ∀ (i : Nat) (o : Oper), ops[i]? = some o → ∀ a v, Base a → Base (a.put o.dst v))
  (hlast : ∀ i, i < ops.size → i ≠ z → Post i = false → Reach ops md z i)
  (hpost : ∀ (i : Nat) (o : Oper), ops[i]? = some o → Post i = true → ∃ e ∈ o.after, Region.binds md e = true ∧ e.on = z)
  (hops : ∀ (i : Nat) (o : Oper), ops[i]? = some o → ∀ a w, (Post i = false → C w) → Base a → (∀ e ∈ o.after, Region.binds md e = true → R e.on a w) →
   wpOp P ops Q i (fun a' w' => ∃ v, a' = a.put o.dst v ∧ (i ≠ z → Post i = false → C w') ∧ T w w' ∧ R i a' w') a w)
  (hfin : ∀ a w, Base a → (∀ i, i < ops.size → R i a w) → Q .normal a w) :
  ∀ (fuel : Nat) (listed : Array Bool) (a : Act) (w : World), still ops.size listed ≤ fuel → listed.size = ops.size → (listed.getD z true = false → C w) → Base a →
   (∀ i, i < ops.size → listed.getD i true = true → R i a w ∧ ∀ o, ops[i]? = some o → ∀ e ∈ o.after, Region.binds md e = true → listed.getD e.on true = true) → wpAny P md ops Q fuel listed a w := by
 have all : ∀ (listed : Array Bool), listed.size = ops.size → Region.ready md ops listed = [] → ∀ i, i < ops.size → listed.getD i true = true := by
  intro listed hsz hr i
  induction i using Nat.strongRecOn with
  | ind i ih =>
   intro hi
   cases hl : listed.getD i true with
   | true => rfl
   | false =>
    exfalso
    have hm : i ∈ Region.ready md ops listed := by
     rw [mem_ready]
     refine ⟨hl, ops[i], by simp [hi], fun e he hb => ?_⟩
     have hlt := hbefore i ops[i] (by simp [hi]) e he hb
     have h2 := ih e.on hlt (by omega)
     have h3 : e.on < listed.size := by omega
     simp [Array.getD, h3] at h2 ⊢
     exact h2
    rw [hr] at hm; cases hm
 intro fuel
 induction fuel with
 | zero =>
  intro listed a w hst hsz hC hB hR
  have hall := still_zero (Nat.le_zero.1 hst)
  have hr : Region.ready md ops listed = [] := by
   cases h : Region.ready md ops listed with
   | nil => rfl
   | cons i l =>
    have hm : i ∈ Region.ready md ops listed := by rw [h]; exact List.mem_cons_self
    obtain ⟨h1, o, ho, _⟩ := mem_ready.1 hm
    have hi : i < ops.size := (Array.getElem?_eq_some_iff.1 ho).1
    rw [hall i hi] at h1; cases h1
  exact ⟨hr, hfin a w hB fun i hi => (hR i hi (hall i hi)).1⟩
 | succ fuel ih =>
  intro listed a w hst hsz hC hB hR
  refine ⟨fun hr => hfin a w hB fun i hi => (hR i hi (all listed hsz hr i hi)).1, fun i hi => ?_⟩
  obtain ⟨h1, o, ho, hdeps⟩ := mem_ready.1 hi
  have hin : i < ops.size := (Array.getElem?_eq_some_iff.1 ho).1
  have hdl : ∀ e ∈ o.after, Region.binds md e = true → listed.getD e.on true = true := by
   intro e he hb
   have hlt := hbefore i o ho e he hb
   have h2 := hdeps e he hb
   have h3 : e.on < listed.size := by omega
   simp [Array.getD, h3] at h2 ⊢
   exact h2
  have hCw : Post i = false → C w := by
   intro hpf
   apply hC
   by_cases e : i = z
   ·rw [← e]; exact h1
   ·cases hz : listed.getD z true with
    | false => rfl
    | true =>
     exfalso
     have hcl : ∀ (k : Nat) (o : Oper), ops[k]? = some o → listed.getD k true = true → ∀ e ∈ o.after, Region.binds md e = true → listed.getD e.on true = true := fun k o ho' hk e' he' hb' => (hR k (Array.getElem?_eq_some_iff.1 ho').1 hk).2 o ho' e' he' hb'
     have h4 := (hlast i hin e hpf).listed hcl hz
     rw [h1] at h4; cases h4
  refine wpOp_mono ?_ (hops i o ho a w hCw hB fun e he hb => (hR e.on (by have := hbefore i o ho e he hb; omega) (hdl e he hb)).1)
  rintro a' w' ⟨v, rfl, hC', hT, hRv⟩
  have hless := still_less hin h1
  have keep : ∀ k, listed.getD k true = true → (listed.setIfInBounds i true).getD k true = true := by
   intro k hk
   by_cases e : k = i
   ·subst e
    have hs : k < listed.size := by omega
    simp [Array.getD, hs]
   ·rw [getD_set_ne true (Ne.symm e)]; exact hk
  refine ih _ _ _ (by omega) (by simp [hsz]) (fun hz => hC' (fun e => ?_) ?_) (hbase i o ho a v hB) fun j hj hlj => ?_
  ·subst e
   have hs : i < listed.size := by omega
   simp [Array.getD, hs] at hz
  ·cases hp : Post i with
   | false => rfl
   | true =>
    exfalso
    obtain ⟨e', he', hb', hon⟩ := hpost i o ho hp
    have h4 := keep z (by rw [← hon]; exact hdl e' he' hb')
    rw [hz] at h4; cases h4
  by_cases e : j = i
  ·subst e
   refine ⟨hRv, fun o' ho' e he hb => keep _ ?_⟩
   obtain rfl : o' = o := Option.some.inj (ho'.symm.trans ho)
   exact hdl e he hb
  ·rw [getD_set_ne true (Ne.symm e)] at hlj
   obtain ⟨hRj, hdj⟩ := hR j hj hlj
   refine ⟨hext j a _ w w' hRj (fun s hs => put_slot fun x hx hxs => ?_) hT, fun o' ho' e he hb => keep _ (hdj o' ho' e he hb)⟩
   subst hxs
   refine hslots i j o ops[j] ho (by simp [hj]) e (fun e' he' hb' hne => ?_) x hx hs
   have := hdj ops[j] (by simp [hj]) e' he' hb'
   rw [hne, h1] at this; cases this
def lastB6 (l : List Oper) (z : Nat) (Post : Nat → Bool) : Bool :=
 ((List.range l.length).all fun i => i == z || Post i || reachB l 8 z i) && ((List.range l.length).all fun i => match l[i]? with
  | none => true
  | some o' => !Post i || o'.after.any fun e => Region.binds .any e && e.on == z)
theorem wp_region_list6 {id : Nat} {l : List Oper} {a : Act} {w : World} (z : Nat) (Post : Nat → Bool) (S : List (List Tmp)) (Base : Act → Prop) (C : World → Prop) (T : World → World → Prop) (R : Nat → Act → World → Prop) (hm : P.follows .mixedOrders = true)
  (hzl : z < l.length) (hzB : lastB6 l z Post = true) (hpl : planB l S = true) (hext : ∀ j a a' w w', R j a w → (∀ s ∈ S.getD j [], a'.tmps.getD s undef = a.tmps.getD s undef) → T w w' → R j a' w')
  (hbase : AllFrom (fun _ o => ∀ a v, Base a → Base (a.put o.dst v)) 0 l) (hC : C { w with drawn := w.drawn + 1 }) (hB : Base a)
  (hops : AllFrom (fun i o => ∀ a w, (Post i = false → C w) → Base a → (∀ e ∈ o.after, Region.binds .any e = true → R e.on a w) →
   if Region.wanted o (yielded l.toArray a.tmps) = true then o.wp P a w (Leaves (fun w' => i ≠ z → Post i = false → C w') T R i o a w) Q
   else Leaves (fun w' => i ≠ z → Post i = false → C w') T R i o a w (a.put o.dst undef) w) 0 l)
  (hfin : ∀ a w, Base a → (∀ i, i < l.length → R i a w) → Q .normal a w) : (Code.region id l.toArray true).wp P Q a w := by
 have hp := List.all_eq_true.1 hpl
 refine wp_region_any hm (wpAny_facts6 z Post (by simpa using hzl) (S := fun j => S.getD j []) (Base := Base) (C := C) (T := T) (R := R) ?_ ?_ hext hbase.all ?_ ?_
  (fun i o ho a w h1 h2 h3 => ?_)
  (fun a w h2 h3 => hfin a w h2 fun i hi => h3 i (by simpa using hi)) _ _ _ _ ?_ (by simp) (fun _ => hC) hB ?_)
 ·intro i o ho e he hb
  have ho' : l[i]? = some o := by simpa using ho
  have h1 := hp i (List.mem_range.2 (List.getElem?_eq_some_iff.1 ho').1)
  simp only [ho', Bool.and_eq_true] at h1
  have h2 := (Array.all_eq_true_iff_forall_mem.1 h1.1) e he
  simpa [hb] using h2
 ·intro i j o o' ho ho' hne hno d hd
  have hi : l[i]? = some o := by simpa using ho
  have hj : l[j]? = some o' := by simpa using ho'
  have h1 := hp i (List.mem_range.2 (List.getElem?_eq_some_iff.1 hi).1)
  simp only [hi, hd, Bool.and_eq_true] at h1
  have h2 := List.all_eq_true.1 h1.2 j (List.mem_range.2 (List.getElem?_eq_some_iff.1 hj).1)
  simp only [hj, Bool.or_eq_true, beq_iff_eq] at h2
  rcases h2 with h2 | h2 | h2
  ·exact absurd h2 hne
  ·obtain ⟨k, hk, hb⟩ := Array.any_eq_true.1 h2
   obtain ⟨e, he⟩ : ∃ e, e = o'.after[k] := ⟨_, rfl⟩
   rw [← he] at hb
   have he : e ∈ o'.after := by rw [he]; exact Array.getElem_mem hk
   simp only [Bool.and_eq_true, beq_iff_eq] at hb
   exact absurd hb.2 (hno e he hb.1)
  ·intro hm
   simp at h2
   exact h2 hm
 ·intro i hi hne hpf
  have hi' : i < l.length := by simpa using hi
  unfold lastB6 at hzB
  simp only [Bool.and_eq_true] at hzB
  have h1 := List.all_eq_true.1 hzB.1 i (List.mem_range.2 hi')
  simp only [Bool.or_eq_true, beq_iff_eq] at h1
  rcases h1 with (h1 | h1) | h1
  ·exact absurd h1 hne
  ·rw [hpf] at h1; cases h1
  ·exact reachB.reach 8 z i h1
 ·intro i o ho hpt
  have ho' : l[i]? = some o := by simpa using ho
  have hi' : i < l.length := (List.getElem?_eq_some_iff.1 ho').1
  unfold lastB6 at hzB
  simp only [Bool.and_eq_true] at hzB
  have h1 := List.all_eq_true.1 hzB.2 i (List.mem_range.2 hi')
  rw [ho'] at h1
  simp only [hpt, Bool.not_true, Bool.false_or] at h1
  obtain ⟨k, hk, hb⟩ := Array.any_eq_true.1 h1
  simp only [Bool.and_eq_true, beq_iff_eq] at hb
  exact ⟨o.after[k], Array.getElem_mem hk, hb.1, hb.2⟩
 ·have h4 := hops.all i o ho a w h1 h2 h3
  unfold wpOp
  simp only [ho]
  by_cases hw : Region.wanted o (yielded l.toArray a.tmps) = true
  ·rw [if_pos hw] at h4 ⊢
   exact Or.inl h4
  ·rw [if_neg hw] at h4 ⊢
   exact h4
 ·unfold still
  exact Nat.le_trans (List.length_filter_le _ _) (by simp)
 ·intro i hi h
  have hi' : i < l.length := by simpa using hi
  simp [Array.getD] at h
  omega
end
end Go.Proofs.YtalefbmoebobkaaGreatDoor
/- The reference of layer 6, walked: Most, Snaps, Check. -/
namespace Go.Proofs.YtalefbmoebobkaaGreatDoor
set_option maxRecDepth 100000
open Go.RowKit
theorem rge_most (b l y n s r : Int) (w : World) (h : PreG b l y n s r) :
  Calls Tryz.prog 67 #[.agg (gv b l y n s r)] w fun e w' => e = .returned (.int .i64 (mostG b l s)) ∧ Below w.heap.size w w' := by
 have hm := pre_most h
 obtain ⟨h1, h2, h3, h4, h5, h6, h7, h8, h9, h10, h11, h12, h13, h14⟩ := h
 have hq : (3 * l * (b - s - 6)).tdiv 2 = mostG b l s := by unfold mostG; exact Int.tdiv_eq_ediv_of_nonneg hm.1
 have hbd : 0 ≤ mostG b l s ∧ mostG b l s ≤ 6000 := by unfold mostG; omega
 obtain ⟨m, hme⟩ : ∃ m, mostG b l s = m := ⟨_, rfl⟩
 rw [hme] at hq hbd ⊢
 clear hme
 unfold gv
 go_enter Tryz.func67, Tryz.ntmps67
 go_wp2_with fail
 go_ret
 exact ⟨rfl, (Below.refl _ _).alloc (Nat.le_refl _) _⟩
theorem rge_snaps (b l y n s r : Int) (w : World) (h : PreG b l y n s r) :
  Calls Tryz.prog 68 #[.agg (gv b l y n s r)] w fun e w' => e = .returned (.int .i64 (snapsG b y n)) ∧ Below w.heap.size w w' := by
 have hbd := snaps_bd h
 obtain ⟨h1, h2, h3, h4, h5, h6, h7, h8, h9, h10, h11, h12, h13, h14⟩ := h
 have hit := fun k : Int => snaps_iff (b := b) (y := y) (n := n) (by omega) k
 obtain ⟨m, hme⟩ : ∃ m, snapsG b y n = m := ⟨_, rfl⟩
 rw [hme] at hbd ⊢
 have HIT : Hid (∀ k : Int, k * y < 6 * n + 10 * b ↔ k < m) := by intro k; rw [← hme]; exact hit k
 clear hme hit
 have hB := (Below.refl w.heap.size w).alloc (Nat.le_refl _) (.cells (gv b l y n s r) 23)
 have HB := Lib.hid hB
 clear hB
 unfold gv
 go_enter Tryz.func68, Tryz.ntmps68
 go_wp2_with fail
 go_loop [3] (fun i => ∃ k : Nat, (k : Int) ≤ m ∧ i = .int .i64 k) (fun i => (m.toNat - (intOf i).toNat))
 case atStart => exact ⟨0, by omega, rfl⟩
 case round =>
  obtain ⟨k, hk, rfl⟩ := hrel
  have hp := mul_bd (a := (k : Int)) (c := y) (A := 1600) (C := 256) (by omega) (by omega) (by omega) (by omega)
  have hi := HIT.out k
  by_cases hlt : (k : Int) < m
  ·have hc := hi.2 hlt
   clear hi
   go_wp2_with fail
   go_round
   case rel => exact ⟨k + 1, by omega, by go_num⟩
   case measure => simp [intOf]; omega
  ·have hc : ¬ (k : Int) * y < 6 * n + 10 * b := fun h => hlt (hi.1 h)
   clear hi
   go_wp2_with fail
   go_ret
   exact ⟨ret_int (by omega), HB.out⟩
/- The reference of layer 6, walked: Check. -/
def FirstG (b l y : Int) : Prop := 8 ≤ b ∧ b ≤ 64 ∧ 6 ≤ l ∧ l ≤ 64 ∧ 16 ≤ y ∧ y ≤ 256 ∧ y % 8 = 0
def ChkT (b l y n s r : Int) (w : World) (e : Ending) (w' : World) : Prop := e = .returned (.int .i64 (chkG b l y n s r)) ∧ Below w.heap.size w w'
theorem chk_no {b l y n s r : Int} (h : ¬ OkG b l y n s r) : chkG b l y n s r = 60 := if_neg h
theorem chk_ok {b l y n s r : Int} (h : OkG b l y n s r) : chkG b l y n s r = 0 := if_pos h
theorem rge_check_first (b l y n s r : Int) (w : World) (h : ¬ FirstG b l y) : Calls Tryz.prog 26 #[.agg (gv b l y n s r)] w (ChkT b l y n s r w) := by
 have hno : ¬ OkG b l y n s r := fun ⟨⟨h1, h2, h3, h4, h5, h6, h7, _⟩, _⟩ => h ⟨h1, h2, h3, h4, h5, h6, h7⟩
 unfold ChkT
 rw [chk_no hno]
 have H := Lib.hid h
 clear h hno
 have HB := Lib.hid ((Below.refl w.heap.size w).alloc (Nat.le_refl _) (.cells (gv b l y n s r) 23))
 unfold gv at *
 go_enter Tryz.func26, Tryz.ntmps26
 go_wp2_with fail
 all_goals first
  | (go_ret; exact ⟨rfl, HB.out⟩)
  | (exfalso; apply H.out; have hc := ‹_ ∧ (y % 8 != 0) = false›; simp only [bne_eq_false_iff_eq] at hc; unfold FirstG; omega)
/- Drawn regions in long frames: the frame told by what it differs in from the one with which the region began. -/
structure Near (A : Act) (lo hi : Nat) (a : Act) : Prop where
 size : a.tmps.size = A.tmps.size
 defers : a.defers = A.defers
 slot : ∀ j, ¬ (lo ≤ j ∧ j ≤ hi) → a.tmps.getD j undef = A.tmps.getD j undef
theorem Near.refl (A : Act) (lo hi : Nat) : Near A lo hi A := ⟨rfl, rfl, fun _ _ => rfl⟩
theorem Near.put {A a : Act} {lo hi d : Nat} {v : Value} (h : Near A lo hi a) (h1 : lo ≤ d) (h2 : d ≤ hi) : Near A lo hi (a.put (some d) v) :=
 ⟨by simp [Act.put, h.size], h.defers, fun j hj => by
  have hne : d ≠ j := fun e => hj (e ▸ ⟨h1, h2⟩)
  rw [← h.slot j hj]
  simp [Act.put, Array.getD_eq_getD_getElem?, Array.getElem?_setIfInBounds_ne hne]⟩
theorem put_at {t : Array Value} {d : Nat} {v : Value} (hs : d < t.size) : (t.setIfInBounds d v).getD d undef = v := by simp [Array.getD_eq_getD_getElem?, hs]
theorem wanted_at {o : Oper} {ops : Array Oper} {tmps : Array Value} {j d : Nat} {b c : Bool} (hg : o.guard = some (j, c)) (ho : (ops[j]?).bind (·.dst) = some d) (hs : d < tmps.size) (h : tmps.getD d undef = .bool b) (hb : b = c) :
  Region.wanted o (yielded ops tmps) = true := by
 subst hb
 have e : tmps[d]? = some (.bool b) := by
  rw [Array.getD_eq_getD_getElem?] at h
  rw [Array.getElem?_eq_getElem hs] at h ⊢
  simpa using h
 unfold Region.wanted yielded
 rw [hg]
 simp [ho, e]
theorem unwanted_at {o : Oper} {ops : Array Oper} {tmps : Array Value} {j d : Nat} {b c : Bool} (hg : o.guard = some (j, c)) (ho : (ops[j]?).bind (·.dst) = some d) (hs : d < tmps.size) (h : tmps.getD d undef = .bool b) (hb : b ≠ c) :
  Region.wanted o (yielded ops tmps) = false := by
 have e : tmps[d]? = some (.bool b) := by
  rw [Array.getD_eq_getD_getElem?] at h
  rw [Array.getElem?_eq_getElem hs] at h ⊢
  simpa using h
 unfold Region.wanted yielded
 rw [hg]
 simp [ho, e, hb]
def gd (q : Bool) (v : Value) : Value := match q with
 | true => undef
 | false => v
theorem Near.puts {A a : Act} {lo hi : Nat} (n : Nat) (hn : lo + n ≤ A.tmps.size) (h : Near A lo hi a) (hh : hi + 1 = lo + n) :
  a = ⟨(A.tmps.toList.take lo ++ (List.range n).map (fun j => a.tmps.getD (lo + j) undef) ++ A.tmps.toList.drop (lo + n)).toArray, A.defers⟩ := by
 obtain ⟨at', ad⟩ := a
 obtain ⟨⟨Al⟩, Ad⟩ := A
 have hd : ad = Ad := h.defers
 subst hd
 have hsz : at'.size = Al.length := h.size
 have hn' : lo + n ≤ Al.length := hn
 show (⟨at', ad⟩ : Act) = ⟨(Al.take lo ++ (List.range n).map (fun j => at'.getD (lo + j) undef) ++ Al.drop (lo + n)).toArray, ad⟩
 congr 1
 apply Array.ext_getElem?
 intro j
 have e2 : ∀ l : List Value, (l.toArray)[j]? = l[j]? := fun l => by simp
 refine Eq.trans ?_ (e2 _).symm
 have hslot : ¬ (lo ≤ j ∧ j ≤ hi) → j < Al.length → at'[j]? = Al[j]? := fun hj hs => by
  have hslot : at'.getD j undef = (⟨Al⟩ : Array Value).getD j undef := h.slot j hj
  rw [Array.getD_eq_getD_getElem?, Array.getD_eq_getD_getElem?, Array.getElem?_eq_getElem (by omega), Array.getElem?_eq_getElem (show j < (⟨Al⟩ : Array Value).size from hs)] at hslot
  rw [Array.getElem?_eq_getElem (by omega), List.getElem?_eq_getElem hs]
  simpa using hslot
 have hl1 : (Al.take lo).length = lo := by rw [List.length_take]; omega
 have hl2 : (Al.take lo ++ (List.range n).map (fun j => at'.getD (lo + j) undef)).length = lo + n := by rw [List.length_append, hl1, List.length_map, List.length_range]
 rcases Nat.lt_or_ge j (lo + n) with h1 | h1
 ·rw [List.getElem?_append_left (by omega)]
  rcases Nat.lt_or_ge j lo with h2 | h2
  ·rw [List.getElem?_append_left (by omega), List.getElem?_take_of_lt h2]
   exact hslot (by omega) (by omega)
  ·rw [List.getElem?_append_right (by omega), hl1, List.getElem?_map, List.getElem?_range (by omega), Option.map_some, show lo + (j - lo) = j by omega, Array.getD_eq_getD_getElem?, Array.getElem?_eq_getElem (by omega)]
   rfl
 ·rw [List.getElem?_append_right (by omega), hl2, List.getElem?_drop, show lo + n + (j - (lo + n)) = j by omega]
  rcases Nat.lt_or_ge j Al.length with h2 | h2
  ·exact hslot (by omega) h2
  ·rw [Array.getElem?_eq_none (by omega), List.getElem?_eq_none h2]
/- The reference of layer 6, walked: Check behind its first conditions: by the truth of each of the others. -/
theorem size_geo : (Tryz.prog.info? 23).map (·.size) = some 6 := by kernel_rfl
def CG (w0 : World) (b l y n s r : Int) (w : World) : Prop := Blk w w0.heap.size (gv b l y n s r) 23 ∧ Below w0.heap.size w0 w
theorem CG.call {w0 w w' : World} {b l y n s r : Int} (h : CG w0 b l y n s r w) (hb : Below w.heap.size w w') : CG w0 b l y n s r w' := ⟨h.1.after hb, h.2.trans (hb.mono h.2.size)⟩
theorem CG.drew {w0 w : World} {b l y n s r : Int} (h : CG w0 b l y n s r w) : CG w0 b l y n s r w.drew := h.call (Below.refl _ _).drew
theorem no_special6 {T : World → World → Prop} : ∀ (j : Nat) (a a' : Act) (w w' : World), (fun (_ : Nat) (_ : Act) (_ : World) => False) j a w → (∀ d ∈ ([] : List Tmp), a'.tmps.getD d undef = a.tmps.getD d undef) → T w w' → (fun (_ : Nat) (_ : Act) (_ : World) => False) j a' w' := fun _ _ _ _ _ h _ _ => h
def vsGC (B : Nat) (b l y n s r m k : Int) (p0 p1 p2 p3 p4 p5 p6 p7 p8 q1 q2 q3 q4 q5 q6 q7 q8 : Bool) : List (Option (Tmp × Value)) :=
 [some (37, .pointer (some ⟨B, 4, none⟩)), some (38, .int .i64 s), some (39, .bool p0), some (40, .bool p0), some (41, gd p0 (.pointer (some ⟨B, 4, none⟩))), some (42, gd p0 (.int .i64 s)), some (43, gd p0 (.bool p1)), some (44, .bool q1), some (45, .bool q1), some (46, gd q1 (.pointer (some ⟨B, 4, none⟩))), some (47, gd q1 (.int .i64 s)), some (48, gd q1 (.pointer (some ⟨B, 0, none⟩))), some (49, gd q1 (.int .i64 b)), some (50, gd q1 (.int .i64 (b - 8))), some (51, gd q1 (.bool p2)), some (52, .bool q2), some (53, .bool q2), some (54, gd q2 (.pointer (some ⟨B, 5, none⟩))), some (55, gd q2 (.int .i64 r)), some (56, gd q2 (.bool p3)), some (57, .bool q3), some (58, .bool q3), some (59, gd q3 (.pointer (some ⟨B, 5, none⟩))), some (60, gd q3 (.int .i64 r)), some (61, gd q3 (.bool p4)), some (62, .bool q4), some (63, .bool q4), some (64, gd q4 (.pointer (some ⟨B, 3, none⟩))), some (65, gd q4 (.int .i64 n)), some (66, gd q4 (.bool p5)), some (67, .bool q5), some (68, .bool q5), some (69, gd q5 (.pointer (some ⟨B, 3, none⟩))), some (70, gd q5 (.int .i64 n)), some (71, gd q5 (.bool p6)), some (72, .bool q6), some (73, .bool q6), some (74, gd q6 (.pointer (some ⟨B, 3, none⟩))), some (75, gd q6 (.int .i64 n)), some (76, gd q6 (.agg (gv b l y n s r))), some (77, gd q6 (.int .i64 m)), some (78, gd q6 (.bool p7)), some (79, .bool q7), some (80, .bool q7), some (81, gd q7 (.agg (gv b l y n s r))), some (82, gd q7 (.int .i64 k)), some (83, gd q7 (.pointer (some ⟨B, 1, none⟩))), some (84, gd q7 (.int .i64 l)), some (85, gd q7 (.int .i64 (l - 4))), some (86, gd q7 (.bool p8)), some (87, .bool q8)]
set_option maxHeartbeats 4000000 in
theorem rge_check_rest (b l y n s r : Int) (w : World) (h : FirstG b l y) : Calls Tryz.prog 26 #[.agg (gv b l y n s r)] w (ChkT b l y n s r w) := by
 obtain ⟨m, hm⟩ : ∃ m, mostG b l s = m := ⟨_, rfl⟩
 obtain ⟨k, hk⟩ : ∃ k, snapsG b y n = k := ⟨_, rfl⟩
 obtain ⟨p0, e0⟩ : ∃ p, decide (s < 0) = p := ⟨_, rfl⟩
 obtain ⟨p1, e1⟩ : ∃ p, decide (16 < s) = p := ⟨_, rfl⟩
 obtain ⟨p2, e2⟩ : ∃ p, decide (b - 8 < s) = p := ⟨_, rfl⟩
 obtain ⟨p3, e3⟩ : ∃ p, decide (r < 2) = p := ⟨_, rfl⟩
 obtain ⟨p4, e4⟩ : ∃ p, decide (1000 < r) = p := ⟨_, rfl⟩
 obtain ⟨p5, e5⟩ : ∃ p, decide (n < 1) = p := ⟨_, rfl⟩
 obtain ⟨p6, e6⟩ : ∃ p, decide (4096 < n) = p := ⟨_, rfl⟩
 obtain ⟨p7, e7⟩ : ∃ p, decide (m < n) = p := ⟨_, rfl⟩
 obtain ⟨p8, e8⟩ : ∃ p, decide (l - 4 < k) = p := ⟨_, rfl⟩
 obtain ⟨q1, f1⟩ : ∃ q, (p0 || p1) = q := ⟨_, rfl⟩
 obtain ⟨q2, f2⟩ : ∃ q, (q1 || p2) = q := ⟨_, rfl⟩
 obtain ⟨q3, f3⟩ : ∃ q, (q2 || p3) = q := ⟨_, rfl⟩
 obtain ⟨q4, f4⟩ : ∃ q, (q3 || p4) = q := ⟨_, rfl⟩
 obtain ⟨q5, f5⟩ : ∃ q, (q4 || p5) = q := ⟨_, rfl⟩
 obtain ⟨q6, f6⟩ : ∃ q, (q5 || p6) = q := ⟨_, rfl⟩
 obtain ⟨q7, f7⟩ : ∃ q, (q6 || p7) = q := ⟨_, rfl⟩
 obtain ⟨q8, f8⟩ : ∃ q, (q7 || p8) = q := ⟨_, rfl⟩
 have hq6 : q6 = false → PreG b l y n s r := by
  rw [← f6, ← f5, ← f4, ← f3, ← f2, ← f1, ← e0, ← e1, ← e2, ← e3, ← e4, ← e5, ← e6]
  simp only [Bool.or_eq_false_iff, decide_eq_false_iff_not]
  intro hh
  unfold FirstG at h
  unfold PreG
  omega
 have hq7 : q7 = false → PreG b l y n s r := fun hh => hq6 (by rw [← f7] at hh; exact (Bool.or_eq_false_iff.1 hh).1)
 have hq8 : chkG b l y n s r = if q8 = true then 60 else 0 := by
  have hok : OkG b l y n s r ↔ ¬ q8 = true := by
   unfold OkG
   rw [hm, hk, ← f8, ← f7, ← f6, ← f5, ← f4, ← f3, ← f2, ← f1, ← e0, ← e1, ← e2, ← e3, ← e4, ← e5, ← e6, ← e7, ← e8]
   simp only [Bool.or_eq_true, decide_eq_true_eq]
   unfold FirstG at h
   unfold PreG
   omega
  by_cases hx : q8 = true
  ·rw [if_pos hx, chk_no (fun hh => hok.1 hh hx)]
  ·rw [if_neg hx, chk_ok (hok.2 hx)]
 have P0 := Lib.hid e0
 have P1 := Lib.hid e1
 have P2 := Lib.hid e2
 have P3 := Lib.hid e3
 have P4 := Lib.hid e4
 have P5 := Lib.hid e5
 have P6 := Lib.hid e6
 have P7 := Lib.hid e7
 have P8 := Lib.hid e8
 have Q1 := Lib.hid f1
 have Q2 := Lib.hid f2
 have Q3 := Lib.hid f3
 have Q4 := Lib.hid f4
 have Q5 := Lib.hid f5
 have Q6 := Lib.hid f6
 have Q7 := Lib.hid f7
 have Q8 := Lib.hid f8
 have HM := Lib.hid hm
 have HK := Lib.hid hk
 have HQ6 := Lib.hid hq6
 have HQ7 := Lib.hid hq7
 have HQ8 := Lib.hid hq8
 obtain ⟨h1, h2, h3, h4, h5, h6, h7⟩ := h
 have hw8 : IntKind.i64.wrap (b - 8) = b - 8 := by rw [IntKind.wrap_i64]; omega
 have hw4 : IntKind.i64.wrap (l - 4) = l - 4 := by rw [IntKind.wrap_i64]; omega
 have HW8 := Lib.hid hw8
 have HW4 := Lib.hid hw4
 have HC0 : Hid (CG w b l y n s r (w.alloc (.cells (gv b l y n s r) 23))) := ⟨Blk.new w _ _, (Below.refl w.heap.size w).alloc (Nat.le_refl _) _⟩
 clear hm hk hq6 hq7 hq8 hw8 hw4 e0 e1 e2 e3 e4 e5 e6 e7 e8 f1 f2 f3 f4 f5 f6 f7 f8
 unfold ChkT
 go_enter Tryz.func26, Tryz.ntmps26
 unfold gv
 go_wp2_with fail
 rename_i K0 hK0
 generalize hA : (⟨_, _⟩ : Act) = A
 have HA := Lib.hid hA
 have HSZ : Hid (A.tmps.size = 88) := by rw [← hA]; rfl
 have HX1 : Hid (A.tmps.getD 1 undef = .pointer (some ⟨w.heap.size, 0, none⟩)) := by rw [← hA]; rfl
 clear hA
 refine wp_region_list3 (SV (vsGC w.heap.size b l y n s r m k p0 p1 p2 p3 p4 p5 p6 p7 p8 q1 q2 q3 q4 q5 q6 q7 q8) []) (Near A 37 87) (CG w b l y n s r) Goes (RV (vsGC w.heap.size b l y n s r m k p0 p1 p2 p3 p4 p5 p6 p7 p8 q1 q2 q3 q4 q5 q6 q7 q8) (fun _ _ _ => False)) rfl (by kernel_rfl) (RV.ext no_special6) ?_ HC0.out.drew (Near.refl A _ _) ?_ ?_
 ·exact ⟨fun _ _ h => h.put (by decide) (by decide), fun _ _ h => h.put (by decide) (by decide), fun _ _ h => h.put (by decide) (by decide), fun _ _ h => h.put (by decide) (by decide), fun _ _ h => h.put (by decide) (by decide), fun _ _ h => h.put (by decide) (by decide), fun _ _ h => h.put (by decide) (by decide), fun _ _ h => h.put (by decide) (by decide), fun _ _ h => h.put (by decide) (by decide), fun _ _ h => h.put (by decide) (by decide), fun _ _ h => h.put (by decide) (by decide), fun _ _ h => h.put (by decide) (by decide), fun _ _ h => h.put (by decide) (by decide), fun _ _ h => h.put (by decide) (by decide), fun _ _ h => h.put (by decide) (by decide), fun _ _ h => h.put (by decide) (by decide), fun _ _ h => h.put (by decide) (by decide), fun _ _ h => h.put (by decide) (by decide), fun _ _ h => h.put (by decide) (by decide), fun _ _ h => h.put (by decide) (by decide), fun _ _ h => h.put (by decide) (by decide), fun _ _ h => h.put (by decide) (by decide), fun _ _ h => h.put (by decide) (by decide), fun _ _ h => h.put (by decide) (by decide), fun _ _ h => h.put (by decide) (by decide), fun _ _ h => h.put (by decide) (by decide), fun _ _ h => h.put (by decide) (by decide), fun _ _ h => h.put (by decide) (by decide), fun _ _ h => h.put (by decide) (by decide), fun _ _ h => h.put (by decide) (by decide), fun _ _ h => h.put (by decide) (by decide), fun _ _ h => h.put (by decide) (by decide), fun _ _ h => h.put (by decide) (by decide), fun _ _ h => h.put (by decide) (by decide), fun _ _ h => h.put (by decide) (by decide), fun _ _ h => h.put (by decide) (by decide), fun _ _ h => h.put (by decide) (by decide), fun _ _ h => h.put (by decide) (by decide), fun _ _ h => h.put (by decide) (by decide), fun _ _ h => h.put (by decide) (by decide), fun _ _ h => h.put (by decide) (by decide), fun _ _ h => h.put (by decide) (by decide), fun _ _ h => h.put (by decide) (by decide), fun _ _ h => h.put (by decide) (by decide), fun _ _ h => h.put (by decide) (by decide), fun _ _ h => h.put (by decide) (by decide), fun _ _ h => h.put (by decide) (by decide), fun _ _ h => h.put (by decide) (by decide), fun _ _ h => h.put (by decide) (by decide), fun _ _ h => h.put (by decide) (by decide), fun _ _ h => h.put (by decide) (by decide), trivial⟩
 ·refine ⟨?_, ?_, ?_, ?_, ?_, ?_, ?_, ?_, ?_, ?_, ?_, ?_, ?_, ?_, ?_, ?_, ?_, ?_, ?_, ?_, ?_, ?_, ?_, ?_, ?_, ?_, ?_, ?_, ?_, ?_, ?_, ?_, ?_, ?_, ?_, ?_, ?_, ?_, ?_, ?_, ?_, ?_, ?_, ?_, ?_, ?_, ?_, ?_, ?_, ?_, ?_, trivial⟩
  all_goals
   intro a w' hC hB hR
   have HC := Lib.hid hC
   clear hC; clear hK0
   have SZ : ∀ d, d < 88 → d < a.tmps.size := fun d hd => by rw [hB.size, HSZ.out]; exact hd
  ·have e1 : a.tmps.getD 1 undef = .pointer (some ⟨w.heap.size, 0, none⟩) := (hB.slot 1 (by decide)).trans HX1.out
   clear hR
   refine if_yes rfl ?_
   unfold Oper.wp; go_simp; exact ⟨.pointer (some ⟨w.heap.size, 4, none⟩), rfl, HC.out, Below.refl _ _, put_at (SZ 37 (by decide))⟩
  ·have h37 : a.tmps.getD 37 undef = .pointer (some ⟨w.heap.size, 4, none⟩) := hR ⟨0, .data⟩ (by simp) rfl
   have hc : w'.cell? ⟨w.heap.size, 4, none⟩ = some (.int .i64 s) := HC.out.1.cell 4
   clear hR
   refine if_yes rfl ?_
   unfold Oper.wp; go_simp; exact ⟨.int .i64 s, rfl, HC.out, Below.refl _ _, put_at (SZ 38 (by decide))⟩
  ·have h38 : a.tmps.getD 38 undef = .int .i64 s := hR ⟨1, .data⟩ (by simp) rfl
   clear hR
   refine if_yes rfl ?_
   unfold Oper.wp; go_simp
   exact ⟨_, rfl, HC.out, Below.refl _ _, (put_at (SZ 39 (by decide))).trans (congrArg Value.bool (by first | exact P0.out | (rw [← P0.out]; first | rfl | (simp; done) | (simp; omega))))⟩
  ·have h39 : a.tmps.getD 39 undef = .bool p0 := hR ⟨2, .data⟩ (by simp) rfl
   clear hR
   refine if_yes rfl ?_
   unfold Oper.wp; go_simp; exact ⟨.bool p0, rfl, HC.out, Below.refl _ _, put_at (SZ 40 (by decide))⟩
  ·have g : a.tmps.getD 40 undef = .bool p0 := hR ⟨3, .guard⟩ (by simp) rfl
   cases p0
   ·have e1 : a.tmps.getD 1 undef = .pointer (some ⟨w.heap.size, 0, none⟩) := (hB.slot 1 (by decide)).trans HX1.out
    clear hR
    refine if_yes (wanted_at rfl (by kernel_rfl) (SZ 40 (by decide)) g rfl) ?_
    unfold Oper.wp; go_simp; exact ⟨.pointer (some ⟨w.heap.size, 4, none⟩), rfl, HC.out, Below.refl _ _, put_at (SZ 41 (by decide))⟩
   ·clear hR
    refine if_no (unwanted_at rfl (by kernel_rfl) (SZ 40 (by decide)) g (by decide)) ?_
    exact ⟨undef, rfl, HC.out, Below.refl _ _, put_at (SZ 41 (by decide))⟩
  ·have g : a.tmps.getD 40 undef = .bool p0 := hR ⟨3, .guard⟩ (by simp) rfl
   cases p0
   ·have h41 : a.tmps.getD 41 undef = .pointer (some ⟨w.heap.size, 4, none⟩) := hR ⟨4, .data⟩ (by simp) rfl
    have hc : w'.cell? ⟨w.heap.size, 4, none⟩ = some (.int .i64 s) := HC.out.1.cell 4
    clear hR
    refine if_yes (wanted_at rfl (by kernel_rfl) (SZ 40 (by decide)) g rfl) ?_
    unfold Oper.wp; go_simp; exact ⟨.int .i64 s, rfl, HC.out, Below.refl _ _, put_at (SZ 42 (by decide))⟩
   ·clear hR
    refine if_no (unwanted_at rfl (by kernel_rfl) (SZ 40 (by decide)) g (by decide)) ?_
    exact ⟨undef, rfl, HC.out, Below.refl _ _, put_at (SZ 42 (by decide))⟩
  ·have g : a.tmps.getD 40 undef = .bool p0 := hR ⟨3, .guard⟩ (by simp) rfl
   cases p0
   ·have h42 : a.tmps.getD 42 undef = .int .i64 s := hR ⟨5, .data⟩ (by simp) rfl
    clear hR
    refine if_yes (wanted_at rfl (by kernel_rfl) (SZ 40 (by decide)) g rfl) ?_
    unfold Oper.wp; go_simp
    exact ⟨_, rfl, HC.out, Below.refl _ _, (put_at (SZ 43 (by decide))).trans (congrArg Value.bool (by first | exact P1.out | (rw [← P1.out]; first | rfl | (simp; done) | (simp; omega))))⟩
   ·clear hR
    refine if_no (unwanted_at rfl (by kernel_rfl) (SZ 40 (by decide)) g (by decide)) ?_
    exact ⟨undef, rfl, HC.out, Below.refl _ _, put_at (SZ 43 (by decide))⟩
  ·have h40 : a.tmps.getD 40 undef = .bool p0 := hR ⟨3, .data⟩ (by simp) rfl
   cases p0
   ·have h43 : a.tmps.getD 43 undef = .bool p1 := hR ⟨6, .data⟩ (by simp) rfl
    clear hR
    refine if_yes rfl ?_
    unfold Oper.wp; go_simp; exact ⟨.bool p1, rfl, HC.out, Below.refl _ _, (put_at (SZ 44 (by decide))).trans (congrArg Value.bool Q1.out)⟩
   ·clear hR
    refine if_yes rfl ?_
    unfold Oper.wp; go_simp; exact ⟨.bool true, rfl, HC.out, Below.refl _ _, (put_at (SZ 44 (by decide))).trans (congrArg Value.bool Q1.out)⟩
  ·have h44 : a.tmps.getD 44 undef = .bool q1 := hR ⟨7, .data⟩ (by simp) rfl
   clear hR
   refine if_yes rfl ?_
   unfold Oper.wp; go_simp; exact ⟨.bool q1, rfl, HC.out, Below.refl _ _, put_at (SZ 45 (by decide))⟩
  ·have g : a.tmps.getD 45 undef = .bool q1 := hR ⟨8, .guard⟩ (by simp) rfl
   cases q1
   ·have e1 : a.tmps.getD 1 undef = .pointer (some ⟨w.heap.size, 0, none⟩) := (hB.slot 1 (by decide)).trans HX1.out
    clear hR
    refine if_yes (wanted_at rfl (by kernel_rfl) (SZ 45 (by decide)) g rfl) ?_
    unfold Oper.wp; go_simp; exact ⟨.pointer (some ⟨w.heap.size, 4, none⟩), rfl, HC.out, Below.refl _ _, put_at (SZ 46 (by decide))⟩
   ·clear hR
    refine if_no (unwanted_at rfl (by kernel_rfl) (SZ 45 (by decide)) g (by decide)) ?_
    exact ⟨undef, rfl, HC.out, Below.refl _ _, put_at (SZ 46 (by decide))⟩
  ·have g : a.tmps.getD 45 undef = .bool q1 := hR ⟨8, .guard⟩ (by simp) rfl
   cases q1
   ·have h46 : a.tmps.getD 46 undef = .pointer (some ⟨w.heap.size, 4, none⟩) := hR ⟨9, .data⟩ (by simp) rfl
    have hc : w'.cell? ⟨w.heap.size, 4, none⟩ = some (.int .i64 s) := HC.out.1.cell 4
    clear hR
    refine if_yes (wanted_at rfl (by kernel_rfl) (SZ 45 (by decide)) g rfl) ?_
    unfold Oper.wp; go_simp; exact ⟨.int .i64 s, rfl, HC.out, Below.refl _ _, put_at (SZ 47 (by decide))⟩
   ·clear hR
    refine if_no (unwanted_at rfl (by kernel_rfl) (SZ 45 (by decide)) g (by decide)) ?_
    exact ⟨undef, rfl, HC.out, Below.refl _ _, put_at (SZ 47 (by decide))⟩
  ·have g : a.tmps.getD 45 undef = .bool q1 := hR ⟨8, .guard⟩ (by simp) rfl
   cases q1
   ·have e1 : a.tmps.getD 1 undef = .pointer (some ⟨w.heap.size, 0, none⟩) := (hB.slot 1 (by decide)).trans HX1.out
    clear hR
    refine if_yes (wanted_at rfl (by kernel_rfl) (SZ 45 (by decide)) g rfl) ?_
    unfold Oper.wp; go_simp; exact ⟨.pointer (some ⟨w.heap.size, 0, none⟩), rfl, HC.out, Below.refl _ _, put_at (SZ 48 (by decide))⟩
   ·clear hR
    refine if_no (unwanted_at rfl (by kernel_rfl) (SZ 45 (by decide)) g (by decide)) ?_
    exact ⟨undef, rfl, HC.out, Below.refl _ _, put_at (SZ 48 (by decide))⟩
  ·have g : a.tmps.getD 45 undef = .bool q1 := hR ⟨8, .guard⟩ (by simp) rfl
   cases q1
   ·have h48 : a.tmps.getD 48 undef = .pointer (some ⟨w.heap.size, 0, none⟩) := hR ⟨11, .data⟩ (by simp) rfl
    have hc : w'.cell? ⟨w.heap.size, 0, none⟩ = some (.int .i64 b) := HC.out.1.cell 0
    clear hR
    refine if_yes (wanted_at rfl (by kernel_rfl) (SZ 45 (by decide)) g rfl) ?_
    unfold Oper.wp; go_simp; exact ⟨.int .i64 b, rfl, HC.out, Below.refl _ _, put_at (SZ 49 (by decide))⟩
   ·clear hR
    refine if_no (unwanted_at rfl (by kernel_rfl) (SZ 45 (by decide)) g (by decide)) ?_
    exact ⟨undef, rfl, HC.out, Below.refl _ _, put_at (SZ 49 (by decide))⟩
  ·have g : a.tmps.getD 45 undef = .bool q1 := hR ⟨8, .guard⟩ (by simp) rfl
   cases q1
   ·have h49 : a.tmps.getD 49 undef = .int .i64 b := hR ⟨12, .data⟩ (by simp) rfl
    have hw := HW8.out
    clear hR
    refine if_yes (wanted_at rfl (by kernel_rfl) (SZ 45 (by decide)) g rfl) ?_
    unfold Oper.wp; go_simp; exact ⟨.int .i64 (b - 8), rfl, HC.out, Below.refl _ _, put_at (SZ 50 (by decide))⟩
   ·clear hR
    refine if_no (unwanted_at rfl (by kernel_rfl) (SZ 45 (by decide)) g (by decide)) ?_
    exact ⟨undef, rfl, HC.out, Below.refl _ _, put_at (SZ 50 (by decide))⟩
  ·have g : a.tmps.getD 45 undef = .bool q1 := hR ⟨8, .guard⟩ (by simp) rfl
   cases q1
   ·have h47 : a.tmps.getD 47 undef = .int .i64 s := hR ⟨10, .data⟩ (by simp) rfl
    have h50 : a.tmps.getD 50 undef = .int .i64 (b - 8) := hR ⟨13, .data⟩ (by simp) rfl
    clear hR
    refine if_yes (wanted_at rfl (by kernel_rfl) (SZ 45 (by decide)) g rfl) ?_
    unfold Oper.wp; go_simp
    exact ⟨_, rfl, HC.out, Below.refl _ _, (put_at (SZ 51 (by decide))).trans (congrArg Value.bool (by first | exact P2.out | (rw [← P2.out]; first | rfl | (simp; done) | (simp; omega))))⟩
   ·clear hR
    refine if_no (unwanted_at rfl (by kernel_rfl) (SZ 45 (by decide)) g (by decide)) ?_
    exact ⟨undef, rfl, HC.out, Below.refl _ _, put_at (SZ 51 (by decide))⟩
  ·have h45 : a.tmps.getD 45 undef = .bool q1 := hR ⟨8, .data⟩ (by simp) rfl
   cases q1
   ·have h51 : a.tmps.getD 51 undef = .bool p2 := hR ⟨14, .data⟩ (by simp) rfl
    clear hR
    refine if_yes rfl ?_
    unfold Oper.wp; go_simp; exact ⟨.bool p2, rfl, HC.out, Below.refl _ _, (put_at (SZ 52 (by decide))).trans (congrArg Value.bool Q2.out)⟩
   ·clear hR
    refine if_yes rfl ?_
    unfold Oper.wp; go_simp; exact ⟨.bool true, rfl, HC.out, Below.refl _ _, (put_at (SZ 52 (by decide))).trans (congrArg Value.bool Q2.out)⟩
  ·have h52 : a.tmps.getD 52 undef = .bool q2 := hR ⟨15, .data⟩ (by simp) rfl
   clear hR
   refine if_yes rfl ?_
   unfold Oper.wp; go_simp; exact ⟨.bool q2, rfl, HC.out, Below.refl _ _, put_at (SZ 53 (by decide))⟩
  ·have g : a.tmps.getD 53 undef = .bool q2 := hR ⟨16, .guard⟩ (by simp) rfl
   cases q2
   ·have e1 : a.tmps.getD 1 undef = .pointer (some ⟨w.heap.size, 0, none⟩) := (hB.slot 1 (by decide)).trans HX1.out
    clear hR
    refine if_yes (wanted_at rfl (by kernel_rfl) (SZ 53 (by decide)) g rfl) ?_
    unfold Oper.wp; go_simp; exact ⟨.pointer (some ⟨w.heap.size, 5, none⟩), rfl, HC.out, Below.refl _ _, put_at (SZ 54 (by decide))⟩
   ·clear hR
    refine if_no (unwanted_at rfl (by kernel_rfl) (SZ 53 (by decide)) g (by decide)) ?_
    exact ⟨undef, rfl, HC.out, Below.refl _ _, put_at (SZ 54 (by decide))⟩
  ·have g : a.tmps.getD 53 undef = .bool q2 := hR ⟨16, .guard⟩ (by simp) rfl
   cases q2
   ·have h54 : a.tmps.getD 54 undef = .pointer (some ⟨w.heap.size, 5, none⟩) := hR ⟨17, .data⟩ (by simp) rfl
    have hc : w'.cell? ⟨w.heap.size, 5, none⟩ = some (.int .i64 r) := HC.out.1.cell 5
    clear hR
    refine if_yes (wanted_at rfl (by kernel_rfl) (SZ 53 (by decide)) g rfl) ?_
    unfold Oper.wp; go_simp; exact ⟨.int .i64 r, rfl, HC.out, Below.refl _ _, put_at (SZ 55 (by decide))⟩
   ·clear hR
    refine if_no (unwanted_at rfl (by kernel_rfl) (SZ 53 (by decide)) g (by decide)) ?_
    exact ⟨undef, rfl, HC.out, Below.refl _ _, put_at (SZ 55 (by decide))⟩
  ·have g : a.tmps.getD 53 undef = .bool q2 := hR ⟨16, .guard⟩ (by simp) rfl
   cases q2
   ·have h55 : a.tmps.getD 55 undef = .int .i64 r := hR ⟨18, .data⟩ (by simp) rfl
    clear hR
    refine if_yes (wanted_at rfl (by kernel_rfl) (SZ 53 (by decide)) g rfl) ?_
    unfold Oper.wp; go_simp
    exact ⟨_, rfl, HC.out, Below.refl _ _, (put_at (SZ 56 (by decide))).trans (congrArg Value.bool (by first | exact P3.out | (rw [← P3.out]; first | rfl | (simp; done) | (simp; omega))))⟩
   ·clear hR
    refine if_no (unwanted_at rfl (by kernel_rfl) (SZ 53 (by decide)) g (by decide)) ?_
    exact ⟨undef, rfl, HC.out, Below.refl _ _, put_at (SZ 56 (by decide))⟩
  ·have h53 : a.tmps.getD 53 undef = .bool q2 := hR ⟨16, .data⟩ (by simp) rfl
   cases q2
   ·have h56 : a.tmps.getD 56 undef = .bool p3 := hR ⟨19, .data⟩ (by simp) rfl
    clear hR
    refine if_yes rfl ?_
    unfold Oper.wp; go_simp; exact ⟨.bool p3, rfl, HC.out, Below.refl _ _, (put_at (SZ 57 (by decide))).trans (congrArg Value.bool Q3.out)⟩
   ·clear hR
    refine if_yes rfl ?_
    unfold Oper.wp; go_simp; exact ⟨.bool true, rfl, HC.out, Below.refl _ _, (put_at (SZ 57 (by decide))).trans (congrArg Value.bool Q3.out)⟩
  ·have h57 : a.tmps.getD 57 undef = .bool q3 := hR ⟨20, .data⟩ (by simp) rfl
   clear hR
   refine if_yes rfl ?_
   unfold Oper.wp; go_simp; exact ⟨.bool q3, rfl, HC.out, Below.refl _ _, put_at (SZ 58 (by decide))⟩
  ·have g : a.tmps.getD 58 undef = .bool q3 := hR ⟨21, .guard⟩ (by simp) rfl
   cases q3
   ·have e1 : a.tmps.getD 1 undef = .pointer (some ⟨w.heap.size, 0, none⟩) := (hB.slot 1 (by decide)).trans HX1.out
    clear hR
    refine if_yes (wanted_at rfl (by kernel_rfl) (SZ 58 (by decide)) g rfl) ?_
    unfold Oper.wp; go_simp; exact ⟨.pointer (some ⟨w.heap.size, 5, none⟩), rfl, HC.out, Below.refl _ _, put_at (SZ 59 (by decide))⟩
   ·clear hR
    refine if_no (unwanted_at rfl (by kernel_rfl) (SZ 58 (by decide)) g (by decide)) ?_
    exact ⟨undef, rfl, HC.out, Below.refl _ _, put_at (SZ 59 (by decide))⟩
  ·have g : a.tmps.getD 58 undef = .bool q3 := hR ⟨21, .guard⟩ (by simp) rfl
   cases q3
   ·have h59 : a.tmps.getD 59 undef = .pointer (some ⟨w.heap.size, 5, none⟩) := hR ⟨22, .data⟩ (by simp) rfl
    have hc : w'.cell? ⟨w.heap.size, 5, none⟩ = some (.int .i64 r) := HC.out.1.cell 5
    clear hR
    refine if_yes (wanted_at rfl (by kernel_rfl) (SZ 58 (by decide)) g rfl) ?_
    unfold Oper.wp; go_simp; exact ⟨.int .i64 r, rfl, HC.out, Below.refl _ _, put_at (SZ 60 (by decide))⟩
   ·clear hR
    refine if_no (unwanted_at rfl (by kernel_rfl) (SZ 58 (by decide)) g (by decide)) ?_
    exact ⟨undef, rfl, HC.out, Below.refl _ _, put_at (SZ 60 (by decide))⟩
  ·have g : a.tmps.getD 58 undef = .bool q3 := hR ⟨21, .guard⟩ (by simp) rfl
   cases q3
   ·have h60 : a.tmps.getD 60 undef = .int .i64 r := hR ⟨23, .data⟩ (by simp) rfl
    clear hR
    refine if_yes (wanted_at rfl (by kernel_rfl) (SZ 58 (by decide)) g rfl) ?_
    unfold Oper.wp; go_simp
    exact ⟨_, rfl, HC.out, Below.refl _ _, (put_at (SZ 61 (by decide))).trans (congrArg Value.bool (by first | exact P4.out | (rw [← P4.out]; first | rfl | (simp; done) | (simp; omega))))⟩
   ·clear hR
    refine if_no (unwanted_at rfl (by kernel_rfl) (SZ 58 (by decide)) g (by decide)) ?_
    exact ⟨undef, rfl, HC.out, Below.refl _ _, put_at (SZ 61 (by decide))⟩
  ·have h58 : a.tmps.getD 58 undef = .bool q3 := hR ⟨21, .data⟩ (by simp) rfl
   cases q3
   ·have h61 : a.tmps.getD 61 undef = .bool p4 := hR ⟨24, .data⟩ (by simp) rfl
    clear hR
    refine if_yes rfl ?_
    unfold Oper.wp; go_simp; exact ⟨.bool p4, rfl, HC.out, Below.refl _ _, (put_at (SZ 62 (by decide))).trans (congrArg Value.bool Q4.out)⟩
   ·clear hR
    refine if_yes rfl ?_
    unfold Oper.wp; go_simp; exact ⟨.bool true, rfl, HC.out, Below.refl _ _, (put_at (SZ 62 (by decide))).trans (congrArg Value.bool Q4.out)⟩
  ·have h62 : a.tmps.getD 62 undef = .bool q4 := hR ⟨25, .data⟩ (by simp) rfl
   clear hR
   refine if_yes rfl ?_
   unfold Oper.wp; go_simp; exact ⟨.bool q4, rfl, HC.out, Below.refl _ _, put_at (SZ 63 (by decide))⟩
  ·have g : a.tmps.getD 63 undef = .bool q4 := hR ⟨26, .guard⟩ (by simp) rfl
   cases q4
   ·have e1 : a.tmps.getD 1 undef = .pointer (some ⟨w.heap.size, 0, none⟩) := (hB.slot 1 (by decide)).trans HX1.out
    clear hR
    refine if_yes (wanted_at rfl (by kernel_rfl) (SZ 63 (by decide)) g rfl) ?_
    unfold Oper.wp; go_simp; exact ⟨.pointer (some ⟨w.heap.size, 3, none⟩), rfl, HC.out, Below.refl _ _, put_at (SZ 64 (by decide))⟩
   ·clear hR
    refine if_no (unwanted_at rfl (by kernel_rfl) (SZ 63 (by decide)) g (by decide)) ?_
    exact ⟨undef, rfl, HC.out, Below.refl _ _, put_at (SZ 64 (by decide))⟩
  ·have g : a.tmps.getD 63 undef = .bool q4 := hR ⟨26, .guard⟩ (by simp) rfl
   cases q4
   ·have h64 : a.tmps.getD 64 undef = .pointer (some ⟨w.heap.size, 3, none⟩) := hR ⟨27, .data⟩ (by simp) rfl
    have hc : w'.cell? ⟨w.heap.size, 3, none⟩ = some (.int .i64 n) := HC.out.1.cell 3
    clear hR
    refine if_yes (wanted_at rfl (by kernel_rfl) (SZ 63 (by decide)) g rfl) ?_
    unfold Oper.wp; go_simp; exact ⟨.int .i64 n, rfl, HC.out, Below.refl _ _, put_at (SZ 65 (by decide))⟩
   ·clear hR
    refine if_no (unwanted_at rfl (by kernel_rfl) (SZ 63 (by decide)) g (by decide)) ?_
    exact ⟨undef, rfl, HC.out, Below.refl _ _, put_at (SZ 65 (by decide))⟩
  ·have g : a.tmps.getD 63 undef = .bool q4 := hR ⟨26, .guard⟩ (by simp) rfl
   cases q4
   ·have h65 : a.tmps.getD 65 undef = .int .i64 n := hR ⟨28, .data⟩ (by simp) rfl
    clear hR
    refine if_yes (wanted_at rfl (by kernel_rfl) (SZ 63 (by decide)) g rfl) ?_
    unfold Oper.wp; go_simp
    exact ⟨_, rfl, HC.out, Below.refl _ _, (put_at (SZ 66 (by decide))).trans (congrArg Value.bool (by first | exact P5.out | (rw [← P5.out]; first | rfl | (simp; done) | (simp; omega))))⟩
   ·clear hR
    refine if_no (unwanted_at rfl (by kernel_rfl) (SZ 63 (by decide)) g (by decide)) ?_
    exact ⟨undef, rfl, HC.out, Below.refl _ _, put_at (SZ 66 (by decide))⟩
  ·have h63 : a.tmps.getD 63 undef = .bool q4 := hR ⟨26, .data⟩ (by simp) rfl
   cases q4
   ·have h66 : a.tmps.getD 66 undef = .bool p5 := hR ⟨29, .data⟩ (by simp) rfl
    clear hR
    refine if_yes rfl ?_
    unfold Oper.wp; go_simp; exact ⟨.bool p5, rfl, HC.out, Below.refl _ _, (put_at (SZ 67 (by decide))).trans (congrArg Value.bool Q5.out)⟩
   ·clear hR
    refine if_yes rfl ?_
    unfold Oper.wp; go_simp; exact ⟨.bool true, rfl, HC.out, Below.refl _ _, (put_at (SZ 67 (by decide))).trans (congrArg Value.bool Q5.out)⟩
  ·have h67 : a.tmps.getD 67 undef = .bool q5 := hR ⟨30, .data⟩ (by simp) rfl
   clear hR
   refine if_yes rfl ?_
   unfold Oper.wp; go_simp; exact ⟨.bool q5, rfl, HC.out, Below.refl _ _, put_at (SZ 68 (by decide))⟩
  ·have g : a.tmps.getD 68 undef = .bool q5 := hR ⟨31, .guard⟩ (by simp) rfl
   cases q5
   ·have e1 : a.tmps.getD 1 undef = .pointer (some ⟨w.heap.size, 0, none⟩) := (hB.slot 1 (by decide)).trans HX1.out
    clear hR
    refine if_yes (wanted_at rfl (by kernel_rfl) (SZ 68 (by decide)) g rfl) ?_
    unfold Oper.wp; go_simp; exact ⟨.pointer (some ⟨w.heap.size, 3, none⟩), rfl, HC.out, Below.refl _ _, put_at (SZ 69 (by decide))⟩
   ·clear hR
    refine if_no (unwanted_at rfl (by kernel_rfl) (SZ 68 (by decide)) g (by decide)) ?_
    exact ⟨undef, rfl, HC.out, Below.refl _ _, put_at (SZ 69 (by decide))⟩
  ·have g : a.tmps.getD 68 undef = .bool q5 := hR ⟨31, .guard⟩ (by simp) rfl
   cases q5
   ·have h69 : a.tmps.getD 69 undef = .pointer (some ⟨w.heap.size, 3, none⟩) := hR ⟨32, .data⟩ (by simp) rfl
    have hc : w'.cell? ⟨w.heap.size, 3, none⟩ = some (.int .i64 n) := HC.out.1.cell 3
    clear hR
    refine if_yes (wanted_at rfl (by kernel_rfl) (SZ 68 (by decide)) g rfl) ?_
    unfold Oper.wp; go_simp; exact ⟨.int .i64 n, rfl, HC.out, Below.refl _ _, put_at (SZ 70 (by decide))⟩
   ·clear hR
    refine if_no (unwanted_at rfl (by kernel_rfl) (SZ 68 (by decide)) g (by decide)) ?_
    exact ⟨undef, rfl, HC.out, Below.refl _ _, put_at (SZ 70 (by decide))⟩
  ·have g : a.tmps.getD 68 undef = .bool q5 := hR ⟨31, .guard⟩ (by simp) rfl
   cases q5
   ·have h70 : a.tmps.getD 70 undef = .int .i64 n := hR ⟨33, .data⟩ (by simp) rfl
    clear hR
    refine if_yes (wanted_at rfl (by kernel_rfl) (SZ 68 (by decide)) g rfl) ?_
    unfold Oper.wp; go_simp
    exact ⟨_, rfl, HC.out, Below.refl _ _, (put_at (SZ 71 (by decide))).trans (congrArg Value.bool (by first | exact P6.out | (rw [← P6.out]; first | rfl | (simp; done) | (simp; omega))))⟩
   ·clear hR
    refine if_no (unwanted_at rfl (by kernel_rfl) (SZ 68 (by decide)) g (by decide)) ?_
    exact ⟨undef, rfl, HC.out, Below.refl _ _, put_at (SZ 71 (by decide))⟩
  ·have h68 : a.tmps.getD 68 undef = .bool q5 := hR ⟨31, .data⟩ (by simp) rfl
   cases q5
   ·have h71 : a.tmps.getD 71 undef = .bool p6 := hR ⟨34, .data⟩ (by simp) rfl
    clear hR
    refine if_yes rfl ?_
    unfold Oper.wp; go_simp; exact ⟨.bool p6, rfl, HC.out, Below.refl _ _, (put_at (SZ 72 (by decide))).trans (congrArg Value.bool Q6.out)⟩
   ·clear hR
    refine if_yes rfl ?_
    unfold Oper.wp; go_simp; exact ⟨.bool true, rfl, HC.out, Below.refl _ _, (put_at (SZ 72 (by decide))).trans (congrArg Value.bool Q6.out)⟩
  ·have h72 : a.tmps.getD 72 undef = .bool q6 := hR ⟨35, .data⟩ (by simp) rfl
   clear hR
   refine if_yes rfl ?_
   unfold Oper.wp; go_simp; exact ⟨.bool q6, rfl, HC.out, Below.refl _ _, put_at (SZ 73 (by decide))⟩
  ·have g : a.tmps.getD 73 undef = .bool q6 := hR ⟨36, .guard⟩ (by simp) rfl
   cases q6
   ·have e1 : a.tmps.getD 1 undef = .pointer (some ⟨w.heap.size, 0, none⟩) := (hB.slot 1 (by decide)).trans HX1.out
    clear hR
    refine if_yes (wanted_at rfl (by kernel_rfl) (SZ 73 (by decide)) g rfl) ?_
    unfold Oper.wp; go_simp; exact ⟨.pointer (some ⟨w.heap.size, 3, none⟩), rfl, HC.out, Below.refl _ _, put_at (SZ 74 (by decide))⟩
   ·clear hR
    refine if_no (unwanted_at rfl (by kernel_rfl) (SZ 73 (by decide)) g (by decide)) ?_
    exact ⟨undef, rfl, HC.out, Below.refl _ _, put_at (SZ 74 (by decide))⟩
  ·have g : a.tmps.getD 73 undef = .bool q6 := hR ⟨36, .guard⟩ (by simp) rfl
   cases q6
   ·have h74 : a.tmps.getD 74 undef = .pointer (some ⟨w.heap.size, 3, none⟩) := hR ⟨37, .data⟩ (by simp) rfl
    have hc : w'.cell? ⟨w.heap.size, 3, none⟩ = some (.int .i64 n) := HC.out.1.cell 3
    clear hR
    refine if_yes (wanted_at rfl (by kernel_rfl) (SZ 73 (by decide)) g rfl) ?_
    unfold Oper.wp; go_simp; exact ⟨.int .i64 n, rfl, HC.out, Below.refl _ _, put_at (SZ 75 (by decide))⟩
   ·clear hR
    refine if_no (unwanted_at rfl (by kernel_rfl) (SZ 73 (by decide)) g (by decide)) ?_
    exact ⟨undef, rfl, HC.out, Below.refl _ _, put_at (SZ 75 (by decide))⟩
  ·have g : a.tmps.getD 73 undef = .bool q6 := hR ⟨36, .guard⟩ (by simp) rfl
   cases q6
   ·have e1 : a.tmps.getD 1 undef = .pointer (some ⟨w.heap.size, 0, none⟩) := (hB.slot 1 (by decide)).trans HX1.out
    clear hR
    refine if_yes (wanted_at rfl (by kernel_rfl) (SZ 73 (by decide)) g rfl) ?_
    exact wp_load_row 23 (.tmp 1) rfl w.heap.size e1 23 (gv b l y n s r) (0, 0) _ HC.out.1 Tryz.underlying23 rfl size_geo ⟨.agg (gv b l y n s r), rfl, HC.out, Below.refl _ _, put_at (SZ 76 (by decide))⟩
   ·clear hR
    refine if_no (unwanted_at rfl (by kernel_rfl) (SZ 73 (by decide)) g (by decide)) ?_
    exact ⟨undef, rfl, HC.out, Below.refl _ _, put_at (SZ 76 (by decide))⟩
  ·have g : a.tmps.getD 73 undef = .bool q6 := hR ⟨36, .guard⟩ (by simp) rfl
   cases q6
   ·have h76 : a.tmps.getD 76 undef = .agg (gv b l y n s r) := hR ⟨39, .data⟩ (by simp) rfl
    clear hR
    refine if_yes (wanted_at rfl (by kernel_rfl) (SZ 73 (by decide)) g rfl) ?_
    unfold Oper.wp; go_simp
    refine (rge_most b l y n s r w' (HQ6.out rfl)).mono ?_
    rintro e w2 ⟨rfl, hb⟩
    rw [HM.out]
    exact ⟨.int .i64 m, rfl, HC.out.call hb, hb, put_at (SZ 77 (by decide))⟩
   ·clear hR
    refine if_no (unwanted_at rfl (by kernel_rfl) (SZ 73 (by decide)) g (by decide)) ?_
    exact ⟨undef, rfl, HC.out, Below.refl _ _, put_at (SZ 77 (by decide))⟩
  ·have g : a.tmps.getD 73 undef = .bool q6 := hR ⟨36, .guard⟩ (by simp) rfl
   cases q6
   ·have h75 : a.tmps.getD 75 undef = .int .i64 n := hR ⟨38, .data⟩ (by simp) rfl
    have h77 : a.tmps.getD 77 undef = .int .i64 m := hR ⟨40, .data⟩ (by simp) rfl
    clear hR
    refine if_yes (wanted_at rfl (by kernel_rfl) (SZ 73 (by decide)) g rfl) ?_
    unfold Oper.wp; go_simp
    exact ⟨_, rfl, HC.out, Below.refl _ _, (put_at (SZ 78 (by decide))).trans (congrArg Value.bool (by first | exact P7.out | (rw [← P7.out]; first | rfl | (simp; done) | (simp; omega))))⟩
   ·clear hR
    refine if_no (unwanted_at rfl (by kernel_rfl) (SZ 73 (by decide)) g (by decide)) ?_
    exact ⟨undef, rfl, HC.out, Below.refl _ _, put_at (SZ 78 (by decide))⟩
  ·have h73 : a.tmps.getD 73 undef = .bool q6 := hR ⟨36, .data⟩ (by simp) rfl
   cases q6
   ·have h78 : a.tmps.getD 78 undef = .bool p7 := hR ⟨41, .data⟩ (by simp) rfl
    clear hR
    refine if_yes rfl ?_
    unfold Oper.wp; go_simp; exact ⟨.bool p7, rfl, HC.out, Below.refl _ _, (put_at (SZ 79 (by decide))).trans (congrArg Value.bool Q7.out)⟩
   ·clear hR
    refine if_yes rfl ?_
    unfold Oper.wp; go_simp; exact ⟨.bool true, rfl, HC.out, Below.refl _ _, (put_at (SZ 79 (by decide))).trans (congrArg Value.bool Q7.out)⟩
  ·have h79 : a.tmps.getD 79 undef = .bool q7 := hR ⟨42, .data⟩ (by simp) rfl
   clear hR
   refine if_yes rfl ?_
   unfold Oper.wp; go_simp; exact ⟨.bool q7, rfl, HC.out, Below.refl _ _, put_at (SZ 80 (by decide))⟩
  ·have g : a.tmps.getD 80 undef = .bool q7 := hR ⟨43, .guard⟩ (by simp) rfl
   cases q7
   ·have e1 : a.tmps.getD 1 undef = .pointer (some ⟨w.heap.size, 0, none⟩) := (hB.slot 1 (by decide)).trans HX1.out
    clear hR
    refine if_yes (wanted_at rfl (by kernel_rfl) (SZ 80 (by decide)) g rfl) ?_
    exact wp_load_row 23 (.tmp 1) rfl w.heap.size e1 23 (gv b l y n s r) (0, 0) _ HC.out.1 Tryz.underlying23 rfl size_geo ⟨.agg (gv b l y n s r), rfl, HC.out, Below.refl _ _, put_at (SZ 81 (by decide))⟩
   ·clear hR
    refine if_no (unwanted_at rfl (by kernel_rfl) (SZ 80 (by decide)) g (by decide)) ?_
    exact ⟨undef, rfl, HC.out, Below.refl _ _, put_at (SZ 81 (by decide))⟩
  ·have g : a.tmps.getD 80 undef = .bool q7 := hR ⟨43, .guard⟩ (by simp) rfl
   cases q7
   ·have h81 : a.tmps.getD 81 undef = .agg (gv b l y n s r) := hR ⟨44, .data⟩ (by simp) rfl
    clear hR
    refine if_yes (wanted_at rfl (by kernel_rfl) (SZ 80 (by decide)) g rfl) ?_
    unfold Oper.wp; go_simp
    refine (rge_snaps b l y n s r w' (HQ7.out rfl)).mono ?_
    rintro e w2 ⟨rfl, hb⟩
    rw [HK.out]
    exact ⟨.int .i64 k, rfl, HC.out.call hb, hb, put_at (SZ 82 (by decide))⟩
   ·clear hR
    refine if_no (unwanted_at rfl (by kernel_rfl) (SZ 80 (by decide)) g (by decide)) ?_
    exact ⟨undef, rfl, HC.out, Below.refl _ _, put_at (SZ 82 (by decide))⟩
  ·have g : a.tmps.getD 80 undef = .bool q7 := hR ⟨43, .guard⟩ (by simp) rfl
   cases q7
   ·have e1 : a.tmps.getD 1 undef = .pointer (some ⟨w.heap.size, 0, none⟩) := (hB.slot 1 (by decide)).trans HX1.out
    clear hR
    refine if_yes (wanted_at rfl (by kernel_rfl) (SZ 80 (by decide)) g rfl) ?_
    unfold Oper.wp; go_simp; exact ⟨.pointer (some ⟨w.heap.size, 1, none⟩), rfl, HC.out, Below.refl _ _, put_at (SZ 83 (by decide))⟩
   ·clear hR
    refine if_no (unwanted_at rfl (by kernel_rfl) (SZ 80 (by decide)) g (by decide)) ?_
    exact ⟨undef, rfl, HC.out, Below.refl _ _, put_at (SZ 83 (by decide))⟩
  ·have g : a.tmps.getD 80 undef = .bool q7 := hR ⟨43, .guard⟩ (by simp) rfl
   cases q7
   ·have h83 : a.tmps.getD 83 undef = .pointer (some ⟨w.heap.size, 1, none⟩) := hR ⟨46, .data⟩ (by simp) rfl
    have hc : w'.cell? ⟨w.heap.size, 1, none⟩ = some (.int .i64 l) := HC.out.1.cell 1
    clear hR
    refine if_yes (wanted_at rfl (by kernel_rfl) (SZ 80 (by decide)) g rfl) ?_
    unfold Oper.wp; go_simp; exact ⟨.int .i64 l, rfl, HC.out, Below.refl _ _, put_at (SZ 84 (by decide))⟩
   ·clear hR
    refine if_no (unwanted_at rfl (by kernel_rfl) (SZ 80 (by decide)) g (by decide)) ?_
    exact ⟨undef, rfl, HC.out, Below.refl _ _, put_at (SZ 84 (by decide))⟩
  ·have g : a.tmps.getD 80 undef = .bool q7 := hR ⟨43, .guard⟩ (by simp) rfl
   cases q7
   ·have h84 : a.tmps.getD 84 undef = .int .i64 l := hR ⟨47, .data⟩ (by simp) rfl
    have hw := HW4.out
    clear hR
    refine if_yes (wanted_at rfl (by kernel_rfl) (SZ 80 (by decide)) g rfl) ?_
    unfold Oper.wp; go_simp; exact ⟨.int .i64 (l - 4), rfl, HC.out, Below.refl _ _, put_at (SZ 85 (by decide))⟩
   ·clear hR
    refine if_no (unwanted_at rfl (by kernel_rfl) (SZ 80 (by decide)) g (by decide)) ?_
    exact ⟨undef, rfl, HC.out, Below.refl _ _, put_at (SZ 85 (by decide))⟩
  ·have g : a.tmps.getD 80 undef = .bool q7 := hR ⟨43, .guard⟩ (by simp) rfl
   cases q7
   ·have h82 : a.tmps.getD 82 undef = .int .i64 k := hR ⟨45, .data⟩ (by simp) rfl
    have h85 : a.tmps.getD 85 undef = .int .i64 (l - 4) := hR ⟨48, .data⟩ (by simp) rfl
    clear hR
    refine if_yes (wanted_at rfl (by kernel_rfl) (SZ 80 (by decide)) g rfl) ?_
    unfold Oper.wp; go_simp
    exact ⟨_, rfl, HC.out, Below.refl _ _, (put_at (SZ 86 (by decide))).trans (congrArg Value.bool (by first | exact P8.out | (rw [← P8.out]; first | rfl | (simp; done) | (simp; omega))))⟩
   ·clear hR
    refine if_no (unwanted_at rfl (by kernel_rfl) (SZ 80 (by decide)) g (by decide)) ?_
    exact ⟨undef, rfl, HC.out, Below.refl _ _, put_at (SZ 86 (by decide))⟩
  ·have h80 : a.tmps.getD 80 undef = .bool q7 := hR ⟨43, .data⟩ (by simp) rfl
   cases q7
   ·have h86 : a.tmps.getD 86 undef = .bool p8 := hR ⟨49, .data⟩ (by simp) rfl
    clear hR
    refine if_yes rfl ?_
    unfold Oper.wp; go_simp; exact ⟨.bool p8, rfl, HC.out, Below.refl _ _, (put_at (SZ 87 (by decide))).trans (congrArg Value.bool Q8.out)⟩
   ·clear hR
    refine if_yes rfl ?_
    unfold Oper.wp; go_simp; exact ⟨.bool true, rfl, HC.out, Below.refl _ _, (put_at (SZ 87 (by decide))).trans (congrArg Value.bool Q8.out)⟩
 ·intro a' w' hC hB hR
  have h87 : a'.tmps.getD 87 undef = .bool q8 := hR 50 (by decide)
  have HE := Lib.hid hC.2
  obtain ⟨u, hu⟩ : ∃ u : Nat → Value, ∀ j, a'.tmps.getD j undef = u j := ⟨_, fun _ => rfl⟩
  have hp := hB.puts 51 (by rw [HSZ.out]; decide) rfl
  simp only [hu] at hp h87
  have hp2 : a' = ⟨(A.tmps.toList.take 37 ++ [(u 37), (u 38), (u 39), (u 40), (u 41), (u 42), (u 43), (u 44), (u 45), (u 46), (u 47), (u 48), (u 49), (u 50), (u 51), (u 52), (u 53), (u 54), (u 55), (u 56), (u 57), (u 58), (u 59), (u 60), (u 61), (u 62), (u 63), (u 64), (u 65), (u 66), (u 67), (u 68), (u 69), (u 70), (u 71), (u 72), (u 73), (u 74), (u 75), (u 76), (u 77), (u 78), (u 79), (u 80), (u 81), (u 82), (u 83), (u 84), (u 85), (u 86), (.bool q8)] ++ A.tmps.toList.drop 88).toArray, A.defers⟩ := by
   rw [hp, show List.range 51 = [0, 1, 2, 3, 4, 5, 6, 7, 8, 9, 10, 11, 12, 13, 14, 15, 16, 17, 18, 19, 20, 21, 22, 23, 24, 25, 26, 27, 28, 29, 30, 31, 32, 33, 34, 35, 36, 37, 38, 39, 40, 41, 42, 43, 44, 45, 46, 47, 48, 49, 50] by decide]
   simp only [List.map_cons, List.map_nil, Nat.reduceAdd]
   rw [h87]
  clear hR h87 hC hB hu hp
  subst hp2
  rw [← HA.out]
  clear HA HSZ HX1
  change (_ : Exit → Act → World → Prop) _ (⟨#[_, _, _, _, _, _, _, _, _, _, _, _, _, _, _, _, _, _, _, _, _, _, _, _, _, _, _, _, _, _, _, _, _, _, _, _, _, _, _, _, _, _, _, _, _, _, _, _, _, _, _, _, _, _, _, _, _, _, _, _, _, _, _, _, _, _, _, _, _, _, _, _, _, _, _, _, _, _, _, _, _, _, _, _, _, _, _, _], _⟩ : Act) _
  cases q8
  all_goals
   go_wp2_with fail
   go_ret
   exact ⟨ret_int HQ8.out.symm, HE.out⟩
/- Layer 6, the code's small ones: isFrom, isBelow, areAll, Most, Snaps, Raw, Spread. -/
def fromB (v lo hi : Int) : Bool := decide (lo ≤ v ∧ v ≤ hi)
theorem is_from (v lo hi : Int) (w : World) : Calls Tryz.prog 60 #[.int .i64 v, .int .i64 lo, .int .i64 hi] w fun e w' => e = .returned (.bool (fromB v lo hi)) ∧ Below w.heap.size w w' := by
 go_enter Tryz.func60, Tryz.ntmps60
 go_wp2
 all_goals go_ret
 all_goals exact ⟨ret_bool (by unfold fromB; rw [Bool.eq_iff_iff]; simp; try omega), Below.refl _ _⟩
def mostW (b l s : Int) : Int := wrap64 ((wrap64 (wrap64 (3 * l) * wrap64 (wrap64 (b - s) - 6))).tdiv 2)
def snapsW (b y n : Int) : Int := if y < 1 then 0 else wrap64 ((wrap64 (wrap64 (wrap64 (wrap64 (6 * n) + wrap64 (10 * b)) + y) - 1)).tdiv y)
theorem wrap64_of {x : Int} (h : -9223372036854775808 ≤ x ∧ x ≤ 9223372036854775807) : wrap64 x = x := by
 unfold wrap64; omega
theorem mostW_pre {b l y n s r : Int} (h : PreG b l y n s r) : mostW b l s = mostG b l s := by
 have hm := pre_most h
 obtain ⟨h1, h2, h3, h4, h5, h6, h7, h8, h9, h10, h11, h12, h13, h14⟩ := h
 unfold mostW mostG
 rw [wrap64_of (x := 3 * l) (by omega), wrap64_of (x := b - s) (by omega), wrap64_of (x := b - s - 6) (by omega), wrap64_of (x := 3 * l * (b - s - 6)) (by omega), Int.tdiv_eq_ediv_of_nonneg hm.1, wrap64_of (by omega)]
theorem snapsW_pre {b l y n s r : Int} (h : PreG b l y n s r) : snapsW b y n = snapsG b y n := by
 have hs := snaps_bd h
 unfold snapsG at hs
 obtain ⟨h1, h2, h3, h4, h5, h6, h7, h8, h9, h10, h11, h12, h13, h14⟩ := h
 unfold snapsW snapsG
 have he : 6 * n + 10 * b + (y - 1) = 6 * n + 10 * b + y - 1 := by omega
 rw [he] at hs ⊢
 rw [if_neg (by omega), wrap64_of (x := 6 * n) (by omega), wrap64_of (x := 10 * b) (by omega), wrap64_of (x := 6 * n + 10 * b) (by omega), wrap64_of (x := 6 * n + 10 * b + y) (by omega), wrap64_of (x := 6 * n + 10 * b + y - 1) (by omega), Int.tdiv_eq_ediv_of_nonneg (by omega), wrap64_of (by omega)]
theorem ge_most_any (b l y n s r : Int) (w : World) :
  Calls Tryz.prog 61 #[.agg (gv b l y n s r)] w fun e w' => e = .returned (.int .i64 (mostW b l s)) ∧ Below w.heap.size w w' := by
 have HB := Lib.hid ((Below.refl w.heap.size w).alloc (Nat.le_refl _) (.cells (gv b l y n s r) 23))
 unfold gv at *
 go_enter Tryz.func61, Tryz.ntmps61
 go_wp2_with fail
 go_ret
 exact ⟨rfl, HB.out⟩
theorem ge_snaps_any (b l y n s r : Int) (w : World) :
  Calls Tryz.prog 62 #[.agg (gv b l y n s r)] w fun e w' => e = .returned (.int .i64 (snapsW b y n)) ∧ Below w.heap.size w w' := by
 have HB := Lib.hid ((Below.refl w.heap.size w).alloc (Nat.le_refl _) (.cells (gv b l y n s r) 23))
 have HS : Hid (y < 1 → snapsW b y n = 0) := fun h => if_pos h
 have HS2 : Hid (¬ y < 1 → snapsW b y n = wrap64 ((wrap64 (wrap64 (wrap64 (wrap64 (6 * n) + wrap64 (10 * b)) + y) - 1)).tdiv y)) := fun h => if_neg h
 obtain ⟨k, hk⟩ : ∃ k, snapsW b y n = k := ⟨_, rfl⟩
 rw [hk] at HS HS2 ⊢
 unfold gv at *
 clear hk
 by_cases h : y < 1
 ·go_enter Tryz.func62, Tryz.ntmps62
  go_wp2_with fail
  go_ret
  exact ⟨ret_int (HS.out (by omega)).symm, HB.out⟩
 ·go_enter Tryz.func62, Tryz.ntmps62
  go_wp2_with fail
  go_ret
  exact ⟨ret_int (HS2.out (by omega)).symm, HB.out⟩
theorem all_getD (bs : List Bool) (j : Nat) (hj : j < bs.length) (h : bs.getD j false = false) : bs.all id = false := by
 rw [List.all_eq_false]
 refine ⟨bs[j], List.getElem_mem hj, ?_⟩
 rw [List.getD, List.getElem?_eq_getElem hj] at h
 simp at h
 simp [h]
theorem take_all (bs : List Bool) (j : Nat) (hj : j < bs.length) (h : (bs.take j).all id = true) (hb : bs.getD j false = true) : (bs.take (j + 1)).all id = true := by
 rw [List.take_add_one, List.all_append, h, Bool.true_and]
 rw [List.getD, List.getElem?_eq_getElem hj] at hb
 rw [List.getElem?_eq_getElem hj]
 simp at hb
 simp [hb]
theorem all_any (g cap : Nat) (bs : List Bool) (w : World) (hz : bs.length ≤ 1000) (hc : ∀ j, j < bs.length → w.cell? ⟨g, j, none⟩ = some (.bool (bs.getD j false))) :
  Calls Tryz.prog 59 #[.slice (some ⟨g, 0, none⟩) bs.length cap] w fun e w' => e = .returned (.bool (bs.all id)) ∧ w = w' := by
 obtain ⟨m, hm⟩ : ∃ m, bs.length = m := ⟨_, rfl⟩
 rw [hm] at hz hc ⊢
 have HM := Lib.hid hm
 have HC := Lib.hid hc
 clear hm hc
 go_enter Tryz.func59, Tryz.ntmps59
 go_wp2_with fail
 go_loop [7] (fun i => ∃ j : Nat, j ≤ m ∧ i = .int .i64 j ∧ (bs.take j).all id = true) (fun i => m - (intOf i).toNat)
 case atStart => exact ⟨0, Nat.zero_le _, rfl, rfl⟩
 case round =>
  obtain ⟨j, hj, rfl, hall⟩ := hrel
  by_cases hlt : j < m
  ·have hcj := HC.out j hlt
   have HN := Lib.hid (fun h => all_getD bs j (by rw [HM.out]; exact hlt) h)
   have HT := Lib.hid (fun h => take_all bs j (by rw [HM.out]; exact hlt) hall h)
   obtain ⟨b, hb⟩ : ∃ b, bs.getD j false = b := ⟨_, rfl⟩
   rw [hb] at hcj
   have HB := Lib.hid hb
   clear hb hall
   cases b with
   | false =>
    have HF := Lib.hid (HN.out HB.out)
    go_wp2_with fail
    go_ret
    exact ⟨by rw [HF.out]; rfl, rfl⟩
   | true =>
    have HR := Lib.hid (HT.out HB.out)
    go_wp2_with fail
    go_round
    case rel => exact ⟨j + 1, by omega, by go_num, HR.out⟩
    case measure => simp [intOf]; omega
  ·obtain rfl : j = m := by omega
   have HA : Hid (bs.all id = true) := by
    have h := hall
    rwa [List.take_of_length_le (by rw [HM.out]; exact Nat.le_refl _)] at h
   clear hall
   go_wp2_with fail
   go_ret
   exact ⟨by rw [HA.out]; rfl, rfl⟩
/- Layer 6, the code's Check. -/
def ckL (b l y n s r : Int) : List Bool := [fromB b 8 64, fromB l 6 64, fromB y 16 256, decide (y.tmod 8 = 0), fromB s 0 16, decide (s ≤ IntKind.i64.wrap (b - 8)), fromB r 2 1000, fromB n 1 4096, decide (n ≤ mostW b l s), decide (snapsW b y n ≤ IntKind.i64.wrap (l - 4))]
def ckB (b l y n s r : Int) : Bool := (ckL b l y n s r).all id
theorem i64_of {x : Int} (h : -9223372036854775808 ≤ x ∧ x ≤ 9223372036854775807) : IntKind.i64.wrap x = x := by rw [IntKind.wrap_i64]; omega
theorem ck_iff (b l y n s r : Int) : ckB b l y n s r = true ↔ OkG b l y n s r := by
 have h0 : ckB b l y n s r = true ↔ (8 ≤ b ∧ b ≤ 64) ∧ (6 ≤ l ∧ l ≤ 64) ∧ (16 ≤ y ∧ y ≤ 256) ∧ y.tmod 8 = 0 ∧ (0 ≤ s ∧ s ≤ 16) ∧ s ≤ IntKind.i64.wrap (b - 8) ∧ (2 ≤ r ∧ r ≤ 1000) ∧ (1 ≤ n ∧ n ≤ 4096) ∧ n ≤ mostW b l s ∧ snapsW b y n ≤ IntKind.i64.wrap (l - 4) := by
  simp only [ckB, ckL, fromB, List.all_cons, List.all_nil, id, Bool.and_eq_true, decide_eq_true_eq, and_true]
 rw [h0]
 constructor
 ·rintro ⟨⟨h1, h2⟩, ⟨h3, h4⟩, ⟨h5, h6⟩, h7, ⟨h8, h9⟩, h10, ⟨h11, h12⟩, ⟨h13, h14⟩, h15, h16⟩
  rw [i64_of (by omega)] at h10 h16
  rw [Int.tmod_eq_emod_of_nonneg (by omega)] at h7
  have hp : PreG b l y n s r := ⟨h1, h2, h3, h4, h5, h6, h7, h8, h9, h10, h11, h12, h13, h14⟩
  rw [mostW_pre hp] at h15
  rw [snapsW_pre hp] at h16
  exact ⟨hp, h15, h16⟩
 ·rintro ⟨hp, h15, h16⟩
  rw [mostW_pre hp, snapsW_pre hp]
  obtain ⟨h1, h2, h3, h4, h5, h6, h7, h8, h9, h10, h11, h12, h13, h14⟩ := hp
  rw [i64_of (x := b - 8) (by omega), i64_of (x := l - 4) (by omega), Int.tmod_eq_emod_of_nonneg (by omega)]
  exact ⟨⟨h1, h2⟩, ⟨h3, h4⟩, ⟨h5, h6⟩, h7, ⟨h8, h9⟩, h10, ⟨h11, h12⟩, ⟨h13, h14⟩, h15, h16⟩
def bools (bs : List Bool) : Array Value := (bs.map Value.bool).toArray
theorem bools_cell {w : World} {g : Nat} {bs : List Bool} {t : TypeId} (h : Blk w g (bools bs) t) : ∀ j, j < bs.length → w.cell? ⟨g, j, none⟩ = some (.bool (bs.getD j false)) := by
 intro j hj
 rw [h.cell j]
 simp [bools, hj]
def MadeB (d : Tmp) (n : Nat) (bs : List Bool) (_ : Nat) (a : Act) (w : World) : Prop := ∃ (g : Nat) (t : TypeId), a.tmps.getD d undef = .slice (some ⟨g, 0, none⟩) n n ∧ Blk w g (bools bs) t
theorem MadeB.ext {d : Tmp} {n : Nat} {bs : List Bool} : ∀ (j : Nat) (a a' : Act) (w w' : World), MadeB d n bs j a w → (∀ x ∈ ([d] : List Tmp), a'.tmps.getD x undef = a.tmps.getD x undef) → Goes w w' → MadeB d n bs j a' w' := by
 rintro j a a' w w' ⟨g, t, h1, h2⟩ hd hT
 exact ⟨g, t, (hd d (by simp)).trans h1, h2.after hT⟩
def vsCK (B : Nat) (b l y n s r : Int) : List (Option (Tmp × Value)) :=
 [some (3, .pointer (some ⟨B, 0, none⟩)), some (4, .int .i64 b), some (5, .bool (fromB b 8 64)), some (6, .pointer (some ⟨B, 1, none⟩)), some (7, .int .i64 l), some (8, .bool (fromB l 6 64)), some (9, .pointer (some ⟨B, 2, none⟩)), some (10, .int .i64 y), some (11, .bool (fromB y 16 256)), some (12, .pointer (some ⟨B, 2, none⟩)), some (13, .int .i64 y), some (14, .int .i64 (y.tmod 8)), some (15, .bool (decide (y.tmod 8 = 0))), some (16, .pointer (some ⟨B, 4, none⟩)), some (17, .int .i64 s), some (18, .bool (fromB s 0 16)), some (19, .pointer (some ⟨B, 4, none⟩)), some (20, .int .i64 s), some (21, .pointer (some ⟨B, 0, none⟩)), some (22, .int .i64 b), some (23, .int .i64 (IntKind.i64.wrap (b - 8))), some (24, .bool (decide (s ≤ IntKind.i64.wrap (b - 8)))), some (25, .pointer (some ⟨B, 5, none⟩)), some (26, .int .i64 r), some (27, .bool (fromB r 2 1000)), some (28, .pointer (some ⟨B, 3, none⟩)), some (29, .int .i64 n), some (30, .bool (fromB n 1 4096)), some (31, .pointer (some ⟨B, 3, none⟩)), some (32, .int .i64 n), some (33, .agg (gv b l y n s r)), some (34, .int .i64 (mostW b l s)), some (35, .bool (decide (n ≤ mostW b l s))), some (36, .agg (gv b l y n s r)), some (37, .int .i64 (snapsW b y n)), some (38, .pointer (some ⟨B, 1, none⟩)), some (39, .int .i64 l), some (40, .int .i64 (IntKind.i64.wrap (l - 4))), some (41, .bool (decide (snapsW b y n ≤ IntKind.i64.wrap (l - 4)))), none, some (43, .bool (ckB b l y n s r)), some (44, .bool (!ckB b l y n s r))]
def BaseCK (B : Nat) (a : Act) : Prop := ∃ u : Nat → Value, a = ⟨#[u 0, .pointer (some ⟨B, 0, none⟩), u 2, u 3, u 4, u 5, u 6, u 7, u 8, u 9, u 10, u 11, u 12, u 13, u 14, u 15, u 16, u 17, u 18, u 19, u 20, u 21, u 22, u 23, u 24, u 25, u 26, u 27, u 28, u 29, u 30, u 31, u 32, u 33, u 34, u 35, u 36, u 37, u 38, u 39, u 40, u 41, u 42, u 43, u 44], []⟩
set_option maxHeartbeats 1000000 in
theorem ge_check (b l y n s r : Int) (w : World) : Calls Tryz.prog 23 #[.agg (gv b l y n s r)] w (ChkT b l y n s r w) := by
 have HC0 : Hid (CG w b l y n s r (w.alloc (.cells (gv b l y n s r) 23))) := ⟨Blk.new w _ _, (Below.refl w.heap.size w).alloc (Nat.le_refl _) _⟩
 unfold ChkT
 have HY : Hid (ckB b l y n s r = true → chkG b l y n s r = 0) := fun h => chk_ok ((ck_iff b l y n s r).1 h)
 have HN : Hid (ckB b l y n s r = false → chkG b l y n s r = 60) := fun h => chk_no (fun h2 => by rw [(ck_iff b l y n s r).2 h2] at h; exact absurd h (by simp))
 obtain ⟨ck, hck⟩ : ∃ ck, chkG b l y n s r = ck := ⟨_, rfl⟩
 rw [hck] at HY HN ⊢
 clear hck
 go_enter Tryz.func23, Tryz.ntmps23
 unfold gv at *
 go_wp2_with fail
 rename_i K0 hK0
 refine wp_region_list3 (SV (vsCK w.heap.size b l y n s r) [42]) (BaseCK w.heap.size) (CG w b l y n s r) Goes (RV (vsCK w.heap.size b l y n s r) (MadeB 42 10 (ckL b l y n s r))) rfl (by kernel_rfl) (RV.ext MadeB.ext) ?_ HC0.out.drew (fr_of _ (by kernel_rfl)) ?_ ?_
 ·exact ⟨fr_put 3 fun _ _ => by kernel_rfl, fr_put 4 fun _ _ => by kernel_rfl, fr_put 5 fun _ _ => by kernel_rfl, fr_put 6 fun _ _ => by kernel_rfl, fr_put 7 fun _ _ => by kernel_rfl, fr_put 8 fun _ _ => by kernel_rfl, fr_put 9 fun _ _ => by kernel_rfl, fr_put 10 fun _ _ => by kernel_rfl, fr_put 11 fun _ _ => by kernel_rfl, fr_put 12 fun _ _ => by kernel_rfl, fr_put 13 fun _ _ => by kernel_rfl, fr_put 14 fun _ _ => by kernel_rfl, fr_put 15 fun _ _ => by kernel_rfl, fr_put 16 fun _ _ => by kernel_rfl, fr_put 17 fun _ _ => by kernel_rfl, fr_put 18 fun _ _ => by kernel_rfl, fr_put 19 fun _ _ => by kernel_rfl, fr_put 20 fun _ _ => by kernel_rfl, fr_put 21 fun _ _ => by kernel_rfl, fr_put 22 fun _ _ => by kernel_rfl, fr_put 23 fun _ _ => by kernel_rfl, fr_put 24 fun _ _ => by kernel_rfl, fr_put 25 fun _ _ => by kernel_rfl, fr_put 26 fun _ _ => by kernel_rfl, fr_put 27 fun _ _ => by kernel_rfl, fr_put 28 fun _ _ => by kernel_rfl, fr_put 29 fun _ _ => by kernel_rfl, fr_put 30 fun _ _ => by kernel_rfl, fr_put 31 fun _ _ => by kernel_rfl, fr_put 32 fun _ _ => by kernel_rfl, fr_put 33 fun _ _ => by kernel_rfl, fr_put 34 fun _ _ => by kernel_rfl, fr_put 35 fun _ _ => by kernel_rfl, fr_put 36 fun _ _ => by kernel_rfl, fr_put 37 fun _ _ => by kernel_rfl, fr_put 38 fun _ _ => by kernel_rfl, fr_put 39 fun _ _ => by kernel_rfl, fr_put 40 fun _ _ => by kernel_rfl, fr_put 41 fun _ _ => by kernel_rfl, fr_put 42 fun _ _ => by kernel_rfl, fr_put 43 fun _ _ => by kernel_rfl, fr_put 44 fun _ _ => by kernel_rfl, trivial⟩
 ·refine ⟨?_, ?_, ?_, ?_, ?_, ?_, ?_, ?_, ?_, ?_, ?_, ?_, ?_, ?_, ?_, ?_, ?_, ?_, ?_, ?_, ?_, ?_, ?_, ?_, ?_, ?_, ?_, ?_, ?_, ?_, ?_, ?_, ?_, ?_, ?_, ?_, ?_, ?_, ?_, ?_, ?_, ?_, trivial⟩
  all_goals
   intro a w' hC hB hR
   obtain ⟨u, rfl⟩ := hB
   have HC := Lib.hid hC
   clear hC
  ·clear hR; refine if_yes (by kernel_rfl) ?_; unfold Oper.wp; go_simp; exact ⟨.pointer (some ⟨w.heap.size, 0, none⟩), rfl, HC.out, Below.refl _ _, rfl⟩
  ·have h3 : u 3 = .pointer (some ⟨w.heap.size, 0, none⟩) := hR ⟨0, .data⟩ (by simp) rfl
   have hc : w'.cell? ⟨w.heap.size, 0, none⟩ = some (.int .i64 b) := HC.out.1.cell 0
   clear hR; simp only [h3]; refine if_yes (by kernel_rfl) ?_; unfold Oper.wp; go_simp; exact ⟨.int .i64 b, rfl, HC.out, Below.refl _ _, rfl⟩
  ·have h4 : u 4 = .int .i64 b := hR ⟨1, .data⟩ (by simp) rfl; clear hR; simp only [h4]; refine if_yes (by kernel_rfl) ?_; unfold Oper.wp; go_simp
   refine (is_from b 8 64 _).mono ?_
   rintro e w2 ⟨rfl, hb2⟩
   exact ⟨.bool (fromB b 8 64), rfl, HC.out.call hb2, hb2, rfl⟩
  ·clear hR; refine if_yes (by kernel_rfl) ?_; unfold Oper.wp; go_simp; exact ⟨.pointer (some ⟨w.heap.size, 1, none⟩), rfl, HC.out, Below.refl _ _, rfl⟩
  ·have h6 : u 6 = .pointer (some ⟨w.heap.size, 1, none⟩) := hR ⟨3, .data⟩ (by simp) rfl
   have hc : w'.cell? ⟨w.heap.size, 1, none⟩ = some (.int .i64 l) := HC.out.1.cell 1
   clear hR; simp only [h6]; refine if_yes (by kernel_rfl) ?_; unfold Oper.wp; go_simp; exact ⟨.int .i64 l, rfl, HC.out, Below.refl _ _, rfl⟩
  ·have h7 : u 7 = .int .i64 l := hR ⟨4, .data⟩ (by simp) rfl; clear hR; simp only [h7]; refine if_yes (by kernel_rfl) ?_; unfold Oper.wp; go_simp
   refine (is_from l 6 64 _).mono ?_
   rintro e w2 ⟨rfl, hb2⟩
   exact ⟨.bool (fromB l 6 64), rfl, HC.out.call hb2, hb2, rfl⟩
  ·clear hR; refine if_yes (by kernel_rfl) ?_; unfold Oper.wp; go_simp; exact ⟨.pointer (some ⟨w.heap.size, 2, none⟩), rfl, HC.out, Below.refl _ _, rfl⟩
  ·have h9 : u 9 = .pointer (some ⟨w.heap.size, 2, none⟩) := hR ⟨6, .data⟩ (by simp) rfl
   have hc : w'.cell? ⟨w.heap.size, 2, none⟩ = some (.int .i64 y) := HC.out.1.cell 2
   clear hR; simp only [h9]; refine if_yes (by kernel_rfl) ?_; unfold Oper.wp; go_simp; exact ⟨.int .i64 y, rfl, HC.out, Below.refl _ _, rfl⟩
  ·have h10 : u 10 = .int .i64 y := hR ⟨7, .data⟩ (by simp) rfl; clear hR; simp only [h10]; refine if_yes (by kernel_rfl) ?_; unfold Oper.wp; go_simp
   refine (is_from y 16 256 _).mono ?_
   rintro e w2 ⟨rfl, hb2⟩
   exact ⟨.bool (fromB y 16 256), rfl, HC.out.call hb2, hb2, rfl⟩
  ·clear hR; refine if_yes (by kernel_rfl) ?_; unfold Oper.wp; go_simp; exact ⟨.pointer (some ⟨w.heap.size, 2, none⟩), rfl, HC.out, Below.refl _ _, rfl⟩
  ·have h12 : u 12 = .pointer (some ⟨w.heap.size, 2, none⟩) := hR ⟨9, .data⟩ (by simp) rfl
   have hc : w'.cell? ⟨w.heap.size, 2, none⟩ = some (.int .i64 y) := HC.out.1.cell 2
   clear hR; simp only [h12]; refine if_yes (by kernel_rfl) ?_; unfold Oper.wp; go_simp; exact ⟨.int .i64 y, rfl, HC.out, Below.refl _ _, rfl⟩
  ·have h13 : u 13 = .int .i64 y := hR ⟨10, .data⟩ (by simp) rfl; clear hR; simp only [h13]; refine if_yes (by kernel_rfl) ?_; unfold Oper.wp; go_simp; exact ⟨.int .i64 (y.tmod 8), rfl, HC.out, Below.refl _ _, rfl⟩
  ·have h14 : u 14 = .int .i64 (y.tmod 8) := hR ⟨11, .data⟩ (by simp) rfl; clear hR; simp only [h14]; refine if_yes (by kernel_rfl) ?_; unfold Oper.wp; go_simp
   exact ⟨_, rfl, HC.out, Below.refl _ _, congrArg Value.bool (by first | rfl | (rw [Bool.eq_iff_iff]; simp; done) | (rw [Bool.eq_iff_iff]; simp; omega))⟩
  ·clear hR; refine if_yes (by kernel_rfl) ?_; unfold Oper.wp; go_simp; exact ⟨.pointer (some ⟨w.heap.size, 4, none⟩), rfl, HC.out, Below.refl _ _, rfl⟩
  ·have h16 : u 16 = .pointer (some ⟨w.heap.size, 4, none⟩) := hR ⟨13, .data⟩ (by simp) rfl
   have hc : w'.cell? ⟨w.heap.size, 4, none⟩ = some (.int .i64 s) := HC.out.1.cell 4
   clear hR; simp only [h16]; refine if_yes (by kernel_rfl) ?_; unfold Oper.wp; go_simp; exact ⟨.int .i64 s, rfl, HC.out, Below.refl _ _, rfl⟩
  ·have h17 : u 17 = .int .i64 s := hR ⟨14, .data⟩ (by simp) rfl; clear hR; simp only [h17]; refine if_yes (by kernel_rfl) ?_; unfold Oper.wp; go_simp
   refine (is_from s 0 16 _).mono ?_
   rintro e w2 ⟨rfl, hb2⟩
   exact ⟨.bool (fromB s 0 16), rfl, HC.out.call hb2, hb2, rfl⟩
  ·clear hR; refine if_yes (by kernel_rfl) ?_; unfold Oper.wp; go_simp; exact ⟨.pointer (some ⟨w.heap.size, 4, none⟩), rfl, HC.out, Below.refl _ _, rfl⟩
  ·have h19 : u 19 = .pointer (some ⟨w.heap.size, 4, none⟩) := hR ⟨16, .data⟩ (by simp) rfl
   have hc : w'.cell? ⟨w.heap.size, 4, none⟩ = some (.int .i64 s) := HC.out.1.cell 4
   clear hR; simp only [h19]; refine if_yes (by kernel_rfl) ?_; unfold Oper.wp; go_simp; exact ⟨.int .i64 s, rfl, HC.out, Below.refl _ _, rfl⟩
  ·clear hR; refine if_yes (by kernel_rfl) ?_; unfold Oper.wp; go_simp; exact ⟨.pointer (some ⟨w.heap.size, 0, none⟩), rfl, HC.out, Below.refl _ _, rfl⟩
  ·have h21 : u 21 = .pointer (some ⟨w.heap.size, 0, none⟩) := hR ⟨18, .data⟩ (by simp) rfl
   have hc : w'.cell? ⟨w.heap.size, 0, none⟩ = some (.int .i64 b) := HC.out.1.cell 0
   clear hR; simp only [h21]; refine if_yes (by kernel_rfl) ?_; unfold Oper.wp; go_simp; exact ⟨.int .i64 b, rfl, HC.out, Below.refl _ _, rfl⟩
  ·have h22 : u 22 = .int .i64 b := hR ⟨19, .data⟩ (by simp) rfl; clear hR; simp only [h22]; refine if_yes (by kernel_rfl) ?_; unfold Oper.wp; go_simp; exact ⟨.int .i64 (IntKind.i64.wrap (b - 8)), rfl, HC.out, Below.refl _ _, rfl⟩
  ·have h20 : u 20 = .int .i64 s := hR ⟨17, .data⟩ (by simp) rfl; have h23 : u 23 = .int .i64 (IntKind.i64.wrap (b - 8)) := hR ⟨20, .data⟩ (by simp) rfl; clear hR; simp only [h20, h23]; refine if_yes (by kernel_rfl) ?_; unfold Oper.wp; go_simp
   exact ⟨_, rfl, HC.out, Below.refl _ _, congrArg Value.bool (by first | rfl | (rw [Bool.eq_iff_iff]; simp; done) | (rw [Bool.eq_iff_iff]; simp; omega))⟩
  ·clear hR; refine if_yes (by kernel_rfl) ?_; unfold Oper.wp; go_simp; exact ⟨.pointer (some ⟨w.heap.size, 5, none⟩), rfl, HC.out, Below.refl _ _, rfl⟩
  ·have h25 : u 25 = .pointer (some ⟨w.heap.size, 5, none⟩) := hR ⟨22, .data⟩ (by simp) rfl
   have hc : w'.cell? ⟨w.heap.size, 5, none⟩ = some (.int .i64 r) := HC.out.1.cell 5
   clear hR; simp only [h25]; refine if_yes (by kernel_rfl) ?_; unfold Oper.wp; go_simp; exact ⟨.int .i64 r, rfl, HC.out, Below.refl _ _, rfl⟩
  ·have h26 : u 26 = .int .i64 r := hR ⟨23, .data⟩ (by simp) rfl; clear hR; simp only [h26]; refine if_yes (by kernel_rfl) ?_; unfold Oper.wp; go_simp
   refine (is_from r 2 1000 _).mono ?_
   rintro e w2 ⟨rfl, hb2⟩
   exact ⟨.bool (fromB r 2 1000), rfl, HC.out.call hb2, hb2, rfl⟩
  ·clear hR; refine if_yes (by kernel_rfl) ?_; unfold Oper.wp; go_simp; exact ⟨.pointer (some ⟨w.heap.size, 3, none⟩), rfl, HC.out, Below.refl _ _, rfl⟩
  ·have h28 : u 28 = .pointer (some ⟨w.heap.size, 3, none⟩) := hR ⟨25, .data⟩ (by simp) rfl
   have hc : w'.cell? ⟨w.heap.size, 3, none⟩ = some (.int .i64 n) := HC.out.1.cell 3
   clear hR; simp only [h28]; refine if_yes (by kernel_rfl) ?_; unfold Oper.wp; go_simp; exact ⟨.int .i64 n, rfl, HC.out, Below.refl _ _, rfl⟩
  ·have h29 : u 29 = .int .i64 n := hR ⟨26, .data⟩ (by simp) rfl; clear hR; simp only [h29]; refine if_yes (by kernel_rfl) ?_; unfold Oper.wp; go_simp
   refine (is_from n 1 4096 _).mono ?_
   rintro e w2 ⟨rfl, hb2⟩
   exact ⟨.bool (fromB n 1 4096), rfl, HC.out.call hb2, hb2, rfl⟩
  ·clear hR; refine if_yes (by kernel_rfl) ?_; unfold Oper.wp; go_simp; exact ⟨.pointer (some ⟨w.heap.size, 3, none⟩), rfl, HC.out, Below.refl _ _, rfl⟩
  ·have h31 : u 31 = .pointer (some ⟨w.heap.size, 3, none⟩) := hR ⟨28, .data⟩ (by simp) rfl
   have hc : w'.cell? ⟨w.heap.size, 3, none⟩ = some (.int .i64 n) := HC.out.1.cell 3
   clear hR; simp only [h31]; refine if_yes (by kernel_rfl) ?_; unfold Oper.wp; go_simp; exact ⟨.int .i64 n, rfl, HC.out, Below.refl _ _, rfl⟩
  ·clear hR; refine if_yes (by kernel_rfl) ?_
   exact wp_load_row 23 (.tmp 1) rfl _ rfl 23 _ (0, 0) _ HC.out.1 Tryz.underlying23 rfl size_geo ⟨.agg (gv b l y n s r), rfl, HC.out, Below.refl _ _, rfl⟩
  ·have h33 : u 33 = .agg (gv b l y n s r) := hR ⟨30, .data⟩ (by simp) rfl; clear hR; simp only [h33]; refine if_yes (by kernel_rfl) ?_; unfold Oper.wp; go_simp
   refine (ge_most_any b l y n s r _).mono ?_
   rintro e w2 ⟨rfl, hb2⟩
   exact ⟨.int .i64 (mostW b l s), rfl, HC.out.call hb2, hb2, rfl⟩
  ·have h32 : u 32 = .int .i64 n := hR ⟨29, .data⟩ (by simp) rfl; have h34 : u 34 = .int .i64 (mostW b l s) := hR ⟨31, .data⟩ (by simp) rfl; clear hR; simp only [h32, h34]; refine if_yes (by kernel_rfl) ?_; unfold Oper.wp; go_simp
   exact ⟨_, rfl, HC.out, Below.refl _ _, congrArg Value.bool (by first | rfl | (rw [Bool.eq_iff_iff]; simp; done) | (rw [Bool.eq_iff_iff]; simp; omega))⟩
  ·clear hR; refine if_yes (by kernel_rfl) ?_
   exact wp_load_row 23 (.tmp 1) rfl _ rfl 23 _ (0, 0) _ HC.out.1 Tryz.underlying23 rfl size_geo ⟨.agg (gv b l y n s r), rfl, HC.out, Below.refl _ _, rfl⟩
  ·have h36 : u 36 = .agg (gv b l y n s r) := hR ⟨33, .data⟩ (by simp) rfl; clear hR; simp only [h36]; refine if_yes (by kernel_rfl) ?_; unfold Oper.wp; go_simp
   refine (ge_snaps_any b l y n s r _).mono ?_
   rintro e w2 ⟨rfl, hb2⟩
   exact ⟨.int .i64 (snapsW b y n), rfl, HC.out.call hb2, hb2, rfl⟩
  ·clear hR; refine if_yes (by kernel_rfl) ?_; unfold Oper.wp; go_simp; exact ⟨.pointer (some ⟨w.heap.size, 1, none⟩), rfl, HC.out, Below.refl _ _, rfl⟩
  ·have h38 : u 38 = .pointer (some ⟨w.heap.size, 1, none⟩) := hR ⟨35, .data⟩ (by simp) rfl
   have hc : w'.cell? ⟨w.heap.size, 1, none⟩ = some (.int .i64 l) := HC.out.1.cell 1
   clear hR; simp only [h38]; refine if_yes (by kernel_rfl) ?_; unfold Oper.wp; go_simp; exact ⟨.int .i64 l, rfl, HC.out, Below.refl _ _, rfl⟩
  ·have h39 : u 39 = .int .i64 l := hR ⟨36, .data⟩ (by simp) rfl; clear hR; simp only [h39]; refine if_yes (by kernel_rfl) ?_; unfold Oper.wp; go_simp; exact ⟨.int .i64 (IntKind.i64.wrap (l - 4)), rfl, HC.out, Below.refl _ _, rfl⟩
  ·have h37 : u 37 = .int .i64 (snapsW b y n) := hR ⟨34, .data⟩ (by simp) rfl; have h40 : u 40 = .int .i64 (IntKind.i64.wrap (l - 4)) := hR ⟨37, .data⟩ (by simp) rfl; clear hR; simp only [h37, h40]; refine if_yes (by kernel_rfl) ?_; unfold Oper.wp; go_simp
   exact ⟨_, rfl, HC.out, Below.refl _ _, congrArg Value.bool (by first | rfl | (rw [Bool.eq_iff_iff]; simp; done) | (rw [Bool.eq_iff_iff]; simp; omega))⟩
  ·have h5 : u 5 = .bool (fromB b 8 64) := hR ⟨2, .data⟩ (by simp) rfl; have h8 : u 8 = .bool (fromB l 6 64) := hR ⟨5, .data⟩ (by simp) rfl; have h11 : u 11 = .bool (fromB y 16 256) := hR ⟨8, .data⟩ (by simp) rfl; have h15 : u 15 = .bool (decide (y.tmod 8 = 0)) := hR ⟨12, .data⟩ (by simp) rfl; have h18 : u 18 = .bool (fromB s 0 16) := hR ⟨15, .data⟩ (by simp) rfl; have h24 : u 24 = .bool (decide (s ≤ IntKind.i64.wrap (b - 8))) := hR ⟨21, .data⟩ (by simp) rfl; have h27 : u 27 = .bool (fromB r 2 1000) := hR ⟨24, .data⟩ (by simp) rfl; have h30 : u 30 = .bool (fromB n 1 4096) := hR ⟨27, .data⟩ (by simp) rfl
   have h35 : u 35 = .bool (decide (n ≤ mostW b l s)) := hR ⟨32, .data⟩ (by simp) rfl; have h41 : u 41 = .bool (decide (snapsW b y n ≤ IntKind.i64.wrap (l - 4))) := hR ⟨38, .data⟩ (by simp) rfl; clear hR; simp only [h5, h8, h11, h15, h18, h24, h27, h30, h35, h41]; refine if_yes (by kernel_rfl) ?_; unfold Oper.wp; go_simp
   exact ⟨.slice (some ⟨w'.heap.size, 0, none⟩) 10 10, rfl, HC.out.call ((Below.refl _ _).alloc (Nat.le_refl _) _), (Below.refl _ _).alloc (Nat.le_refl _) _, ⟨w'.heap.size, _, rfl, Blk.new w' _ _⟩⟩
  ·obtain ⟨g, t, hg, hz⟩ := hR ⟨39, .data⟩ (by simp) rfl
   have hg : u 42 = .slice (some ⟨g, 0, none⟩) 10 10 := hg
   clear hR; refine if_yes (by kernel_rfl) ?_; simp only [hg]; unfold Oper.wp; go_simp
   refine (all_any g 10 (ckL b l y n s r) _ (by simp [ckL]) (bools_cell hz)).mono ?_
   rintro e w2 ⟨rfl, rfl⟩
   exact ⟨.bool (ckB b l y n s r), rfl, HC.out, Below.refl _ _, rfl⟩
  ·have h43 : u 43 = .bool (ckB b l y n s r) := hR ⟨40, .data⟩ (by simp) rfl; clear hR; simp only [h43]; refine if_yes (by kernel_rfl) ?_; unfold Oper.wp; go_simp; exact ⟨.bool (!ckB b l y n s r), rfl, HC.out, Below.refl _ _, rfl⟩
 ·intro a w' hC hB hR
  have h44 : a.tmps.getD 44 undef = .bool (!ckB b l y n s r) := hR 41 (by decide)
  clear hR
  have HE := Lib.hid hC.2
  clear hC
  obtain ⟨u, rfl⟩ := hB
  have h44 : u 44 = .bool (!ckB b l y n s r) := h44
  simp only [h44]; clear h44
  obtain ⟨c, hc⟩ : ∃ c, ckB b l y n s r = c := ⟨_, rfl⟩
  rw [hc] at HY HN ⊢
  clear hc
  cases c with
  | true =>
   have HZ := Lib.hid (HY.out rfl)
   clear HY HN
   go_wp2_with fail
   go_ret
   exact ⟨ret_int HZ.out.symm, HE.out⟩
  | false =>
   have HZ := Lib.hid (HN.out rfl)
   clear HY HN
   go_wp2_with fail
   go_ret
   exact ⟨ret_int HZ.out.symm, HE.out⟩
end Go.Proofs.YtalefbmoebobkaaGreatDoor
