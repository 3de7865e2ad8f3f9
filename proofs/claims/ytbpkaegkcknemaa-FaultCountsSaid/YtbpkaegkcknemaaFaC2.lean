/- Package fault, walked: slices of faults; which of them an operation meets. -/
import Derived.Test.YtbpkaegkcknemaaFaC1
import Derived.Lib.SliceRun
namespace Go.Proofs.Ytbpkaegkcknemaa
set_option maxRecDepth 100000
open Go.RowKit Go.Shelf Go.Proofs

/-- a slice of faults, wherever it lies -/
def FsAt (w : World) (oa : Option Addr) (l : List Fa) : Prop := l ≠ [] → ∃ b off, oa = some ⟨b, off, none⟩ ∧ b < w.heap.size ∧ ∀ i (hi : i < l.length), w.rangeAt b (off + i * 4) (encF l[i])
theorem FsAt.below {w w' : World} {oa : Option Addr} {l : List Fa} (h : FsAt w oa l) (hb : Below w.heap.size w w') : FsAt w' oa l := by
  intro hl
  obtain ⟨b, off, ho, hlt, hc⟩ := h hl
  refine ⟨b, off, ho, Nat.lt_of_lt_of_le hlt hb.size, fun i hi j v hj => ?_⟩
  rw [World.cell?_of_block (w := w) (hb.block b hlt)]
  exact hc i hi j v hj
theorem FsAt.nil (w : World) (oa : Option Addr) : FsAt w oa [] := fun h => absurd rfl h
theorem size_fault : (Try.prog.info? 26).map (·.size) = some 4 := by kernel_rfl
theorem encF_all (x : Fa) : (encF x).toArray.all (·.oneCell') = true := by
  rw [Array.all_eq_true_iff_forall_mem]
  intro v hv
  exact encF_one x v (by simpa using hv)
def f0 : Fa := (0, 0, 0, 0)

def hitB (t op : Int) (x : Fa) : Bool := decide (x.1 = t) && fitsB x.2.1 op
theorem pred_meets (t op : Int) (B1 B2 : Nat) (w : World) (h1 : B1 < w.heap.size) (h2 : B2 < w.heap.size) (c1 : w.cell? ⟨B1, 0, none⟩ = some (.int .i64 t)) (c2 : w.cell? ⟨B2, 0, none⟩ = some (.int .i64 op)) :
    PredBelow Try.prog 20 #[.pointer (some ⟨B1, 0, none⟩), .pointer (some ⟨B2, 0, none⟩)] (fun x => .agg (encF x).toArray) (hitB t op) w := fun W x hb => by
  obtain ⟨x1, x2, x3, x4⟩ := x
  have d1 : W.cell? ⟨B1, 0, none⟩ = some (.int .i64 t) := (hb.cell (p := ⟨B1, 0, none⟩) h1).trans c1
  have d2 : W.cell? ⟨B2, 0, none⟩ = some (.int .i64 op) := (hb.cell (p := ⟨B2, 0, none⟩) h2).trans c2
  have l1 : B1 < W.heap.size := Nat.lt_of_lt_of_le h1 hb.size
  have l2 : B2 < W.heap.size := Nat.lt_of_lt_of_le h2 hb.size
  have n1 : B1 ≠ W.heap.size := by omega
  have n2 : B2 ≠ W.heap.size := by omega
  have HB : Hid (Below w.heap.size w W) := hb
  unfold hitB
  show Calls Try.prog 20 #[.agg #[.int .i64 x1, .int .i64 x2, .int .i64 x3, .int .i64 x4], .pointer (some ⟨B1, 0, none⟩), .pointer (some ⟨B2, 0, none⟩)] W _
  clear c1 c2 h1 h2 hb
  by_cases ht : x1 = t
  · have htb : (x1 == t) = true := by simpa using ht
    have htd : decide (x1 = t) = true := by simpa using ht
    have HT : Hid (x1 = t) := ht
    simp only [htd]
    clear ht
    go_enter Try.func20, Try.ntmps20
    go_wp2_with fail
    refine (fa_fits _ _ _).mono ?_
    rintro r w1 ⟨rfl, rfl⟩
    go_wp2_with fail
    go_ret
    exact ⟨by simp, HB.out.alloc HB.out.size _⟩
  · have htb : (x1 == t) = false := by simpa using ht
    have htd : decide (x1 = t) = false := by simpa using ht
    simp only [htd]
    go_enter Try.func20, Try.ntmps20
    go_wp2
    go_ret
    exact ⟨by simp, HB.out.alloc HB.out.size _⟩

theorem idx_find (p : Fa → Bool) (l : List Fa) : (l.find? p = none ∧ Lib.idxBy (fun _ y => p y) (l.take l.length) default = -1) ∨ ∃ j, ∃ hj : j < l.length, l.find? p = some l[j] ∧ p l[j] = true ∧ Lib.idxBy (fun _ y => p y) (l.take l.length) default = (j : Int) := by
  cases h : l.find? p with
  | none =>
    refine Or.inl ⟨rfl, Lib.idxBy_miss (fun _ y => p y) l l.length default fun j hj => ?_⟩
    have := List.find?_eq_none.1 h l[j] (List.getElem_mem hj)
    rw [getElem!_pos l j hj]
    simpa using this
  | some b =>
    obtain ⟨h1, j, hj, hb, hm⟩ := List.find?_eq_some_iff_getElem.1 h
    refine Or.inr ⟨j, hj, by rw [hb], by rw [hb]; exact h1, Lib.idxBy_hit (fun _ y => p y) l l.length j default hj (Nat.le_refl _) ?_ fun i hi => ?_⟩
    · show p l[j]! = true
      rw [getElem!_pos l j hj, hb]; exact h1
    · show p l[i]! = false
      rw [getElem!_pos l i (by omega)]
      simpa using hm i hi

/-- what an operation meets -/
def meetF (l : List Fa) (t op : Int) : Option Fa := l.find? (hitB t op)
def meetV (o : Option Fa) : Array Value := #[.agg (encF (o.getD f0)).toArray, .bool o.isSome]

/-- slices.IndexFunc of these faults, the empty slice too -/
theorem fa_index (p : Fa → Bool) (g : Nat) (lb : Array Value) (eg : ∀ args w, (callFunc g args).run Try.prog w = .ok (.enter g args) w) (oa : Option Addr) (cap : Nat) (l : List Fa) (hl : l.length ≤ maxLen) (w : World) (ha : FsAt w oa l)
    (hp : PredBelow Try.prog g lb (fun x => .agg (encF x).toArray) p w) :
    Calls Try.prog 19 #[.slice oa l.length cap, .func (.func g) #[] lb] w fun e w' => e = .returned (.int .i64 (Lib.idxBy (fun _ y => p y) (l.take l.length) default)) ∧ Below w.heap.size w w' := by
  by_cases h0 : l = []
  · subst h0
    show Calls Try.prog _ #[.slice oa 0 cap, .func (.func g) #[] lb] w fun e w' => e = .returned (.int .i64 (-1)) ∧ Below w.heap.size w w'
    clear ha hp
    go_enter Try.func19, Try.ntmps19
    go_wp2
    refine wp_loop_rounds 1 ?_
    rw [rounds_succ]
    go_wp2
    go_ret
    exact ⟨rfl, Below.refl _ _⟩
  · obtain ⟨b, off, rfl, hb, hc⟩ := ha h0
    have h := AnyQ.slices_IndexFunc Try.idxf 4 Try.isAgg26 Try.sizeOf26 encF encF_len p g lb eg b off l.length cap l w hp (Nat.le_refl _) (by unfold maxLen at hl; omega) hb (fun j hj i v hv => by
      rw [getElem!_pos l j hj] at hv
      exact hc j hj i v hv)
    exact h

set_option maxHeartbeats 1000000 in
theorem fa_meets (oa : Option Addr) (cap : Nat) (l : List Fa) (hl : l.length ≤ maxLen) (t op : Int) (w : World) (ha : FsAt w oa l) :
    Calls Try.prog 8 #[.slice oa l.length cap, .int .i64 t, .int .i64 op] w fun e w' => e = .returned (.tuple (meetV (meetF l t op))) ∧ Below w.heap.size w w' := by
  have eg : ∀ args w, (callFunc 20 args).run Try.prog w = .ok (.enter 20 args) w := enters_of Try.func20 (by kernel_rfl) rfl
  obtain ⟨w3, hw3⟩ : ∃ w3, ((w.alloc (.cells #[.int .i64 t] 3)).alloc (.cells #[.int .i64 op] 3)).alloc (.cells (encF f0).toArray 26) = w3 := ⟨_, rfl⟩
  have b3 : Below w.heap.size w w3 := by rw [← hw3]; exact (((Below.refl _ w).alloc (Nat.le_refl _) _).alloc (by simp) _).alloc (by simp; omega) _
  have k3 : Blk w3 (w.heap.size + 1 + 1) (encF f0).toArray 26 := by
    rw [← hw3]
    have := Blk.new ((w.alloc (.cells #[.int .i64 t] 3)).alloc (.cells #[.int .i64 op] 3)) (encF f0).toArray 26
    simpa using this
  have k1 : Blk w3 w.heap.size #[.int .i64 t] 3 := by rw [← hw3]; exact ((Blk.new w _ _).alloc _).alloc _
  have k2 : Blk w3 (w.heap.size + 1) #[.int .i64 op] 3 := by
    rw [← hw3]
    have := (Blk.new (w.alloc (.cells #[.int .i64 t] 3)) #[.int .i64 op] 3).alloc (.cells (encF f0).toArray 26)
    simpa using this
  have hp := pred_meets t op w.heap.size (w.heap.size + 1) w3 k1.lt k2.lt (k1.cell 0) (k2.cell 0)
  have hcon := fa_index (hitB t op) 20 _ eg oa cap l hl w3 (ha.below b3) hp
  have B3 := Lib.hid b3
  have K3 := Lib.hid k3
  have HW := Lib.hid hw3
  have HA := Lib.hid ha
  have hl2 : (l.length : Int) ≤ 9223372036854775807 := by unfold maxLen at hl; omega
  clear b3 k3 k1 k2 hw3 ha hp eg hl
  unfold meetF
  rcases idx_find (hitB t op) l with ⟨hn, hi⟩ | ⟨j, hj, hn, _, hi⟩
  · rw [hi] at hcon
    rw [hn]
    clear hi hn
    go_enter Try.func8, Try.ntmps8
    go_wp2_with fail
    change Calls _ _ _ (((w.alloc (.cells #[.int .i64 t] 3)).alloc (.cells #[.int .i64 op] 3)).alloc (.cells (encF f0).toArray 26)) _
    rw [HW.out]
    refine hcon.mono ?_
    rintro r w4 ⟨rfl, hb4⟩
    have HB4 := Lib.hid (B3.out.trans (hb4.mono B3.out.size))
    have K4 := Lib.hid (K3.out.after hb4)
    clear hb4 hcon
    go_wp2_with (refine wpList_store_row rfl 26 (.tmp 6) (.tmp 14) rfl (w.heap.size + 1 + 1) (encF f0).toArray rfl rfl 26 (encF f0).toArray K4.out size_fault rfl (encF_all _) ?_)
    exact bodyPost_ret (results_cell_tmp (P := Try.prog) rfl _ _ (w.heap.size + 1 + 1) 26 (encF f0).toArray _ rfl (K4.out.put _) Try.underlying26 rfl size_fault) rfl ⟨rfl, below_put (by omega) _ HB4.out⟩
  · rw [hi] at hcon
    rw [hn]
    have hl0 : l ≠ [] := fun e => by rw [e] at hj; exact absurd hj (Nat.not_lt_zero j)
    obtain ⟨b, off, rfl, hb, hc⟩ := HA.out hl0
    have hr : w.rangeAt b (off + j * 4) (encF l[j]) := hc j hj
    obtain ⟨n, hn2⟩ : ∃ n, l.length = n := ⟨_, rfl⟩
    rw [hn2] at hj hcon hl2 ⊢
    have hji : (j : Int) < (n : Int) := by omega
    generalize l[j] = x at hr ⊢
    have HR := Lib.hid hr
    have HN := Lib.hid hn2
    clear hi hn hc hr hn2 hl0 HA
    go_enter Try.func8, Try.ntmps8
    go_wp2_with fail
    change Calls _ _ _ (((w.alloc (.cells #[.int .i64 t] 3)).alloc (.cells #[.int .i64 op] 3)).alloc (.cells (encF f0).toArray 26)) _
    rw [HW.out]
    refine hcon.mono ?_
    rintro r w4 ⟨rfl, hb4⟩
    have HB4 := Lib.hid (B3.out.trans (hb4.mono B3.out.size))
    have K4 := Lib.hid (K3.out.after hb4)
    have HR4 : Hid (w4.rangeAt b (off + j * 4) (encF x)) := fun i v hv => by
      rw [World.cell?_of_block (w := w) (HB4.out.block b hb)]; exact HR.out i v hv
    clear hb4 hcon
    go_wp2_with (first
      | (refine wpList_load_mid rfl 26 (.tmp 17) rfl b (off + j * 4) rfl (encF x) _ HR4.out Try.underlying26 rfl size_fault ?_)
      | (refine wpList_store_row rfl 26 (.tmp 6) (.tmp 18) rfl (w.heap.size + 1 + 1) (encF x).toArray rfl rfl 26 (encF f0).toArray K4.out size_fault rfl (encF_all _) ?_))
    exact bodyPost_ret (results_cell_tmp (P := Try.prog) rfl _ _ (w.heap.size + 1 + 1) 26 (encF x).toArray _ rfl (K4.out.put _) Try.underlying26 rfl size_fault) rfl ⟨rfl, below_put (by omega) _ HB4.out⟩

end Go.Proofs.Ytbpkaegkcknemaa
