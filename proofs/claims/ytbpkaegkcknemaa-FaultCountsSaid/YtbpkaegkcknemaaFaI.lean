/- The iterator of Ahead, walked: the faults of a row, one by one. -/
import Derived.Test.YtbpkaegkcknemaaFaC7
import Derived.Test.YtbpkaegkcknemaaRng
import Derived.RangeFuncBox
import Derived.OwnWalkIn
namespace Go.Proofs.Ytbpkaegkcknemaa
set_option maxRecDepth 100000
open Go.RowKit Go.Shelf Go.Proofs
attribute [local go_sem] Oper.semAt_some

theorem wpListIn_store_rowF {F : Fence} {n : Nat} {P : Program} {ops : Array Oper} {rest : List Oper} {o : Oper} {a : Act} {w : World} {Q : Exit → Act → World → Prop} (hgd : o.guard = none) (ty : TypeId) (x y : Operand) (ho : o.op = .store ty x y)
    (g : Nat) (cells : Array Value) (hx : a.eval x = .pointer (some ⟨g, 0, none⟩)) (hy : a.eval y = .agg cells)
    (t : TypeId) (old : Array Value) (hg : w.heap[g]? = some (.cells old t (0, 0))) (hi : (P.info? ty).map (·.size) = some cells.size)
    (hold : old.size = cells.size) (h1 : cells.all (·.oneCell') = true)
    (h : wpListIn F n P ops Q rest (a.put o.dst undef) (w.setRow g cells)) : wpListIn F n P ops Q (o :: rest) a w := by
  refine wpListIn_plain hgd fun K hK => ?_
  unfold Oper.wpIn
  refine ⟨?_, ?_⟩
  · simp [Oper.about, ho]
  · rw [Oper.semAt_plain F _ _ (by rw [ho]; intro c hc'; cases hc')]
    simp only [execOp, ho, hx, hy, Instr.storeAt, Instr.sureAddr, Sem.run_bind, Sem.run_pure, Result.andThen_ok, run_storeVar_row w g t ty old cells hg hi hold h1]
    exact hK _ _ h
theorem wpListIn_load_rowF {F : Fence} {n : Nat} {P : Program} {ops : Array Oper} {rest : List Oper} {o : Oper} {a : Act} {w : World} {Q : Exit → Act → World → Prop} (hgd : o.guard = none) (ty : TypeId) (x : Operand) (ho : o.op = .load ty x)
    (g : Nat) (hx : a.eval x = .pointer (some ⟨g, 0, none⟩)) (t : TypeId) (cs : Array Value) (fr : Nat × Nat) (d : TypeDesc) (hg : w.heap[g]? = some (.cells cs t fr))
    (hu : P.underlying ty = some d) (hd : (match d with | .struct _ | .array _ _ => true | _ => false) = true) (hi : (P.info? ty).map (·.size) = some cs.size)
    (h : wpListIn F n P ops Q rest (a.put o.dst (.agg cs)) w) : wpListIn F n P ops Q (o :: rest) a w := by
  refine wpListIn_plain hgd fun K hK => ?_
  unfold Oper.wpIn
  refine ⟨?_, ?_⟩
  · simp [Oper.about, ho]
  · rw [Oper.semAt_plain F _ _ (by rw [ho]; intro c hc'; cases hc')]
    simp only [execOp, ho, hx, Instr.loadAt, Instr.sureAddr, Sem.run_bind, Sem.run_pure, Result.andThen_ok, run_loadVar_row w g t ty cs fr d hg hu hd hi]
    exact hK _ _ h


theorem grown_of_belowF {W W' : World} (h : Below W.heap.size W W') : W.grownBy W' none := ⟨h.os, h.tape, h.output, h.size, fun k hk _ => h.block k hk⟩

set_option maxHeartbeats 4000000 in
theorem ahd_in (m : Nat) (hm : 1 ≤ m) (l B g : Nat) (L : List Fa) (hLn : L.length ≤ 1000000) (J Jx : List Fa → World → Prop) (W : World) (hA : AbidesFrom W.heap.size J)
    (hY : ∀ pre x W, J pre W → pre.length < L.length → YieldAt Fence.wide (m - 1) Try.prog l #[.agg (encF x).toArray] W fun e W' =>
      (e = .returned (.bool true) ∧ J (pre ++ [x]) W' ∧ KeepB [g] W W') ∨ (e = .returned (.bool false) ∧ Jx (pre ++ [x]) W'))
    (hat : AhdAt W B g L) (h0 : J [] W) :
    CallsIn Fence.wide m Try.prog 31 #[.func (.yield l) #[] #[], .pointer (some ⟨B, 0, none⟩)] W fun e W' => (∃ v, e = .returned v) ∧
      ((∃ ys, ys = L ∧ J ys W') ∨ (∃ pre, (∃ k, k ≤ L.length ∧ pre = L.take k) ∧ Jx pre W')) := by
  obtain ⟨oa, cap, hk, hrow⟩ := hat
  have hcb : W.cell? ⟨B, 0, none⟩ = some (.slice oa L.length cap) := hk.cell 0
  have HY := Lib.hid hY
  have HAB := Lib.hid hA
  have HROW := Lib.hid hrow
  obtain ⟨n, hn⟩ : ∃ n, L.length = n := ⟨_, rfl⟩
  have HN := Lib.hid hn
  rw [hn] at hcb hLn
  have HJ0 : Hid (J (L.take 0) W) := h0
  clear hY hA hrow hn hk h0
  refine callsIn_of_wp Try.func31 rfl trivial ?_ rfl
  simp only [Try.ntmps31, List.size_toArray, List.length_cons, List.length_nil, Nat.reduceAdd, Nat.reduceSub, Array.replicate_succ, Array.replicate_zero, List.push_toArray, List.append_toArray, List.nil_append, List.cons_append]
  gi_wp2
  gi_loopw [7] (fun i wr => ∃ k : Nat, k ≤ n ∧ i = .int .i64 k ∧ Hid (J (L.take k) wr) ∧ Hid (KeepB [g] W wr) ) (fun i _ => n - (intOf i).toNat)
  case atStart => exact ⟨0, Nat.zero_le _, rfl, HJ0, KeepB.refl _ _⟩
  case round =>
    clear HJ0
    obtain ⟨k, hk, rfl, HJ, HKB⟩ := hrel
    by_cases hlt : k < n
    · have hlti : (k : Int) < (n : Int) := by omega
      have hkl : k < L.length := by have := HN.out; omega
      obtain ⟨rfl, hfr⟩ := HROW.out (fun e => by rw [e] at hkl; simp at hkl)
      have hg : g < wr.heap.size := by
        have h := HKB.out g (by simp)
        rw [Array.getElem?_eq_getElem hfr.1] at h
        exact (Array.getElem?_eq_some_iff.1 h).1
      have hcells : ∀ j v, (encF L[k])[j]? = some v → wr.cell? ⟨g, k * 4 + j, none⟩ = some v := fun j v hj => (HKB.out.cell (by simp)).trans ((hfr.2 k hkl).1 j v hj)
      have htk : L.take (k + 1) = L.take k ++ [L[k]] := by rw [List.take_add_one, List.getElem?_eq_getElem hkl]; rfl
      have hpl : (L.take k).length < L.length := by rw [List.length_take]; omega
      generalize L[k] = x at hcells htk
      obtain ⟨x1, x2, x3, x4⟩ := x
      have c0 : wr.cell? ⟨g, k * 4, none⟩ = some (.int .i64 x1) := hcells 0 _ rfl
      have c1 : wr.cell? ⟨g, k * 4 + 1, none⟩ = some (.int .i64 x2) := hcells 1 _ rfl
      have c2 : wr.cell? ⟨g, k * 4 + 2, none⟩ = some (.int .i64 x3) := hcells 2 _ rfl
      have c3 : wr.cell? ⟨g, k * 4 + 3, none⟩ = some (.int .i64 x4) := hcells 3 _ rfl
      have hK0 : Blk (wr.alloc (.cells (encF f0).toArray 26)) wr.heap.size (encF f0).toArray 26 := Blk.new wr _ _
      obtain ⟨w2, hw2⟩ : ∃ w2, (wr.alloc (.cells (encF f0).toArray 26)).setRow wr.heap.size (encF (x1, x2, x3, x4)).toArray = w2 := ⟨_, rfl⟩
      have hK2 : Blk w2 wr.heap.size (encF (x1, x2, x3, x4)).toArray 26 := by rw [← hw2]; exact hK0.put _
      have hb2 : Below wr.heap.size wr w2 := by rw [← hw2]; exact below_put (Nat.le_refl _) _ ((Below.refl _ wr).alloc (Nat.le_refl _) _)
      have HJ2 : Hid (J (L.take k) w2) := HAB.out _ wr w2 none HJ.out (grown_of_belowF hb2) (fun r e => by cases e)
      have HKB2 : Hid (KeepB [g] W w2) := HKB.out.trans (KeepB.of_below hb2 (by simpa using hg))
      have K0 := Lib.hid hK0
      have K2 := Lib.hid hK2
      have HW := Lib.hid hw2
      have HTK := Lib.hid htk
      clear hcells htk hK0 hK2 hw2 hb2 HJ HKB hfr
      obtain ⟨fn, tmps, assign, body, hy, hR⟩ := HY.out (L.take k) (x1, x2, x3, x4) w2 HJ2.out hpl
      have HR := Lib.hid hR
      clear hpl hkl hR
      gi_wp2_with (first
        | (refine wpListIn_store_rowF rfl 26 (.tmp 4) (.tmp 10) rfl wr.heap.size (encF (x1, x2, x3, x4)).toArray rfl rfl 26 (encF f0).toArray K0.out size_fault rfl (encF_all _) ?_; change wpListIn _ _ _ _ _ _ _ ((wr.alloc (.cells (encF f0).toArray 26)).setRow wr.heap.size (encF (x1, x2, x3, x4)).toArray); rw [HW.out])
        | (refine wpListIn_load_rowF rfl 26 (.tmp 4) rfl wr.heap.size rfl 26 (encF (x1, x2, x3, x4)).toArray (0, 0) _ K2.out Try.underlying26 rfl size_fault ?_))
      refine HR.out.mono ?_
      rintro e W3 (⟨rfl, hJ3, hk3⟩ | ⟨rfl, hJx3⟩)
      · have HJ3 : Hid (J (L.take (k + 1)) W3) := by show J _ _; rw [HTK.out]; exact hJ3
        have HKB3 := Lib.hid (HKB2.out.trans hk3)
        clear hJ3 hk3 hy HR
        gi_wp2
        go_roundw
        case rel => exact ⟨k + 1, by omega, by go_num, HJ3, HKB3⟩
        case measure => simp [intOf]; omega
      · have HJX : Hid (Jx (L.take (k + 1)) W3) := by show Jx _ _; rw [HTK.out]; exact hJx3
        clear hJx3 hy HR
        gi_wp2
        refine bodyPost_ret (results_none rfl _ _ _) rfl ?_
        exact ⟨⟨_, rfl⟩, .inr ⟨_, ⟨k + 1, by have := HN.out; omega, rfl⟩, HJX.out⟩⟩
    · obtain rfl : k = n := by omega
      have hlti : ¬ (k : Int) < (k : Int) := by omega
      gi_wp2
      go_end0
      have h := HJ.out
      rw [show k = L.length from HN.out.symm, List.take_length] at h
      first | exact ⟨⟨_, rfl⟩, .inl h⟩ | exact ⟨⟨_, rfl⟩, .inl ⟨L, rfl, h⟩⟩

theorem ahd_stops (m : Nat) (hm : 1 ≤ m) (B g : Nat) (L : List Fa) (hLn : L.length ≤ 1000000) (w : World) (hat : AhdAt w B g L) :
    SeqStopsK Fence.wide m Try.prog 31 #[.pointer (some ⟨B, 0, none⟩)] (fun x : Fa => #[.agg (encF x).toArray]) (fun A B => Below w.heap.size A B)
      (fun ys => ys = L) (fun pre => ∃ k, k ≤ L.length ∧ pre = L.take k) L.length w := fun l J Jx W hW hA _ hY h0 => by
  have hat2 : AhdAt W B g L := by
    obtain ⟨oa, cap, hk, hrow⟩ := hat
    exact ⟨oa, cap, hk.below hW hk.lt, fun h => ⟨(hrow h).1, (hrow h).2.keep (hW.block g (hrow h).2.1) hW.size⟩⟩
  by_cases hL : L = []
  · subst hL
    exact ahd_in m hm l B g [] hLn J Jx W hA (fun pre x W hJ hl => absurd hl (Nat.not_lt_zero _)) hat2 h0
  · obtain ⟨oa, cap, hk, hrow⟩ := hat
    refine ahd_in m hm l B g L hLn J Jx W hA (fun pre x W hJ hl => ?_) hat2 h0
    obtain ⟨fn, tmps, assign, body, hy, hR⟩ := hY pre x W hJ hl
    refine ⟨fn, tmps, assign, body, hy, hR.mono ?_⟩
    rintro e W' (⟨h1, h2, h3⟩ | h)
    · exact .inl ⟨h1, h2, KeepB.of_below h3 (by simpa using (hrow hL).2.1)⟩
    · exact .inr h
theorem ahd_enters : ∀ args W, (callFunc 31 args).run Try.prog W = .ok (.enter 31 args) W := enters_of Try.func31 (by kernel_rfl) rfl

/-- what Ahead gives: an iterator over the faults, sorted -/
theorem fa_ahead_it (oa : Option Addr) (cap : Nat) (l : List Fa) (hl : l.length ≤ 1000000) (w : World) (ha : FsAt w oa l) :
    Calls Try.prog 12 #[.slice oa l.length cap] w fun e w' => ∃ (gf : Nat) (lb : Array Value) (L : List Fa), e = .returned (.func (.func gf) #[] lb) ∧ Below w.heap.size w w' ∧
      (∀ args W, (callFunc gf args).run Try.prog W = .ok (.enter gf args) W) ∧ Srt L ∧ St l L ∧ L.length = l.length ∧
      SeqStopsK Fence.wide 8 Try.prog gf lb (fun x : Fa => #[.agg (encF x).toArray]) (fun A B => Below w'.heap.size A B) (fun xs => xs = L) (fun pre => ∃ j, j ≤ L.length ∧ pre = L.take j) L.length w' := by
  refine (fa_ahead oa cap l hl w ha).mono ?_
  rintro e w' ⟨B, g, L, rfl, hat, hs, hst, hlen, _, hb⟩
  exact ⟨_, _, L, rfl, hb, ahd_enters, hs, hst, hlen, ahd_stops 8 (by decide) B g L (by omega) w' hat⟩

end Go.Proofs.Ytbpkaegkcknemaa
