/- The walks of the laws GeomNumbers, GeomBack. -/
import Derived.Test.YtejgdaekomdhlaaGeL1
namespace Go.Proofs.Ytejgdaekomdhlaa
set_option maxRecDepth 100000
open Go.RowKit

theorem wpList_eql_addr_if {ops : Array Oper} {rest : List Oper} {o : Oper} {a : Act} {w : World} {Q : Exit → Act → World → Prop} (hw : Region.wanted o (yielded ops a.tmps) = true) (x y : Operand) (ho : o.op = .binOp .eql 30 x y 30)
    (x1 z1 p1 x2 z2 p2 : Int) (hx : a.eval x = .agg (av x1 z1 p1)) (hy : a.eval y = .agg (av x2 z2 p2)) (h : wpList Try.prog ops Q rest (a.put o.dst (.bool (sameA x1 z1 p1 x2 z2 p2))) w) : wpList Try.prog ops Q (o :: rest) a w := by
  unfold wpList
  rw [if_pos hw]
  refine Or.inl ?_
  unfold Oper.wp execOp
  simp only [ho, hx, hy, Sem.run_bind, run_eqGuard_agg (P := Try.prog) w .eql 30 x y _ _ (by kernel_rfl), Result.andThen_ok, eq_addr]
  exact h
theorem wpList_neq_addr_if {ops : Array Oper} {rest : List Oper} {o : Oper} {a : Act} {w : World} {Q : Exit → Act → World → Prop} (hw : Region.wanted o (yielded ops a.tmps) = true) (x y : Operand) (ho : o.op = .binOp .neq 30 x y 30)
    (x1 z1 p1 x2 z2 p2 : Int) (hx : a.eval x = .agg (av x1 z1 p1)) (hy : a.eval y = .agg (av x2 z2 p2)) (h : wpList Try.prog ops Q rest (a.put o.dst (.bool (!sameA x1 z1 p1 x2 z2 p2))) w) : wpList Try.prog ops Q (o :: rest) a w := by
  unfold wpList
  rw [if_pos hw]
  refine Or.inl ?_
  unfold Oper.wp execOp
  simp only [ho, hx, hy, Sem.run_bind, run_eqGuard_agg (P := Try.prog) w .neq 30 x y _ _ (by kernel_rfl), Result.andThen_ok, ne_addr]
  exact h
theorem atA_av (b l y n s r t : Int) : ∃ x z p, atA b l y n s r t = av x z p := by
  unfold atA; split <;> exact ⟨_, _, _, rfl⟩
/-- the world while the laws go on: the geometry, the address, and what is below -/
def CN (w0 : World) (b l y n s r x z p : Int) (w : World) : Prop := Blk w w0.heap.size (gv b l y n s r) 23 ∧ Blk w (w0.heap.size + 1) (av x z p) 30 ∧ Below w0.heap.size w0 w
theorem CN.call {w0 w w' : World} {b l y n s r x z p : Int} (h : CN w0 b l y n s r x z p w) (hb : Below w.heap.size w w') : CN w0 b l y n s r x z p w' := ⟨h.1.after hb, h.2.1.after hb, h.2.2.trans (hb.mono h.2.2.size)⟩
theorem CN.start (w : World) (b l y n s r x z p : Int) : CN w b l y n s r x z p ((w.alloc (.cells (gv b l y n s r) 23)).alloc (.cells (av x z p) 30)) := by
  have h := Blk.new (w.alloc (.cells (gv b l y n s r) 23)) (av x z p) 30
  rw [World.size_alloc] at h
  exact ⟨(Blk.new w _ _).alloc _, h, ((Below.refl w.heap.size w).alloc (Nat.le_refl _) _).alloc (by simp) _⟩

set_option maxHeartbeats 1000000 in
set_option maxRecDepth 100000 in
theorem walkb_GeomNumbers (b l y n s r x z p t : Int) (ht : -9223372036854775808 ≤ t ∧ t ≤ 9223372036854775807) (w : World) :
    Calls Try.prog 4 #[.agg (gv b l y n s r), .agg (av x z p), .int .i64 t] w fun e w' => e = .returned (.bool true) ∧ Below w.heap.size w w' := by
  obtain ⟨a1, a2, a3, ha⟩ := atA_av b l y n s r t
  have HA := Lib.hid ha
  have HT := Lib.hid ht
  obtain ⟨nr, hnr⟩ : ∃ v, numR b l y n s r x z p = v := ⟨_, rfl⟩
  obtain ⟨nc, hnc⟩ : ∃ v, numC b l y n s r x z p = v := ⟨_, rfl⟩
  obtain ⟨ac, hac⟩ : ∃ v, atC b l y n s r t = v := ⟨_, rfl⟩
  have HNR := Lib.hid hnr
  have HNC := Lib.hid hnc
  have HAC := Lib.hid hac
  have HK0 := Lib.hid (CN.start w b l y n s r x z p)
  obtain ⟨w0, hw0⟩ : ∃ w0, (w.alloc (.cells (gv b l y n s r) 23)).alloc (.cells (av x z p) 30) = w0 := ⟨_, rfl⟩
  rw [hw0] at HK0
  have HW := Lib.hid hw0
  clear ha ht hnr hnc hac hw0
  go_enter Try.func4, Try.ntmps4
  go_wp2_with (first
    | (rw [HW.out]; refine wpList_load_row rfl 23 (.tmp 3) rfl w.heap.size rfl 23 (gv b l y n s r) (0, 0) _ HK0.out.1 Try.underlying23 rfl size_geo ?_)
    | (refine wpList_load_row rfl 30 (.tmp 4) rfl (w.heap.size + 1) rfl 30 (av x z p) (0, 0) _ HK0.out.2.1 Try.underlying30 rfl size_addr ?_))
  refine (ge_number b l y n s r x z p _).mono ?_
  rintro e w1 ⟨rfl, hb1⟩
  rw [HNR.out, HNC.out]
  have HK1 := Lib.hid (HK0.out.call hb1)
  clear hb1 HK0 HW
  go_wp2_with (first
    | (refine wpList_load_row rfl 23 (.tmp 3) rfl w.heap.size rfl 23 (gv b l y n s r) (0, 0) _ HK1.out.1 Try.underlying23 rfl size_geo ?_)
    | (refine wpList_load_row rfl 30 (.tmp 4) rfl (w.heap.size + 1) rfl 30 (av x z p) (0, 0) _ HK1.out.2.1 Try.underlying30 rfl size_addr ?_))
  refine (rge_number b l y n s r x z p _).mono ?_
  rintro e w2 ⟨rfl, hb2⟩
  rw [HNR.out, HNC.out]
  have HK2 := Lib.hid (HK1.out.call hb2)
  clear hb2 HK1
  go_wp2_with (refine wpList_load_row rfl 23 (.tmp 3) rfl w.heap.size rfl 23 (gv b l y n s r) (0, 0) _ HK2.out.1 Try.underlying23 rfl size_geo ?_)
  refine (ge_at b l y n s r t _ HT.out).mono ?_
  rintro e w3 ⟨rfl, hb3⟩
  rw [HA.out, HAC.out]
  have HK3 := Lib.hid (HK2.out.call hb3)
  clear hb3 HK2
  go_wp2_with (first
    | (refine wpList_store_row rfl 30 (.tmp 11) (.tmp 31) rfl w3.heap.size (av a1 a2 a3) rfl rfl 30 (av 0 0 0) (Blk.new w3 (av 0 0 0) 30) size_addr rfl (av_one _ _ _) ?_)
    | (refine wpList_load_row rfl 23 (.tmp 3) rfl w.heap.size rfl 23 (gv b l y n s r) (0, 0) _ ((HK3.out.1.alloc _).put_other (Nat.ne_of_gt HK3.out.1.lt) _) Try.underlying23 rfl size_geo ?_))
  have hs3 : Below w3.heap.size w3 ((w3.alloc (.cells (av 0 0 0) 30)).setRow w3.heap.size (av a1 a2 a3)) := below_put (Nat.le_refl _) _ ((Below.refl _ _).alloc (Nat.le_refl _) _)
  refine (rge_at b l y n s r t _ HT.out).mono ?_
  rintro e w4 ⟨rfl, hb4⟩
  rw [HA.out, HAC.out]
  have HK4 := Lib.hid ((HK3.out.call hs3).call hb4)
  have H11 := Lib.hid (((Blk.new w3 (av 0 0 0) 30).put (av a1 a2 a3)).after hb4)
  have hsame := sameA_self a1 a2 a3
  clear hb4 hs3 HK3
  generalize w3.heap.size = b11 at H11 ⊢
  have hs4 : Below w4.heap.size w4 ((w4.alloc (.cells (av 0 0 0) 30)).setRow w4.heap.size (av a1 a2 a3)) := below_put (Nat.le_refl _) _ ((Below.refl _ _).alloc (Nat.le_refl _) _)
  have HS4 := Lib.hid hs4
  clear hs4
  go_wp2_with (first
    | (refine wpList_store_row rfl 30 (.tmp 13) (.tmp 37) rfl w4.heap.size (av a1 a2 a3) rfl rfl 30 (av 0 0 0) (Blk.new w4 (av 0 0 0) 30) size_addr rfl (av_one _ _ _) ?_)
    | (refine wpList_load_row_if rfl 30 (.tmp 11) rfl b11 rfl 30 (av a1 a2 a3) (0, 0) _ (H11.out.after HS4.out) Try.underlying30 rfl size_addr ?_)
    | (refine wpList_load_row_if rfl 30 (.tmp 13) rfl w4.heap.size rfl 30 (av a1 a2 a3) (0, 0) _ ((Blk.new w4 (av 0 0 0) 30).put (av a1 a2 a3)) Try.underlying30 rfl size_addr ?_)
    | (refine wpList_eql_addr_if rfl (.tmp 48) (.tmp 49) rfl a1 a2 a3 a1 a2 a3 rfl rfl ?_))
  refine (works_any _).mono ?_
  rintro e w5 ⟨rfl, hb5⟩
  have HK5 := Lib.hid ((HK4.out.call HS4.out).call hb5)
  clear hb5 HK4 HS4 H11
  go_wp2_with fail
  go_ret
  exact ⟨rfl, HK5.out.2.2⟩

end Go.Proofs.Ytejgdaekomdhlaa
