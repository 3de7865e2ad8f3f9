/- The chapter's example of layer 6: the walk of works; two addresses compared. -/
import Derived.Test.YtejgdaekomdhlaaGeC1
import Derived.Laws.StructEq
namespace Go.Proofs.Ytejgdaekomdhlaa
set_option maxRecDepth 100000
open Go.RowKit

def sameA (x z p x' z' p' : Int) : Bool := x == x' && z == z' && p == p'
theorem sameA_self (x z p : Int) : sameA x z p x z p = true := by simp [sameA]
theorem sameA_iff (x z p x' z' p' : Int) : sameA x z p x' z' p' = true ↔ x = x' ∧ z = z' ∧ p = p' := by simp [sameA, and_assoc]
theorem fields_addr (x z p x' z' p' : Int) (w : World) : Sem.run Try.prog (Op.eqFields 9999 (av x z p) (av x' z' p') (Try.prog.fieldsOf 30).toList) w = .ok (sameA x z p x' z' p') w := by
  simp only [Program.fieldsOf, Try.underlying30]
  simp [Op.eqFields, av, part, isAgg, run_underlying Try.underlying3, run_equalIn_int _ _ _ _ _ _ _ Try.underlying3, sameA]
  by_cases h1 : x = x' <;> by_cases h2 : z = z' <;> by_cases h3 : p = p' <;> simp [h1, h2, h3]
theorem eq_addr (x z p x' z' p' : Int) (w : World) : Sem.run Try.prog (binOp .eql 30 (.agg (av x z p)) (.agg (av x' z' p'))) w = .ok (.bool (sameA x z p x' z' p')) w := by
  rw [run_eql_struct, run_equalIn_agg _ _ _ _ _ (by kernel_rfl) (by kernel_rfl), fields_addr]
  rfl
theorem ne_addr (x z p x' z' p' : Int) (w : World) : Sem.run Try.prog (binOp .neq 30 (.agg (av x z p)) (.agg (av x' z' p'))) w = .ok (.bool (!sameA x z p x' z' p')) w := by
  rw [run_neq_struct, run_equalIn_agg _ _ _ _ _ (by kernel_rfl) (by kernel_rfl), fields_addr]
  rfl

def CK (w0 : World) (g : Nat) (b l y n s r : Int) (w : World) : Prop := Blk w g (gv b l y n s r) 23 ∧ Below w0.heap.size w0 w
theorem CK.call {w0 w w' : World} {g : Nat} {b l y n s r : Int} (h : CK w0 g b l y n s r w) (hb : Below w.heap.size w w') : CK w0 g b l y n s r w' := ⟨h.1.after hb, h.2.trans (hb.mono h.2.size)⟩

set_option maxHeartbeats 1000000 in
set_option maxRecDepth 100000 in
theorem works_any (w : World) : Calls Try.prog 10 #[] w fun e w' => e = .returned (.bool true) ∧ Below w.heap.size w w' := by
  have hok : OkG 9 10 64 20 1 4 := by decide
  have HOK := Lib.hid hok
  have HCH : Hid (chkG 9 10 64 20 1 4 = 0) := chk_ok hok
  have HC2 : Hid (chkG 0 0 0 0 0 0 = 60) := chk_no (by decide)
  have HN := Lib.hid (num_ok (x := 1) (z := 2) (p := 1) hok (by decide))
  have HS : Hid (snapsG 9 64 20 = 4) := by show snapsG 9 64 20 = 4; decide
  have HM : Hid (mostG 9 10 1 = 30) := by show mostG 9 10 1 = 30; decide
  have HR : Hid (rawG 64 = 99) := by show rawG 64 = 99; decide
  have HG : Hid (numG 10 1 2 1 = 37) := by show numG 10 1 2 1 = 37; decide
  clear hok
  go_enter Try.func10, Try.ntmps10
  go_wp2_with (first
    | (refine wpList_store_row rfl 23 (.tmp 1) (.tmp 4) rfl w.heap.size (gv 9 10 64 20 1 4) rfl rfl 23 (gv 0 0 0 0 0 0) (Blk.new w (gv 0 0 0 0 0 0) 23) size_geo rfl (gv_one _ _ _ _ _ _) ?_)
    | (refine wpList_load_row rfl 23 (.tmp 1) rfl w.heap.size rfl 23 (gv 9 10 64 20 1 4) (0, 0) _ ((Blk.new w (gv 0 0 0 0 0 0) 23).put (gv 9 10 64 20 1 4)) Try.underlying23 rfl size_geo ?_))
  refine (ge_number 9 10 64 20 1 4 1 2 1 _).mono ?_
  rintro e w1 ⟨rfl, hb1⟩
  rw [HN.out.1, HN.out.2, HG.out]
  have HK1 : Hid (CK w w.heap.size 9 10 64 20 1 4 w1) := ⟨((Blk.new w (gv 0 0 0 0 0 0) 23).put (gv 9 10 64 20 1 4)).after hb1, (below_put (Nat.le_refl _) _ ((Below.refl _ _).alloc (Nat.le_refl _) _)).trans (hb1.mono (by rw [size_setRow]; simp))⟩
  clear hb1
  go_wp2_with (first
    | (refine wpList_load_row rfl 23 (.tmp 1) rfl w.heap.size rfl 23 (gv 9 10 64 20 1 4) (0, 0) _ HK1.out.1 Try.underlying23 rfl size_geo ?_)
    | (refine wpList_load_row_if rfl 23 (.tmp 1) rfl w.heap.size rfl 23 (gv 9 10 64 20 1 4) (0, 0) _ HK1.out.1 Try.underlying23 rfl size_geo ?_))
  refine (ge_check 9 10 64 20 1 4 _).mono ?_
  rintro e w2 ⟨rfl, hb2⟩
  rw [HCH.out]
  have HK2 := Lib.hid (HK1.out.call hb2)
  clear hb2 HK1
  go_wp2_with (first
    | (refine wpList_load_row rfl 23 (.tmp 1) rfl w.heap.size rfl 23 (gv 9 10 64 20 1 4) (0, 0) _ HK2.out.1 Try.underlying23 rfl size_geo ?_)
    | (refine wpList_load_row_if rfl 23 (.tmp 1) rfl w.heap.size rfl 23 (gv 9 10 64 20 1 4) (0, 0) _ HK2.out.1 Try.underlying23 rfl size_geo ?_))
  refine (ge_snaps 9 10 64 20 1 4 _ HOK.out).mono ?_
  rintro e w3 ⟨rfl, hb3⟩
  rw [HS.out]
  have HK3 := Lib.hid (HK2.out.call hb3)
  clear hb3 HK2
  go_wp2_with (first
    | (refine wpList_load_row rfl 23 (.tmp 1) rfl w.heap.size rfl 23 (gv 9 10 64 20 1 4) (0, 0) _ HK3.out.1 Try.underlying23 rfl size_geo ?_)
    | (refine wpList_load_row_if rfl 23 (.tmp 1) rfl w.heap.size rfl 23 (gv 9 10 64 20 1 4) (0, 0) _ HK3.out.1 Try.underlying23 rfl size_geo ?_))
  refine (ge_most 9 10 64 20 1 4 _ HOK.out).mono ?_
  rintro e w4 ⟨rfl, hb4⟩
  rw [HM.out]
  have HK4 := Lib.hid (HK3.out.call hb4)
  clear hb4 HK3
  go_wp2_with (first
    | (refine wpList_load_row rfl 23 (.tmp 1) rfl w.heap.size rfl 23 (gv 9 10 64 20 1 4) (0, 0) _ HK4.out.1 Try.underlying23 rfl size_geo ?_)
    | (refine wpList_load_row_if rfl 23 (.tmp 1) rfl w.heap.size rfl 23 (gv 9 10 64 20 1 4) (0, 0) _ HK4.out.1 Try.underlying23 rfl size_geo ?_))
  refine (ge_raw 9 10 64 20 1 4 _ HOK.out).mono ?_
  rintro e w5 ⟨rfl, hb5⟩
  rw [HR.out]
  have HK5 := Lib.hid (HK4.out.call hb5)
  clear hb5 HK4
  go_wp2_with (first
    | (refine wpList_load_row rfl 23 (.tmp 1) rfl w.heap.size rfl 23 (gv 9 10 64 20 1 4) (0, 0) _ HK5.out.1 Try.underlying23 rfl size_geo ?_)
    | (refine wpList_load_row_if rfl 23 (.tmp 1) rfl w.heap.size rfl 23 (gv 9 10 64 20 1 4) (0, 0) _ HK5.out.1 Try.underlying23 rfl size_geo ?_))
  refine (ge_check 0 0 0 0 0 0 _).mono ?_
  rintro e w6 ⟨rfl, hb6⟩
  rw [HC2.out]
  have HK6 := Lib.hid (HK5.out.call hb6)
  clear hb6 HK5
  go_wp2_with fail
  go_ret
  exact ⟨rfl, HK6.out.2⟩

end Go.Proofs.Ytejgdaekomdhlaa
