/- The walk of the law GeomBack. -/
import Derived.Test.YtejgdaekomdhlaaGeL2
namespace Go.Proofs.Ytejgdaekomdhlaa
set_option maxRecDepth 100000
open Go.RowKit

theorem num_else {b l y n s r x z p : Int} (h : ¬ (OkG b l y n s r ∧ HasG b l x z p)) : numC b l y n s r x z p = 1 ∨ numC b l y n s r x z p = 60 := by
  by_cases h1 : OkG b l y n s r
  · exact Or.inl (num_none h1 (fun h2 => h ⟨h1, h2⟩)).2
  · exact Or.inr (num_geo h1).2
theorem at_else {b l y n s r t : Int} (h : ¬ (OkG b l y n s r ∧ IsPage b l t)) : atA b l y n s r t = av 0 0 0 ∧ (atC b l y n s r t = 1 ∨ atC b l y n s r t = 60) := by
  by_cases h1 : OkG b l y n s r
  · have h3 := at_none (t := t) h1 (fun h2 => h ⟨h1, h2⟩)
    exact ⟨h3.1, Or.inl h3.2⟩
  · have h3 := at_geo (t := t) h1
    exact ⟨h3.1, Or.inr h3.2⟩
theorem bl_bd {b l y n s r : Int} (h : OkG b l y n s r) : 0 ≤ b * l ∧ b * l ≤ 4096 ∧ 6 ≤ l := by
  obtain ⟨⟨h1, h2, h3, h4, _⟩, _⟩ := h
  have := mul_bd (a := b) (c := l) (A := 64) (C := 64) (by omega) (by omega) (by omega) (by omega)
  omega
/-- the address of an address's number -/
theorem back_at {b l y n s r x z p : Int} (h : OkG b l y n s r) (h2 : HasG b l x z p) : atA b l y n s r (numG l x z p) = av x z p ∧ atC b l y n s r (numG l x z p) = 0 ∧ -9223372036854775808 ≤ numG l x z p ∧ numG l x z p ≤ 9223372036854775807 := by
  have hn := num_lt h2
  have hb := bl_bd h
  have ha := at_ok (t := numG l x z p) h hn
  have hl := num_line (x := x) h2.2.2.1 h2.2.2.2.1 h2.2.2.2.2.1 h2.2.2.2.2.2
  rw [hl.1, hl.2.1, hl.2.2] at ha
  exact ⟨ha.1, ha.2, by omega, by omega⟩
/-- the number of a number's address -/
theorem back_num {b l y n s r t : Int} (h : OkG b l y n s r) (h2 : IsPage b l t) : ∃ x z p, atA b l y n s r t = av x z p ∧ numR b l y n s r x z p = t ∧ numC b l y n s r x z p = 0 := by
  have hb := bl_bd h
  have hh := at_has (b := b) (by omega : 0 < l) h2.1 h2.2
  have hn := num_ok h hh.1
  exact ⟨_, _, _, (at_ok h h2).1, hn.1.trans hh.2, hn.2⟩
theorem wpList_eql_addr {ops : Array Oper} {rest : List Oper} {o : Oper} {a : Act} {w : World} {Q : Exit → Act → World → Prop} (hgd : o.guard = none) (x y : Operand) (ho : o.op = .binOp .eql 30 x y 30)
    (x1 z1 p1 x2 z2 p2 : Int) (hx : a.eval x = .agg (av x1 z1 p1)) (hy : a.eval y = .agg (av x2 z2 p2)) (h : wpList Try.prog ops Q rest (a.put o.dst (.bool (sameA x1 z1 p1 x2 z2 p2))) w) : wpList Try.prog ops Q (o :: rest) a w :=
  wpList_plain hgd fun _ hK => by
    unfold Oper.wp execOp
    simp only [ho, hx, hy, Sem.run_bind, run_eqGuard_agg (P := Try.prog) w .eql 30 x y _ _ (by kernel_rfl), Result.andThen_ok, eq_addr]
    exact hK _ _ h

set_option maxHeartbeats 2000000 in
set_option maxRecDepth 100000 in
theorem walkb_GeomBack (b l y n s r x z p t : Int) (ht : -9223372036854775808 ≤ t ∧ t ≤ 9223372036854775807) (w : World) :
    Calls Try.prog 5 #[.agg (gv b l y n s r), .agg (av x z p), .int .i64 t] w fun e w' => e = .returned (.bool true) ∧ Below w.heap.size w w' := by
  have HT := Lib.hid ht
  have HK0 := Lib.hid (CN.start w b l y n s r x z p)
  obtain ⟨w0, hw0⟩ : ∃ w0, (w.alloc (.cells (gv b l y n s r) 23)).alloc (.cells (av x z p) 30) = w0 := ⟨_, rfl⟩
  rw [hw0] at HK0
  have HW := Lib.hid hw0
  have hsame := sameA_self x z p
  have hsame0 := sameA_self 0 0 0
  clear ht hw0
  go_enter Try.func5, Try.ntmps5
  go_wp2_with fail
  rw [HW.out]
  refine (works_any _).mono ?_
  rintro e w1 ⟨rfl, hb1⟩
  have HK1 := Lib.hid (HK0.out.call hb1)
  clear hb1 HK0 HW
  go_wp2_with (first
    | (refine wpList_load_row rfl 23 (.tmp 3) rfl w.heap.size rfl 23 (gv b l y n s r) (0, 0) _ HK1.out.1 Try.underlying23 rfl size_geo ?_)
    | (refine wpList_load_row rfl 30 (.tmp 4) rfl (w.heap.size + 1) rfl 30 (av x z p) (0, 0) _ HK1.out.2.1 Try.underlying30 rfl size_addr ?_))
  refine (ge_number b l y n s r x z p _).mono ?_
  rintro e w2 ⟨rfl, hb2⟩
  have HK2 := Lib.hid (HK1.out.call hb2)
  clear hb2 HK1
  obtain ⟨nr, hnr⟩ : ∃ v, numR b l y n s r x z p = v := ⟨_, rfl⟩
  by_cases hN : OkG b l y n s r ∧ HasG b l x z p
  · have hno := num_ok hN.1 hN.2
    have hba := back_at hN.1 hN.2
    rw [hno.1, hno.2]
    obtain ⟨v, hv⟩ : ∃ v, numG l x z p = v := ⟨_, rfl⟩
    rw [hv] at hba ⊢
    have HBA := Lib.hid hba
    clear hno hba hv hN hnr
    go_wp2_with (refine wpList_load_row rfl 23 (.tmp 3) rfl w.heap.size rfl 23 (gv b l y n s r) (0, 0) _ HK2.out.1 Try.underlying23 rfl size_geo ?_)
    refine (ge_at b l y n s r v _ HBA.out.2.2).mono ?_
    rintro e w3 ⟨rfl, hb3⟩
    rw [HBA.out.1, HBA.out.2.1]
    have HK3 := Lib.hid (HK2.out.call hb3)
    clear hb3 HK2 HBA
    have hs3 : Below w3.heap.size w3 ((w3.alloc (.cells (av 0 0 0) 30)).setRow w3.heap.size (av x z p)) := below_put (Nat.le_refl _) _ ((Below.refl _ _).alloc (Nat.le_refl _) _)
    have HS3 := Lib.hid hs3
    clear hs3
    go_wp2_with (first
      | (refine wpList_store_row rfl 30 (.tmp 9) (.tmp 29) rfl w3.heap.size (av x z p) rfl rfl 30 (av 0 0 0) (Blk.new w3 (av 0 0 0) 30) size_addr rfl (av_one _ _ _) ?_)
      | (refine wpList_load_row_if rfl 30 (.tmp 9) rfl w3.heap.size rfl 30 (av x z p) (0, 0) _ ((Blk.new w3 (av 0 0 0) 30).put (av x z p)) Try.underlying30 rfl size_addr ?_)
      | (refine wpList_load_row_if rfl 30 (.tmp 4) rfl (w.heap.size + 1) rfl 30 (av x z p) (0, 0) _ (HK3.out.2.1.after HS3.out) Try.underlying30 rfl size_addr ?_)
      | (refine wpList_neq_addr_if rfl (.tmp 34) (.tmp 35) rfl x z p x z p rfl rfl ?_)
      | (refine wpList_load_row rfl 23 (.tmp 3) rfl w.heap.size rfl 23 (gv b l y n s r) (0, 0) _ (HK3.out.1.after HS3.out) Try.underlying23 rfl size_geo ?_))
    have HKc := Lib.hid (HK3.out.call HS3.out)
    clear HK3 HS3
    refine (ge_at b l y n s r t _ HT.out).mono ?_
    rintro e w4 ⟨rfl, hb4⟩
    have HK4 := Lib.hid (HKc.out.call hb4)
    clear hb4 HKc
    have hs4 : ∀ cs, Below w4.heap.size w4 ((w4.alloc (.cells (av 0 0 0) 30)).setRow w4.heap.size cs) := fun cs => below_put (Nat.le_refl _) _ ((Below.refl _ _).alloc (Nat.le_refl _) _)
    have HS4 := Lib.hid hs4
    clear hs4
    by_cases hA : OkG b l y n s r ∧ IsPage b l t
    · obtain ⟨x', z', p', h1, h2, h3⟩ := back_num hA.1 hA.2
      rw [h1, (at_ok hA.1 hA.2).2]
      have HN2 := Lib.hid (And.intro h2 h3)
      clear h1 h2 h3 hA
      go_wp2_with (first
        | (refine wpList_store_row rfl 30 (.tmp 11) (.tmp 42) rfl w4.heap.size (av x' z' p') rfl rfl 30 (av 0 0 0) (Blk.new w4 (av 0 0 0) 30) size_addr rfl (av_one _ _ _) ?_)
        | (refine wpList_load_row rfl 23 (.tmp 3) rfl w.heap.size rfl 23 (gv b l y n s r) (0, 0) _ (HK4.out.1.after (HS4.out _)) Try.underlying23 rfl size_geo ?_)
        | (refine wpList_load_row rfl 30 (.tmp 11) rfl w4.heap.size rfl 30 (av x' z' p') (0, 0) _ ((Blk.new w4 (av 0 0 0) 30).put (av x' z' p')) Try.underlying30 rfl size_addr ?_))
      refine (ge_number b l y n s r x' z' p' _).mono ?_
      rintro e w5 ⟨rfl, hb5⟩
      rw [HN2.out.1, HN2.out.2]
      have HK5 := Lib.hid ((HK4.out.call (HS4.out _)).call hb5)
      clear hb5 HK4 HS4
      go_wp2_with fail
      go_ret
      exact ⟨rfl, HK5.out.2.2⟩
    · have h1 := at_else hA
      obtain ⟨ac, hac⟩ : ∃ v, atC b l y n s r t = v := ⟨_, rfl⟩
      rw [hac] at h1 ⊢
      rw [h1.1]
      have h2 := h1.2
      clear h1 hac hA
      rcases h2 with rfl | rfl
      all_goals
        go_wp2_with (first
          | (refine wpList_store_row rfl 30 (.tmp 11) (.tmp 42) rfl w4.heap.size (av 0 0 0) rfl rfl 30 (av 0 0 0) (Blk.new w4 (av 0 0 0) 30) size_addr rfl (av_one _ _ _) ?_)
          | (refine wpList_load_row rfl 30 (.tmp 11) rfl w4.heap.size rfl 30 (av 0 0 0) (0, 0) _ ((Blk.new w4 (av 0 0 0) 30).put (av 0 0 0)) Try.underlying30 rfl size_addr ?_)
          | (refine wpList_eql_addr rfl (.tmp 46) (.tmp 47) rfl 0 0 0 0 0 0 rfl rfl ?_))
        go_ret
        exact ⟨rfl, (HK4.out.call (HS4.out _)).2.2⟩
  · have hel := num_else hN
    rw [hnr]
    obtain ⟨nc, hnc⟩ : ∃ v, numC b l y n s r x z p = v := ⟨_, rfl⟩
    rw [hnc] at hel ⊢
    clear hN hnr hnc
    rcases hel with rfl | rfl
    all_goals
      go_wp2_with (refine wpList_load_row rfl 23 (.tmp 3) rfl w.heap.size rfl 23 (gv b l y n s r) (0, 0) _ HK2.out.1 Try.underlying23 rfl size_geo ?_)
      have HKc := HK2
      clear HK2
      refine (ge_at b l y n s r t _ HT.out).mono ?_
      rintro e w4 ⟨rfl, hb4⟩
      have HK4 := Lib.hid (HKc.out.call hb4)
      clear hb4 HKc
      have hs4 : ∀ cs, Below w4.heap.size w4 ((w4.alloc (.cells (av 0 0 0) 30)).setRow w4.heap.size cs) := fun cs => below_put (Nat.le_refl _) _ ((Below.refl _ _).alloc (Nat.le_refl _) _)
      have HS4 := Lib.hid hs4
      clear hs4
      by_cases hA : OkG b l y n s r ∧ IsPage b l t
      · obtain ⟨x', z', p', h1, h2, h3⟩ := back_num hA.1 hA.2
        rw [h1, (at_ok hA.1 hA.2).2]
        have HN2 := Lib.hid (And.intro h2 h3)
        clear h1 h2 h3 hA
        go_wp2_with (first
          | (refine wpList_store_row rfl 30 (.tmp 11) (.tmp 42) rfl w4.heap.size (av x' z' p') rfl rfl 30 (av 0 0 0) (Blk.new w4 (av 0 0 0) 30) size_addr rfl (av_one _ _ _) ?_)
          | (refine wpList_load_row rfl 23 (.tmp 3) rfl w.heap.size rfl 23 (gv b l y n s r) (0, 0) _ (HK4.out.1.after (HS4.out _)) Try.underlying23 rfl size_geo ?_)
          | (refine wpList_load_row rfl 30 (.tmp 11) rfl w4.heap.size rfl 30 (av x' z' p') (0, 0) _ ((Blk.new w4 (av 0 0 0) 30).put (av x' z' p')) Try.underlying30 rfl size_addr ?_))
        refine (ge_number b l y n s r x' z' p' _).mono ?_
        rintro e w5 ⟨rfl, hb5⟩
        rw [HN2.out.1, HN2.out.2]
        have HK5 := Lib.hid ((HK4.out.call (HS4.out _)).call hb5)
        clear hb5 HK4 HS4
        go_wp2_with fail
        go_ret
        exact ⟨rfl, HK5.out.2.2⟩
      · have h1 := at_else hA
        obtain ⟨ac, hac⟩ : ∃ v, atC b l y n s r t = v := ⟨_, rfl⟩
        rw [hac] at h1 ⊢
        rw [h1.1]
        have h2 := h1.2
        clear h1 hac hA
        rcases h2 with rfl | rfl
        all_goals
          go_wp2_with (first
            | (refine wpList_store_row rfl 30 (.tmp 11) (.tmp 42) rfl w4.heap.size (av 0 0 0) rfl rfl 30 (av 0 0 0) (Blk.new w4 (av 0 0 0) 30) size_addr rfl (av_one _ _ _) ?_)
            | (refine wpList_load_row rfl 30 (.tmp 11) rfl w4.heap.size rfl 30 (av 0 0 0) (0, 0) _ ((Blk.new w4 (av 0 0 0) 30).put (av 0 0 0)) Try.underlying30 rfl size_addr ?_)
            | (refine wpList_eql_addr rfl (.tmp 46) (.tmp 47) rfl 0 0 0 0 0 0 rfl rfl ?_))
          go_ret
          exact ⟨rfl, (HK4.out.call (HS4.out _)).2.2⟩

end Go.Proofs.Ytejgdaekomdhlaa
