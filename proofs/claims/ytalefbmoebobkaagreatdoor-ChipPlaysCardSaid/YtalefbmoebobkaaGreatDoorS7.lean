/- Texts of one claim, merged: CeC6, CeC7, CeC8, CeC9, CeCA. -/
import Derived.Test.YtalefbmoebobkaaGreatDoorS6
import Derived.ChangeKeysEq
import Derived.Test.YtalefbmoebobkaaGreatDoorS2
/- Package cell, walked: step, through. -/
namespace Go.Proofs.YtalefbmoebobkaaGreatDoor
set_option maxRecDepth 100000
open Go.RowKit
def FF (o g : Nat) (k : Nat) : Prop := k = o ∨ k = g
theorem LnsAt.set_cell {w : World} {g o : Nat} {ls : List Ln} (h : LnsAt w g ls) (hne : o ≠ g) (i : Nat) (v : Value) : LnsAt (w.setCell ⟨o, i, none⟩ v) g ls := h.keep (Below.heap_setCell _ _ _ _ hne.symm)
theorem wpStill_load_row {P : Program} {ops : Array Oper} {rest : List Oper} {o : Oper} {a : Act} {w : World} {Q : Act → Prop} (hgd : o.guard = none) (ty : TypeId) (x : Operand) (ho : o.op = .load ty x)
  (g : Nat) (hx : a.eval x = .pointer (some ⟨g, 0, none⟩)) (t : TypeId) (cs : Array Value) (fr : Nat × Nat) (d : TypeDesc) (hg : w.heap[g]? = some (.cells cs t fr))
  (hu : P.underlying ty = some d) (hd : (match d with | .struct _ | .array _ _ => true | _ => false) = true) (hi : (P.info? ty).map (·.size) = some cs.size)
  (h : wpStill P ops w Q rest (a.put o.dst (.agg cs))) : wpStill P ops w Q (o :: rest) a := by
 unfold wpStill
 rw [if_pos (by simp [Region.wanted, hgd])]
 unfold Oper.still execOp
 simp only [ho, hx, Instr.loadAt, Instr.sureAddr, Sem.run_bind, Sem.run_pure, Result.andThen_ok, run_loadVar_row w g t ty cs fr d hg hu hd hi]
 exact ⟨rfl, h⟩
set_option maxHeartbeats 1000000 in
theorem ce_step1 (o L g cap : Nat) (bl : ByteArray) (m0 : Int) (d sl tl : Nat) (bad torn : Bool) (ls : List Ln) (bp bh bc ba bm i : Nat) (m : Int) (p q r : ByteArray) (x k a b : Int) (whole : Bool) (w : World)
  (hk : Blk w o (cc L g cap bl m0 d sl tl bad torn) 103) (hl : LnsAt w g ls) (hlen : ls.length = L) (hne : o ≠ g) (hi : i < L) (h64 : L ≤ 64) (hd : d ≤ 1000)
  (hbp : Blk w bp (tv3 p q r) 38) (hbh : Blk w bh (fv x k a b) 40) (hbc : w.cell? ⟨bc, 0, none⟩ = some (.pointer (some ⟨o, 0, none⟩))) (hba : w.cell? ⟨ba, 0, none⟩ = some (.int .i64 (i : Int))) (hbm : w.cell? ⟨bm, 0, none⟩ = some (.int .i64 m))
  (n1 : bc ≠ o ∧ bc ≠ g) (n2 : bm ≠ o ∧ bm ≠ g) (hs : p.size ≤ 400 ∧ q.size ≤ 400 ∧ r.size ≤ 400) :
  Calls Tryz.prog 133 #[.bool whole, .pointer (some ⟨bp, 0, none⟩), .pointer (some ⟨bh, 0, none⟩), .pointer (some ⟨bc, 0, none⟩), .pointer (some ⟨ba, 0, none⟩), .pointer (some ⟨bm, 0, none⟩)] w
   fun e w' => e = .returned (.tuple #[]) ∧ Blk w' o (cc L g cap bl m (d + 1) sl tl bad torn) 103 ∧ LnsAt w' g (ls.set i (if whole = true then ⟨p, q, r, false⟩ else hurtL ⟨p, q, r, false⟩ a b)) ∧ Only (FF o g) w w' := by
 obtain ⟨w1, hw1⟩ : ∃ w1, (w.alloc (.cells #[.string ⟨#[]⟩, .string ⟨#[]⟩, .string ⟨#[]⟩, .bool false] 116)).setRow w.heap.size (lv ⟨p, q, r, false⟩) = w1 := ⟨_, rfl⟩
 have hz0 : Blk (w.alloc (.cells #[.string ⟨#[]⟩, .string ⟨#[]⟩, .string ⟨#[]⟩, .bool false] 116)) w.heap.size (lv l0) 116 := Blk.new w _ _
 have hb1 : Below w.heap.size w w1 := by rw [← hw1]; exact below_put (Nat.le_refl _) _ ((Below.refl _ _).alloc (Nat.le_refl _) _)
 have hs1 : w1.heap.size = w.heap.size + 1 := by rw [← hw1, size_setRow, World.size_alloc]
 have hn1 : Blk w1 w.heap.size (lv ⟨p, q, r, false⟩) 116 := by rw [← hw1]; exact hz0.put _
 have hX : ∀ wr, Below w.heap.size w1 wr → Blk wr o (cc L g cap bl m0 d sl tl bad torn) 103 ∧ LnsAt wr g ls ∧ wr.cell? ⟨bc, 0, none⟩ = some (.pointer (some ⟨o, 0, none⟩)) ∧ wr.cell? ⟨ba, 0, none⟩ = some (.int .i64 (i : Int)) ∧ wr.cell? ⟨bm, 0, none⟩ = some (.int .i64 m) ∧ Below w.heap.size w wr := by
  intro wr hb
  have hbb := hb1.trans hb
  exact ⟨hk.after hbb, hl.after hbb, (hbb.cell (p := ⟨bc, 0, none⟩) (cell_lt hbc)).trans hbc, (hbb.cell (p := ⟨ba, 0, none⟩) (cell_lt hba)).trans hba, (hbb.cell (p := ⟨bm, 0, none⟩) (cell_lt hbm)).trans hbm, hbb⟩
 have hh := hbh.after hb1
 have g2 : w1.cell? ⟨bh, 2, none⟩ = some (.int .i64 a) := hh.cell 2
 have g3 : w1.cell? ⟨bh, 3, none⟩ = some (.int .i64 b) := hh.cell 3
 have hlt := hk.lt
 have hglt := hl.lt (by omega)
 have HX := Lib.hid hX
 have HW1 := Lib.hid hw1
 have HZ0 := Lib.hid hz0
 have HN1 := Lib.hid hn1
 have HBP := Lib.hid hbp
 have HNE := Lib.hid hne
 have HLEN := Lib.hid hlen
 have HS := Lib.hid hs
 have HLT := Lib.hid (⟨hlt, hglt⟩ : o < w.heap.size ∧ g < w.heap.size)
 have HN12 := Lib.hid (⟨n1, n2⟩ : (bc ≠ o ∧ bc ≠ g) ∧ (bm ≠ o ∧ bm ≠ g))
 have HSZ : Hid (w.heap.size ≤ w1.heap.size) := hb1.size
 clear hX hw1 hz0 hn1 hbp hb1 hs1 hbh hk hl hlen hne hbc hba hbm hh n1 n2 hs hlt hglt
 cases whole with
 | true =>
  rw [if_pos rfl]
  have hx := HX.out w1 (Below.refl _ _)
  have c0 : w1.cell? ⟨o, 0, none⟩ = some (.slice (some ⟨g, 0, none⟩) L cap) := hx.1.cell 0
  have cb := hx.2.2.1
  have ca := hx.2.2.2.1
  have cm := hx.2.2.2.2.1
  have HR := Lib.hid hx.2.1
  have HK := Lib.hid hx.1
  have HB := Lib.hid hx.2.2.2.2.2
  have HNW := HN1
  clear hx g2 g3
  go_enter Tryz.func133, Tryz.ntmps133
  go_wp2_with (first
   | (refine wpList_load_row rfl 38 (.tmp 1) rfl bp rfl 38 #[.string p, .string q, .string r] (0, 0) _ HBP.out Tryz.underlying38 rfl size_three ?_)
   | (refine wpList_store_row rfl 116 (.tmp 7) (.tmp 9) rfl w.heap.size (lv ⟨p, q, r, false⟩) rfl rfl 116 (lv l0) HZ0.out size_line rfl (lv_one _) ?_; change wpList _ _ _ _ _ ((w.alloc (.cells #[.string ⟨#[]⟩, .string ⟨#[]⟩, .string ⟨#[]⟩, .bool false] 116)).setRow w.heap.size (lv ⟨p, q, r, false⟩)); rw [HW1.out]))
  go_still_tail 7, (by kernel_rfl)
  refine wpStill_load_row rfl 116 (.tmp 7) rfl w.heap.size rfl 116 (lv ⟨p, q, r, false⟩) (0, 0) _ HNW.out Tryz.underlying116 rfl size_line ?_
  repeat still_step
  refine wpStill_nil ?_
  change wpList _ _ _ _ _ w1.drew
  have HT : Hid (w1.drew.there g (i * 4) 4) := (World.there_drew _ _ _ _).2 (HR.out i (by rw [HLEN.out]; exact hi)).2
  obtain ⟨w2, hw2⟩ : ∃ w2, w1.drew.setCells g (i * 4) (lv ⟨p, q, r, false⟩).toList = w2 := ⟨_, rfl⟩
  have hl2 : LnsAt w2 g (ls.set i ⟨p, q, r, false⟩) := by
   rw [← hw2]
   have h2 : LnsAt w1.drew g ls := HR.out.keep rfl
   exact h2.set i _ (by rw [HLEN.out]; exact hi)
  have hk2 : Blk w2 o (cc L g cap bl m0 d sl tl bad torn) 103 := by
   rw [← hw2]
   have h1 := HK.out.drew
   unfold Blk at *
   rw [setCells_heap_ne _ _ HNE.out]
   exact h1
  have ho2 : Only (FF o g) w w2 := by
   rw [← hw2]
   exact Only.setCells g (Or.inr rfl) _ _ _ (Only.of_below (F := FF o g) HB.out).drew
  have e0 : w2.cell? ⟨bc, 0, none⟩ = some (.pointer (some ⟨o, 0, none⟩)) := by
   rw [← hw2, World.cell?_of_block (w := w1.drew) (setCells_heap_ne _ _ HN12.out.1.2 _ _ _)]; exact cb
  have e1 : w2.cell? ⟨bm, 0, none⟩ = some (.int .i64 m) := by
   rw [← hw2, World.cell?_of_block (w := w1.drew) (setCells_heap_ne _ _ HN12.out.2.2 _ _ _)]; exact cm
  have e2 : w2.cell? ⟨o, 2, none⟩ = some (.int .i64 m0) := hk2.cell 2
  have e3 : w2.cell? ⟨o, 3, none⟩ = some (.int .i64 (d : Int)) := hk2.cell 3
  have f2 := hk2.free 2
  have f3 := hk2.free 3
  have n0 := HN12.out.1.1
  have HW2 := Lib.hid hw2
  have HL2 := Lib.hid hl2
  have HK2 := Lib.hid hk2
  have HO2 := Lib.hid ho2
  clear c0 cb ca cm hw2 hl2 hk2 ho2
  go_wp2_with (refine wpList_store_mid rfl 116 (.tmp 24) (.tmp 23) rfl g (i * 4) (lv ⟨p, q, r, false⟩) rfl rfl HT.out size_line (lv_one _) ?_; change wpList _ _ _ _ _ (w1.drew.setCells g (i * 4) (lv ⟨p, q, r, false⟩).toList); rw [HW2.out])
  refine bodyPost_end (results_none rfl _ _ _) rfl ⟨rfl, (HK2.out.set 2 _ rfl).set 3 _ rfl, (HL2.out.set_cell HNE.out 2 _).set_cell HNE.out 3 _, (HO2.out.setCell ⟨o, 2, none⟩ _ (Or.inl rfl)).setCell ⟨o, 3, none⟩ _ (Or.inl rfl)⟩
 | false =>
  rw [if_neg (by simp)]
  go_enter Tryz.func133, Tryz.ntmps133
  go_wp2_with (first
   | (refine wpList_load_row rfl 38 (.tmp 1) rfl bp rfl 38 #[.string p, .string q, .string r] (0, 0) _ HBP.out Tryz.underlying38 rfl size_three ?_)
   | (refine wpList_store_row rfl 116 (.tmp 7) (.tmp 9) rfl w.heap.size (lv ⟨p, q, r, false⟩) rfl rfl 116 (lv l0) HZ0.out size_line rfl (lv_one _) ?_; change wpList _ _ _ _ _ ((w.alloc (.cells #[.string ⟨#[]⟩, .string ⟨#[]⟩, .string ⟨#[]⟩, .bool false] 116)).setRow w.heap.size (lv ⟨p, q, r, false⟩)); rw [HW1.out])
   | (refine wpList_load_row rfl 116 (.tmp 7) rfl w.heap.size rfl 116 (lv ⟨p, q, r, false⟩) (0, 0) _ HN1.out Tryz.underlying116 rfl size_line ?_))
  refine (ce_hurtBy ⟨p, q, r, false⟩ a b _ (fun t => by match t with | 0 => exact HS.out.1 | 1 => exact HS.out.2.1 | _ + 2 => exact HS.out.2.2)).mono ?_
  rintro e w3 ⟨rfl, hb3⟩
  obtain ⟨ln, hln⟩ : ∃ ln, hurtL ⟨p, q, r, false⟩ a b = ln := ⟨_, rfl⟩
  have HLN := Lib.hid hln
  rw [hln]
  have HN3 := Lib.hid (HN1.out.after hb3)
  obtain ⟨w4, hw4⟩ : ∃ w4, w3.setRow w.heap.size (lv ln) = w4 := ⟨_, rfl⟩
  have hb4 : Below w.heap.size w1 w4 := by rw [← hw4]; exact below_put (Nat.le_refl _) _ (hb3.mono HSZ.out)
  have HNW : Hid (Blk w4 w.heap.size (lv ln) 116) := by rw [← hw4]; exact HN3.out.put _
  have HW4 := Lib.hid hw4
  have hx := HX.out w4 hb4
  have c0 : w4.cell? ⟨o, 0, none⟩ = some (.slice (some ⟨g, 0, none⟩) L cap) := hx.1.cell 0
  have cb := hx.2.2.1
  have ca := hx.2.2.2.1
  have cm := hx.2.2.2.2.1
  have HR := Lib.hid hx.2.1
  have HK := Lib.hid hx.1
  have HB := Lib.hid hx.2.2.2.2.2
  clear hx hln hb3 hw4 hb4 g2 g3
  go_wp2_with (refine wpList_store_row rfl 116 (.tmp 7) (.tmp 17) rfl w.heap.size (lv ln) rfl rfl 116 (lv ⟨p, q, r, false⟩) HN3.out size_line rfl (lv_one _) ?_; change wpList _ _ _ _ _ (w3.setRow w.heap.size (lv ln)); rw [HW4.out])
  go_still_tail 7, (by kernel_rfl)
  refine wpStill_load_row rfl 116 (.tmp 7) rfl w.heap.size rfl 116 (lv ln) (0, 0) _ HNW.out Tryz.underlying116 rfl size_line ?_
  repeat still_step
  refine wpStill_nil ?_
  change wpList _ _ _ _ _ w4.drew
  have HT : Hid (w4.drew.there g (i * 4) 4) := (World.there_drew _ _ _ _).2 (HR.out i (by rw [HLEN.out]; exact hi)).2
  obtain ⟨w2, hw2⟩ : ∃ w2, w4.drew.setCells g (i * 4) (lv ln).toList = w2 := ⟨_, rfl⟩
  have hl2 : LnsAt w2 g (ls.set i ln) := by
   rw [← hw2]
   have h2 : LnsAt w4.drew g ls := HR.out.keep rfl
   exact h2.set i _ (by rw [HLEN.out]; exact hi)
  have hk2 : Blk w2 o (cc L g cap bl m0 d sl tl bad torn) 103 := by
   rw [← hw2]
   have h1 := HK.out.drew
   unfold Blk at *
   rw [setCells_heap_ne _ _ HNE.out]
   exact h1
  have ho2 : Only (FF o g) w w2 := by
   rw [← hw2]
   exact Only.setCells g (Or.inr rfl) _ _ _ (Only.of_below (F := FF o g) HB.out).drew
  have e0 : w2.cell? ⟨bc, 0, none⟩ = some (.pointer (some ⟨o, 0, none⟩)) := by
   rw [← hw2, World.cell?_of_block (w := w4.drew) (setCells_heap_ne _ _ HN12.out.1.2 _ _ _)]; exact cb
  have e1 : w2.cell? ⟨bm, 0, none⟩ = some (.int .i64 m) := by
   rw [← hw2, World.cell?_of_block (w := w4.drew) (setCells_heap_ne _ _ HN12.out.2.2 _ _ _)]; exact cm
  have e2 : w2.cell? ⟨o, 2, none⟩ = some (.int .i64 m0) := hk2.cell 2
  have e3 : w2.cell? ⟨o, 3, none⟩ = some (.int .i64 (d : Int)) := hk2.cell 3
  have f2 := hk2.free 2
  have f3 := hk2.free 3
  have n0 := HN12.out.1.1
  have HW2 := Lib.hid hw2
  have HL2 := Lib.hid hl2
  have HK2 := Lib.hid hk2
  have HO2 := Lib.hid ho2
  clear c0 cb ca cm hw2 hl2 hk2 ho2
  go_wp2_with (refine wpList_store_mid rfl 116 (.tmp 24) (.tmp 23) rfl g (i * 4) (lv ln) rfl rfl HT.out size_line (lv_one _) ?_; change wpList _ _ _ _ _ (w4.drew.setCells g (i * 4) (lv ln).toList); rw [HW2.out])
  refine bodyPost_end (results_none rfl _ _ _) rfl ⟨rfl, (HK2.out.set 2 _ rfl).set 3 _ rfl, by rw [HLN.out]; exact (HL2.out.set_cell HNE.out 2 _).set_cell HNE.out 3 _, (HO2.out.setCell ⟨o, 2, none⟩ _ (Or.inl rfl)).setCell ⟨o, 3, none⟩ _ (Or.inl rfl)⟩
theorem ce_through (o : Nat) (x k a b : Int) (w : World) : Calls Tryz.prog 94 #[.pointer (some ⟨o, 0, none⟩), .agg (fv x k a b)] w
  fun e w' => e = .returned (.func (.func 136) #[] #[.pointer (some ⟨w.heap.size + 1, 0, none⟩), .pointer (some ⟨w.heap.size, 0, none⟩)]) ∧ w' = (w.alloc (.cells #[.pointer (some ⟨o, 0, none⟩)] 59)).alloc (.cells (fv x k a b) 40) := by
 go_enter Tryz.func94, Tryz.ntmps94
 unfold fv
 go_wp2_with fail
 go_ret
 exact ⟨rfl, rfl⟩
def endW (o : Nat) (k : Int) (w : World) : World := if k = 1 then w.setCell ⟨o, 7, none⟩ (.bool true) else if k = 2 then w.setCell ⟨o, 6, none⟩ (.bool true) else w
theorem ce_thru_step (bh bc o : Nat) (x k a b : Int) (b1 b2 b3 b4 b5 : Nat) (w : World) (R : World → Prop) (hh : Blk w bh (fv x k a b) 40)
  (hdo : Calls Tryz.prog 133 (#[.bool (!hurtsB k)] ++ #[.pointer (some ⟨b1, 0, none⟩), .pointer (some ⟨b2, 0, none⟩), .pointer (some ⟨b3, 0, none⟩), .pointer (some ⟨b4, 0, none⟩), .pointer (some ⟨b5, 0, none⟩)]) w fun e w' => e = .returned (.tuple #[]) ∧ R w')
  (hR : ∀ w', R w' → w'.cell? ⟨bc, 0, none⟩ = some (.pointer (some ⟨o, 0, none⟩)) ∧ ∃ cs : Array Value, cs.size = 8 ∧ Blk w' o cs 103) :
  Calls Tryz.prog 136 #[.func (.func 133) #[] #[.pointer (some ⟨b1, 0, none⟩), .pointer (some ⟨b2, 0, none⟩), .pointer (some ⟨b3, 0, none⟩), .pointer (some ⟨b4, 0, none⟩), .pointer (some ⟨b5, 0, none⟩)], .pointer (some ⟨bh, 0, none⟩), .pointer (some ⟨bc, 0, none⟩)] w fun e w' => e = .returned (.int .i64 (endC k)) ∧ ∃ w1, R w1 ∧ w' = endW o k w1 := by
 have c1 : w.cell? ⟨bh, 1, none⟩ = some (.int .i64 k) := hh.cell 1
 have HR := Lib.hid hR
 clear hh hR
 by_cases h1 : k = 1
 ·subst h1
  have HD : Hid (Calls Tryz.prog 133 (#[.bool false] ++ #[.pointer (some ⟨b1, 0, none⟩), .pointer (some ⟨b2, 0, none⟩), .pointer (some ⟨b3, 0, none⟩), .pointer (some ⟨b4, 0, none⟩), .pointer (some ⟨b5, 0, none⟩)]) w fun e w' => e = .returned (.tuple #[]) ∧ R w') := hdo
  clear hdo
  go_enter Tryz.func136, Tryz.ntmps136
  go_wp2_with fail
  refine HD.out.mono ?_
  rintro e w1 ⟨rfl, hr⟩
  obtain ⟨hc, cs, hz, hk⟩ := HR.out w1 hr
  have c7 : w1.cell? ⟨o, 7, none⟩ = some cs[7] := (hk.cell 7).trans (Array.getElem?_eq_getElem (by omega))
  have f7 := hk.free 7
  obtain ⟨v, hv⟩ : ∃ v, cs[7] = v := ⟨_, rfl⟩
  rw [hv] at c7
  have HRR := Lib.hid hr
  clear hr hk hz hv HD
  go_wp2_with fail
  go_ret
  exact ⟨rfl, w1, HRR.out, rfl⟩
 ·by_cases h2 : k = 2
  ·subst h2
   have HD : Hid (Calls Tryz.prog 133 (#[.bool false] ++ #[.pointer (some ⟨b1, 0, none⟩), .pointer (some ⟨b2, 0, none⟩), .pointer (some ⟨b3, 0, none⟩), .pointer (some ⟨b4, 0, none⟩), .pointer (some ⟨b5, 0, none⟩)]) w fun e w' => e = .returned (.tuple #[]) ∧ R w') := hdo
   clear hdo
   go_enter Tryz.func136, Tryz.ntmps136
   go_wp2_with fail
   refine HD.out.mono ?_
   rintro e w1 ⟨rfl, hr⟩
   obtain ⟨hc, cs, hz, hk⟩ := HR.out w1 hr
   have c6 : w1.cell? ⟨o, 6, none⟩ = some cs[6] := (hk.cell 6).trans (Array.getElem?_eq_getElem (by omega))
   have f6 := hk.free 6
   obtain ⟨v, hv⟩ : ∃ v, cs[6] = v := ⟨_, rfl⟩
   rw [hv] at c6
   have HRR := Lib.hid hr
   clear hr hk hz hv HD
   go_wp2_with fail
   go_ret
   exact ⟨rfl, w1, HRR.out, rfl⟩
  ·have hhb : hurtsB k = false := by simp [hurtsB, h1, h2]
   have HD : Hid (Calls Tryz.prog 133 (#[.bool true] ++ #[.pointer (some ⟨b1, 0, none⟩), .pointer (some ⟨b2, 0, none⟩), .pointer (some ⟨b3, 0, none⟩), .pointer (some ⟨b4, 0, none⟩), .pointer (some ⟨b5, 0, none⟩)]) w fun e w' => e = .returned (.tuple #[]) ∧ R w') := by rw [hhb] at hdo; exact hdo
   have he : endC k = 0 := by unfold endC; rw [if_neg h1, if_neg h2]
   have HE := Lib.hid he
   have HW : Hid (∀ w1, endW o k w1 = w1) := fun w1 => by unfold endW; rw [if_neg h1, if_neg h2]
   have k1 : (k == 1) = false := by simpa using h1
   have k2 : (k == 2) = false := by simpa using h2
   rw [HE.out]
   clear hdo hhb HR he
   go_enter Tryz.func136, Tryz.ntmps136
   go_wp2_with fail
   refine HD.out.mono ?_
   rintro e w1 ⟨rfl, hr⟩
   have HRR := Lib.hid hr
   clear hr HD
   go_wp2_with fail
   go_ret
   exact ⟨rfl, w1, HRR.out, (HW.out w1).symm⟩
theorem ce_thru_erase (bh bc o : Nat) (x k a b : Int) (b1 b2 : Nat) (w : World) (R : World → Prop) (hh : Blk w bh (fv x k a b) 40)
  (hdo : Calls Tryz.prog 95 (#[.bool (!hurtsB k)] ++ #[.pointer (some ⟨b1, 0, none⟩), .pointer (some ⟨b2, 0, none⟩)]) w fun e w' => e = .returned (.tuple #[]) ∧ R w')
  (hR : ∀ w', R w' → w'.cell? ⟨bc, 0, none⟩ = some (.pointer (some ⟨o, 0, none⟩)) ∧ ∃ cs : Array Value, cs.size = 8 ∧ Blk w' o cs 103) :
  Calls Tryz.prog 136 #[.func (.func 95) #[] #[.pointer (some ⟨b1, 0, none⟩), .pointer (some ⟨b2, 0, none⟩)], .pointer (some ⟨bh, 0, none⟩), .pointer (some ⟨bc, 0, none⟩)] w fun e w' => e = .returned (.int .i64 (endC k)) ∧ ∃ w1, R w1 ∧ w' = endW o k w1 := by
 have c1 : w.cell? ⟨bh, 1, none⟩ = some (.int .i64 k) := hh.cell 1
 have HR := Lib.hid hR
 clear hh hR
 by_cases h1 : k = 1
 ·subst h1
  have HD : Hid (Calls Tryz.prog 95 (#[.bool false] ++ #[.pointer (some ⟨b1, 0, none⟩), .pointer (some ⟨b2, 0, none⟩)]) w fun e w' => e = .returned (.tuple #[]) ∧ R w') := hdo
  clear hdo
  go_enter Tryz.func136, Tryz.ntmps136
  go_wp2_with fail
  refine HD.out.mono ?_
  rintro e w1 ⟨rfl, hr⟩
  obtain ⟨hc, cs, hz, hk⟩ := HR.out w1 hr
  have c7 : w1.cell? ⟨o, 7, none⟩ = some cs[7] := (hk.cell 7).trans (Array.getElem?_eq_getElem (by omega))
  have f7 := hk.free 7
  obtain ⟨v, hv⟩ : ∃ v, cs[7] = v := ⟨_, rfl⟩
  rw [hv] at c7
  have HRR := Lib.hid hr
  clear hr hk hz hv HD
  go_wp2_with fail
  go_ret
  exact ⟨rfl, w1, HRR.out, rfl⟩
 ·by_cases h2 : k = 2
  ·subst h2
   have HD : Hid (Calls Tryz.prog 95 (#[.bool false] ++ #[.pointer (some ⟨b1, 0, none⟩), .pointer (some ⟨b2, 0, none⟩)]) w fun e w' => e = .returned (.tuple #[]) ∧ R w') := hdo
   clear hdo
   go_enter Tryz.func136, Tryz.ntmps136
   go_wp2_with fail
   refine HD.out.mono ?_
   rintro e w1 ⟨rfl, hr⟩
   obtain ⟨hc, cs, hz, hk⟩ := HR.out w1 hr
   have c6 : w1.cell? ⟨o, 6, none⟩ = some cs[6] := (hk.cell 6).trans (Array.getElem?_eq_getElem (by omega))
   have f6 := hk.free 6
   obtain ⟨v, hv⟩ : ∃ v, cs[6] = v := ⟨_, rfl⟩
   rw [hv] at c6
   have HRR := Lib.hid hr
   clear hr hk hz hv HD
   go_wp2_with fail
   go_ret
   exact ⟨rfl, w1, HRR.out, rfl⟩
  ·have hhb : hurtsB k = false := by simp [hurtsB, h1, h2]
   have HD : Hid (Calls Tryz.prog 95 (#[.bool true] ++ #[.pointer (some ⟨b1, 0, none⟩), .pointer (some ⟨b2, 0, none⟩)]) w fun e w' => e = .returned (.tuple #[]) ∧ R w') := by rw [hhb] at hdo; exact hdo
   have he : endC k = 0 := by unfold endC; rw [if_neg h1, if_neg h2]
   have HE := Lib.hid he
   have HW : Hid (∀ w1, endW o k w1 = w1) := fun w1 => by unfold endW; rw [if_neg h1, if_neg h2]
   have k1 : (k == 1) = false := by simpa using h1
   have k2 : (k == 2) = false := by simpa using h2
   rw [HE.out]
   clear hdo hhb HR he
   go_enter Tryz.func136, Tryz.ntmps136
   go_wp2_with fail
   refine HD.out.mono ?_
   rintro e w1 ⟨rfl, hr⟩
   have HRR := Lib.hid hr
   clear hr HD
   go_wp2_with fail
   go_ret
   exact ⟨rfl, w1, HRR.out, (HW.out w1).symm⟩
/- Package cell, walked: step whole. -/
theorem Only.cell {F : Nat → Prop} {w w' : World} {p : Addr} {v : Value} (ho : Only F w w') (h : w.cell? p = some v) (hn : ¬ F p.block) : w'.cell? p = some v :=
 (World.cell?_of_block (w := w) (ho.block p.block (cell_lt h) hn)).trans h
theorem below_5 (w : World) (A B C D E : Obj) : Below w.heap.size w (((((w.alloc A).alloc B).alloc C).alloc D).alloc E) := (below_4 w A B C D).alloc (by simp; omega) _
theorem blk_5 (w : World) (A B C D E : Obj) (j : Nat) (hj : j < 5) (cs : Array Value) (t : TypeId) (h : [A, B, C, D, E][j]? = some (.cells cs t (0, 0))) : Blk (((((w.alloc A).alloc B).alloc C).alloc D).alloc E) (w.heap.size + j) cs t := by
 match j, hj with
 | 0, _ => obtain rfl : A = .cells cs t (0, 0) := Option.some.inj h; exact ((((Blk.new w cs t).alloc _).alloc _).alloc _).alloc _
 | 1, _ => obtain rfl : B = .cells cs t (0, 0) := Option.some.inj h; exact (((blk_mid w A C cs t)).alloc _).alloc _
 | 2, _ => obtain rfl : C = .cells cs t (0, 0) := Option.some.inj h; exact ((blk_third w A B cs t).alloc _).alloc _
 | 3, _ => obtain rfl : D = .cells cs t (0, 0) := Option.some.inj h; exact (blk_4d w A B C cs t).alloc _
 | 4, _ =>
  obtain rfl : E = .cells cs t (0, 0) := Option.some.inj h
  have h := Blk.new ((((w.alloc A).alloc B).alloc C).alloc D) cs t
  rwa [World.size_alloc, World.size_alloc, World.size_alloc, World.size_alloc] at h
set_option maxHeartbeats 1000000 in
theorem ce_step (o L g cap : Nat) (bl : ByteArray) (m0 : Int) (d sl tl : Nat) (ls : List Ln) (i : Nat) (m : Int) (p q r : ByteArray) (x k a b : Int) (w : World)
  (hk : Blk w o (cc L g cap bl m0 d sl tl false false) 103) (hl : LnsAt w g ls) (hlen : ls.length = L) (hne : o ≠ g) (hi : i < L) (h64 : L ≤ 64) (hd : d ≤ 1000) (hs : p.size ≤ 400 ∧ q.size ≤ 400 ∧ r.size ≤ 400) :
  Calls Tryz.prog 86 #[.pointer (some ⟨o, 0, none⟩), .int .i64 m, .int .i64 (i : Int), .agg (tv3 p q r), .agg (fv x k a b)] w
   fun e w' => e = .returned (.int .i64 (endC k)) ∧ Blk w' o (cc L g cap bl m (d + 1) sl tl (k == 2) (k == 1)) 103 ∧ LnsAt w' g (ls.set i (stepL p q r k a b)) ∧ Only (FF o g) w w' := by
 obtain ⟨w5, hw5⟩ : ∃ w5, ((((w.alloc (.cells #[.pointer (some ⟨o, 0, none⟩)] 59)).alloc (.cells #[.int .i64 m] 3)).alloc (.cells #[.int .i64 (i : Int)] 3)).alloc (.cells (tv3 p q r) 38)).alloc (.cells (fv x k a b) 40) = w5 := ⟨_, rfl⟩
 have hb5 : Below w.heap.size w w5 := by rw [← hw5]; exact below_5 _ _ _ _ _ _
 have hs5 : w5.heap.size = w.heap.size + 5 := by rw [← hw5]; simp only [World.size_alloc]
 have k0 : Blk w5 w.heap.size #[.pointer (some ⟨o, 0, none⟩)] 59 := by rw [← hw5]; exact blk_5 _ _ _ _ _ _ 0 (by decide) _ _ rfl
 have k1 : Blk w5 (w.heap.size + 1) #[.int .i64 m] 3 := by rw [← hw5]; exact blk_5 _ _ _ _ _ _ 1 (by decide) _ _ rfl
 have k2 : Blk w5 (w.heap.size + 2) #[.int .i64 (i : Int)] 3 := by rw [← hw5]; exact blk_5 _ _ _ _ _ _ 2 (by decide) _ _ rfl
 have k3 : Blk w5 (w.heap.size + 3) (tv3 p q r) 38 := by rw [← hw5]; exact blk_5 _ _ _ _ _ _ 3 (by decide) _ _ rfl
 have k4 : Blk w5 (w.heap.size + 4) (fv x k a b) 40 := by rw [← hw5]; exact blk_5 _ _ _ _ _ _ 4 (by decide) _ _ rfl
 obtain ⟨w7, hw7⟩ : ∃ w7, (w5.alloc (.cells #[.pointer (some ⟨o, 0, none⟩)] 59)).alloc (.cells (fv x k a b) 40) = w7 := ⟨_, rfl⟩
 have hb7 : Below w5.heap.size w5 w7 := by rw [← hw7]; exact ((Below.refl _ _).alloc (Nat.le_refl _) _).alloc (by simp) _
 have k5 : Blk w7 w5.heap.size #[.pointer (some ⟨o, 0, none⟩)] 59 := by rw [← hw7]; exact (Blk.new w5 _ _).alloc _
 have k6 : Blk w7 (w5.heap.size + 1) (fv x k a b) 40 := by
  rw [← hw7]
  have h := Blk.new (w5.alloc (.cells #[.pointer (some ⟨o, 0, none⟩)] 59)) (fv x k a b) 40
  rwa [World.size_alloc] at h
 have hbb := hb5.trans (hb7.mono hb5.size)
 have hol := hk.lt
 have hgl := hl.lt (by omega)
 have hdo := ce_step1 o L g cap bl m0 d sl tl false false ls (w.heap.size + 3) (w.heap.size + 4) w.heap.size (w.heap.size + 2) (w.heap.size + 1) i m p q r x k a b (!hurtsB k) w7
  (hk.after hbb) (hl.after hbb) hlen hne hi h64 hd (k3.after hb7) (k4.after hb7) ((k0.after hb7).cell 0) ((k2.after hb7).cell 0) ((k1.after hb7).cell 0) ⟨by omega, by omega⟩ ⟨by omega, by omega⟩ hs
 have hst : (if (!hurtsB k) = true then ⟨p, q, r, false⟩ else hurtL ⟨p, q, r, false⟩ a b) = stepL p q r k a b := by
  unfold stepL hurtL
  cases hurtsB k <;> rfl
 rw [hst] at hdo
 obtain ⟨R, hR⟩ : ∃ R : World → Prop, R = fun w' => Blk w' o (cc L g cap bl m (d + 1) sl tl false false) 103 ∧ LnsAt w' g (ls.set i (stepL p q r k a b)) ∧ Only (FF o g) w7 w' := ⟨_, rfl⟩
 have hdo2 : Calls Tryz.prog 133 (#[.bool (!hurtsB k)] ++ #[.pointer (some ⟨w.heap.size + 3, 0, none⟩), .pointer (some ⟨w.heap.size + 4, 0, none⟩), .pointer (some ⟨w.heap.size, 0, none⟩), .pointer (some ⟨w.heap.size + 2, 0, none⟩), .pointer (some ⟨w.heap.size + 1, 0, none⟩)]) w7 fun e w' => e = .returned (.tuple #[]) ∧ R w' := by
  rw [hR]; exact hdo
 have hRR : ∀ w', R w' → w'.cell? ⟨w5.heap.size, 0, none⟩ = some (.pointer (some ⟨o, 0, none⟩)) ∧ ∃ cs : Array Value, cs.size = 8 ∧ Blk w' o cs 103 := by
  intro w' h
  rw [hR] at h
  exact ⟨h.2.2.cell (k5.cell 0) (fun hf => by
   have hf2 : w5.heap.size = o ∨ w5.heap.size = g := hf
   omega), _, rfl, h.1⟩
 have HTH := Lib.hid (ce_thru_step (w5.heap.size + 1) w5.heap.size o x k a b (w.heap.size + 3) (w.heap.size + 4) w.heap.size (w.heap.size + 2) (w.heap.size + 1) w7 R k6 hdo2 hRR)
 have HK4 := Lib.hid k4
 have HW5 := Lib.hid hw5
 have HW7 := Lib.hid hw7
 have HBB := Lib.hid hbb
 have HR := Lib.hid hR
 have HNE := Lib.hid hne
 clear hk hl hlen hne hb5 hs5 k0 k1 k2 k3 k4 hb7 k5 k6 hbb hol hgl hdo hst hR hdo2 hRR hw5 hw7 hs hi
 go_enter Tryz.func86, Tryz.ntmps86
 go_wp2_with (first
  | (change wpList _ _ _ _ _ (((((w.alloc (.cells #[.pointer (some ⟨o, 0, none⟩)] 59)).alloc (.cells #[.int .i64 m] 3)).alloc (.cells #[.int .i64 (i : Int)] 3)).alloc (.cells (tv3 p q r) 38)).alloc (.cells (fv x k a b) 40)); rw [HW5.out]; refine wpList_load_row rfl 40 (.tmp 9) rfl (w.heap.size + 4) rfl 40 (fv x k a b) (0, 0) _ HK4.out Tryz.underlying40 rfl size_fault ?_))
 refine (ce_through o x k a b _).mono ?_
 rintro e w6 ⟨rfl, rfl⟩
 rw [HW7.out]
 go_wp2_with fail
 refine HTH.out.mono ?_
 rintro e w8 ⟨rfl, w9, hr, rfl⟩
 rw [HR.out] at hr
 have HRR := Lib.hid hr
 clear hr HTH
 go_wp2_with fail
 go_ret
 refine ⟨rfl, ?_⟩
 obtain ⟨r1, r2, r3⟩ := HRR.out
 have ro : Only (FF o g) w w9 := (Only.of_below (F := FF o g) HBB.out).trans r3 (fun k hk => Or.inl hk)
 unfold endW
 by_cases h1 : k = 1
 ·subst h1
  rw [if_pos rfl]
  exact ⟨r1.set 7 _ rfl, r2.set_cell HNE.out 7 _, ro.setCell ⟨o, 7, none⟩ _ (Or.inl rfl)⟩
 ·rw [if_neg h1]
  have e1 : (k == 1) = false := by simpa using h1
  by_cases h2 : k = 2
  ·subst h2
   rw [if_pos rfl]
   exact ⟨r1.set 6 _ rfl, r2.set_cell HNE.out 6 _, ro.setCell ⟨o, 6, none⟩ _ (Or.inl rfl)⟩
  ·rw [if_neg h2]
   have e2 : (k == 2) = false := by simpa using h2
   rw [e1, e2]
   exact ⟨r1, r2, ro⟩
/- Package cell, walked: Program. -/
structure CodeAt (w : World) (o g cap : Nat) (s : St) (ls : List Ln) : Prop where
 ne : o ≠ g
 pos : 0 < s.L
 cell : Blk w o (cc s.L g cap (blankS s.Y) s.mode s.done s.slc s.tlc s.bad s.torn) 103
 rows : LnsAt w g ls
 abs : AbsC s ls
theorem CodeAt.lt {w : World} {o g cap : Nat} {s : St} {ls : List Ln} (h : CodeAt w o g cap s ls) : o < w.heap.size ∧ g < w.heap.size := ⟨h.cell.lt, h.rows.lt (by rw [h.abs.len]; exact h.pos)⟩
theorem CodeAt.after {w w' : World} {o g cap : Nat} {s : St} {ls : List Ln} (h : CodeAt w o g cap s ls) (hb : Below w.heap.size w w') : CodeAt w' o g cap s ls := ⟨h.ne, h.pos, h.cell.after hb, h.rows.after hb, h.abs⟩
theorem blank_raw (y : Nat) : (blankS y).size = rawOf y := by
 rw [blankS_size]; unfold rawOf; omega
theorem bad_size (s : St) (p : ByteArray) : badSize (blankS s.Y) p = !takesB s p := by
 unfold badSize takesB
 rw [blank_raw]
 rfl
theorem takesA_one {s : St} (hw : WfSt s) (p : ByteArray) : takesA s.mode 1 s.bad s.torn (blankS s.Y) [p] = true ↔ (s.bad = false ∧ s.torn = false ∧ s.mode ≠ 2 ∧ takesB s p = true) := by
 unfold takesA
 simp only [List.any_cons, List.any_nil, bad_size, Bool.or_false, Bool.not_not, Bool.and_eq_true, Bool.or_eq_true, beq_iff_eq, Bool.not_eq_true', and_assoc]
 have hm := hw.mode
 constructor
 ·rintro ⟨h1, h2, h3, h4⟩; exact ⟨h1, h2, by omega, h4⟩
 ·rintro ⟨h1, h2, h3, h4⟩; exact ⟨h1, h2, by omega, h4⟩
theorem takesA_three {s : St} (hw : WfSt s) (p q r : ByteArray) : takesA s.mode 2 s.bad s.torn (blankS s.Y) [p, q, r] = true ↔ (s.bad = false ∧ s.torn = false ∧ s.mode ≠ 1 ∧ takesB s p = true ∧ takesB s q = true ∧ takesB s r = true) := by
 unfold takesA
 simp only [List.any_cons, List.any_nil, bad_size, Bool.or_false, Bool.not_or, Bool.not_not, Bool.and_eq_true, Bool.or_eq_true, beq_iff_eq, Bool.not_eq_true', and_assoc]
 have hm := hw.mode
 constructor
 ·rintro ⟨h1, h2, h3, h4⟩; exact ⟨h1, h2, by omega, h4⟩
 ·rintro ⟨h1, h2, h3, h4⟩; exact ⟨h1, h2, by omega, h4⟩
theorem endSt_flags {s : St} (k : Int) (hb : s.bad = false) (ht : s.torn = false) : (endSt s k).bad = (k == 2) ∧ (endSt s k).torn = (k == 1) ∧ (endSt s k).slc = s.slc ∧ (endSt s k).tlc = s.tlc := by
 unfold endSt
 by_cases h1 : k = 1
 ·subst h1; rw [if_pos rfl]; exact ⟨hb, rfl, rfl, rfl⟩
 ·rw [if_neg h1]
  have e1 : (k == 1) = false := by simpa using h1
  by_cases h2 : k = 2
  ·subst h2; rw [if_pos rfl]; exact ⟨rfl, ht, rfl, rfl⟩
  ·rw [if_neg h2]
   have e2 : (k == 2) = false := by simpa using h2
   rw [e1, e2]; exact ⟨hb, ht, rfl, rfl⟩
theorem CodeAt.of_end {w : World} {o g cap k' : Nat} {s t : St} {ls : List Ln} {m k : Int} (hne : o ≠ g) (hp : 0 < s.L) (hk : Blk w o (cc s.L g cap (blankS s.Y) m k' s.slc s.tlc (k == 2) (k == 1)) 103) (hl : LnsAt w g ls)
  (h1 : t.L = s.L) (h2 : t.Y = s.Y) (h3 : t.mode = m) (h4 : t.done = k') (h5 : t.slc = s.slc) (h6 : t.tlc = s.tlc) (h7 : t.bad = false) (h8 : t.torn = false) (ha : AbsC (endSt t k) ls) : CodeAt w o g cap (endSt t k) ls := by
 have e := end_same t k
 have f := endSt_flags k h7 h8
 refine ⟨hne, by rw [e.1, h1]; exact hp, ?_, hl, ha⟩
 rw [e.1, e.2.1, e.2.2.1, e.2.2.2, f.1, f.2.1, f.2.2.1, f.2.2.2, h1, h2, h3, h4, h5, h6]
 exact hk
theorem one_at {w : World} {b : Nat} {p : ByteArray} (h : w.cell? ⟨b, 0, none⟩ = some (.string p)) : ∀ j, j < [p].length → w.cell? ⟨b, j, none⟩ = some (.string ([p].getD j ByteArray.empty)) := by
 intro j hj
 obtain rfl : j = 0 := by simpa using hj
 exact h
def ActR (o g cap : Nat) (s' : St) (v : Value) (w : World) (e : Ending) (w' : World) : Prop := e = .returned v ∧ (∃ ls, CodeAt w' o g cap s' ls) ∧ Only (FF o g) w w'
set_option maxHeartbeats 1000000 in
theorem ce_prog_no (o g cap : Nat) (s : St) (ls : List Ln) (line : Int) (p : ByteArray) (x k a b : Int) (w : World) (hw : WfSt s) (hc : CodeAt w o g cap s ls) (hno : ¬ ProgOk s line p) :
  Calls Tryz.prog 42 #[.pointer (some ⟨o, 0, none⟩), .int .i64 line, .string p, .agg (fv x k a b)] w (ActR o g cap (progSt s line p k a b) (.int .i64 (progC s line p k)) w) := by
 have hpc : progSt s line p k a b = s ∧ progC s line p k = 80 := by unfold progSt progC; rw [if_neg hno, if_neg hno]; exact ⟨rfl, rfl⟩
 rw [hpc.1, hpc.2]
 have hT := takesA_one hw p
 obtain ⟨w2, hw2⟩ : ∃ w2, (w.alloc (.cells (fv x k a b) 40)).alloc (.cells #[.string p] 9) = w2 := ⟨_, rfl⟩
 have hb2 : Below w.heap.size w w2 := by rw [← hw2]; exact ((Below.refl _ _).alloc (Nat.le_refl _) _).alloc (by simp) _
 have kp : w2.cell? ⟨w.heap.size + 1, 0, none⟩ = some (.string p) := by
  rw [← hw2]
  have h := (Blk.new (w.alloc (.cells (fv x k a b) 40)) #[.string p] 9).cell 0
  rw [World.size_alloc] at h
  exact h
 have htk := ce_takes o s.L g cap (blankS s.Y) s.mode s.done s.slc s.tlc s.bad s.torn 1 [p] (w.heap.size + 1) 1 w2 (hc.cell.after hb2) (Nat.le_of_ble_eq_true rfl) (one_at kp) hw.mode (Or.inl rfl)
 have HTK := Lib.hid htk
 have HB2 := Lib.hid hb2
 have HW2 := Lib.hid hw2
 have HC := Lib.hid hc
 have HNO := Lib.hid hno
 have HWF := Lib.hid hw
 obtain ⟨T, hTT⟩ : ∃ T, takesA s.mode 1 s.bad s.torn (blankS s.Y) [p] = T := ⟨_, rfl⟩
 rw [hTT] at hT HTK
 have HT := Lib.hid hT
 have hL := hw.l64
 have hD := hw.done
 clear hpc hT hw2 hb2 kp htk hc hno hw hTT
 cases T with
 | false =>
  go_enter Tryz.func42, Tryz.ntmps42
  go_wp2_with fail
  rw [HW2.out]
  refine HTK.out.mono ?_
  rintro e w3 ⟨rfl, hb3⟩
  have HB3 := Lib.hid (HB2.out.trans (hb3.mono HB2.out.size))
  clear hb3 HTK
  go_wp2_with fail
  go_ret
  exact ⟨rfl, ⟨ls, HC.out.after HB3.out⟩, Only.of_below HB3.out⟩
 | true =>
  have hT4 := HT.out.1 rfl
  by_cases hld : line = (s.done : Int)
  ·have hge : ¬ line < (s.L : Int) := fun hlt => HNO.out ⟨hT4.1, hT4.2.1, hT4.2.2.1, hld, hlt, hT4.2.2.2⟩
   subst hld
   clear hT4 HT HNO
   go_enter Tryz.func42, Tryz.ntmps42
   go_wp2_with fail
   rw [HW2.out]
   refine HTK.out.mono ?_
   rintro e w3 ⟨rfl, hb3⟩
   have hb33 := HB2.out.trans (hb3.mono HB2.out.size)
   have hc3 := HC.out.after hb33
   have c0 : w3.cell? ⟨o, 0, none⟩ = some (.slice (some ⟨g, 0, none⟩) s.L cap) := hc3.cell.cell 0
   have c3 : w3.cell? ⟨o, 3, none⟩ = some (.int .i64 (s.done : Int)) := hc3.cell.cell 3
   have HC3 := Lib.hid hc3
   have HB3 := Lib.hid hb33
   clear hb3 HTK hc3 hb33
   go_wp2_with fail
   go_ret
   exact ⟨rfl, ⟨ls, HC3.out⟩, Only.of_below HB3.out⟩
  ·have hbq : (line == (s.done : Int)) = false := by simpa using hld
   clear hT4 HT HNO
   go_enter Tryz.func42, Tryz.ntmps42
   go_wp2_with fail
   rw [HW2.out]
   refine HTK.out.mono ?_
   rintro e w3 ⟨rfl, hb3⟩
   have hb33 := HB2.out.trans (hb3.mono HB2.out.size)
   have hc3 := HC.out.after hb33
   have c3 : w3.cell? ⟨o, 3, none⟩ = some (.int .i64 (s.done : Int)) := hc3.cell.cell 3
   have HC3 := Lib.hid hc3
   have HB3 := Lib.hid hb33
   clear hb3 HTK hc3 hb33
   go_wp2_with fail
   go_ret
   exact ⟨rfl, ⟨ls, HC3.out⟩, Only.of_below HB3.out⟩
set_option maxHeartbeats 1000000 in
theorem ce_prog_yes (o g cap : Nat) (s : St) (ls : List Ln) (line : Int) (p : ByteArray) (x k a b : Int) (w : World) (hw : WfSt s) (hc : CodeAt w o g cap s ls) (hp : p.size ≤ 400) (hok : ProgOk s line p) :
  Calls Tryz.prog 42 #[.pointer (some ⟨o, 0, none⟩), .int .i64 line, .string p, .agg (fv x k a b)] w (ActR o g cap (progSt s line p k a b) (.int .i64 (progC s line p k)) w) := by
 have hpc : progC s line p k = endC k := by unfold progC; rw [if_pos hok]
 rw [hpc]
 have hab := hc.abs.prog hw hok k a b
 have hps : progSt s line p k a b = endSt (putSt (stepSt s 1) (3 * line.toNat) (pageT p k a b) (hurtsB k)) k := by unfold progSt; rw [if_pos hok]
 have hT := (takesA_one hw p).2 ⟨hok.1, hok.2.1, hok.2.2.1, hok.2.2.2.2.2⟩
 obtain ⟨k1, k2, k3, k4, k5, k6⟩ := hok
 have hk8 : ∀ w', Blk w' o (cc s.L g cap (blankS s.Y) 1 (s.done + 1) s.slc s.tlc (k == 2) (k == 1)) 103 → LnsAt w' g (ls.set s.done (stepL p ⟨#[]⟩ ⟨#[]⟩ k a b)) → CodeAt w' o g cap (progSt s line p k a b) (ls.set line.toNat (stepL p ByteArray.empty ByteArray.empty k a b)) := by
  intro w' h1 h2
  have e : line.toNat = s.done := by omega
  rw [hps] at hab ⊢
  rw [e] at hab ⊢
  exact CodeAt.of_end (t := putSt (stepSt s 1) (3 * s.done) (pageT p k a b) (hurtsB k)) hc.ne hc.pos h1 h2 rfl rfl rfl rfl rfl rfl k1 k2 hab
 have HK8 := Lib.hid hk8
 subst k4
 obtain ⟨w2, hw2⟩ : ∃ w2, (w.alloc (.cells (fv x k a b) 40)).alloc (.cells #[.string p] 9) = w2 := ⟨_, rfl⟩
 have hb2 : Below w.heap.size w w2 := by rw [← hw2]; exact ((Below.refl _ _).alloc (Nat.le_refl _) _).alloc (by simp) _
 have kp : w2.cell? ⟨w.heap.size + 1, 0, none⟩ = some (.string p) := by
  rw [← hw2]
  have h := (Blk.new (w.alloc (.cells (fv x k a b) 40)) #[.string p] 9).cell 0
  rw [World.size_alloc] at h
  exact h
 have kh : Blk w2 w.heap.size (fv x k a b) 40 := by rw [← hw2]; exact (Blk.new w _ _).alloc _
 have htk := ce_takes o s.L g cap (blankS s.Y) s.mode s.done s.slc s.tlc s.bad s.torn 1 [p] (w.heap.size + 1) 1 w2 (hc.cell.after hb2) (Nat.le_of_ble_eq_true rfl) (one_at kp) hw.mode (Or.inl rfl)
 rw [hT] at htk
 have HTK := Lib.hid htk
 have HB2 := Lib.hid hb2
 have HW2 := Lib.hid hw2
 have HC := Lib.hid hc
 have HWF := Lib.hid hw
 have HKH := Lib.hid kh
 have HF := Lib.hid (⟨k1, k2⟩ : s.bad = false ∧ s.torn = false)
 have hL := hw.l64
 have hD := hw.done
 clear hpc hT hw2 hb2 kp htk hc hw kh k1 k2 k3 k6 hab hps hk8
 go_enter Tryz.func42, Tryz.ntmps42
 go_wp2_with fail
 rw [HW2.out]
 refine HTK.out.mono ?_
 rintro e w3 ⟨rfl, hb3⟩
 have hb33 := HB2.out.trans (hb3.mono HB2.out.size)
 have hc3 := HC.out.after hb33
 have c0 : w3.cell? ⟨o, 0, none⟩ = some (.slice (some ⟨g, 0, none⟩) s.L cap) := hc3.cell.cell 0
 have c3 : w3.cell? ⟨o, 3, none⟩ = some (.int .i64 (s.done : Int)) := hc3.cell.cell 3
 have HC3 := Lib.hid hc3
 have HB3 := Lib.hid hb33
 have HK3 := Lib.hid (HKH.out.after hb3)
 clear hb3 HTK hc3 hb33
 go_wp2_with (refine wpList_load_row rfl 40 (.tmp 7) rfl w.heap.size rfl 40 (fv x k a b) (0, 0) _ HK3.out Tryz.underlying40 rfl size_fault ?_)
 have hc3 := HC3.out
 have hcell := hc3.cell
 rw [HF.out.1, HF.out.2] at hcell
 refine (ce_step o s.L g cap (blankS s.Y) s.mode s.done s.slc s.tlc ls s.done 1 p ⟨#[]⟩ ⟨#[]⟩ x k a b _ hcell hc3.rows (hc3.abs.len) hc3.ne (by omega) hL (by omega) ⟨hp, by decide, by decide⟩).mono ?_
 rintro e w4 ⟨rfl, h1, h2, h3⟩
 have HR := Lib.hid (HK8.out w4 h1 h2)
 have HO := Lib.hid ((Only.of_below (F := FF o g) HB3.out).trans h3 (fun k hk => Or.inl hk))
 clear hc3 hcell h1 h2 h3
 go_wp2_with fail
 go_ret
 exact ⟨rfl, ⟨_, HR.out⟩, HO.out⟩
theorem ce_program (o g cap : Nat) (s : St) (ls : List Ln) (line : Int) (p : ByteArray) (x k a b : Int) (w : World) (hw : WfSt s) (hc : CodeAt w o g cap s ls) (hp : p.size ≤ 400) :
  Calls Tryz.prog 42 #[.pointer (some ⟨o, 0, none⟩), .int .i64 line, .string p, .agg (fv x k a b)] w (ActR o g cap (progSt s line p k a b) (.int .i64 (progC s line p k)) w) := by
 by_cases hok : ProgOk s line p
 ·exact ce_prog_yes o g cap s ls line p x k a b w hw hc hp hok
 ·exact ce_prog_no o g cap s ls line p x k a b w hw hc hok
/- Package cell, walked: Foggy, Fine. -/
def same3 (p q r p' q' r' : ByteArray) : Bool := p == p' && (q == q' && r == r')
theorem beqB (a b : ByteArray) : (a == b) = true ↔ a = b := by
 rw [beq_toListBytes, beq_iff_eq, ByteArray.toList_eq, ByteArray.toList_eq]
 exact ⟨fun h => ByteArray.ext (Array.toList_inj.1 h), fun h => by rw [h]⟩
theorem same3_iff (p q r p' q' r' : ByteArray) : same3 p q r p' q' r' = true ↔ p = p' ∧ q = q' ∧ r = r' := by
 unfold same3
 rw [Bool.and_eq_true, Bool.and_eq_true, beqB, beqB, beqB]
theorem eq_three (p q r p' q' r' : ByteArray) (w : World) : (Op.equalIn 10000 38 (.agg #[.string p, .string q, .string r]) (.agg #[.string p', .string q', .string r'])).run Tryz.prog w = .ok (same3 p q r p' q' r') w := by
 have hu : Tryz.prog.underlying 38 = some (.array 3 9) := by kernel_rfl
 obtain ⟨i, hi, hzz⟩ := Option.map_eq_some_iff.1 info_str
 simp only [Prod.mk.injEq] at hzz
 have hz1 := hzz.1
 have hc : Tryz.prog.cellsOf 9 = 1 := by kernel_rfl
 rw [run_equalIn_array w 9999 _ _ hu hi, hc]
 have hs : ∀ (a b : ByteArray) w, (Op.equalIn 9999 9 (.string a) (.string b)).run Tryz.prog w = .ok (a == b) w := fun a b w => by
  rw [run_equalIn_string w 9998 _ a b Tryz.underlying9, beq_toListBytes]
 simp [List.range, List.range.loop, Op.eqItems, part, isAgg, run_underlying Tryz.underlying9, hs, same3]
 cases p == p' <;> cases q == q' <;> cases r == r' <;> rfl
theorem wp_neq_three {o : Oper} {a : Act} {w : World} {K : Act → World → Prop} {Q : Exit → Act → World → Prop} (x y : Operand) (ho : o.op = .binOp .neq 38 x y 38)
  (p q r p' q' r' : ByteArray) (hx : a.eval x = .agg (tv3 p q r)) (hy : a.eval y = .agg (tv3 p' q' r')) (h : K (a.put o.dst (.bool (!same3 p q r p' q' r'))) w) : o.wp Tryz.prog a w K Q := by
 unfold Oper.wp execOp
 unfold tv3 at hx hy
 simp only [ho, hx, hy, Sem.run_bind, run_eqGuard_agg (P := Tryz.prog) w .neq 38 x y _ _ (by kernel_rfl), Result.andThen_ok, run_neq_struct, eq_three]
 exact h
def nextB (L d : Nat) (line : Int) (f : Bool) : Bool := stC (L : Int) (d : Int) == 0 && sameS (stL (L : Int) (d : Int)) (stF (L : Int) (d : Int)) line f
theorem nextB_iff {L d : Nat} (h1 : 1 ≤ L) (h64 : L ≤ 64) (line : Int) (f : Bool) : nextB L d line f = true ↔ d < 2 * L ∧ line = ((stepC L d).1 : Nat) ∧ f = (stepC L d).2 := by
 unfold nextB stC stL stF
 by_cases hd : d < 2 * L
 ·have hs : IsStep (L : Int) (d : Int) := ⟨⟨by omega, by omega⟩, by omega, by omega⟩
  rw [if_pos hs, if_pos hs, if_pos hs, Bool.and_eq_true, sameS_iff]
  simp only [Int.toNat_natCast]
  constructor
  ·rintro ⟨_, h2, h3⟩; exact ⟨hd, h2.symm, h3.symm⟩
  ·rintro ⟨_, h2, h3⟩; exact ⟨rfl, h2.symm, h3.symm⟩
 ·have hs : ¬ IsStep (L : Int) (d : Int) := fun h => by obtain ⟨_, _, h3⟩ := h; omega
  rw [if_neg hs]
  simp [hd]
theorem fog_next {L d n : Nat} (hd : d < 2 * L) (h : stepC L d = (n, true)) : afterC L d n = 1 := by
 have h1 := place_step hd
 rw [h] at h1
 have h3 : placeC L n true = d := h1.1
 have h2 := foggy_first L n
 unfold afterC
 rw [if_neg (by omega), if_pos (by omega)]
theorem AbsC.pages {s : St} {ls : List Ln} (h : AbsC s ls) (hm : s.mode ≠ 1) (hw : WfSt s) {n : Nat} (hd : s.done < 2 * s.L) (hs : stepC s.L s.done = (n, true)) : (lnAt ls n).p = pageAt s (3 * n) ∧ (lnAt ls n).q = pageAt s (3 * n + 1) ∧ (lnAt ls n).r = pageAt s (3 * n + 2) := by
 have hn : n < s.L := by have := (place_step hd).2; rw [hs] at this; exact this
 have hm2 : s.mode = 2 := by
  rcases hw.mode with h0 | h0 | h0
  ·rw [h.zero h0] at hs; cases hs
  ·exact absurd h0 hm
  ·exact h0
 have hf := fog_next hd hs
 have key : ∀ t, t < 3 → (lnAt ls n).pt t = pageAt s (3 * n + t) := by
  intro t ht
  rw [(h.all hm n t hn ht).1]
  exact if_neg (h.fog hm2 n t hn ht hf)
 exact ⟨key 0 (by omega), key 1 (by omega), key 2 (by omega)⟩
theorem three_at {w : World} {b : Nat} {p q r : ByteArray} {t : TypeId} (h : Blk w b (tv3 p q r) t) : ∀ j, j < [p, q, r].length → w.cell? ⟨b, j, none⟩ = some (.string ([p, q, r].getD j ByteArray.empty)) := by
 intro j hj
 rw [h.cell j]
 match j, hj with
 | 0, _ => rfl
 | 1, _ => rfl
 | 2, _ => rfl
structure CF (w0 : World) (o g cap : Nat) (s : St) (ls : List Ln) (p q r : ByteArray) (x k a b : Int) (w : World) : Prop where
 code : CodeAt w o g cap s ls
 pgs : Blk w w0.heap.size (tv3 p q r) 38
 how : Blk w (w0.heap.size + 1) (fv x k a b) 40
 low : Below w0.heap.size w0 w
theorem CF.call {w0 w w' : World} {o g cap : Nat} {s : St} {ls : List Ln} {p q r : ByteArray} {x k a b : Int} (h : CF w0 o g cap s ls p q r x k a b w) (hb : Below w.heap.size w w') : CF w0 o g cap s ls p q r x k a b w' :=
 ⟨h.code.after hb, h.pgs.after hb, h.how.after hb, h.low.trans (hb.mono h.low.size)⟩
theorem CF.first {w : World} {o g cap : Nat} {s : St} {ls : List Ln} (p q r : ByteArray) (x k a b : Int) (hc : CodeAt w o g cap s ls) : CF w o g cap s ls p q r x k a b ((w.alloc (.cells (tv3 p q r) 38)).alloc (.cells (fv x k a b) 40)) := by
 have hb2 : Below w.heap.size w ((w.alloc (.cells (tv3 p q r) 38)).alloc (.cells (fv x k a b) 40)) := ((Below.refl _ _).alloc (Nat.le_refl _) _).alloc (by simp) _
 refine ⟨hc.after hb2, (Blk.new w _ _).alloc _, ?_, hb2⟩
 have h := Blk.new (w.alloc (.cells (tv3 p q r) 38)) (fv x k a b) 40
 rwa [World.size_alloc] at h
theorem CF.takes {w0 w : World} {o g cap : Nat} {s : St} {ls : List Ln} {p q r : ByteArray} {x k a b : Int} (h : CF w0 o g cap s ls p q r x k a b w) (hw : WfSt s) :
  Calls Tryz.prog 85 #[.pointer (some ⟨o, 0, none⟩), .int .i64 2, .slice (some ⟨w0.heap.size, 0, none⟩) 3 3] w fun e w' => e = .returned (.bool (takesA s.mode 2 s.bad s.torn (blankS s.Y) [p, q, r])) ∧ Below w.heap.size w w' :=
 ce_takes o s.L g cap (blankS s.Y) s.mode s.done s.slc s.tlc s.bad s.torn 2 [p, q, r] w0.heap.size 3 w h.code.cell (Nat.le_of_ble_eq_true rfl) (three_at h.pgs) hw.mode (Or.inr rfl)
theorem CF.next {w0 w : World} {o g cap : Nat} {s : St} {ls : List Ln} {p q r : ByteArray} {x k a b : Int} (h : CF w0 o g cap s ls p q r x k a b w) (line : Int) (f : Bool) :
  Calls Tryz.prog 93 #[.pointer (some ⟨o, 0, none⟩), .agg #[.int .i64 line, .bool f]] w fun e w' => e = .returned (.bool (nextB s.L s.done line f)) ∧ Below w.heap.size w w' :=
 ce_isNext o s.L g cap (blankS s.Y) s.mode s.done s.slc s.tlc s.bad s.torn line f w h.code.cell
theorem CF.step {w0 w : World} {o g cap : Nat} {s : St} {ls : List Ln} {p q r : ByteArray} {x k a b : Int} {f : Bool} (h : CF w0 o g cap s ls p q r x k a b w) (hw : WfSt s) (n : Nat) (hok : TwoOk s (n : Int) p q r f) :
  Calls Tryz.prog 86 #[.pointer (some ⟨o, 0, none⟩), .int .i64 2, .int .i64 (n : Int), .agg (tv3 p q r), .agg (fv x k a b)] w (ActR o g cap (twoSt s (n : Int) p q r f k a b) (.int .i64 (twoC s (n : Int) p q r f k)) w) := by
 have hpc : twoC s (n : Int) p q r f k = endC k := by unfold twoC; rw [if_pos hok]
 have hps : twoSt s (n : Int) p q r f k a b = endSt (put3 (stepSt s 2) (3 * n) p q r k a b 3) k := by unfold twoSt; rw [if_pos hok]; simp
 have hab := h.code.abs.two hw hok k a b
 rw [hpc]
 rw [hps] at hab ⊢
 obtain ⟨k1, k2, k3, k4, k5, k6, k7, k8, k9, k10⟩ := hok
 have hn : n < s.L := by have := (place_step k4).2; omega
 have hcell := h.code.cell
 have hL := hw.l64
 rw [k1, k2] at hcell
 refine (ce_step o s.L g cap (blankS s.Y) s.mode s.done s.slc s.tlc ls n 2 p q r x k a b w hcell h.code.rows h.code.abs.len h.code.ne hn hL (by omega) ⟨takes_size hw k7, takes_size hw k8, takes_size hw k9⟩).mono ?_
 rintro e w4 ⟨rfl, h1, h2, h3⟩
 exact ⟨rfl, ⟨_, CodeAt.of_end (t := put3 (stepSt s 2) (3 * n) p q r k a b 3) h.code.ne h.code.pos h1 h2 rfl rfl rfl rfl rfl rfl k1 k2 hab⟩, h3⟩
theorem ActR.from {w0 w : World} {o g cap : Nat} {s : St} {v : Value} {e : Ending} {w' : World} (h : ActR o g cap s v w e w') (hb : Below w0.heap.size w0 w) : ActR o g cap s v w0 e w' :=
 ⟨h.1, h.2.1, (Only.of_below (F := FF o g) hb).trans h.2.2 (fun _ hk => Or.inl hk)⟩
set_option maxHeartbeats 1000000 in
theorem ce_foggy0 (o g cap : Nat) (s : St) (ls : List Ln) (line : Int) (p q r : ByteArray) (x k a b : Int) (w : World) (hw : WfSt s) (hc : CodeAt w o g cap s ls) :
  Calls Tryz.prog 49 #[.pointer (some ⟨o, 0, none⟩), .int .i64 line, .agg (tv3 p q r), .agg (fv x k a b)] w (ActR o g cap (twoSt s line p q r false k a b) (.int .i64 (twoC s line p q r false k)) w) := by
 have hT := takesA_three hw p q r
 have hN := nextB_iff (d := s.done) hw.l1 hw.l64 line false
 obtain ⟨w2, hw2⟩ : ∃ w2, (w.alloc (.cells (tv3 p q r) 38)).alloc (.cells (fv x k a b) 40) = w2 := ⟨_, rfl⟩
 have hcf : CF w o g cap s ls p q r x k a b w2 := by rw [← hw2]; exact CF.first p q r x k a b hc
 have HTK : Hid (∀ w', CF w o g cap s ls p q r x k a b w' → Calls Tryz.prog 85 #[.pointer (some ⟨o, 0, none⟩), .int .i64 2, .slice (some ⟨w.heap.size, 0, none⟩) 3 3] w' fun e w'' => e = .returned (.bool (takesA s.mode 2 s.bad s.torn (blankS s.Y) [p, q, r])) ∧ Below w'.heap.size w' w'') := fun w' h => h.takes hw
 have HNX : Hid (∀ w', CF w o g cap s ls p q r x k a b w' → Calls Tryz.prog 93 #[.pointer (some ⟨o, 0, none⟩), .agg #[.int .i64 line, .bool false]] w' fun e w'' => e = .returned (.bool (nextB s.L s.done line false)) ∧ Below w'.heap.size w' w'') := fun w' h => h.next line false
 obtain ⟨T, hTT⟩ : ∃ T, takesA s.mode 2 s.bad s.torn (blankS s.Y) [p, q, r] = T := ⟨_, rfl⟩
 obtain ⟨N, hNN⟩ : ∃ N, nextB s.L s.done line false = N := ⟨_, rfl⟩
 rw [hTT] at hT
 rw [hNN] at hN
 simp only [hTT] at HTK
 simp only [hNN] at HNX
 have HCF := Lib.hid hcf
 have HW2 := Lib.hid hw2
 have HWF := Lib.hid hw
 clear hTT hNN hcf hw2 hw hc
 by_cases hok : TwoOk s line p q r false
 ·have hn : line = ((stepC s.L s.done).1 : Nat) := hok.2.2.2.2.1
  obtain ⟨n, hnn⟩ : ∃ n : Nat, line = (n : Int) := ⟨_, hn⟩
  obtain rfl : T = true := hT.2 ⟨hok.1, hok.2.1, hok.2.2.1, hok.2.2.2.2.2.2.1, hok.2.2.2.2.2.2.2.1, hok.2.2.2.2.2.2.2.2.1⟩
  obtain rfl : N = true := hN.2 ⟨hok.2.2.2.1, hok.2.2.2.2.1, hok.2.2.2.2.2.1⟩
  clear hT hN hn
  subst hnn
  have HOK := Lib.hid hok
  clear hok
  go_enter Tryz.func49, Tryz.ntmps49
  go_wp2_with fail
  rw [HW2.out]
  refine (HTK.out _ HCF.out).mono ?_
  rintro e w3 ⟨rfl, hb3⟩
  have HC3 := Lib.hid (HCF.out.call hb3)
  clear hb3
  go_wp2_with fail
  refine (HNX.out _ HC3.out).mono ?_
  rintro e w4 ⟨rfl, hb4⟩
  have HC4 := Lib.hid (HC3.out.call hb4)
  clear hb4
  go_wp2_with (first
   | (refine wpList_load_row rfl 38 (.tmp 6) rfl w.heap.size rfl 38 (tv3 p q r) (0, 0) _ HC4.out.pgs Tryz.underlying38 rfl size_three ?_)
   | (refine wpList_load_row rfl 40 (.tmp 7) rfl (w.heap.size + 1) rfl 40 (fv x k a b) (0, 0) _ HC4.out.how Tryz.underlying40 rfl size_fault ?_))
  refine (HC4.out.step HWF.out n HOK.out).mono ?_
  rintro e w5 hr
  obtain ⟨rfl, h2, h3⟩ := ActR.from hr HC4.out.low
  have HR := Lib.hid h2
  have HO := Lib.hid h3
  clear hr h2 h3
  go_wp2_with fail
  go_ret
  exact ⟨rfl, HR.out, HO.out⟩
 ·have h2 := two_no hok (k := k) (a := a) (b := b)
  rw [h2.1, h2.2]
  cases T with
  | false =>
   clear hT hN hok h2
   go_enter Tryz.func49, Tryz.ntmps49
   go_wp2_with fail
   rw [HW2.out]
   refine (HTK.out _ HCF.out).mono ?_
   rintro e w3 ⟨rfl, hb3⟩
   have HC3 := Lib.hid (HCF.out.call hb3)
   clear hb3
   go_wp2_with fail
   go_ret
   exact ⟨rfl, ⟨ls, HC3.out.code⟩, Only.of_below HC3.out.low⟩
  | true =>
   cases N with
   | false =>
    clear hT hN hok h2
    go_enter Tryz.func49, Tryz.ntmps49
    go_wp2_with fail
    rw [HW2.out]
    refine (HTK.out _ HCF.out).mono ?_
    rintro e w3 ⟨rfl, hb3⟩
    have HC3 := Lib.hid (HCF.out.call hb3)
    clear hb3
    go_wp2_with fail
    refine (HNX.out _ HC3.out).mono ?_
    rintro e w4 ⟨rfl, hb4⟩
    have HC4 := Lib.hid (HC3.out.call hb4)
    clear hb4
    go_wp2_with fail
    go_ret
    exact ⟨rfl, ⟨ls, HC4.out.code⟩, Only.of_below HC4.out.low⟩
   | true =>
    exfalso
    obtain ⟨a1, a2, a3, a4, a5, a6⟩ := hT.1 rfl
    obtain ⟨b1, b2, b3⟩ := hN.1 rfl
    exact hok ⟨a1, a2, a3, b1, b2, b3, a4, a5, a6, fun h => by cases h⟩
def vsFIA (o B : Nat) : List (Option (Tmp × Value)) :=
 [some (9, .pointer (some ⟨o, 0, none⟩)), some (10, .slice (some ⟨B, 0, none⟩) 3 3), some (11, .bool false), some (12, .bool true), some (13, .bool true), some (14, undef), some (15, undef), some (16, undef), some (17, undef), some (18, undef), some (19, .bool true), some (20, .bool true), some (21, undef), some (22, undef), some (23, undef), some (24, undef), some (25, undef), some (26, undef), some (27, undef), some (28, undef), some (29, undef), some (30, undef), some (31, .bool true)]
def BaseFIA (o B : Nat) (line : Int) (a : Act) : Prop := ∃ u : Nat → Value, a = ⟨#[.pointer (some ⟨o, 0, none⟩), .int .i64 line, u 2, u 3, u 4, u 5, .pointer (some ⟨B, 0, none⟩), .pointer (some ⟨B + 1, 0, none⟩), u 8, u 9, u 10, u 11, u 12, u 13, u 14, u 15, u 16, u 17, u 18, u 19, u 20, u 21, u 22, u 23, u 24, u 25, u 26, u 27, u 28, u 29, u 30, u 31, u 32, u 33, u 34, u 35, u 36], []⟩
def vsFIB (o B : Nat) (line : Int) : List (Option (Tmp × Value)) :=
 [some (9, .pointer (some ⟨o, 0, none⟩)), some (10, .slice (some ⟨B, 0, none⟩) 3 3), some (11, .bool true), some (12, .bool false), some (13, .bool false), some (14, .pointer (some ⟨o, 0, none⟩)), some (15, .int .i64 line), some (16, .agg #[.int .i64 line, .bool true]), some (17, .bool false), some (18, .bool true), some (19, .bool true), some (20, .bool true), some (21, undef), some (22, undef), some (23, undef), some (24, undef), some (25, undef), some (26, undef), some (27, undef), some (28, undef), some (29, undef), some (30, undef), some (31, .bool true)]
def BaseFIB (o B : Nat) (line : Int) (a : Act) : Prop := ∃ u : Nat → Value, a = ⟨#[.pointer (some ⟨o, 0, none⟩), .int .i64 line, u 2, u 3, u 4, u 5, .pointer (some ⟨B, 0, none⟩), .pointer (some ⟨B + 1, 0, none⟩), u 8, u 9, u 10, u 11, u 12, u 13, u 14, u 15, u 16, u 17, u 18, u 19, u 20, u 21, u 22, u 23, u 24, u 25, u 26, u 27, u 28, u 29, u 30, u 31, u 32, u 33, u 34, u 35, u 36], []⟩
def vsFIC (o g cap B n : Nat) (s : St) (ls : List Ln) (p q r : ByteArray) (E : Bool) : List (Option (Tmp × Value)) :=
 [some (9, .pointer (some ⟨o, 0, none⟩)), some (10, .slice (some ⟨B, 0, none⟩) 3 3), some (11, .bool true), some (12, .bool false), some (13, .bool false), some (14, .pointer (some ⟨o, 0, none⟩)), some (15, .int .i64 (n : Int)), some (16, .agg #[.int .i64 (n : Int), .bool true]), some (17, .bool true), some (18, .bool false), some (19, .bool false), some (20, .bool false), some (21, .agg (tv3 p q r)), some (22, .pointer (some ⟨o, 0, none⟩)), some (23, .pointer (some ⟨o, 0, none⟩)), some (24, .pointer (some ⟨o, 0, none⟩)), some (25, .slice (some ⟨g, 0, none⟩) s.L cap), some (26, .int .i64 (n : Int)), some (27, .pointer (some ⟨g, n * 4, none⟩)), some (28, .pointer (some ⟨g, n * 4, none⟩)), some (29, .agg #[.string (lnAt ls n).p, .string (lnAt ls n).q, .string (lnAt ls n).r]), some (30, .bool (!E)), some (31, .bool (!E))]
def BaseFIC (o B n : Nat) (a : Act) : Prop := ∃ u : Nat → Value, a = ⟨#[.pointer (some ⟨o, 0, none⟩), .int .i64 (n : Int), u 2, u 3, u 4, u 5, .pointer (some ⟨B, 0, none⟩), .pointer (some ⟨B + 1, 0, none⟩), u 8, u 9, u 10, u 11, u 12, u 13, u 14, u 15, u 16, u 17, u 18, u 19, u 20, u 21, u 22, u 23, u 24, u 25, u 26, u 27, u 28, u 29, u 30, u 31, u 32, u 33, u 34, u 35, u 36], []⟩
set_option maxHeartbeats 2000000 in
theorem ce_fine0 (o g cap : Nat) (s : St) (ls : List Ln) (line : Int) (p q r : ByteArray) (x k a b : Int) (w : World) (hw : WfSt s) (hc : CodeAt w o g cap s ls) :
  Calls Tryz.prog 51 #[.pointer (some ⟨o, 0, none⟩), .int .i64 line, .agg (tv3 p q r), .agg (fv x k a b)] w (ActR o g cap (twoSt s line p q r true k a b) (.int .i64 (twoC s line p q r true k)) w) := by
 have hT := takesA_three hw p q r
 have hN := nextB_iff (d := s.done) hw.l1 hw.l64 line true
 obtain ⟨w2, hw2⟩ : ∃ w2, (w.alloc (.cells (tv3 p q r) 38)).alloc (.cells (fv x k a b) 40) = w2 := ⟨_, rfl⟩
 have hcf : CF w o g cap s ls p q r x k a b w2 := by rw [← hw2]; exact CF.first p q r x k a b hc
 have HTK : Hid (∀ w', CF w o g cap s ls p q r x k a b w' → Calls Tryz.prog 85 #[.pointer (some ⟨o, 0, none⟩), .int .i64 2, .slice (some ⟨w.heap.size, 0, none⟩) 3 3] w' fun e w'' => e = .returned (.bool (takesA s.mode 2 s.bad s.torn (blankS s.Y) [p, q, r])) ∧ Below w'.heap.size w' w'') := fun w' h => h.takes hw
 have HNX : Hid (∀ w', CF w o g cap s ls p q r x k a b w' → Calls Tryz.prog 93 #[.pointer (some ⟨o, 0, none⟩), .agg #[.int .i64 line, .bool true]] w' fun e w'' => e = .returned (.bool (nextB s.L s.done line true)) ∧ Below w'.heap.size w' w'') := fun w' h => h.next line true
 obtain ⟨T, hTT⟩ : ∃ T, takesA s.mode 2 s.bad s.torn (blankS s.Y) [p, q, r] = T := ⟨_, rfl⟩
 obtain ⟨N, hNN⟩ : ∃ N, nextB s.L s.done line true = N := ⟨_, rfl⟩
 rw [hTT] at hT
 rw [hNN] at hN
 simp only [hTT] at HTK
 simp only [hNN] at HNX
 have hHC0 := hcf
 have HC0 := Lib.hid hHC0
 have HW2 := Lib.hid hw2
 have HWF := Lib.hid hw
 have HAB := Lib.hid hc.abs
 clear hTT hNN hcf hw2 hw hc hHC0
 cases T with
 | false =>
  have hno : ¬ TwoOk s line p q r true := fun h => by
   have := hT.2 ⟨h.1, h.2.1, h.2.2.1, h.2.2.2.2.2.2.1, h.2.2.2.2.2.2.2.1, h.2.2.2.2.2.2.2.2.1⟩
   cases this
  have h2 := two_no hno (k := k) (a := a) (b := b)
  rw [h2.1, h2.2]
  clear hT hN hno h2 HNX
  go_enter Tryz.func51, Tryz.ntmps51
  go_wp2_with fail
  change Code.wp _ _ _ _ ((w.alloc (.cells (tv3 p q r) 38)).alloc (.cells (fv x k a b) 40))
  rw [HW2.out]
  rename_i K0 hK0
  refine wp_region_list3 (SV (vsFIA o w.heap.size) []) (BaseFIA o w.heap.size line) (CF w o g cap s ls p q r x k a b) (Goes) (RV (vsFIA o w.heap.size) (fun _ _ _ => False)) rfl (by kernel_rfl) (RV.ext no_specialC) ?_ (HC0.out.call (Below.refl _ _).drew) (fr_of _ (by kernel_rfl)) ?_ ?_
  ·exact ⟨fr_put 9 fun _ _ => by kernel_rfl, fr_put 10 fun _ _ => by kernel_rfl, fr_put 11 fun _ _ => by kernel_rfl, fr_put 12 fun _ _ => by kernel_rfl, fr_put 13 fun _ _ => by kernel_rfl, fr_put 14 fun _ _ => by kernel_rfl, fr_put 15 fun _ _ => by kernel_rfl, fr_put 16 fun _ _ => by kernel_rfl, fr_put 17 fun _ _ => by kernel_rfl, fr_put 18 fun _ _ => by kernel_rfl, fr_put 19 fun _ _ => by kernel_rfl, fr_put 20 fun _ _ => by kernel_rfl, fr_put 21 fun _ _ => by kernel_rfl, fr_put 22 fun _ _ => by kernel_rfl, fr_put 23 fun _ _ => by kernel_rfl, fr_put 24 fun _ _ => by kernel_rfl, fr_put 25 fun _ _ => by kernel_rfl, fr_put 26 fun _ _ => by kernel_rfl, fr_put 27 fun _ _ => by kernel_rfl, fr_put 28 fun _ _ => by kernel_rfl, fr_put 29 fun _ _ => by kernel_rfl, fr_put 30 fun _ _ => by kernel_rfl, fr_put 31 fun _ _ => by kernel_rfl, trivial⟩
  ·refine ⟨?_, ?_, ?_, ?_, ?_, ?_, ?_, ?_, ?_, ?_, ?_, ?_, ?_, ?_, ?_, ?_, ?_, ?_, ?_, ?_, ?_, ?_, ?_, trivial⟩
   all_goals
    intro a w' hC hB hR
    obtain ⟨u, rfl⟩ := hB
    have HC := Lib.hid hC
    clear hC; clear hK0
   ·clear hR; refine if_yes (by kernel_rfl) ?_; unfold Oper.wp; go_simp; exact ⟨.pointer (some ⟨o, 0, none⟩), rfl, HC.out, Below.refl _ _, rfl⟩
   ·clear hR; refine if_yes (by kernel_rfl) ?_; unfold Oper.wp; go_simp
    exact ⟨.slice (some ⟨w.heap.size, 0, none⟩) 3 3, rfl, HC.out, Below.refl _ _, rfl⟩
   ·have h9 : u 9 = .pointer (some ⟨o, 0, none⟩) := hR ⟨0, .data⟩ (by simp) rfl; have h10 : u 10 = .slice (some ⟨w.heap.size, 0, none⟩) 3 3 := hR ⟨1, .data⟩ (by simp) rfl; clear hR; simp only [h9, h10]; refine if_yes (by kernel_rfl) ?_; unfold Oper.wp; go_simp
    refine (HTK.out _ HC.out).mono ?_
    rintro e w2 ⟨rfl, hb2⟩
    exact ⟨.bool false, rfl, HC.out.call hb2, hb2, rfl⟩
   ·have h11 : u 11 = .bool false := hR ⟨2, .data⟩ (by simp) rfl; clear hR; simp only [h11]; refine if_yes (by kernel_rfl) ?_; unfold Oper.wp; go_simp; exact ⟨.bool true, rfl, HC.out, Below.refl _ _, rfl⟩
   ·have h12 : u 12 = .bool true := hR ⟨3, .data⟩ (by simp) rfl; clear hR; simp only [h12]; refine if_yes (by kernel_rfl) ?_; unfold Oper.wp; go_simp; exact ⟨.bool true, rfl, HC.out, Below.refl _ _, rfl⟩
   ·have g13 : u 13 = .bool true := hR ⟨4, .guard⟩ (by simp) rfl; clear hR; simp only [g13]; refine if_no (by kernel_rfl) ?_; exact ⟨undef, rfl, HC.out, Below.refl _ _, rfl⟩
   ·have g13 : u 13 = .bool true := hR ⟨4, .guard⟩ (by simp) rfl; clear hR; simp only [g13]; refine if_no (by kernel_rfl) ?_; exact ⟨undef, rfl, HC.out, Below.refl _ _, rfl⟩
   ·have g13 : u 13 = .bool true := hR ⟨4, .guard⟩ (by simp) rfl; clear hR; simp only [g13]; refine if_no (by kernel_rfl) ?_; exact ⟨undef, rfl, HC.out, Below.refl _ _, rfl⟩
   ·have g13 : u 13 = .bool true := hR ⟨4, .guard⟩ (by simp) rfl; clear hR; simp only [g13]; refine if_no (by kernel_rfl) ?_; exact ⟨undef, rfl, HC.out, Below.refl _ _, rfl⟩
   ·have g13 : u 13 = .bool true := hR ⟨4, .guard⟩ (by simp) rfl; clear hR; simp only [g13]; refine if_no (by kernel_rfl) ?_; exact ⟨undef, rfl, HC.out, Below.refl _ _, rfl⟩
   ·have h13 : u 13 = .bool true := hR ⟨4, .data⟩ (by simp) rfl; have h18 : u 18 = undef := hR ⟨9, .data⟩ (by simp) rfl; clear hR; simp only [h13, h18]; refine if_yes (by kernel_rfl) ?_; unfold Oper.wp; go_simp; exact ⟨.bool true, rfl, HC.out, Below.refl _ _, rfl⟩
   ·have h19 : u 19 = .bool true := hR ⟨10, .data⟩ (by simp) rfl; clear hR; simp only [h19]; refine if_yes (by kernel_rfl) ?_; unfold Oper.wp; go_simp; exact ⟨.bool true, rfl, HC.out, Below.refl _ _, rfl⟩
   ·have g20 : u 20 = .bool true := hR ⟨11, .guard⟩ (by simp) rfl; clear hR; simp only [g20]; refine if_no (by kernel_rfl) ?_; exact ⟨undef, rfl, HC.out, Below.refl _ _, rfl⟩
   ·have g20 : u 20 = .bool true := hR ⟨11, .guard⟩ (by simp) rfl; clear hR; simp only [g20]; refine if_no (by kernel_rfl) ?_; exact ⟨undef, rfl, HC.out, Below.refl _ _, rfl⟩
   ·have g20 : u 20 = .bool true := hR ⟨11, .guard⟩ (by simp) rfl; clear hR; simp only [g20]; refine if_no (by kernel_rfl) ?_; exact ⟨undef, rfl, HC.out, Below.refl _ _, rfl⟩
   ·have g20 : u 20 = .bool true := hR ⟨11, .guard⟩ (by simp) rfl; clear hR; simp only [g20]; refine if_no (by kernel_rfl) ?_; exact ⟨undef, rfl, HC.out, Below.refl _ _, rfl⟩
   ·have g20 : u 20 = .bool true := hR ⟨11, .guard⟩ (by simp) rfl; clear hR; simp only [g20]; refine if_no (by kernel_rfl) ?_; exact ⟨undef, rfl, HC.out, Below.refl _ _, rfl⟩
   ·have g20 : u 20 = .bool true := hR ⟨11, .guard⟩ (by simp) rfl; clear hR; simp only [g20]; refine if_no (by kernel_rfl) ?_; exact ⟨undef, rfl, HC.out, Below.refl _ _, rfl⟩
   ·have g20 : u 20 = .bool true := hR ⟨11, .guard⟩ (by simp) rfl; clear hR; simp only [g20]; refine if_no (by kernel_rfl) ?_; exact ⟨undef, rfl, HC.out, Below.refl _ _, rfl⟩
   ·have g20 : u 20 = .bool true := hR ⟨11, .guard⟩ (by simp) rfl; clear hR; simp only [g20]; refine if_no (by kernel_rfl) ?_; exact ⟨undef, rfl, HC.out, Below.refl _ _, rfl⟩
   ·have g20 : u 20 = .bool true := hR ⟨11, .guard⟩ (by simp) rfl; clear hR; simp only [g20]; refine if_no (by kernel_rfl) ?_; exact ⟨undef, rfl, HC.out, Below.refl _ _, rfl⟩
   ·have g20 : u 20 = .bool true := hR ⟨11, .guard⟩ (by simp) rfl; clear hR; simp only [g20]; refine if_no (by kernel_rfl) ?_; exact ⟨undef, rfl, HC.out, Below.refl _ _, rfl⟩
   ·have h20 : u 20 = .bool true := hR ⟨11, .data⟩ (by simp) rfl; have h30 : u 30 = undef := hR ⟨21, .data⟩ (by simp) rfl; clear hR; simp only [h20, h30]; refine if_yes (by kernel_rfl) ?_; unfold Oper.wp; go_simp; exact ⟨.bool true, rfl, HC.out, Below.refl _ _, rfl⟩
  ·intro a' w' hC hB hR
   have h31 := hR 22 (by decide)
   obtain ⟨u, rfl⟩ := hB
   have h31 : u 31 = .bool true := h31
   simp only [h31]
   have HC3 := Lib.hid hC
   clear hR h31 hC HC0 HTK
   go_wp2_with fail
   go_ret
   exact ⟨rfl, ⟨ls, HC3.out.code⟩, Only.of_below HC3.out.low⟩
 | true =>
  cases N with
  | false =>
   have hno : ¬ TwoOk s line p q r true := fun h => by
    have := hN.2 ⟨h.2.2.2.1, h.2.2.2.2.1, h.2.2.2.2.2.1⟩
    cases this
   have h2 := two_no hno (k := k) (a := a) (b := b)
   rw [h2.1, h2.2]
   clear hT hN hno h2
   go_enter Tryz.func51, Tryz.ntmps51
   go_wp2_with fail
   change Code.wp _ _ _ _ ((w.alloc (.cells (tv3 p q r) 38)).alloc (.cells (fv x k a b) 40))
   rw [HW2.out]
   rename_i K0 hK0
   refine wp_region_list3 (SV (vsFIB o w.heap.size line) []) (BaseFIB o w.heap.size line) (CF w o g cap s ls p q r x k a b) (Goes) (RV (vsFIB o w.heap.size line) (fun _ _ _ => False)) rfl (by kernel_rfl) (RV.ext no_specialC) ?_ (HC0.out.call (Below.refl _ _).drew) (fr_of _ (by kernel_rfl)) ?_ ?_
   ·exact ⟨fr_put 9 fun _ _ => by kernel_rfl, fr_put 10 fun _ _ => by kernel_rfl, fr_put 11 fun _ _ => by kernel_rfl, fr_put 12 fun _ _ => by kernel_rfl, fr_put 13 fun _ _ => by kernel_rfl, fr_put 14 fun _ _ => by kernel_rfl, fr_put 15 fun _ _ => by kernel_rfl, fr_put 16 fun _ _ => by kernel_rfl, fr_put 17 fun _ _ => by kernel_rfl, fr_put 18 fun _ _ => by kernel_rfl, fr_put 19 fun _ _ => by kernel_rfl, fr_put 20 fun _ _ => by kernel_rfl, fr_put 21 fun _ _ => by kernel_rfl, fr_put 22 fun _ _ => by kernel_rfl, fr_put 23 fun _ _ => by kernel_rfl, fr_put 24 fun _ _ => by kernel_rfl, fr_put 25 fun _ _ => by kernel_rfl, fr_put 26 fun _ _ => by kernel_rfl, fr_put 27 fun _ _ => by kernel_rfl, fr_put 28 fun _ _ => by kernel_rfl, fr_put 29 fun _ _ => by kernel_rfl, fr_put 30 fun _ _ => by kernel_rfl, fr_put 31 fun _ _ => by kernel_rfl, trivial⟩
   ·refine ⟨?_, ?_, ?_, ?_, ?_, ?_, ?_, ?_, ?_, ?_, ?_, ?_, ?_, ?_, ?_, ?_, ?_, ?_, ?_, ?_, ?_, ?_, ?_, trivial⟩
    all_goals
     intro a w' hC hB hR
     obtain ⟨u, rfl⟩ := hB
     have HC := Lib.hid hC
     clear hC; clear hK0
    ·clear hR; refine if_yes (by kernel_rfl) ?_; unfold Oper.wp; go_simp; exact ⟨.pointer (some ⟨o, 0, none⟩), rfl, HC.out, Below.refl _ _, rfl⟩
    ·clear hR; refine if_yes (by kernel_rfl) ?_; unfold Oper.wp; go_simp
     exact ⟨.slice (some ⟨w.heap.size, 0, none⟩) 3 3, rfl, HC.out, Below.refl _ _, rfl⟩
    ·have h9 : u 9 = .pointer (some ⟨o, 0, none⟩) := hR ⟨0, .data⟩ (by simp) rfl; have h10 : u 10 = .slice (some ⟨w.heap.size, 0, none⟩) 3 3 := hR ⟨1, .data⟩ (by simp) rfl; clear hR; simp only [h9, h10]; refine if_yes (by kernel_rfl) ?_; unfold Oper.wp; go_simp
     refine (HTK.out _ HC.out).mono ?_
     rintro e w2 ⟨rfl, hb2⟩
     exact ⟨.bool true, rfl, HC.out.call hb2, hb2, rfl⟩
    ·have h11 : u 11 = .bool true := hR ⟨2, .data⟩ (by simp) rfl; clear hR; simp only [h11]; refine if_yes (by kernel_rfl) ?_; unfold Oper.wp; go_simp; exact ⟨.bool false, rfl, HC.out, Below.refl _ _, rfl⟩
    ·have h12 : u 12 = .bool false := hR ⟨3, .data⟩ (by simp) rfl; clear hR; simp only [h12]; refine if_yes (by kernel_rfl) ?_; unfold Oper.wp; go_simp; exact ⟨.bool false, rfl, HC.out, Below.refl _ _, rfl⟩
    ·have g13 : u 13 = .bool false := hR ⟨4, .guard⟩ (by simp) rfl; clear hR; simp only [g13]; refine if_yes (by kernel_rfl) ?_; unfold Oper.wp; go_simp; exact ⟨.pointer (some ⟨o, 0, none⟩), rfl, HC.out, Below.refl _ _, rfl⟩
    ·have g13 : u 13 = .bool false := hR ⟨4, .guard⟩ (by simp) rfl; clear hR; simp only [g13]; refine if_yes (by kernel_rfl) ?_; unfold Oper.wp; go_simp; exact ⟨.int .i64 line, rfl, HC.out, Below.refl _ _, rfl⟩
    ·have g13 : u 13 = .bool false := hR ⟨4, .guard⟩ (by simp) rfl; have h15 : u 15 = .int .i64 line := hR ⟨6, .data⟩ (by simp) rfl; clear hR; simp only [g13, h15]; refine if_yes (by kernel_rfl) ?_; unfold Oper.wp; go_simp
     exact ⟨.agg #[.int .i64 line, .bool true], rfl, HC.out, Below.refl _ _, rfl⟩
    ·have g13 : u 13 = .bool false := hR ⟨4, .guard⟩ (by simp) rfl; have h14 : u 14 = .pointer (some ⟨o, 0, none⟩) := hR ⟨5, .data⟩ (by simp) rfl; have h16 : u 16 = .agg #[.int .i64 line, .bool true] := hR ⟨7, .data⟩ (by simp) rfl; clear hR; simp only [g13, h14, h16]; refine if_yes (by kernel_rfl) ?_; unfold Oper.wp; go_simp
     refine (HNX.out _ HC.out).mono ?_
     rintro e w2 ⟨rfl, hb2⟩
     exact ⟨.bool false, rfl, HC.out.call hb2, hb2, rfl⟩
    ·have g13 : u 13 = .bool false := hR ⟨4, .guard⟩ (by simp) rfl; have h17 : u 17 = .bool false := hR ⟨8, .data⟩ (by simp) rfl; clear hR; simp only [g13, h17]; refine if_yes (by kernel_rfl) ?_; unfold Oper.wp; go_simp; exact ⟨.bool true, rfl, HC.out, Below.refl _ _, rfl⟩
    ·have h13 : u 13 = .bool false := hR ⟨4, .data⟩ (by simp) rfl; have h18 : u 18 = .bool true := hR ⟨9, .data⟩ (by simp) rfl; clear hR; simp only [h13, h18]; refine if_yes (by kernel_rfl) ?_; unfold Oper.wp; go_simp; exact ⟨.bool true, rfl, HC.out, Below.refl _ _, rfl⟩
    ·have h19 : u 19 = .bool true := hR ⟨10, .data⟩ (by simp) rfl; clear hR; simp only [h19]; refine if_yes (by kernel_rfl) ?_; unfold Oper.wp; go_simp; exact ⟨.bool true, rfl, HC.out, Below.refl _ _, rfl⟩
    ·have g20 : u 20 = .bool true := hR ⟨11, .guard⟩ (by simp) rfl; clear hR; simp only [g20]; refine if_no (by kernel_rfl) ?_; exact ⟨undef, rfl, HC.out, Below.refl _ _, rfl⟩
    ·have g20 : u 20 = .bool true := hR ⟨11, .guard⟩ (by simp) rfl; clear hR; simp only [g20]; refine if_no (by kernel_rfl) ?_; exact ⟨undef, rfl, HC.out, Below.refl _ _, rfl⟩
    ·have g20 : u 20 = .bool true := hR ⟨11, .guard⟩ (by simp) rfl; clear hR; simp only [g20]; refine if_no (by kernel_rfl) ?_; exact ⟨undef, rfl, HC.out, Below.refl _ _, rfl⟩
    ·have g20 : u 20 = .bool true := hR ⟨11, .guard⟩ (by simp) rfl; clear hR; simp only [g20]; refine if_no (by kernel_rfl) ?_; exact ⟨undef, rfl, HC.out, Below.refl _ _, rfl⟩
    ·have g20 : u 20 = .bool true := hR ⟨11, .guard⟩ (by simp) rfl; clear hR; simp only [g20]; refine if_no (by kernel_rfl) ?_; exact ⟨undef, rfl, HC.out, Below.refl _ _, rfl⟩
    ·have g20 : u 20 = .bool true := hR ⟨11, .guard⟩ (by simp) rfl; clear hR; simp only [g20]; refine if_no (by kernel_rfl) ?_; exact ⟨undef, rfl, HC.out, Below.refl _ _, rfl⟩
    ·have g20 : u 20 = .bool true := hR ⟨11, .guard⟩ (by simp) rfl; clear hR; simp only [g20]; refine if_no (by kernel_rfl) ?_; exact ⟨undef, rfl, HC.out, Below.refl _ _, rfl⟩
    ·have g20 : u 20 = .bool true := hR ⟨11, .guard⟩ (by simp) rfl; clear hR; simp only [g20]; refine if_no (by kernel_rfl) ?_; exact ⟨undef, rfl, HC.out, Below.refl _ _, rfl⟩
    ·have g20 : u 20 = .bool true := hR ⟨11, .guard⟩ (by simp) rfl; clear hR; simp only [g20]; refine if_no (by kernel_rfl) ?_; exact ⟨undef, rfl, HC.out, Below.refl _ _, rfl⟩
    ·have g20 : u 20 = .bool true := hR ⟨11, .guard⟩ (by simp) rfl; clear hR; simp only [g20]; refine if_no (by kernel_rfl) ?_; exact ⟨undef, rfl, HC.out, Below.refl _ _, rfl⟩
    ·have h20 : u 20 = .bool true := hR ⟨11, .data⟩ (by simp) rfl; have h30 : u 30 = undef := hR ⟨21, .data⟩ (by simp) rfl; clear hR; simp only [h20, h30]; refine if_yes (by kernel_rfl) ?_; unfold Oper.wp; go_simp; exact ⟨.bool true, rfl, HC.out, Below.refl _ _, rfl⟩
   ·intro a' w' hC hB hR
    have h31 := hR 22 (by decide)
    obtain ⟨u, rfl⟩ := hB
    have h31 : u 31 = .bool true := h31
    simp only [h31]
    have HC3 := Lib.hid hC
    clear hR h31 hC HC0 HTK HNX
    go_wp2_with fail
    go_ret
    exact ⟨rfl, ⟨ls, HC3.out.code⟩, Only.of_below HC3.out.low⟩
  | true =>
   obtain ⟨a1, a2, a3, a4, a5, a6⟩ := hT.1 rfl
   obtain ⟨b1, b2, b3⟩ := hN.1 rfl
   obtain ⟨n, hn⟩ : ∃ n, (stepC s.L s.done).1 = n := ⟨_, rfl⟩
   have hst : stepC s.L s.done = (n, true) := by rw [← hn, b3]
   rw [hn] at b2
   subst b2
   have hpg := HAB.out.pages a3 HWF.out b1 hst
   have hnL : n < s.L := by have := (place_step b1).2; rw [hst] at this; exact this
   have hok : same3 p q r (lnAt ls n).p (lnAt ls n).q (lnAt ls n).r = true ↔ TwoOk s (n : Int) p q r true := by
    rw [same3_iff]
    constructor
    ·rintro ⟨e1, e2, e3⟩
     refine ⟨a1, a2, a3, b1, by rw [hst], by rw [hst], a4, a5, a6, fun _ => ?_⟩
     rw [Int.toNat_natCast]
     exact ⟨(e1.trans hpg.1).symm, (e2.trans hpg.2.1).symm, (e3.trans hpg.2.2).symm⟩
    ·intro h
     have h4 := h.2.2.2.2.2.2.2.2.2 rfl
     rw [Int.toNat_natCast] at h4
     exact ⟨h4.1.symm.trans hpg.1.symm, h4.2.1.symm.trans hpg.2.1.symm, h4.2.2.symm.trans hpg.2.2.symm⟩
   obtain ⟨E, hE⟩ : ∃ E, same3 p q r (lnAt ls n).p (lnAt ls n).q (lnAt ls n).r = E := ⟨_, rfl⟩
   rw [hE] at hok
   have HE := Lib.hid hE
   have HOK := Lib.hid hok
   have HNL := Lib.hid hnL
   have hL := HWF.out.l64
   clear a1 a2 a3 a4 a5 a6 b1 b3 hst hpg hn hE hok hT hN hnL
   go_enter Tryz.func51, Tryz.ntmps51
   go_wp2_with fail
   change Code.wp _ _ _ _ ((w.alloc (.cells (tv3 p q r) 38)).alloc (.cells (fv x k a b) 40))
   rw [HW2.out]
   rename_i K0 hK0
   refine wp_region_list3 (SV (vsFIC o g cap w.heap.size n s ls p q r E) []) (BaseFIC o w.heap.size n) (CF w o g cap s ls p q r x k a b) (Goes) (RV (vsFIC o g cap w.heap.size n s ls p q r E) (fun _ _ _ => False)) rfl (by kernel_rfl) (RV.ext no_specialC) ?_ (HC0.out.call (Below.refl _ _).drew) (fr_of _ (by kernel_rfl)) ?_ ?_
   ·exact ⟨fr_put 9 fun _ _ => by kernel_rfl, fr_put 10 fun _ _ => by kernel_rfl, fr_put 11 fun _ _ => by kernel_rfl, fr_put 12 fun _ _ => by kernel_rfl, fr_put 13 fun _ _ => by kernel_rfl, fr_put 14 fun _ _ => by kernel_rfl, fr_put 15 fun _ _ => by kernel_rfl, fr_put 16 fun _ _ => by kernel_rfl, fr_put 17 fun _ _ => by kernel_rfl, fr_put 18 fun _ _ => by kernel_rfl, fr_put 19 fun _ _ => by kernel_rfl, fr_put 20 fun _ _ => by kernel_rfl, fr_put 21 fun _ _ => by kernel_rfl, fr_put 22 fun _ _ => by kernel_rfl, fr_put 23 fun _ _ => by kernel_rfl, fr_put 24 fun _ _ => by kernel_rfl, fr_put 25 fun _ _ => by kernel_rfl, fr_put 26 fun _ _ => by kernel_rfl, fr_put 27 fun _ _ => by kernel_rfl, fr_put 28 fun _ _ => by kernel_rfl, fr_put 29 fun _ _ => by kernel_rfl, fr_put 30 fun _ _ => by kernel_rfl, fr_put 31 fun _ _ => by kernel_rfl, trivial⟩
   ·refine ⟨?_, ?_, ?_, ?_, ?_, ?_, ?_, ?_, ?_, ?_, ?_, ?_, ?_, ?_, ?_, ?_, ?_, ?_, ?_, ?_, ?_, ?_, ?_, trivial⟩
    all_goals
     intro a w' hC hB hR
     obtain ⟨u, rfl⟩ := hB
     have HC := Lib.hid hC
     clear hC; clear hK0
    ·clear hR; refine if_yes (by kernel_rfl) ?_; unfold Oper.wp; go_simp; exact ⟨.pointer (some ⟨o, 0, none⟩), rfl, HC.out, Below.refl _ _, rfl⟩
    ·clear hR; refine if_yes (by kernel_rfl) ?_; unfold Oper.wp; go_simp
     exact ⟨.slice (some ⟨w.heap.size, 0, none⟩) 3 3, rfl, HC.out, Below.refl _ _, rfl⟩
    ·have h9 : u 9 = .pointer (some ⟨o, 0, none⟩) := hR ⟨0, .data⟩ (by simp) rfl; have h10 : u 10 = .slice (some ⟨w.heap.size, 0, none⟩) 3 3 := hR ⟨1, .data⟩ (by simp) rfl; clear hR; simp only [h9, h10]; refine if_yes (by kernel_rfl) ?_; unfold Oper.wp; go_simp
     refine (HTK.out _ HC.out).mono ?_
     rintro e w2 ⟨rfl, hb2⟩
     exact ⟨.bool true, rfl, HC.out.call hb2, hb2, rfl⟩
    ·have h11 : u 11 = .bool true := hR ⟨2, .data⟩ (by simp) rfl; clear hR; simp only [h11]; refine if_yes (by kernel_rfl) ?_; unfold Oper.wp; go_simp; exact ⟨.bool false, rfl, HC.out, Below.refl _ _, rfl⟩
    ·have h12 : u 12 = .bool false := hR ⟨3, .data⟩ (by simp) rfl; clear hR; simp only [h12]; refine if_yes (by kernel_rfl) ?_; unfold Oper.wp; go_simp; exact ⟨.bool false, rfl, HC.out, Below.refl _ _, rfl⟩
    ·have g13 : u 13 = .bool false := hR ⟨4, .guard⟩ (by simp) rfl; clear hR; simp only [g13]; refine if_yes (by kernel_rfl) ?_; unfold Oper.wp; go_simp; exact ⟨.pointer (some ⟨o, 0, none⟩), rfl, HC.out, Below.refl _ _, rfl⟩
    ·have g13 : u 13 = .bool false := hR ⟨4, .guard⟩ (by simp) rfl; clear hR; simp only [g13]; refine if_yes (by kernel_rfl) ?_; unfold Oper.wp; go_simp; exact ⟨.int .i64 (n : Int), rfl, HC.out, Below.refl _ _, rfl⟩
    ·have g13 : u 13 = .bool false := hR ⟨4, .guard⟩ (by simp) rfl; have h15 : u 15 = .int .i64 (n : Int) := hR ⟨6, .data⟩ (by simp) rfl; clear hR; simp only [g13, h15]; refine if_yes (by kernel_rfl) ?_; unfold Oper.wp; go_simp
     exact ⟨.agg #[.int .i64 (n : Int), .bool true], rfl, HC.out, Below.refl _ _, rfl⟩
    ·have g13 : u 13 = .bool false := hR ⟨4, .guard⟩ (by simp) rfl; have h14 : u 14 = .pointer (some ⟨o, 0, none⟩) := hR ⟨5, .data⟩ (by simp) rfl; have h16 : u 16 = .agg #[.int .i64 (n : Int), .bool true] := hR ⟨7, .data⟩ (by simp) rfl; clear hR; simp only [g13, h14, h16]; refine if_yes (by kernel_rfl) ?_; unfold Oper.wp; go_simp
     refine (HNX.out _ HC.out).mono ?_
     rintro e w2 ⟨rfl, hb2⟩
     exact ⟨.bool true, rfl, HC.out.call hb2, hb2, rfl⟩
    ·have g13 : u 13 = .bool false := hR ⟨4, .guard⟩ (by simp) rfl; have h17 : u 17 = .bool true := hR ⟨8, .data⟩ (by simp) rfl; clear hR; simp only [g13, h17]; refine if_yes (by kernel_rfl) ?_; unfold Oper.wp; go_simp; exact ⟨.bool false, rfl, HC.out, Below.refl _ _, rfl⟩
    ·have h13 : u 13 = .bool false := hR ⟨4, .data⟩ (by simp) rfl; have h18 : u 18 = .bool false := hR ⟨9, .data⟩ (by simp) rfl; clear hR; simp only [h13, h18]; refine if_yes (by kernel_rfl) ?_; unfold Oper.wp; go_simp; exact ⟨.bool false, rfl, HC.out, Below.refl _ _, rfl⟩
    ·have h19 : u 19 = .bool false := hR ⟨10, .data⟩ (by simp) rfl; clear hR; simp only [h19]; refine if_yes (by kernel_rfl) ?_; unfold Oper.wp; go_simp; exact ⟨.bool false, rfl, HC.out, Below.refl _ _, rfl⟩
    ·have g20 : u 20 = .bool false := hR ⟨11, .guard⟩ (by simp) rfl; clear hR; simp only [g20]; refine if_yes (by kernel_rfl) ?_
     exact wp_load_row 38 (.tmp 6) rfl w.heap.size rfl 38 (tv3 p q r) (0, 0) _ HC.out.pgs Tryz.underlying38 rfl size_three ⟨.agg (tv3 p q r), rfl, HC.out, Below.refl _ _, rfl⟩
    ·have g20 : u 20 = .bool false := hR ⟨11, .guard⟩ (by simp) rfl; clear hR; simp only [g20]; refine if_yes (by kernel_rfl) ?_; unfold Oper.wp; go_simp; exact ⟨.pointer (some ⟨o, 0, none⟩), rfl, HC.out, Below.refl _ _, rfl⟩
    ·have g20 : u 20 = .bool false := hR ⟨11, .guard⟩ (by simp) rfl; have h22 : u 22 = .pointer (some ⟨o, 0, none⟩) := hR ⟨13, .data⟩ (by simp) rfl; clear hR; simp only [g20, h22]; refine if_yes (by kernel_rfl) ?_; unfold Oper.wp; go_simp; exact ⟨.pointer (some ⟨o, 0, none⟩), rfl, HC.out, Below.refl _ _, rfl⟩
    ·have g20 : u 20 = .bool false := hR ⟨11, .guard⟩ (by simp) rfl; have h23 : u 23 = .pointer (some ⟨o, 0, none⟩) := hR ⟨14, .data⟩ (by simp) rfl; clear hR; simp only [g20, h23]; refine if_yes (by kernel_rfl) ?_; unfold Oper.wp; go_simp; exact ⟨.pointer (some ⟨o, 0, none⟩), rfl, HC.out, Below.refl _ _, rfl⟩
    ·have g20 : u 20 = .bool false := hR ⟨11, .guard⟩ (by simp) rfl; have h24 : u 24 = .pointer (some ⟨o, 0, none⟩) := hR ⟨15, .data⟩ (by simp) rfl
     have hc : w'.cell? ⟨o, 0, none⟩ = some (.slice (some ⟨g, 0, none⟩) s.L cap) := HC.out.code.cell.cell 0
     clear hR; simp only [g20, h24]; refine if_yes (by kernel_rfl) ?_; unfold Oper.wp; go_simp
     exact ⟨.slice (some ⟨g, 0, none⟩) s.L cap, rfl, HC.out, Below.refl _ _, rfl⟩
    ·have g20 : u 20 = .bool false := hR ⟨11, .guard⟩ (by simp) rfl; clear hR; simp only [g20]; refine if_yes (by kernel_rfl) ?_; unfold Oper.wp; go_simp; exact ⟨.int .i64 (n : Int), rfl, HC.out, Below.refl _ _, rfl⟩
    ·have g20 : u 20 = .bool false := hR ⟨11, .guard⟩ (by simp) rfl; have h25 : u 25 = .slice (some ⟨g, 0, none⟩) s.L cap := hR ⟨16, .data⟩ (by simp) rfl; have h26 : u 26 = .int .i64 (n : Int) := hR ⟨17, .data⟩ (by simp) rfl
     have hn0 := HNL.out
     clear hR; simp only [g20, h25, h26]; refine if_yes (by kernel_rfl) ?_; unfold Oper.wp; go_simp; exact ⟨.pointer (some ⟨g, n * 4, none⟩), rfl, HC.out, Below.refl _ _, rfl⟩
    ·have g20 : u 20 = .bool false := hR ⟨11, .guard⟩ (by simp) rfl; have h27 : u 27 = .pointer (some ⟨g, n * 4, none⟩) := hR ⟨18, .data⟩ (by simp) rfl; clear hR; simp only [g20, h27]; refine if_yes (by kernel_rfl) ?_; unfold Oper.wp; go_simp; exact ⟨.pointer (some ⟨g, n * 4, none⟩), rfl, HC.out, Below.refl _ _, rfl⟩
    ·have g20 : u 20 = .bool false := hR ⟨11, .guard⟩ (by simp) rfl; have h28 : u 28 = .pointer (some ⟨g, n * 4, none⟩) := hR ⟨19, .data⟩ (by simp) rfl; clear hR; simp only [g20, h28]; refine if_yes (by kernel_rfl) ?_
     exact wp_load_mid 38 (.tmp 28) rfl g (n * 4) rfl [.string (lnAt ls n).p, .string (lnAt ls n).q, .string (lnAt ls n).r] _ (HC.out.code.rows.pages (by rw [HC.out.code.abs.len]; exact HNL.out)) Tryz.underlying38 rfl size_three ⟨.agg #[.string (lnAt ls n).p, .string (lnAt ls n).q, .string (lnAt ls n).r], rfl, HC.out, Below.refl _ _, rfl⟩
    ·have g20 : u 20 = .bool false := hR ⟨11, .guard⟩ (by simp) rfl; have h21 : u 21 = .agg (tv3 p q r) := hR ⟨12, .data⟩ (by simp) rfl; have h29 : u 29 = .agg #[.string (lnAt ls n).p, .string (lnAt ls n).q, .string (lnAt ls n).r] := hR ⟨20, .data⟩ (by simp) rfl; clear hR; simp only [g20, h21, h29]; refine if_yes (by kernel_rfl) ?_
     exact wp_neq_three (.tmp 21) (.tmp 29) rfl p q r (lnAt ls n).p (lnAt ls n).q (lnAt ls n).r rfl rfl ⟨.bool (!same3 p q r (lnAt ls n).p (lnAt ls n).q (lnAt ls n).r), rfl, HC.out, Below.refl _ _, congrArg (fun b => Value.bool (!b)) HE.out⟩
    ·have h20 : u 20 = .bool false := hR ⟨11, .data⟩ (by simp) rfl; have h30 : u 30 = .bool (!E) := hR ⟨21, .data⟩ (by simp) rfl; clear hR; simp only [h20, h30]; refine if_yes (by kernel_rfl) ?_; unfold Oper.wp; go_simp; exact ⟨.bool (!E), rfl, HC.out, Below.refl _ _, rfl⟩
   ·intro a' w' hC hB hR
    have h31 := hR 22 (by decide)
    obtain ⟨u, rfl⟩ := hB
    have h31 : u 31 = .bool (!E) := h31
    simp only [h31]
    have HC3 := Lib.hid hC
    clear hR h31 hC HC0 HTK HNX HE
    cases E with
    | true =>
     have hok := HOK.out.1 rfl
     have HO2 := Lib.hid hok
     clear hok HOK
     go_wp2_with (first
      | (refine wpList_load_row rfl 38 (.tmp 6) rfl w.heap.size rfl 38 (tv3 p q r) (0, 0) _ HC3.out.pgs Tryz.underlying38 rfl size_three ?_)
      | (refine wpList_load_row rfl 40 (.tmp 7) rfl (w.heap.size + 1) rfl 40 (fv x k a b) (0, 0) _ HC3.out.how Tryz.underlying40 rfl size_fault ?_))
     refine (HC3.out.step HWF.out n HO2.out).mono ?_
     rintro e w5 hr
     obtain ⟨rfl, h2, h3⟩ := ActR.from hr HC3.out.low
     have HR := Lib.hid h2
     have HO := Lib.hid h3
     clear hr h2 h3
     go_wp2_with fail
     go_ret
     exact ⟨rfl, HR.out, HO.out⟩
    | false =>
     have h2 := two_no (fun h => by have := HOK.out.2 h; cases this) (s := s) (line := (n : Int)) (p := p) (q := q) (r := r) (f := true) (k := k) (a := a) (b := b)
     have H2 := Lib.hid h2
     clear h2 HOK
     go_wp2_with fail
     go_ret
     exact ⟨by rw [H2.out.2]; rfl, ⟨ls, by rw [H2.out.1]; exact HC3.out.code⟩, Only.of_below HC3.out.low⟩
/- Package cell, walked: Erase. -/
structure CE6 (wr : World) (o g bc bh : Nat) (cs : Array Value) (l2 : List Ln) (x k a b : Int) (w : World) : Prop where
 cell : Blk w o cs 103
 rows : LnsAt w g l2
 box : w.cell? ⟨bc, 0, none⟩ = some (.pointer (some ⟨o, 0, none⟩))
 how : Blk w bh (fv x k a b) 40
 low : Only (FF o g) wr w
theorem CE6.call {wr w w' : World} {o g bc bh : Nat} {cs : Array Value} {l2 : List Ln} {x k a b : Int} (h : CE6 wr o g bc bh cs l2 x k a b w) (hb : Below w.heap.size w w') : CE6 wr o g bc bh cs l2 x k a b w' :=
 ⟨h.cell.after hb, h.rows.after hb, (hb.cell (p := ⟨bc, 0, none⟩) (cell_lt h.box)).trans h.box, h.how.after hb, h.low.trans (Only.of_below (F := FF o g) hb) (fun _ hk => Or.inl hk)⟩
def ZE (wr : World) (o g : Nat) (cs : Array Value) (l3 : List Ln) (w : World) : Prop := Blk w o cs 103 ∧ LnsAt w g l3 ∧ Only (FF o g) wr w
theorem ZE.call {wr w w' : World} {o g : Nat} {cs : Array Value} {l3 : List Ln} (h : ZE wr o g cs l3 w) (hb : Below w.heap.size w w') : ZE wr o g cs l3 w' := ⟨h.1.after hb, h.2.1.after hb, h.2.2.trans (Only.of_below (F := FF o g) hb) (fun _ hk => Or.inl hk)⟩
theorem CE6.store {wr w : World} {o g bc bh i : Nat} {cs : Array Value} {l2 : List Ln} {x k a b : Int} (h : CE6 wr o g bc bh cs l2 x k a b w) (hne : o ≠ g) (hi : i < l2.length) (ln : Ln) : ZE wr o g cs (l2.set i ln) (w.setCells g (i * 4) (lv ln).toList) := by
 refine ⟨?_, h.rows.set i ln hi, Only.setCells g (Or.inr rfl) _ _ _ h.low⟩
 have h1 := h.cell
 unfold Blk at *
 rw [setCells_heap_ne _ _ hne]
 exact h1
def vsER (o g cap L bh i : Nat) (a b : Int) (tn hh : Ln) : List (Option (Tmp × Value)) :=
 [some (18, .pointer (some ⟨o, 0, none⟩)), some (19, .pointer (some ⟨o, 0, none⟩)), some (20, .pointer (some ⟨o, 0, none⟩)), some (21, .slice (some ⟨g, 0, none⟩) L cap), some (22, .int .i64 (i : Int)), some (23, .pointer (some ⟨o, 0, none⟩)), some (24, .int .i64 (i : Int)), some (25, .agg (lv tn)), some (26, .pointer (some ⟨bh, 2, none⟩)), some (27, .int .i64 a), some (28, .pointer (some ⟨bh, 3, none⟩)), some (29, .int .i64 b), some (30, .agg (lv hh)), some (31, .pointer (some ⟨g, i * 4, none⟩)), none]
def BaseER (bc bh i : Nat) (arr0 : Array Value) (a : Act) : Prop := ∃ u : Nat → Value, a = ⟨#[arr0.getD 0 undef, .pointer (some ⟨bc, 0, none⟩), .pointer (some ⟨bh, 0, none⟩), arr0.getD 3 undef, .int .i64 (i : Int), arr0.getD 5 undef, arr0.getD 6 undef, arr0.getD 7 undef, arr0.getD 8 undef, arr0.getD 9 undef, arr0.getD 10 undef, arr0.getD 11 undef, arr0.getD 12 undef, arr0.getD 13 undef, arr0.getD 14 undef, arr0.getD 15 undef, arr0.getD 16 undef, arr0.getD 17 undef, u 18, u 19, u 20, u 21, u 22, u 23, u 24, u 25, u 26, u 27, u 28, u 29, u 30, u 31, arr0.getD 32 undef, arr0.getD 33 undef, arr0.getD 34 undef, arr0.getD 35 undef, arr0.getD 36 undef, arr0.getD 37 undef, arr0.getD 38 undef, arr0.getD 39 undef, arr0.getD 40 undef], []⟩
theorem toldR_at (m : Int) (L d : Nat) (l2 ls : List Ln) (i : Nat) (h : lnAt l2 i = lnAt ls i) : toldR m L d l2 i = toldR m L d ls i := by unfold toldR; rw [h]
theorem toldR_size {m : Int} {L d : Nat} {ls : List Ln} (i : Nat) (hs : ∀ t, ((lnAt ls i).pt t).size ≤ 400) (t : Nat) : ((toldR m L d ls i).pt t).size ≤ 400 := by
 unfold toldR
 split
 ·rw [hurtL_pt]
  split
  ·exact hs t
  ·rw [hurtT_size]; exact hs t
 ·exact hs t
def Ruined (m : Int) (L d : Nat) (ls : List Ln) (a b : Int) (i : Nat) (l2 : List Ln) : Prop := l2.length = L ∧ (∀ j, j < i → lnAt l2 j = hurtL (toldR m L d ls j) a b) ∧ (∀ j, i ≤ j → lnAt l2 j = lnAt ls j)
theorem Ruined.next {m : Int} {L d : Nat} {ls : List Ln} {a b : Int} {i : Nat} {l2 : List Ln} (h : Ruined m L d ls a b i l2) (hi : i < L) : Ruined m L d ls a b (i + 1) (l2.set i (hurtL (toldR m L d ls i) a b)) := by
 obtain ⟨h1, h2, h3⟩ := h
 refine ⟨by simp [h1], fun j hj => ?_, fun j hj => ?_⟩
 ·rw [lnAt_set _ _ _ _ (by omega)]
  split
  ·rename_i e; rw [e]
  ·exact h2 j (by omega)
 ·rw [lnAt_set _ _ _ _ (by omega), if_neg (by omega)]
  exact h3 j (by omega)
set_option maxHeartbeats 2000000 in
theorem ce_erase1_no (o L g cap : Nat) (bl : ByteArray) (m : Int) (d sl tl : Nat) (bad torn : Bool) (ls : List Ln) (bc bh : Nat) (x k a b : Int) (w : World)
  (hk : Blk w o (cc L g cap bl m d sl tl bad torn) 103) (hl : LnsAt w g ls) (hlen : ls.length = L) (hne : o ≠ g) (h1 : 1 ≤ L) (h64 : L ≤ 64) (hd : d ≤ 2 * L) (hm : m = 0 ∨ m = 1 ∨ m = 2) (hsl : sl < 1000000000) (htl : tl < 1000000000)
  (hs : ∀ i t, ((lnAt ls i).pt t).size ≤ 400) (hbc : w.cell? ⟨bc, 0, none⟩ = some (.pointer (some ⟨o, 0, none⟩))) (hbh : Blk w bh (fv x k a b) 40) (n1 : bc ≠ o ∧ bc ≠ g) (n2 : bh ≠ o ∧ bh ≠ g) :
  Calls Tryz.prog 95 #[.bool false, .pointer (some ⟨bc, 0, none⟩), .pointer (some ⟨bh, 0, none⟩)] w fun e w' => e = .returned (.tuple #[]) ∧
   Blk w' o (cc L g cap bl (if m = 0 then 1 else m) d (if m = 2 then sl else sl + 1) (if m = 2 then tl + 1 else tl) bad torn) 103 ∧ (∃ l2, Ruined m L d ls a b L l2 ∧ LnsAt w' g l2) ∧ Only (FF o g) w w' := by
 obtain ⟨sl', hsl'⟩ : ∃ sl', (if m = 2 then sl else sl + 1) = sl' := ⟨_, rfl⟩
 obtain ⟨tl', htl'⟩ : ∃ tl', (if m = 2 then tl + 1 else tl) = tl' := ⟨_, rfl⟩
 obtain ⟨m', hm'⟩ : ∃ m', (if m = 0 then 1 else m) = m' := ⟨_, rfl⟩
 have hcn := ce_count o L g cap bl m d sl tl bad torn w hk hsl htl
 rw [hsl', htl'] at hcn
 rw [hsl', htl', hm']
 have HCN := Lib.hid hcn
 have HL := Lib.hid hl
 have HLEN := Lib.hid hlen
 have HNE := Lib.hid hne
 have HM' := Lib.hid hm'
 have HM := Lib.hid hm
 have HS := Lib.hid hs
 have HBH := Lib.hid hbh
 have HBC := Lib.hid hbc
 have HN := Lib.hid (⟨n1, n2⟩ : (bc ≠ o ∧ bc ≠ g) ∧ (bh ≠ o ∧ bh ≠ g))
 have HI := Lib.hid (⟨h1, h64, hd⟩ : 1 ≤ L ∧ L ≤ 64 ∧ d ≤ 2 * L)
 clear hsl' htl' hm' hcn hl hlen hne hm hs hbh n1 n2 hk h1 hd hsl htl
 go_enter Tryz.func95, Tryz.ntmps95
 go_wp2_with fail
 refine HCN.out.mono ?_
 rintro e w2 ⟨rfl, hk2, ho2⟩
 have hr2 := HL.out.only ho2 (fun h => HNE.out h.symm)
 have ho2 : Only (FF o g) w w2 := ho2.weak (fun _ h => Or.inl h)
 have hC : CE6 w o g bc bh (cc L g cap bl m d sl' tl' bad torn) ls x k a b w2 :=
  ⟨hk2, hr2, ho2.cell HBC.out (fun h => by have h : bc = o ∨ bc = g := h; have := HN.out; omega), HBH.out.only ho2 (fun h => by have h : bh = o ∨ bh = g := h; have := HN.out; omega), ho2⟩
 have cb := hC.box
 have c0 : w2.cell? ⟨o, 0, none⟩ = some (.slice (some ⟨g, 0, none⟩) L cap) := hC.cell.cell 0
 have HC2 := Lib.hid hC
 clear hk2 hr2 ho2 hC HL HBH HCN
 go_wp2_with fail
 go_loopw [15] (fun iv wr => ∃ i : Nat, i ≤ L ∧ iv = .int .i64 i ∧ ∃ l2, Ruined m L d ls a b i l2 ∧ CE6 w o g bc bh (cc L g cap bl m d sl' tl' bad torn) l2 x k a b wr) (fun iv _ => L - (intOf iv).toNat)
 case atStart => exact ⟨0, Nat.zero_le _, rfl, ls, ⟨HLEN.out, fun j hj => absurd hj (Nat.not_lt_zero _), fun _ _ => rfl⟩, HC2.out⟩
 case round =>
  obtain ⟨i, hi, rfl, l2, hru, hC⟩ := hrel
  clear HC2 cb c0
  have HRU := Lib.hid hru
  have HC := Lib.hid hC
  by_cases hlt : i < L
  ·obtain ⟨cs, hcs⟩ : ∃ cs, cc L g cap bl m d sl' tl' bad torn = cs := ⟨_, rfl⟩
   have HCS := Lib.hid hcs
   have hC0 : CE6 wr o g bc bh cs l2 x k a b wr := by rw [← hcs]; exact ⟨hC.cell, hC.rows, hC.box, hC.how, Only.refl _ _⟩
   have HC0 := Lib.hid hC0
   obtain ⟨tn, htn⟩ : ∃ tn, toldR m L d ls i = tn := ⟨_, rfl⟩
   obtain ⟨hh, hhh⟩ : ∃ hh, hurtL tn a b = hh := ⟨_, rfl⟩
   have hsz : ∀ t, (tn.pt t).size ≤ 400 := fun t => by rw [← htn]; exact toldR_size i (HS.out i) t
   have HTD : Hid (∀ w', CE6 wr o g bc bh cs l2 x k a b w' → Calls Tryz.prog 77 #[.pointer (some ⟨o, 0, none⟩), .int .i64 (i : Int)] w' fun e w'' => e = .returned (.agg (lv tn)) ∧ Below w'.heap.size w' w'') := fun w' h => by
    have hlen2 := HRU.out.1
    have hat := HRU.out.2.2 i (Nat.le_refl _)
    have hI := HI.out
    have hcell := h.cell
    rw [← HCS.out] at hcell
    rw [← htn, ← toldR_at m L d l2 ls i hat]
    exact ce_told o L g cap bl m d sl' tl' bad torn l2 i w' hcell h.rows hlen2 hI.1 hI.2.1 hI.2.2 hlt (fun t => by rw [hat]; exact HS.out i t) HM.out
   have HHB : Hid (∀ w', Calls Tryz.prog 97 #[.agg (lv tn), .int .i64 a, .int .i64 b] w' fun e w'' => e = .returned (.agg (lv hh)) ∧ Below w'.heap.size w' w'') := fun w' => by
    rw [← hhh]
    exact ce_hurtBy tn a b w' hsz
   have HLI : Hid (i < l2.length) := by
    show i < l2.length
    rw [hru.1]; exact hlt
   have HLT : Hid ((i : Int) < (L : Int)) := by
    show (i : Int) < (L : Int)
    omega
   have HTN := Lib.hid htn
   have HHH := Lib.hid hhh
   clear hcs hC0 htn hhh hsz hru hC
   go_wp2_with fail
   rename_i K0 hK0
   generalize hA : (⟨_, _⟩ : Act) = A
   have HA := Lib.hid hA
   have HBT : Hid (BaseER bc bh i A.tmps A) := by
    show BaseER _ _ _ _ _
    rw [← hA]
    exact fr_of _ (by kernel_rfl)
   clear hA
   refine wp_region_list4 14 (SV2 (vsER o g cap L bh i a b tn hh) (fun _ => [])) (BaseER bc bh i A.tmps) (CE6 wr o g bc bh cs l2 x k a b) (fun w1 w2 => ZE wr o g cs (l2.set i hh) w1 → ZE wr o g cs (l2.set i hh) w2) (RV (vsER o g cap L bh i a b tn hh) (fun j _ w1 => j = 14 → ZE wr o g cs (l2.set i hh) w1)) rfl (by decide) (by kernel_rfl) (by kernel_rfl) (RV.ext2 (f := fun _ => []) (fun _ _ _ _ _ h1 _ h2 h3 => h2 (h1 h3))) ?_ (HC0.out.call (Below.refl _ _).drew) HBT.out ?_ ?_
   ·exact ⟨fr_put 18 fun _ _ => by kernel_rfl, fr_put 19 fun _ _ => by kernel_rfl, fr_put 20 fun _ _ => by kernel_rfl, fr_put 21 fun _ _ => by kernel_rfl, fr_put 22 fun _ _ => by kernel_rfl, fr_put 23 fun _ _ => by kernel_rfl, fr_put 24 fun _ _ => by kernel_rfl, fr_put 25 fun _ _ => by kernel_rfl, fr_put 26 fun _ _ => by kernel_rfl, fr_put 27 fun _ _ => by kernel_rfl, fr_put 28 fun _ _ => by kernel_rfl, fr_put 29 fun _ _ => by kernel_rfl, fr_put 30 fun _ _ => by kernel_rfl, fr_put 31 fun _ _ => by kernel_rfl, fun a v h => h, trivial⟩
   ·refine ⟨?_, ?_, ?_, ?_, ?_, ?_, ?_, ?_, ?_, ?_, ?_, ?_, ?_, ?_, ?_, trivial⟩
    all_goals
     intro a w' hC hB hR
     obtain ⟨u, rfl⟩ := hB
     have HC := Lib.hid hC
     clear hC; clear hK0
    ·have hc : w'.cell? ⟨bc, 0, none⟩ = some (.pointer (some ⟨o, 0, none⟩)) := HC.out.box
     clear hR; refine if_yes (by kernel_rfl) ?_; unfold Oper.wp; go_simp; exact ⟨.pointer (some ⟨o, 0, none⟩), rfl, (by first | exact HC.out | exact fun _ => HC.out), (fun hz => hz), rfl⟩
    ·have h18 : u 18 = .pointer (some ⟨o, 0, none⟩) := hR ⟨0, .data⟩ (by simp) rfl; clear hR; simp only [h18]; refine if_yes (by kernel_rfl) ?_; unfold Oper.wp; go_simp; exact ⟨.pointer (some ⟨o, 0, none⟩), rfl, (by first | exact HC.out | exact fun _ => HC.out), (fun hz => hz), rfl⟩
    ·have h19 : u 19 = .pointer (some ⟨o, 0, none⟩) := hR ⟨1, .data⟩ (by simp) rfl; clear hR; simp only [h19]; refine if_yes (by kernel_rfl) ?_; unfold Oper.wp; go_simp; exact ⟨.pointer (some ⟨o, 0, none⟩), rfl, (by first | exact HC.out | exact fun _ => HC.out), (fun hz => hz), rfl⟩
    ·have h20 : u 20 = .pointer (some ⟨o, 0, none⟩) := hR ⟨2, .data⟩ (by simp) rfl
     have hc : w'.cell? ⟨o, 0, none⟩ = some (.slice (some ⟨g, 0, none⟩) L cap) := by rw [HC.out.cell.cell 0, ← HCS.out]; rfl
     clear hR; simp only [h20]; refine if_yes (by kernel_rfl) ?_; unfold Oper.wp; go_simp
     exact ⟨.slice (some ⟨g, 0, none⟩) L cap, rfl, (by first | exact HC.out | exact fun _ => HC.out), (fun hz => hz), rfl⟩
    ·clear hR; refine if_yes (by kernel_rfl) ?_; unfold Oper.wp; go_simp; exact ⟨.int .i64 (i : Int), rfl, (by first | exact HC.out | exact fun _ => HC.out), (fun hz => hz), rfl⟩
    ·have hc : w'.cell? ⟨bc, 0, none⟩ = some (.pointer (some ⟨o, 0, none⟩)) := HC.out.box
     clear hR; refine if_yes (by kernel_rfl) ?_; unfold Oper.wp; go_simp; exact ⟨.pointer (some ⟨o, 0, none⟩), rfl, (by first | exact HC.out | exact fun _ => HC.out), (fun hz => hz), rfl⟩
    ·clear hR; refine if_yes (by kernel_rfl) ?_; unfold Oper.wp; go_simp; exact ⟨.int .i64 (i : Int), rfl, (by first | exact HC.out | exact fun _ => HC.out), (fun hz => hz), rfl⟩
    ·have h23 : u 23 = .pointer (some ⟨o, 0, none⟩) := hR ⟨5, .data⟩ (by simp) rfl; have h24 : u 24 = .int .i64 (i : Int) := hR ⟨6, .data⟩ (by simp) rfl; clear hR; simp only [h23, h24]; refine if_yes (by kernel_rfl) ?_; unfold Oper.wp; go_simp
     refine (HTD.out _ HC.out).mono ?_
     rintro e w2 ⟨rfl, hb2⟩
     exact ⟨.agg (lv tn), rfl, (by first | exact HC.out.call hb2 | exact fun _ => HC.out.call hb2), (fun hz => hz.call hb2), rfl⟩
    ·clear hR; refine if_yes (by kernel_rfl) ?_; unfold Oper.wp; go_simp; exact ⟨.pointer (some ⟨bh, 2, none⟩), rfl, (by first | exact HC.out | exact fun _ => HC.out), (fun hz => hz), rfl⟩
    ·have h26 : u 26 = .pointer (some ⟨bh, 2, none⟩) := hR ⟨8, .data⟩ (by simp) rfl
     have hc : w'.cell? ⟨bh, 2, none⟩ = some (.int .i64 a) := HC.out.how.cell 2
     clear hR; simp only [h26]; refine if_yes (by kernel_rfl) ?_; unfold Oper.wp; go_simp; exact ⟨.int .i64 a, rfl, (by first | exact HC.out | exact fun _ => HC.out), (fun hz => hz), rfl⟩
    ·clear hR; refine if_yes (by kernel_rfl) ?_; unfold Oper.wp; go_simp; exact ⟨.pointer (some ⟨bh, 3, none⟩), rfl, (by first | exact HC.out | exact fun _ => HC.out), (fun hz => hz), rfl⟩
    ·have h28 : u 28 = .pointer (some ⟨bh, 3, none⟩) := hR ⟨10, .data⟩ (by simp) rfl
     have hc : w'.cell? ⟨bh, 3, none⟩ = some (.int .i64 b) := HC.out.how.cell 3
     clear hR; simp only [h28]; refine if_yes (by kernel_rfl) ?_; unfold Oper.wp; go_simp; exact ⟨.int .i64 b, rfl, (by first | exact HC.out | exact fun _ => HC.out), (fun hz => hz), rfl⟩
    ·have h25 : u 25 = .agg (lv tn) := hR ⟨7, .data⟩ (by simp) rfl; have h27 : u 27 = .int .i64 a := hR ⟨9, .data⟩ (by simp) rfl; have h29 : u 29 = .int .i64 b := hR ⟨11, .data⟩ (by simp) rfl; clear hR; simp only [h25, h27, h29]; refine if_yes (by kernel_rfl) ?_; unfold Oper.wp; go_simp
     refine (HHB.out _).mono ?_
     rintro e w2 ⟨rfl, hb2⟩
     exact ⟨.agg (lv hh), rfl, (by first | exact HC.out.call hb2 | exact fun _ => HC.out.call hb2), (fun hz => hz.call hb2), rfl⟩
    ·have h21 : u 21 = .slice (some ⟨g, 0, none⟩) L cap := hR ⟨3, .data⟩ (by simp) rfl; have h22 : u 22 = .int .i64 (i : Int) := hR ⟨4, .data⟩ (by simp) rfl
     have hlt2 := HLT.out
     clear hR; simp only [h21, h22]; refine if_yes (by kernel_rfl) ?_; unfold Oper.wp; go_simp; exact ⟨.pointer (some ⟨g, i * 4, none⟩), rfl, (by first | exact HC.out | exact fun _ => HC.out), (fun hz => hz), rfl⟩
    ·have h31 : u 31 = .pointer (some ⟨g, i * 4, none⟩) := hR ⟨13, .data⟩ (by simp) rfl; have h30 : u 30 = .agg (lv hh) := hR ⟨12, .data⟩ (by simp) rfl; clear hR; simp only [h31, h30]; refine if_yes (by kernel_rfl) ?_
     have hz := HC.out.store HNE.out HLI.out hh
     exact wp_store_mid 116 (.tmp 31) (.tmp 30) rfl g (i * 4) (lv hh) rfl rfl (HC.out.rows i HLI.out).2 size_line (lv_one _) ⟨undef, rfl, fun h => absurd rfl h, (fun _ => hz), fun _ => hz⟩
   ·intro a' w' hB hR
    have hz := (hR 14 (by decide)) rfl
    have HZ := Lib.hid hz
    clear hR hz
    obtain ⟨u, rfl⟩ := hB
    rw [← HA.out]
    clear HA HBT
    go_wp2_with fail
    go_roundw
    case rel =>
     have hz := HZ.out
     have hn := HN.out
     have hru := HRU.out.next hlt
     rw [HTN.out, HHH.out] at hru
     have hbx := hz.2.2.cell HC.out.box (fun h => by have h : bc = o ∨ bc = g := h; omega)
     have hhw := HC.out.how.only hz.2.2 (fun h => by have h : bh = o ∨ bh = g := h; omega)
     have hlo := HC.out.low.trans hz.2.2 (fun _ hk => Or.inl hk)
     exact ⟨_, _, _, _, _, _, _, _, _, _, _, _, _, _, _, _, _, _, _, ⟨i + 1, by omega, by go_num, l2.set i hh, hru, by rw [HCS.out]; exact ⟨hz.1, hz.2.1, hbx, hhw, hlo⟩⟩, rfl⟩
    case measure => simp [intOf]; omega
  ·have hiL : i = L := by omega
   subst hiL
   have cb := hC.box
   have c2 : wr.cell? ⟨o, 2, none⟩ = some (.int .i64 m) := hC.cell.cell 2
   have f2 := hC.cell.free 2
   clear hru hC
   have hm := HM.out
   by_cases h0 : m = 0
   ·subst h0
    go_wp2_with fail
    refine bodyPost_end (results_none rfl _ _ _) rfl ⟨rfl, ?_, ⟨l2, HRU.out, HC.out.rows.set_cell HNE.out 2 _⟩, HC.out.low.setCell ⟨o, 2, none⟩ _ (Or.inl rfl)⟩
    rw [← HM'.out]
    exact HC.out.cell.set 2 _ rfl
   ·have hm0 : (m == 0) = false := by simpa using h0
    go_wp2_with fail
    refine bodyPost_end (results_none rfl _ _ _) rfl ⟨rfl, ?_, ⟨l2, HRU.out, HC.out.rows⟩, HC.out.low⟩
    rw [← HM'.out, if_neg h0]
    exact HC.out.cell
set_option maxHeartbeats 1000000 in
theorem ce_erase1_yes (o L g cap : Nat) (bl : ByteArray) (m : Int) (d sl tl : Nat) (bad torn : Bool) (ls : List Ln) (bc bh : Nat) (w : World)
  (hk : Blk w o (cc L g cap bl m d sl tl bad torn) 103) (hl : LnsAt w g ls) (hlen : ls.length = L) (hne : o ≠ g) (h64 : L ≤ 64) (hsl : sl < 1000000000) (htl : tl < 1000000000)
  (hbc : w.cell? ⟨bc, 0, none⟩ = some (.pointer (some ⟨o, 0, none⟩))) (n1 : bc ≠ o) :
  Calls Tryz.prog 95 #[.bool true, .pointer (some ⟨bc, 0, none⟩), .pointer (some ⟨bh, 0, none⟩)] w fun e w' => e = .returned (.tuple #[]) ∧
   Blk w' o (cc L g cap bl 0 0 (if m = 2 then sl else sl + 1) (if m = 2 then tl + 1 else tl) bad false) 103 ∧ LnsAt w' g (List.replicate L (blankL bl)) ∧ Only (FF o g) w w' := by
 obtain ⟨sl', hsl'⟩ : ∃ sl', (if m = 2 then sl else sl + 1) = sl' := ⟨_, rfl⟩
 obtain ⟨tl', htl'⟩ : ∃ tl', (if m = 2 then tl + 1 else tl) = tl' := ⟨_, rfl⟩
 have hcn := ce_count o L g cap bl m d sl tl bad torn w hk hsl htl
 rw [hsl', htl'] at hcn
 rw [hsl', htl']
 have HCN := Lib.hid hcn
 have HL := Lib.hid hl
 have HLEN := Lib.hid hlen
 have HNE := Lib.hid hne
 have HBC := Lib.hid hbc
 have HN := Lib.hid n1
 clear hsl' htl' hcn hl hlen hne n1 hk hsl htl
 go_enter Tryz.func95, Tryz.ntmps95
 go_wp2_with fail
 refine HCN.out.mono ?_
 rintro e w2 ⟨rfl, hk2, ho2⟩
 have hr2 := HL.out.only ho2 (fun h => HNE.out h.symm)
 have cb := ho2.cell HBC.out (fun h => HN.out h)
 have ho3 : Only (FF o g) w w2 := ho2.weak (fun _ h => Or.inl h)
 have HEM := Lib.hid (ce_empty o L g cap bl m d sl' tl' bad torn ls w2 hk2 hr2 HLEN.out HNE.out h64)
 have HO3 := Lib.hid ho3
 clear hk2 hr2 ho2 ho3 HL HCN hbc
 go_wp2_with fail
 refine HEM.out.mono ?_
 rintro e w3 ⟨rfl, h1, h2, h3⟩
 have H1 := Lib.hid h1
 have H2 := Lib.hid h2
 have H3 : Hid (Only (FF o g) w w3) := HO3.out.trans h3 (fun _ hk => Or.inl hk)
 clear h1 h2 h3 HEM
 go_wp2_with fail
 exact bodyPost_ret (results_none rfl _ _ _) rfl ⟨rfl, H1.out, H2.out, H3.out⟩
end Go.Proofs.YtalefbmoebobkaaGreatDoor
