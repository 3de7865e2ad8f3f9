/- Texts of one claim, merged: CeC0, CeC2, OrI, OrC1. -/
import Derived.Test.YtjmoecfgpfdncaaDoorM9
import Derived.Test.YtjmoecfgpfdncaaDoorM4
import Derived.Test.YtjmoecfgpfdncaaDoorM6
import Derived.Deep.MidRow
import Derived.LoopN
import Derived.Deep.QuietTactic
import Derived.BigQuiet
import Derived.StillTailTactics
import Derived.Test.YtjmoecfgpfdncaaDoorM3
import Derived.RangeFuncBox
import Derived.OwnWalkIn

/- Package cell, walked: how a cell lies in memory; a line that is hurt. -/
namespace Go.Proofs.YtjmoecfgpfdncaaDoor
set_option maxRecDepth 100000
open Go.RowKit

/-- a cell's cells; a line's -/
def cc (L g cap : Nat) (bl : ByteArray) (m : Int) (d sl tl : Nat) (b t : Bool) : Array Value := #[.slice (some ⟨g, 0, none⟩) L cap, .string bl, .int .i64 m, .int .i64 d, .int .i64 sl, .int .i64 tl, .bool b, .bool t]
def lnL (l : Ln) : List Value := [.string l.p, .string l.q, .string l.r, .bool l.h]
def lv (l : Ln) : Array Value := #[.string l.p, .string l.q, .string l.r, .bool l.h]
theorem lv_one (l : Ln) : (lv l).all (·.oneCell') = true := by
  rw [Array.all_eq_true_iff_forall_mem]
  intro v hv
  simp [lv] at hv
  rcases hv with rfl | rfl | rfl | rfl <;> rfl
theorem lnL_one (l : Ln) : ∀ v ∈ lnL l, v.oneCell' = true := by
  intro v hv
  simp [lnL] at hv
  rcases hv with rfl | rfl | rfl | rfl <;> rfl
theorem size_line : (Tryd.prog.info? 57).map (·.size) = some 4 := by kernel_rfl
theorem size_code : (Tryd.prog.info? 50).map (·.size) = some 8 := by kernel_rfl

theorem setCells_heap_ne (b k : Nat) (hne : k ≠ b) : ∀ (vs : List Value) (o : Nat) (w : World), (w.setCells b o vs).heap[k]? = w.heap[k]?
  | [], _, _ => rfl
  | v :: r, o, w => by
    rw [World.setCells, setCells_heap_ne b k hne r (o + 1) _]
    exact Below.heap_setCell _ _ _ _ hne
theorem Only.setCell {F : Nat → Prop} {w w' : World} (h : Only F w w') (p : Addr) (u : Value) (hp : F p.block) : Only F w (w'.setCell p u) :=
  ⟨h.os, h.tape, h.output, by rw [World.size_setCell]; exact h.size, fun k hk hn => (Below.heap_setCell _ _ _ _ (fun e => hn (by rw [e]; exact hp))).trans (h.block k hk hn)⟩
theorem Only.setCells {F : Nat → Prop} {w : World} (b : Nat) (hb : F b) : ∀ (vs : List Value) (o : Nat) (w' : World), Only F w w' → Only F w (w'.setCells b o vs)
  | [], _, _, h => h
  | v :: r, o, w', h => by
    rw [World.setCells]
    exact Only.setCells b hb r (o + 1) _ (h.setCell ⟨b, o, none⟩ v hb)
theorem Only.drew {F : Nat → Prop} {w w' : World} (h : Only F w w') : Only F w w'.drew := ⟨h.os, h.tape, h.output, h.size, h.block⟩
theorem Only.drewN {F : Nat → Prop} {w w' : World} {n : Nat} (h : Only F w w') : Only F w (w'.drewN n) := ⟨h.os, h.tape, h.output, h.size, h.block⟩
theorem Only.weak {F G : Nat → Prop} {w w' : World} (h : Only F w w') (hF : ∀ k, F k → G k) : Only G w w' := ⟨h.os, h.tape, h.output, h.size, fun k hk hn => h.block k hk fun hf => hn (hF k hf)⟩

/-- block g holds these lines, which may be written -/
def LnsAt (w : World) (g : Nat) (ls : List Ln) : Prop := ∀ i, i < ls.length → w.rangeAt g (i * 4) (lnL (lnAt ls i)) ∧ w.there g (i * 4) 4
theorem LnsAt.keep {w w' : World} {g : Nat} {ls : List Ln} (h : LnsAt w g ls) (hg : w'.heap[g]? = w.heap[g]?) : LnsAt w' g ls := by
  intro i hi
  obtain ⟨h1, h2⟩ := h i hi
  refine ⟨fun j v hj => ?_, fun j hj => ?_⟩
  · rw [World.cell?_of_block (w := w) hg]; exact h1 j v hj
  · rw [World.cell?_of_block (w := w) hg, World.frozen?_of_block (w := w) hg]; exact h2 j hj
theorem LnsAt.lt {w : World} {g : Nat} {ls : List Ln} (h : LnsAt w g ls) (h0 : 0 < ls.length) : g < w.heap.size := by
  have h1 := (h 0 h0).1 0 _ rfl
  exact cell_lt h1
theorem LnsAt.after {w w' : World} {g : Nat} {ls : List Ln} (h : LnsAt w g ls) (hb : Below w.heap.size w w') : LnsAt w' g ls := by
  intro i hi
  exact (h.keep (hb.block g (h.lt (by omega)))) i hi
theorem LnsAt.only {F : Nat → Prop} {w w' : World} {g : Nat} {ls : List Ln} (h : LnsAt w g ls) (ho : Only F w w') (hg : ¬ F g) : LnsAt w' g ls := by
  intro i hi
  exact (h.keep (ho.block g (h.lt (by omega)) hg)) i hi
theorem LnsAt.set {w : World} {g : Nat} {ls : List Ln} (h : LnsAt w g ls) (i : Nat) (l : Ln) (hi : i < ls.length) : LnsAt (w.setCells g (i * 4) (lnL l)) g (ls.set i l) := by
  intro k hk
  have hk' : k < ls.length := by simpa using hk
  rw [lnAt_set ls i k l hi]
  have ht : w.there g (i * 4) (lnL l).length := (h i hi).2
  refine ⟨?_, World.there_setCells (h k hk').2 g (i * 4) (lnL l)⟩
  by_cases e : k = i
  · subst e
    rw [if_pos rfl]
    exact World.rangeAt_setCells_same w g (k * 4) (lnL l) ht
  · rw [if_neg e]
    refine World.rangeAt_setCells_apart (h k hk').1 g (i * 4) (lnL l) (Or.inr ?_)
    show k * 4 + 4 ≤ i * 4 ∨ i * 4 + 4 ≤ k * 4
    omega
theorem LnsAt.range {w : World} {g : Nat} {ls : List Ln} (h : LnsAt w g ls) {i : Nat} (hi : i < ls.length) : w.rangeAt g (i * 4) (lnL (lnAt ls i)) := (h i hi).1
theorem LnsAt.pages {w : World} {g : Nat} {ls : List Ln} (h : LnsAt w g ls) {i : Nat} (hi : i < ls.length) : w.rangeAt g (i * 4) [.string (lnAt ls i).p, .string (lnAt ls i).q, .string (lnAt ls i).r] := by
  intro j v hj
  refine (h i hi).1 j v ?_
  match j, hj with
  | 0, hj => exact hj
  | 1, hj => exact hj
  | 2, hj => exact hj

/-- a page of three -/
theorem info_str : (Tryd.prog.info? 9).map (fun i => (i.size, i.zero)) = some (1, some (.string ByteArray.empty)) := by kernel_rfl
theorem index_three (p q r : ByteArray) (n : Nat) (hn : n < 3) (w : World) : (Instr.index 43 (.agg #[.string p, .string q, .string r]) (.int .i64 (n : Int))).run Tryd.prog w = .ok (.string (pgN p q r n)) w := by
  have hu : Tryd.prog.underlying 43 = some (.array 3 9) := by kernel_rfl
  obtain ⟨i, hi, hzz⟩ := Option.map_eq_some_iff.1 info_str
  simp only [Prod.mk.injEq] at hzz
  have hz1 := hzz.1
  simp [Instr.index, asIntOf, run_underlying hu, hn, part, sizeOf, typeInfo, hi, hz1, isAgg, run_underlying Tryd.underlying9, go_sem]
  match n, hn with
  | 0, _ => rfl
  | 1, _ => rfl
  | 2, _ => rfl
set_option maxHeartbeats 1000000 in
theorem ce_hurtBy (l : Ln) (a b : Int) (w : World) (hs : ∀ t, (l.pt t).size ≤ 400) :
    Calls Tryd.prog 35 #[.agg (lv l), .int .i64 a, .int .i64 b] w fun e w' => e = .returned (.agg (lv (hurtL l a b))) ∧ Below w.heap.size w w' := by
  obtain ⟨w1, hw1⟩ : ∃ w1, (w.alloc (.cells (lv l) 57)).alloc (.cells (lv l0) 57) = w1 := ⟨_, rfl⟩
  have hb1 : Below w.heap.size w w1 := by rw [← hw1]; exact ((Below.refl _ _).alloc (Nat.le_refl _) _).alloc (by simp) _
  have hk1 : Blk w1 w.heap.size (lv l) 57 := by rw [← hw1]; exact (Blk.new w _ _).alloc _
  have hk2 : Blk w1 (w.heap.size + 1) (lv l0) 57 := by
    rw [← hw1]
    have := Blk.new (w.alloc (.cells (lv l) 57)) (lv l0) 57
    rw [World.size_alloc] at this
    exact this
  obtain ⟨p, q, r, h⟩ := l
  have hp : p.size ≤ 1000 := by have := hs 0; show p.size ≤ 1000; exact Nat.le_trans this (by decide)
  have hq : q.size ≤ 1000 := by have := hs 1; exact Nat.le_trans this (by decide)
  have hr : r.size ≤ 1000 := by have := hs 2; exact Nat.le_trans this (by decide)
  have HB1 := Lib.hid hb1
  have HK1 := Lib.hid hk1
  have HK2 := Lib.hid hk2
  have HW1 := Lib.hid hw1
  have HP := Lib.hid hp
  have HQ := Lib.hid hq
  have HR := Lib.hid hr
  clear hb1 hk1 hk2 hw1 hs hp hq hr
  cases h with
  | true =>
    unfold lv l0 at *
    go_enter Tryd.func35, Tryd.ntmps35
    go_wp2_with (first
      | (change wpList _ _ _ _ _ ((w.alloc (.cells #[.string p, .string q, .string r, .bool true] 57)).alloc (.cells #[.string ByteArray.empty, .string ByteArray.empty, .string ByteArray.empty, .bool false] 57)); rw [HW1.out]; refine wpList_load_row rfl 57 (.tmp 3) rfl w.heap.size rfl 57 #[.string p, .string q, .string r, .bool true] (0, 0) _ HK1.out Tryd.underlying57 rfl size_line ?_)
      | (refine wpList_store_row rfl 57 (.tmp 6) (.tmp 11) rfl (w.heap.size + 1) #[.string p, .string q, .string r, .bool true] rfl rfl 57 #[.string ByteArray.empty, .string ByteArray.empty, .string ByteArray.empty, .bool false] HK2.out size_line rfl (lv_one ⟨p, q, r, true⟩) ?_))
    exact bodyPost_ret (results_cell_row (P := Tryd.prog) rfl _ _ (w.heap.size + 1) 57 #[.string p, .string q, .string r, .bool true] (0, 0) _ rfl (HK2.out.put _) Tryd.underlying57 rfl size_line) rfl ⟨rfl, below_put (by omega) _ HB1.out⟩
  | false =>
    go_enter Tryd.func35, Tryd.ntmps35
    unfold lv l0 at *
    go_wp2_with fail
    change Code.wp _ (Code.loop _) _ _ ((w.alloc (.cells #[.string p, .string q, .string r, .bool false] 57)).alloc (.cells #[.string ByteArray.empty, .string ByteArray.empty, .string ByteArray.empty, .bool false] 57))
    rw [HW1.out]
    refine wp_loop_rounds 4 ?_
    have i0 : ∀ w, (Instr.index 43 (.agg #[.string p, .string q, .string r]) (.int .i64 0)).run Tryd.prog w = .ok (.string p) w := fun w => index_three p q r 0 (by decide) w
    have i1 : ∀ w, (Instr.index 43 (.agg #[.string p, .string q, .string r]) (.int .i64 1)).run Tryd.prog w = .ok (.string q) w := fun w => index_three p q r 1 (by decide) w
    have i2 : ∀ w, (Instr.index 43 (.agg #[.string p, .string q, .string r]) (.int .i64 2)).run Tryd.prog w = .ok (.string r) w := fun w => index_three p q r 2 (by decide) w
    have HL1 := HK2
    clear HK2
    rw [rounds_succ]
    go_wp2_with fail
    refine (fr_hurt p a b _ HP.out).mono ?_
    rintro e w2 ⟨rfl, hb2⟩
    obtain ⟨p', hp'⟩ : ∃ p', hurtT p a b = p' := ⟨_, rfl⟩
    have k2 := HK1.out.after hb2
    have c0 : w2.cell? ⟨w.heap.size, 0, none⟩ = some (.string p) := k2.cell 0
    have f0 := k2.free 0
    have HBt := Lib.hid (HB1.out.trans (hb2.mono HB1.out.size)) 
    have HLt := Lib.hid (HL1.out.after hb2)
    have Hp' := Lib.hid hp'
    obtain ⟨v1, hv⟩ : ∃ v, w2.setCell ⟨w.heap.size, 0, none⟩ (.string p') = v := ⟨_, rfl⟩
    have hk3 := k2.set 0 (.string p') rfl
    have hl3 := HLt.out.set_other (c := w.heap.size) (by omega) 0 (.string p')
    have hb3 := HBt.out.setCell (p := ⟨w.heap.size, 0, none⟩) (Nat.le_refl _) (.string p')
    rw [hv] at hk3 hl3 hb3
    have HK2 := Lib.hid hk3
    have HL2 := Lib.hid hl3
    have HB2 := Lib.hid hb3
    have HV := Lib.hid hv
    rw [hp']
    clear hp' hb2 hv hk3 hl3 hb3 HBt HLt HK1 HL1 HB1 k2
    go_wp2_with fail
    clear c0 f0
    change Code.rounds _ _ _ _ _ (w2.setCell ⟨w.heap.size, 0, none⟩ (.string p'))
    rw [HV.out]
    clear HV
    rw [rounds_succ]
    go_wp2_with fail
    refine (fr_hurt q a b _ HQ.out).mono ?_
    rintro e w3 ⟨rfl, hb2⟩
    obtain ⟨q', hq'⟩ : ∃ q', hurtT q a b = q' := ⟨_, rfl⟩
    have k2 := HK2.out.after hb2
    have c0 : w3.cell? ⟨w.heap.size, 1, none⟩ = some (.string q) := k2.cell 1
    have f0 := k2.free 1
    have HBt := Lib.hid (HB2.out.trans (hb2.mono HB2.out.size)) 
    have HLt := Lib.hid (HL2.out.after hb2)
    have Hq' := Lib.hid hq'
    obtain ⟨v2, hv⟩ : ∃ v, w3.setCell ⟨w.heap.size, 1, none⟩ (.string q') = v := ⟨_, rfl⟩
    have hk3 := k2.set 1 (.string q') rfl
    have hl3 := HLt.out.set_other (c := w.heap.size) (by omega) 1 (.string q')
    have hb3 := HBt.out.setCell (p := ⟨w.heap.size, 1, none⟩) (Nat.le_refl _) (.string q')
    rw [hv] at hk3 hl3 hb3
    have HK3 := Lib.hid hk3
    have HL3 := Lib.hid hl3
    have HB3 := Lib.hid hb3
    have HV := Lib.hid hv
    rw [hq']
    clear hq' hb2 hv hk3 hl3 hb3 HBt HLt HK2 HL2 HB2 k2
    go_wp2_with fail
    clear c0 f0
    change Code.rounds _ _ _ _ _ (w3.setCell ⟨w.heap.size, 1, none⟩ (.string q'))
    rw [HV.out]
    clear HV
    rw [rounds_succ]
    go_wp2_with fail
    refine (fr_hurt r a b _ HR.out).mono ?_
    rintro e w4 ⟨rfl, hb2⟩
    obtain ⟨r', hr'⟩ : ∃ r', hurtT r a b = r' := ⟨_, rfl⟩
    have k2 := HK3.out.after hb2
    have c0 : w4.cell? ⟨w.heap.size, 2, none⟩ = some (.string r) := k2.cell 2
    have f0 := k2.free 2
    have HBt := Lib.hid (HB3.out.trans (hb2.mono HB3.out.size)) 
    have HLt := Lib.hid (HL3.out.after hb2)
    have Hr' := Lib.hid hr'
    obtain ⟨v3, hv⟩ : ∃ v, w4.setCell ⟨w.heap.size, 2, none⟩ (.string r') = v := ⟨_, rfl⟩
    have hk3 := k2.set 2 (.string r') rfl
    have hl3 := HLt.out.set_other (c := w.heap.size) (by omega) 2 (.string r')
    have hb3 := HBt.out.setCell (p := ⟨w.heap.size, 2, none⟩) (Nat.le_refl _) (.string r')
    rw [hv] at hk3 hl3 hb3
    have HK4 := Lib.hid hk3
    have HL4 := Lib.hid hl3
    have HB4 := Lib.hid hb3
    have HV := Lib.hid hv
    rw [hr']
    clear hr' hb2 hv hk3 hl3 hb3 HBt HLt HK3 HL3 HB3 k2
    go_wp2_with fail
    clear c0 f0
    change Code.rounds _ _ _ _ _ (w4.setCell ⟨w.heap.size, 2, none⟩ (.string r'))
    rw [HV.out]
    clear HV
    rw [rounds_succ]
    have c3 : v3.cell? ⟨w.heap.size, 3, none⟩ = some (.bool false) := HK4.out.cell 3
    have f3 := HK4.out.free 3
    obtain ⟨z, hz⟩ : ∃ z, v3.setCell ⟨w.heap.size, 3, none⟩ (.bool true) = z := ⟨_, rfl⟩
    have hk5 : Blk (v3.setCell ⟨w.heap.size, 3, none⟩ (.bool true)) w.heap.size #[.string p', .string q', .string r', .bool true] 57 := HK4.out.set 3 (.bool true) rfl
    have hl5 := HL4.out.set_other (c := w.heap.size) (by omega) 3 (.bool true)
    have hb5 := HB4.out.setCell (p := ⟨w.heap.size, 3, none⟩) (Nat.le_refl _) (.bool true)
    rw [hz] at hk5 hl5 hb5
    have HK5 := Lib.hid hk5
    have HL5 := Lib.hid hl5
    have HB5 := Lib.hid hb5
    have HZ := Lib.hid hz
    clear hz hk5 hl5 hb5 HK4 HL4 HB4
    go_wp2_with (first
      | (change wpList _ _ _ _ _ (v3.setCell ⟨w.heap.size, 3, none⟩ (.bool true)); rw [HZ.out]; refine wpList_load_row rfl 57 (.tmp 3) rfl w.heap.size rfl 57 #[.string p', .string q', .string r', .bool true] (0, 0) _ HK5.out Tryd.underlying57 rfl size_line ?_)
      | (refine wpList_store_row rfl 57 (.tmp 6) (.tmp 27) rfl (w.heap.size + 1) #[.string p', .string q', .string r', .bool true] rfl rfl 57 #[.string ByteArray.empty, .string ByteArray.empty, .string ByteArray.empty, .bool false] HL5.out size_line rfl (lv_one ⟨p', q', r', true⟩) ?_))
    exact bodyPost_ret (results_cell_row (P := Tryd.prog) rfl _ _ (w.heap.size + 1) 57 #[.string p', .string q', .string r', .bool true] (0, 0) _ rfl (HL5.out.put _) Tryd.underlying57 rfl size_line) rfl ⟨by rw [← Hp'.out, ← Hq'.out, ← Hr'.out]; rfl, below_put (by omega) _ HB5.out⟩

end Go.Proofs.YtjmoecfgpfdncaaDoor

/- Package cell, walked: takes. -/
namespace Go.Proofs.YtjmoecfgpfdncaaDoor
set_option maxRecDepth 100000
open Go.RowKit

theorem ce_takes1 (p : ByteArray) (bc o : Nat) (bl : ByteArray) (w : World) (hc : w.cell? ⟨bc, 0, none⟩ = some (.pointer (some ⟨o, 0, none⟩))) (ho : w.cell? ⟨o, 1, none⟩ = some (.string bl)) :
    Calls Tryd.prog 40 #[.string p, .pointer (some ⟨bc, 0, none⟩)] w fun e w' => e = .returned (.bool (p.size != bl.size)) ∧ w = w' := by
  go_enter Tryd.func40, Tryd.ntmps40
  go_wp2
  go_ret
  exact ⟨ret_bool (by rw [Bool.eq_iff_iff]; simp; try omega), rfl⟩

def badSize (bl : ByteArray) (p : ByteArray) : Bool := p.size != bl.size
theorem ce_index (ps : List ByteArray) (b cap bc o : Nat) (bl : ByteArray) (w : World) (hc : w.cell? ⟨bc, 0, none⟩ = some (.pointer (some ⟨o, 0, none⟩))) (ho : w.cell? ⟨o, 1, none⟩ = some (.string bl)) 
    (hn : ps.length ≤ 3) (hp : ∀ j, j < ps.length → w.cell? ⟨b, j, none⟩ = some (.string (ps.getD j ByteArray.empty))) :
    Calls Tryd.prog 60 #[.slice (some ⟨b, 0, none⟩) ps.length cap, .func (.func 40) #[] #[.pointer (some ⟨bc, 0, none⟩)]] w
      fun e w' => (∃ i : Int, e = .returned (.int .i64 i) ∧ -1 ≤ i ∧ i ≤ 3 ∧ decide (0 ≤ i) = ps.any (badSize bl)) ∧ w = w' := by
  obtain ⟨n, hnn⟩ : ∃ n, ps.length = n := ⟨_, rfl⟩
  rw [hnn] at hn hp ⊢
  have HN := Lib.hid hnn
  have HP := Lib.hid hp
  have HT := Lib.hid (fun p => ce_takes1 p bc o bl w hc ho)
  clear hnn hp hc ho
  go_enter Tryd.func60, Tryd.ntmps60
  go_wp2_with fail
  go_loop [5, 8] (fun _ i => ∃ j : Nat, j ≤ n ∧ i = .int .i64 j ∧ (ps.take j).any (badSize bl) = false) (fun _ i => n - (intOf i).toNat)
  case atStart => exact ⟨0, Nat.zero_le _, rfl, rfl⟩
  case round =>
    obtain ⟨j, hj, rfl, hany⟩ := hrel
    by_cases hlt : j < n
    · have hcell := HP.out j hlt
      have HTAKE : Hid (ps.take (j + 1) = ps.take j ++ [ps.getD j ByteArray.empty]) := by
        rw [List.take_add_one, List.getD_eq_getElem?_getD, List.getElem?_eq_getElem (by have := HN.out; omega)]; rfl
      obtain ⟨p, hpp⟩ : ∃ p, ps.getD j ByteArray.empty = p := ⟨_, rfl⟩
      rw [hpp] at hcell HTAKE
      have HC := Lib.hid (HT.out p)
      have HANY := Lib.hid hany
      clear hpp hany
      cases hq : badSize bl p with
      | true =>
        have HQ := Lib.hid hq
        have hq2 : (p.size != bl.size) = true := hq
        rw [hq2] at HC
        clear hq hq2
        go_wp2_with fail
        refine HC.out.mono ?_
        rintro e w' ⟨rfl, rfl⟩
        go_wp2_with fail
        go_ret
        refine ⟨⟨(j : Nat), rfl, by omega, by omega, ?_⟩, rfl⟩
        rw [decide_eq_true (by omega)]
        symm
        rw [List.any_eq_true]
        have h1 : p ∈ ps.take (j + 1) := by rw [HTAKE.out]; simp
        exact ⟨p, List.mem_of_mem_take h1, HQ.out⟩
      | false =>
        have HQ := Lib.hid hq
        have hq2 : (p.size != bl.size) = false := hq
        rw [hq2] at HC
        clear hq hq2
        go_wp2_with fail
        refine HC.out.mono ?_
        rintro e w' ⟨rfl, rfl⟩
        go_wp2_with fail
        go_round
        case rel =>
          refine ⟨j + 1, by omega, by go_num, ?_⟩
          rw [HTAKE.out, List.any_append, HANY.out]
          simp [HQ.out]
        case measure => simp [intOf]; omega
    · have hje : j = n := by omega
      have HANY := Lib.hid hany
      clear hany
      go_wp2_with fail
      go_ret
      refine ⟨⟨-1, rfl, by omega, by omega, ?_⟩, rfl⟩
      have h1 := HANY.out
      rw [hje, ← HN.out, List.take_length] at h1
      rw [h1]
      rfl
theorem ce_contains (ps : List ByteArray) (b cap bc o : Nat) (bl : ByteArray) (w : World) (hc : w.cell? ⟨bc, 0, none⟩ = some (.pointer (some ⟨o, 0, none⟩))) (ho : w.cell? ⟨o, 1, none⟩ = some (.string bl)) 
    (hn : ps.length ≤ 3) (hp : ∀ j, j < ps.length → w.cell? ⟨b, j, none⟩ = some (.string (ps.getD j ByteArray.empty))) :
    Calls Tryd.prog 39 #[.slice (some ⟨b, 0, none⟩) ps.length cap, .func (.func 40) #[] #[.pointer (some ⟨bc, 0, none⟩)]] w
      fun e w' => e = .returned (.bool (ps.any (badSize bl))) ∧ w = w' := by
  have HI := Lib.hid (ce_index ps b cap bc o bl w hc ho hn hp)
  clear hc ho hp
  go_enter Tryd.func39, Tryd.ntmps39
  go_wp2_with fail
  refine HI.out.mono ?_
  rintro e w' ⟨⟨i, rfl, h1, h2, h3⟩, rfl⟩
  have H3 := Lib.hid h3
  clear h3
  go_wp2_with fail
  go_ret
  exact ⟨ret_bool H3.out, rfl⟩

/-- may the cell be written in mode m with these pages? -/
def takesA (m0 m : Int) (b t : Bool) (bl : ByteArray) (ps : List ByteArray) : Bool := !b && !t && (m0 == 0 || m0 == m) && !ps.any (badSize bl)
set_option maxHeartbeats 1000000 in
theorem ce_takes (o L g cap : Nat) (bl : ByteArray) (m0 : Int) (d sl tl : Nat) (bad torn : Bool) (m : Int) (ps : List ByteArray) (pb pcap : Nat) (w : World) (hk : Blk w o (cc L g cap bl m0 d sl tl bad torn) 50) 
    (hn : ps.length ≤ 3) (hp : ∀ j, j < ps.length → w.cell? ⟨pb, j, none⟩ = some (.string (ps.getD j ByteArray.empty))) (hm : m0 = 0 ∨ m0 = 1 ∨ m0 = 2) (hm2 : m = 1 ∨ m = 2) :
    Calls Tryd.prog 23 #[.pointer (some ⟨o, 0, none⟩), .int .i64 m, .slice (some ⟨pb, 0, none⟩) ps.length pcap] w fun e w' => e = .returned (.bool (takesA m0 m bad torn bl ps)) ∧ Below w.heap.size w w' := by
  obtain ⟨w1, hw1⟩ : ∃ w1, w.alloc (.cells #[.pointer (some ⟨o, 0, none⟩)] 25) = w1 := ⟨_, rfl⟩
  have hb1 : Below w.heap.size w w1 := by rw [← hw1]; exact (Below.refl _ _).alloc (Nat.le_refl _) _
  have hx : w1.cell? ⟨w.heap.size, 0, none⟩ = some (.pointer (some ⟨o, 0, none⟩)) := by rw [← hw1]; exact (Blk.new w _ _).cell 0
  have hk1 : Blk w1 o (cc L g cap bl m0 d sl tl bad torn) 50 := hk.after hb1
  have c1 : w1.cell? ⟨o, 1, none⟩ = some (.string bl) := hk1.cell 1
  have c2 : w1.cell? ⟨o, 2, none⟩ = some (.int .i64 m0) := hk1.cell 2
  have c6 : w1.cell? ⟨o, 6, none⟩ = some (.bool bad) := hk1.cell 6
  have c7 : w1.cell? ⟨o, 7, none⟩ = some (.bool torn) := hk1.cell 7
  have hp1 : ∀ j, j < ps.length → w1.cell? ⟨pb, j, none⟩ = some (.string (ps.getD j ByteArray.empty)) := fun j hj => by
    have h1 := hp j hj
    rw [← h1]
    exact hb1.cell (p := ⟨pb, j, none⟩) (cell_lt h1)
  have HCON := Lib.hid (ce_contains ps pb pcap w.heap.size o bl w1 hx c1 hn hp1)
  have HB1 := Lib.hid hb1
  subst hw1
  obtain ⟨A, hA⟩ : ∃ A, ps.any (badSize bl) = A := ⟨_, rfl⟩
  unfold takesA
  rw [hA] at HCON ⊢
  obtain ⟨n, hnn⟩ : ∃ n, ps.length = n := ⟨_, rfl⟩
  rw [hnn] at HCON hn ⊢
  clear hk hk1 hb1 hp hp1 hA hnn
  cases bad with
  | true =>
    go_enter Tryd.func23, Tryd.ntmps23
    go_wp2_with fail
    go_ret
    exact ⟨rfl, HB1.out⟩
  | false =>
    cases torn with
    | true =>
      go_enter Tryd.func23, Tryd.ntmps23
      go_wp2_with fail
      go_ret
      exact ⟨rfl, HB1.out⟩
    | false =>
      rcases hm with rfl | rfl | rfl <;> rcases hm2 with rfl | rfl
      all_goals
        go_enter Tryd.func23, Tryd.ntmps23
        go_wp2_with fail
      all_goals first
        | (refine HCON.out.mono ?_
           rintro e w' ⟨rfl, rfl⟩
           go_wp2_with fail
           go_ret
           exact ⟨ret_bool (by simp), HB1.out⟩)
        | (go_ret
           exact ⟨rfl, HB1.out⟩)

end Go.Proofs.YtjmoecfgpfdncaaDoor

/- The iterator of order, walked: the steps of so many lines, one by one. -/
namespace Go.Proofs.YtjmoecfgpfdncaaDoor
set_option maxRecDepth 100000
open Go.RowKit
attribute [local go_sem] Oper.semAt_some

/-- all steps of so many lines; of a number that has none, none -/
def allL (n : Int) : List (Nat × Bool) := if LinesOk n then refL n.toNat else []
theorem allL_le (n : Int) : (allL n).length ≤ 128 := by
  unfold allL
  split
  · rename_i h
    unfold LinesOk at h
    rw [refL_length _ (by omega)]; omega
  · simp
theorem refTo_more : ∀ (n k : Nat), 1 ≤ k → k ≤ n → refTo k <+: refTo n
  | 0, k, h1, h => by omega
  | n + 1, k, h1, h => by
    by_cases e : k = n + 1
    · rw [e]; exact List.prefix_refl _
    · have := refTo_more n k h1 (by omega)
      rw [refTo_succ n (by omega)]
      exact this.trans (List.prefix_append _ _)
theorem pfx_take {α : Type} {p l : List α} (h : p <+: l) : ∃ j, j ≤ l.length ∧ p = l.take j := ⟨p.length, h.length_le, List.prefix_iff_eq_take.1 h⟩
theorem refL_pfx {n k : Nat} (h1 : 1 ≤ k) (h : k ≤ n) : refTo k <+: refL n := (refTo_more n k h1 h).trans (List.prefix_append _ _)
theorem refL_pfx2 {n k : Nat} (h1 : 1 ≤ k) (h : k < n) : refTo k ++ [(k, false)] <+: refL n := by
  refine List.IsPrefix.trans ?_ (refL_pfx (k := k + 1) (by omega) h)
  rw [refTo_succ k h1]
  exact ⟨[(k - 1, true)], by simp⟩
theorem grown_of_below {W W' : World} (h : Below W.heap.size W W') : W.grownBy W' none := ⟨h.os, h.tape, h.output, h.size, fun k hk _ => h.block k hk⟩

set_option maxHeartbeats 2000000 in
theorem steps_in (m : Nat) (hm : 1 ≤ m) (l b1 B : Nat) (n : Int) (J Jx : List (Nat × Bool) → World → Prop) (_hA : AbidesFrom B J)
    (hY : ∀ pre x W, J pre W → pre.length < (allL n).length → YieldAt Fence.wide (m - 1) Tryd.prog l #[.agg (sv x.1 x.2)] W fun e W' =>
      (e = .returned (.bool true) ∧ J (pre ++ [x]) W' ∧ KeepB [b1] W W') ∨ (e = .returned (.bool false) ∧ Jx (pre ++ [x]) W'))
    (W : World) (h1 : W.cell? ⟨b1, 0, none⟩ = some (.int .i64 n)) (h0 : J [] W) :
    CallsIn Fence.wide m Tryd.prog 88 #[.func (.yield l) #[] #[], .pointer (some ⟨b1, 0, none⟩)] W fun e W' => (∃ v, e = .returned v) ∧
      ((∃ ys, ys = allL n ∧ J ys W') ∨ (∃ pre, (∃ k, k ≤ (allL n).length ∧ pre = (allL n).take k) ∧ Jx pre W')) := by
  refine callsIn_of_wp Tryd.func88 rfl trivial ?_ rfl
  simp only [Tryd.ntmps88, List.size_toArray, List.length_cons, List.length_nil, Nat.reduceAdd, Nat.reduceSub, Array.replicate_succ, Array.replicate_zero, List.push_toArray, List.append_toArray, List.nil_append, List.cons_append]
  by_cases h : LinesOk n
  · obtain ⟨c, rfl⟩ : ∃ c : Nat, n = c := ⟨n.toNat, by unfold LinesOk at h; omega⟩
    have hc1 : 1 ≤ c := by unfold LinesOk at h; omega
    have hc64 : c ≤ 64 := by unfold LinesOk at h; omega
    have hall : allL (c : Int) = refL c := if_pos h
    have hlen := refL_length c hc1
    have HALL := Lib.hid hall
    have g1 : ¬ (c : Int) < 1 := by omega
    have g2 : ¬ (64 : Int) < (c : Int) := by omega
    rw [hall, hlen] at hY
    rw [hall]
    have HLEN := Lib.hid hlen
    have HY := Lib.hid hY
    clear h hall hlen hY
    obtain ⟨fn, tmps, assign, body, hy, hR⟩ := HY.out [] (0, false) W h0 (by show 0 < 2 * c; omega)
    simp only [sv, Int.cast_ofNat_Int] at hy hR
    gi_wp2
    refine hR.mono ?_
    clear hR hy
    rintro e W1 (⟨rfl, hJ1, hb1⟩ | ⟨rfl, hJx1⟩)
    · have HJ1 := Lib.hid hJ1
      have HB1 := Lib.hid hb1
      clear hJ1 hb1 h0
      gi_wp2_with fail
      gi_loopw [3] (fun i wr => ∃ j : Nat, j + 1 ≤ c ∧ i = .int .i64 ((j : Int) + 1) ∧ J (refTo (j + 1)) wr ∧ KeepB [b1] W wr)
        (fun i _ => c + 1 - (intOf i).toNat)
      case atStart => exact ⟨0, hc1, rfl, HJ1.out, HB1.out⟩
      case round =>
        obtain ⟨j, hj, rfl, hJ, hb'⟩ := hrel
        have g3 : wr.cell? ⟨b1, 0, none⟩ = some (.int .i64 c) := (hb'.cell (by simp)).trans h1
        have HJ := Lib.hid hJ
        have HB := Lib.hid hb'
        have hll := refTo_length (j + 1) (by omega)
        clear hJ hb'
        by_cases hlt : j + 1 < c
        · have hlti : (j : Int) + 1 < (c : Int) := by omega
          obtain ⟨fn, tmps, assign, body, hy, hR⟩ := HY.out (refTo (j + 1)) (j + 1, false) wr HJ.out (by omega)
          simp only [sv, Int.natCast_add, Int.cast_ofNat_Int] at hy hR
          gi_wp2
          refine hR.mono ?_
          clear hR hy
          rintro e W3 (⟨rfl, hJ3, hk3⟩ | ⟨rfl, hJx3⟩)
          · have HJ3 := Lib.hid hJ3
            have HK3 := Lib.hid hk3
            clear hJ3 hk3
            obtain ⟨fn2, tmps2, assign2, body2, hy2, hR2⟩ := HY.out (refTo (j + 1) ++ [(j + 1, false)]) (j, true) W3 HJ3.out (by rw [List.length_append, hll]; simp; omega)
            simp only [sv] at hy2 hR2
            gi_wp2
            refine hR2.mono ?_
            clear hR2 hy2
            rintro e W4 (⟨rfl, hJ4, hk4⟩ | ⟨rfl, hJx4⟩)
            · gi_wp2
              go_roundw
              case rel => exact ⟨j + 1, by omega, by go_num, by rw [refTo_succ (j + 1) (by omega)]; simpa using hJ4, HB.out.trans (HK3.out.trans hk4)⟩
              case measure => simp [intOf]; omega
            · gi_wp2
              refine bodyPost_ret (results_none rfl _ _ _) rfl ?_
              refine ⟨⟨_, rfl⟩, .inr ⟨_, ?_, hJx4⟩⟩
              have h := refL_pfx (n := c) (k := j + 2) (by omega) (by omega)
              rw [refTo_succ (j + 1) (by omega)] at h
              exact pfx_take (by simpa using h)
          · gi_wp2
            refine ⟨(fun _ h => nomatch h), ?_⟩
            gi_wp2
            refine bodyPost_ret (results_none rfl _ _ _) rfl ?_
            exact ⟨⟨_, rfl⟩, .inr ⟨_, pfx_take (refL_pfx2 (by omega) hlt), hJx3⟩⟩
        · have hlti : ¬ (j : Int) + 1 < (c : Int) := by omega
          obtain rfl : c = j + 1 := by omega
          obtain ⟨fn, tmps, assign, body, hy, hR⟩ := HY.out (refTo (j + 1)) (j, true) wr HJ.out (by omega)
          simp only [sv] at hy hR
          gi_wp2
          refine hR.mono ?_
          clear hR hy
          rintro e W3 (⟨rfl, hJ3, hk3⟩ | ⟨rfl, hJx3⟩)
          · gi_wp2
            go_end0
            exact ⟨⟨_, rfl⟩, .inl ⟨_, rfl, hJ3⟩⟩
          · gi_wp2
            go_end0
            exact ⟨⟨_, rfl⟩, .inr ⟨_, pfx_take (List.prefix_refl _), hJx3⟩⟩
    · gi_wp2
      refine bodyPost_ret (results_none rfl _ _ _) rfl ?_
      exact ⟨⟨_, rfl⟩, .inr ⟨_, pfx_take (refL_pfx (k := 1) (Nat.le_refl _) hc1), hJx1⟩⟩
  · have hc : n < 1 ∨ ¬ n < 1 ∧ 64 < n := by unfold LinesOk at h; omega
    have hall : allL n = [] := if_neg h
    rw [hall]
    clear hY h hall
    rcases hc with hc | ⟨hc, hc2⟩
    all_goals
      gi_wp2_with fail
      refine ⟨(fun _ h => nomatch h), ?_⟩
      gi_wp2_with fail
      refine bodyPost_ret (results_none rfl _ _ _) rfl ?_
      exact ⟨⟨_, rfl⟩, .inl ⟨[], rfl, h0⟩⟩

theorem steps_stops (m : Nat) (hm : 1 ≤ m) (b1 : Nat) (n : Int) (w : World) (hb1 : b1 < w.heap.size) (h1 : w.cell? ⟨b1, 0, none⟩ = some (.int .i64 n)) :
    SeqStopsK Fence.wide m Tryd.prog 88 #[.pointer (some ⟨b1, 0, none⟩)] (fun x : Nat × Bool => #[.agg (sv x.1 x.2)]) (KeepB [b1])
      (fun ys => ys = allL n) (fun pre => ∃ k, k ≤ (allL n).length ∧ pre = (allL n).take k) (allL n).length w := fun l J Jx W hW hA _ hY h0 => by
  exact steps_in m hm l b1 W.heap.size n J Jx hA hY W ((hW.cell (p := ⟨b1, 0, none⟩) hb1).trans h1) h0
theorem steps_stops2 (m : Nat) (hm : 1 ≤ m) (b1 : Nat) (n : Int) (w : World) (hb1 : b1 < w.heap.size) (h1 : w.cell? ⟨b1, 0, none⟩ = some (.int .i64 n)) :
    SeqStopsK Fence.wide m Tryd.prog 88 #[.pointer (some ⟨b1, 0, none⟩)] (fun x : Nat × Bool => #[.agg (sv x.1 x.2)]) (fun A B => Below w.heap.size A B)
      (fun ys => ys = allL n) (fun pre => ∃ k, k ≤ (allL n).length ∧ pre = (allL n).take k) (allL n).length w := fun l J Jx W hW hA _ hY h0 => by
  refine steps_in m hm l b1 W.heap.size n J Jx hA (fun pre x W hJ hl => ?_) W ((hW.cell (p := ⟨b1, 0, none⟩) hb1).trans h1) h0
  obtain ⟨fn, tmps, assign, body, hy, hR⟩ := hY pre x W hJ hl
  refine ⟨fn, tmps, assign, body, hy, hR.mono ?_⟩
  rintro e W' (⟨h1, h2, h3⟩ | h)
  · exact .inl ⟨h1, h2, KeepB.of_below h3 (by simpa using hb1)⟩
  · exact .inr h

/-- what Steps gives, block for block -/
theorem or_steps_raw (n : Int) (w : World) : Calls Tryd.prog 78 #[.int .i64 n] w fun e w' =>
    e = .returned (.func (.func 88) #[] #[.pointer (some ⟨w.heap.size, 0, none⟩)]) ∧ w' = w.alloc (.cells #[.int .i64 n] 3) := by
  go_enter Tryd.func78, Tryd.ntmps78
  go_wp2
  go_ret
  exact ⟨rfl, rfl⟩
theorem steps_enters : ∀ args W, (callFunc 88 args).run Tryd.prog W = .ok (.enter 88 args) W := enters_of Tryd.func88 (by kernel_rfl) rfl
theorem or_steps (n : Int) (w : World) : Calls Tryd.prog 78 #[.int .i64 n] w fun e w' => ∃ (gf : Nat) (lb : Array Value), e = .returned (.func (.func gf) #[] lb) ∧ Below w.heap.size w w' ∧
    (∀ args W, (callFunc gf args).run Tryd.prog W = .ok (.enter gf args) W) ∧
    SeqStopsK Fence.wide 8 Tryd.prog gf lb (fun x : Nat × Bool => #[.agg (sv x.1 x.2)]) (fun A B => Below w'.heap.size A B) (fun xs => xs = allL n) (fun pre => ∃ j, j ≤ (allL n).length ∧ pre = (allL n).take j) (allL n).length w' := by
  refine (or_steps_raw n w).mono ?_
  rintro e w' ⟨rfl, rfl⟩
  exact ⟨88, #[.pointer (some ⟨w.heap.size, 0, none⟩)], rfl, (Below.refl _ _).alloc (Nat.le_refl _) _, steps_enters, steps_stops2 8 (by decide) w.heap.size n _ (by simp) ((Blk.new w #[.int .i64 n] 3).cell 0)⟩

end Go.Proofs.YtjmoecfgpfdncaaDoor

/- Package order, walked: At, Place, After. -/
namespace Go.Proofs.YtjmoecfgpfdncaaDoor
set_option maxRecDepth 100000
open Go.RowKit
attribute [local go_sem] Oper.semAt_some

theorem wpListIn_store_row {F : Fence} {n : Nat} {P : Program} {ops : Array Oper} {rest : List Oper} {o : Oper} {a : Act} {w : World} {Q : Exit → Act → World → Prop} (hgd : o.guard = none) (ty : TypeId) (x y : Operand) (ho : o.op = .store ty x y)
    (g : Nat) (cells : Array Value) (hx : a.eval x = .pointer (some ⟨g, 0, none⟩)) (hy : a.eval y = .agg cells)
    (t : TypeId) (old : Array Value) (hg : w.heap[g]? = some (.cells old t (0, 0))) (hi : (P.info? ty).map (·.size) = some cells.size)
    (hold : old.size = cells.size) (h1 : cells.all (·.oneCell') = true)
    (h : wpListIn F n P ops Q rest (a.put o.dst undef) (w.setRow g cells)) : wpListIn F n P ops Q (o :: rest) a w := by
  refine wpListIn_plain hgd fun K hK => ?_
  unfold Oper.wpIn
  refine ⟨?_, ?_⟩
  · simp [Oper.about, ho]
  · rw [Oper.semAt_plain F _ _ (by rw [ho]; intro c hc'; cases hc')]
    simp only [execOp, ho, hx, hy, Instr.storeAt, Instr.sureAddr, Sem.run_bind, Sem.run_pure, Result.andThen_ok, run_storeVar_row w g t ty old cells hg hi hold h1]
    exact hK _ _ h
theorem wpListIn_load_row {F : Fence} {n : Nat} {P : Program} {ops : Array Oper} {rest : List Oper} {o : Oper} {a : Act} {w : World} {Q : Exit → Act → World → Prop} (hgd : o.guard = none) (ty : TypeId) (x : Operand) (ho : o.op = .load ty x)
    (g : Nat) (hx : a.eval x = .pointer (some ⟨g, 0, none⟩)) (t : TypeId) (cs : Array Value) (fr : Nat × Nat) (d : TypeDesc) (hg : w.heap[g]? = some (.cells cs t fr))
    (hu : P.underlying ty = some d) (hd : (match d with | .struct _ | .array _ _ => true | _ => false) = true) (hi : (P.info? ty).map (·.size) = some cs.size)
    (h : wpListIn F n P ops Q rest (a.put o.dst (.agg cs)) w) : wpListIn F n P ops Q (o :: rest) a w := by
  refine wpListIn_plain hgd fun K hK => ?_
  unfold Oper.wpIn
  refine ⟨?_, ?_⟩
  · simp [Oper.about, ho]
  · rw [Oper.semAt_plain F _ _ (by rw [ho]; intro c hc'; cases hc')]
    simp only [execOp, ho, hx, Instr.loadAt, Instr.sureAddr, Sem.run_bind, Sem.run_pure, Result.andThen_ok, run_loadVar_row w g t ty cs fr d hg hu hd hi]
    exact hK _ _ h

/-- what a function of two results gives, each in a block of its own -/
theorem results_cells_row {P : Program} {fn : Func} {p q : Tmp} {ty ty2 : TypeId} (h : fn.results = #[.cell p ty, .cell q ty2]) (tmps : Array Value) (w : World) (g g2 : Nat) (t : TypeId) (cs : Array Value) (d : TypeDesc) (v : Value)
    (hp : tmps.getD p undef = .pointer (some ⟨g, 0, none⟩)) (hg : Blk w g cs t)
    (hu : P.underlying ty = some d) (hd : (match d with | .struct _ | .array _ _ => true | _ => false) = true) (hi : (P.info? ty).map (·.size) = some cs.size)
    (hq : tmps.getD q undef = .pointer (some ⟨g2, 0, none⟩)) (hc : w.cell? ⟨g2, 0, none⟩ = some v) (ha : ∀ w, (isAgg ty2).run P w = .ok false w) :
    (results fn tmps).run P w = .ok (.tuple #[.agg cs, v]) w := by
  have hp' : tmps[p]?.getD undef = .pointer (some ⟨g, 0, none⟩) := by simpa using hp
  have hq' : tmps[q]?.getD undef = .pointer (some ⟨g2, 0, none⟩) := by simpa using hq
  have h2 : Sem.run P (loadVar ty2 ⟨g2, 0, none⟩) w = .ok v w := by
    simp [loadVar, ha]
    rw [hc]
  simp [results, h, hp', hq', asAddr, run_loadVar_row w g t ty cs (0, 0) d hg hu hd hi, h2]
theorem results_cells_two {P : Program} {fn : Func} {p q : Tmp} {ty ty2 : TypeId} (h : fn.results = #[.cell p ty, .cell q ty2]) (tmps : Array Value) (w : World) (g g2 : Nat) (u v : Value)
    (hp : tmps.getD p undef = .pointer (some ⟨g, 0, none⟩)) (hc1 : w.cell? ⟨g, 0, none⟩ = some u) (ha1 : ∀ w, (isAgg ty).run P w = .ok false w)
    (hq : tmps.getD q undef = .pointer (some ⟨g2, 0, none⟩)) (hc : w.cell? ⟨g2, 0, none⟩ = some v) (ha : ∀ w, (isAgg ty2).run P w = .ok false w) :
    (results fn tmps).run P w = .ok (.tuple #[u, v]) w := by
  have hp' : tmps[p]?.getD undef = .pointer (some ⟨g, 0, none⟩) := by simpa using hp
  have hq' : tmps[q]?.getD undef = .pointer (some ⟨g2, 0, none⟩) := by simpa using hq
  have h1 : Sem.run P (loadVar ty ⟨g, 0, none⟩) w = .ok u w := by
    simp [loadVar, ha1]
    rw [hc1]
  have h2 : Sem.run P (loadVar ty2 ⟨g2, 0, none⟩) w = .ok v w := by
    simp [loadVar, ha]
    rw [hc]
  simp [results, h, hp', hq', asAddr, h1, h2]

theorem allL_step {n : Int} {j : Nat} {ys : List (Nat × Bool)} {x : Nat × Bool} (h : ys ++ [x] = (allL n).take j) (hj : j ≤ (allL n).length) :
    LinesOk n ∧ ys.length < 2 * n.toNat ∧ stepC n.toNat ys.length = x := by
  have hl : ys.length + 1 = j := by
    have := congrArg List.length h
    rw [List.length_take, List.length_append, List.length_singleton, Nat.min_eq_left hj] at this
    exact this
  by_cases ho : LinesOk n
  · have h1 : 1 ≤ n.toNat := by unfold LinesOk at ho; omega
    have h64 : n.toNat ≤ 64 := by unfold LinesOk at ho; omega
    have he : allL n = refL n.toNat := if_pos ho
    rw [he] at h hj
    have hlen := refL_length n.toNat h1
    refine ⟨ho, by omega, ?_⟩
    have hk : ys.length < 2 * n.toNat := by omega
    rw [← refL_at h1 h64 hk]
    have h2 := congrArg (fun l => l.getD ys.length (0, false)) h
    simp only [List.getD_eq_getElem?_getD] at h2 ⊢
    rw [List.getElem?_append_right (Nat.le_refl _), Nat.sub_self, List.getElem?_take_of_lt (by omega)] at h2
    exact h2.symm
  · have he : allL n = [] := if_neg ho
    rw [he] at hj
    simp at hj
    omega
theorem allL_mem {n : Int} (ho : LinesOk n) {k : Nat} (hk : k < 2 * n.toNat) : k < (allL n).length ∧ stepC n.toNat k ∈ allL n := by
  have h1 : 1 ≤ n.toNat := by unfold LinesOk at ho; omega
  have h64 : n.toNat ≤ 64 := by unfold LinesOk at ho; omega
  have he : allL n = refL n.toNat := if_pos ho
  rw [he]
  refine ⟨by rw [refL_length _ h1]; exact hk, ?_⟩
  rw [refL_map _ h64 h1]
  exact List.mem_map.2 ⟨k, List.mem_range.2 hk, rfl⟩

theorem keeps_put {B g : Nat} (W : World) (cs : Array Value) (hg : g < B) : KeepsFrom B W (W.setRow g cs) :=
  ⟨by rw [size_setRow]; exact Nat.le_refl _, fun k o hk ho _ => by
    simp only [World.setRow, Array.getElem?_modify]
    rw [if_neg (by omega)]; exact ho⟩
/-- the blocks of a call while its loop runs: what it was asked of, its results as they are at first, the place; what lay before is as it was -/
structure AtS (w : World) (b : Nat) (q : Array Value) (tq : TypeId) (r1 : Array Value) (t1 : TypeId) (p : Nat) (W : World) : Prop where
  q : Blk W b q tq
  r1 : Blk W (b + 1) r1 t1
  r2 : Blk W (b + 1 + 1) #[.int .i64 0] 26
  p : Blk W (b + 1 + 1 + 1) #[.int .i64 p] 3
  below : Below w.heap.size w W
  size : b + 5 ≤ W.heap.size
theorem AtS.after {w W W' : World} {b : Nat} {q : Array Value} {tq : TypeId} {r1 : Array Value} {t1 : TypeId} {p : Nat} (h : AtS w b q tq r1 t1 p W) (hb : Below W.heap.size W W') : AtS w b q tq r1 t1 p W' :=
  ⟨h.q.after hb, h.r1.after hb, h.r2.after hb, h.p.after hb, h.below.trans (hb.mono h.below.size), Nat.le_trans h.size hb.size⟩
theorem AtS.kept {w W W' : World} {b B : Nat} {q : Array Value} {tq : TypeId} {r1 : Array Value} {t1 : TypeId} {p : Nat} {row : Option Nat} (h : AtS w b q tq r1 t1 p W) (hg : W.grownBy W' row)
    (hB : w.heap.size ≤ B) (hr : ∀ r, row = some r → B ≤ r ∧ ∃ o : Obj, W.heap[r]? = some o ∧ o.isCells = false) : AtS w b q tq r1 t1 p W' :=
  ⟨blk_kept h.q hg (fun r e => (hr r e).2), blk_kept h.r1 hg (fun r e => (hr r e).2), blk_kept h.r2 hg (fun r e => (hr r e).2), blk_kept h.p hg (fun r e => (hr r e).2), h.below.grown hg h.below.size (fun r e => by have := (hr r e).1; omega), Nat.le_trans h.size hg.size⟩
theorem AtS.next {w W : World} {b : Nat} {q : Array Value} {tq : TypeId} {r1 : Array Value} {t1 : TypeId} {p : Nat} (h : AtS w b q tq r1 t1 p W) (hb : w.heap.size ≤ b) : AtS w b q tq r1 t1 (p + 1) (W.setCell ⟨b + 1 + 1 + 1, 0, none⟩ (.int .i64 ((p : Int) + 1))) :=
  ⟨h.q.set_other (by omega) _ _, h.r1.set_other (by omega) _ _, h.r2.set_other (by omega) _ _, h.p.set 0 _ rfl, h.below.setCell (p := ⟨b + 1 + 1 + 1, 0, none⟩) (by show _ ≤ b + 1 + 1 + 1; omega) _, by simpa using h.size⟩

theorem blk_at0 (w : World) (A B C D : Obj) (cs : Array Value) (t : TypeId) : Blk (((((w.alloc (.cells cs t)).alloc A).alloc B).alloc C).alloc D) w.heap.size cs t := (((((Blk.new w cs t).alloc A).alloc B).alloc C).alloc D)
theorem blk_at1 (w : World) (A B C D : Obj) (cs : Array Value) (t : TypeId) : Blk (((((w.alloc A).alloc (.cells cs t)).alloc B).alloc C).alloc D) (w.heap.size + 1) cs t := by
  have h := ((((Blk.new (w.alloc A) cs t).alloc B).alloc C).alloc D)
  rwa [World.size_alloc] at h
theorem blk_at2 (w : World) (A B C D : Obj) (cs : Array Value) (t : TypeId) : Blk (((((w.alloc A).alloc B).alloc (.cells cs t)).alloc C).alloc D) (w.heap.size + 1 + 1) cs t := by
  have h := ((Blk.new ((w.alloc A).alloc B) cs t).alloc C).alloc D
  rwa [World.size_alloc, World.size_alloc] at h
theorem blk_at3 (w : World) (A B C D : Obj) (cs : Array Value) (t : TypeId) : Blk (((((w.alloc A).alloc B).alloc C).alloc (.cells cs t)).alloc D) (w.heap.size + 1 + 1 + 1) cs t := by
  have h := (Blk.new (((w.alloc A).alloc B).alloc C) cs t).alloc D
  rwa [World.size_alloc, World.size_alloc, World.size_alloc] at h
theorem blk_at4 (w : World) (A B C D : Obj) (cs : Array Value) (t : TypeId) : Blk (((((w.alloc A).alloc B).alloc C).alloc D).alloc (.cells cs t)) (w.heap.size + 1 + 1 + 1 + 1) cs t := by
  have h := Blk.new ((((w.alloc A).alloc B).alloc C).alloc D) cs t
  rwa [World.size_alloc, World.size_alloc, World.size_alloc, World.size_alloc] at h
theorem below_at (w : World) (A B C D E : Obj) : Below w.heap.size w (((((w.alloc A).alloc B).alloc C).alloc D).alloc E) :=
  (((((Below.refl _ _).alloc (Nat.le_refl _) _).alloc (by simp) _).alloc (by simp; omega) _).alloc (by simp; omega) _).alloc (by simp; omega) _
/-- the world ahead of the loop -/
theorem at_start (w : World) (n : Int) (q r1 : Array Value) (tq t1 : TypeId) : ∃ W0, (((((w.alloc (.cells q tq)).alloc (.cells r1 t1)).alloc (.cells #[.int .i64 0] 26)).alloc (.cells #[.int .i64 0] 3)).alloc (.cells #[.int .i64 n] 3)) = W0 ∧
    AtS w w.heap.size q tq r1 t1 0 W0 ∧ W0.heap.size = w.heap.size + 5 ∧ W0.cell? ⟨w.heap.size + 1 + 1 + 1 + 1, 0, none⟩ = some (.int .i64 n) :=
  ⟨_, rfl, ⟨blk_at0 _ _ _ _ _ _ _, blk_at1 _ _ _ _ _ _ _, blk_at2 _ _ _ _ _ _ _, blk_at3 _ _ _ _ _ _ _, below_at _ _ _ _ _ _, by simp⟩, by simp, (blk_at4 _ _ _ _ _ _ _).cell 0⟩

set_option maxHeartbeats 2000000 in
theorem or_at (n k : Int) (w : World) : Calls Tryd.prog 59 #[.int .i64 n, .int .i64 k] w (StepT n k w) := by
  refine calls_of_marks Tryd.func59 rfl ?_
  simp only [Tryd.ntmps59, List.size_toArray, List.length_cons, List.length_nil, Nat.reduceAdd, Nat.reduceSub, Array.replicate_succ, Array.replicate_zero, List.push_toArray, List.append_toArray, List.nil_append, List.cons_append]
  go_wp2_with fail
  refine (or_steps_raw n _).mono ?_
  rintro r w1 ⟨rfl, rfl⟩
  go_wp2_with fail
  obtain ⟨W0, hW0, hS0, hz, hc4⟩ := at_start w n #[.int .i64 k] (sv 0 false) 3 72
  obtain ⟨b, hb⟩ : ∃ b, w.heap.size = b := ⟨_, rfl⟩
  have HB := Lib.hid hb
  have hWx : (((((w.alloc (.cells #[.int .i64 k] 3)).alloc (.cells #[.int .i64 0, .bool false] 72)).alloc (.cells #[.int .i64 0] 26)).alloc (.cells #[.int .i64 0] 3)).alloc (.cells #[.int .i64 n] 3)) = W0 := hW0
  rw [hWx]
  rw [hb] at hS0 hz hc4 ⊢
  have HBe : w.heap.size ≤ b := Nat.le_of_eq hb
  clear hW0 hWx hb
  refine wpIn_wide.1 (wpIn_rangeFunc_ownH (F := Fence.wide) (n := 9) rfl (by decide) (gf := 88) (lb := #[.pointer (some ⟨b + 1 + 1 + 1 + 1, 0, none⟩)]) rfl trivial steps_enters
    (steps_stops 8 (by decide) (b + 1 + 1 + 1 + 1) n W0 (by omega) hc4) KeepB.trans (KeepB.mark (by simp; omega)) (Below.refl _ _) (fun _ => rfl)
    (fun xs W => AtS w b #[.int .i64 k] 3 (sv 0 false) 72 xs.length W ∧ ∀ j, j < xs.length → (j : Int) ≠ k)
    (fun c xs W => c = .ret ∧ ∃ ys x, xs = ys ++ [x] ∧ (ys.length : Int) = k ∧ Blk W (b + 1) (sv x.1 x.2) 72 ∧ Blk W (b + 1 + 1) #[.int .i64 0] 26 ∧ Below w.heap.size w W)
    ?hI ?hIx ⟨hS0, fun j hj => absurd hj (Nat.not_lt_zero j)⟩
    (fun x a' W => ∃ g, a' = { tmps := #[Value.int IntKind.i64 n, Value.int IntKind.i64 k, undef,
          Value.pointer (some { block := b, off := 0 }),
          Value.pointer (some { block := b + 1, off := 0 }),
          Value.pointer (some { block := b + 1 + 1, off := 0 }),
          Value.pointer (some { block := b + 1 + 1 + 1, off := 0 }), Value.pointer (some { block := g, off := 0 }), Value.int IntKind.i64 n,
          Value.func (Fn.func 88) #[] #[Value.pointer (some { block := b + 1 + 1 + 1 + 1, off := 0 })], Value.agg (sv x.1 x.2),
          undef, undef, undef, undef, undef, undef, undef], defers := [] } ∧ Blk W g (sv x.1 x.2) 72 ∧ b + 5 ≤ g) ?hAx ?assign ?body ?done ?stop)
  case hI =>
    intro xs X Y row h hg hr
    exact ⟨h.1.kept hg (by have := HB.out; omega) hr, h.2⟩
  case hIx =>
    rintro c xs X Y row ⟨hc, ys, x, h1, h2, h3, h4, h5⟩ hg hr
    exact ⟨hc, ys, x, h1, h2, blk_kept h3 hg (fun r e => (hr r e).2), blk_kept h4 hg (fun r e => (hr r e).2), h5.grown hg h5.size (fun r e => by have := (hr r e).1; have := HB.out; omega)⟩
  case hAx =>
    rintro x a' _ X Y row ⟨g, h1, h2, h3⟩ hg hr
    exact ⟨g, h1, blk_kept h2 hg (fun r e => (hr r e).2), h3⟩
  case assign =>
    rintro l' pre x W K ⟨hC, hne⟩ hK
    have HC := Lib.hid hC
    have HNE := Lib.hid hne
    clear hC hne
    gi_wp2_with (refine wpListIn_store_row rfl 72 (.tmp 7) (.tmp 10) rfl W.heap.size (sv x.1 x.2) rfl rfl 72 (sv 0 false) (Blk.new W (sv 0 false) 72) size_step rfl (sv_one _ _) ?_)
    have hb' : Below W.heap.size W ((W.alloc (.cells (sv 0 false) 72)).setRow W.heap.size (sv x.1 x.2)) := below_put (Nat.le_refl _) _ ((Below.refl _ _).alloc (Nat.le_refl _) _)
    exact hK _ _ (keeps_of_below _ hb') (KeepB.of_below hb' (by have := HC.out.size; simp; omega)) ⟨HC.out.after hb', HNE.out⟩ ⟨W.heap.size, rfl, (Blk.new W (sv 0 false) 72).put _, HC.out.size⟩
  case body =>
    rintro l' pre x a' W _ _ ⟨hC, hne⟩ ⟨g, rfl, hblk, hg5⟩ hlen
    have cp := hC.p.cell 0
    have ck := hC.q.cell 0
    have fp := hC.p.free 0
    have hr1 := hC.r1
    have hpl : pre.length ≤ 1000 := by have := allL_le n; omega
    have HC := Lib.hid hC
    have HNE := Lib.hid hne
    have HBL := Lib.hid hblk
    clear hC hne
    by_cases hk : (pre.length : Int) = k
    · subst hk
      have hr2 : Blk (W.setRow (b + 1) (sv x.1 x.2)) (b + 1 + 1) #[.int .i64 0] 26 := HC.out.r2.put_other (by omega) _
      have c2 := hr2.cell 0
      have f2 := hr2.free 0
      gi_wp2_with (first
        | (refine wpListIn_load_row rfl 72 (.tmp 7) rfl g rfl 72 (sv x.1 x.2) (0, 0) _ hblk Tryd.underlying72 rfl size_step ?_)
        | (refine wpListIn_store_row rfl 72 (.tmp 4) (.tmp 14) rfl (b + 1) (sv x.1 x.2) rfl rfl 72 (sv 0 false) hr1 size_step rfl (sv_one _ _) ?_))
      refine ⟨(keeps_put W _ (by omega)).trans (keeps_set _ _ _), rfl, pre, x, rfl, rfl, ?_, hr2.set 0 _ rfl, ?_⟩
      · exact (hr1.put (sv x.1 x.2)).set_other (by omega) _ _
      · exact (below_put (by omega) _ HC.out.below).setCell (p := ⟨b + 1 + 1, 0, none⟩) (by show _ ≤ b + 1 + 1; omega) _
    · have hkb : ((pre.length : Int) == k) = false := by simpa using hk
      have e1 : (pre ++ [x]).length = pre.length + 1 := by simp
      have HE := Lib.hid e1
      clear e1
      gi_wp2_with fail
      refine ⟨keeps_set _ _ _, KeepB.set 0 _ (by simp), by rw [HE.out]; exact HC.out.next HBe, fun j hj => ?_⟩
      rw [HE.out] at hj
      by_cases hjl : j < pre.length
      · exact HNE.out j hjl
      · obtain rfl : j = pre.length := by omega
        exact hk
  case done =>
    rintro D xs W hD hS ⟨hC, hne⟩ hdef
    have hS' : xs = allL n := hS
    have hno : ¬ IsStep n k := by
      rintro ⟨h1, h2, h3⟩
      have := (allL_mem h1 (k := k.toNat) (by omega)).1
      exact hne k.toNat (by rw [hS']; exact this) (by omega)
    have HT : Hid (stL n k = 0 ∧ stF n k = false ∧ stC n k = 1) := ⟨if_neg hno, if_neg hno, if_neg hno⟩
    have hr1 := hC.r1
    have hr2 : Blk (W.setRow (b + 1) (sv 0 false)) (b + 1 + 1) #[.int .i64 0] 26 := hC.r2.put_other (by omega) _
    have c2 := hr2.cell 0
    have f2 := hr2.free 0
    have HC := Lib.hid hC
    have HD := Lib.hid hD
    have HDEF := Lib.hid hdef
    clear hC hne hS hS' hno hD hdef
    go_wp2_with (refine wpList_store_row rfl 72 (.tmp 4) (.tmp 17) rfl (b + 1) (sv 0 false) rfl rfl 72 (sv 0 false) hr1 size_step rfl (sv_one _ _) ?_)
    have hDW : D < W.heap.size := (Array.getElem?_eq_some_iff.1 HDEF.out).1
    have hK2 : ((W.setRow (b + 1) (sv 0 false)).setCell ⟨b + 1 + 1, 0, none⟩ (.int .i64 1)).heap[D]? = some (.deferred (some [])) :=
      (keeps_set (b + 5) ⟨b + 1 + 1, 0, none⟩ (.int .i64 1)).same D _ (by have := HD.out; omega) ((keeps_put W (sv 0 false) (B := b + 5) (by omega)).same D _ (by have := HD.out; omega) HDEF.out rfl) rfl
    have hB2 : Below w.heap.size w ((W.setRow (b + 1) (sv 0 false)).setCell ⟨b + 1 + 1, 0, none⟩ (.int .i64 1)) := (below_put (by omega) _ HC.out.below).setCell (p := ⟨b + 1 + 1, 0, none⟩) (by show _ ≤ b + 1 + 1; omega) _
    have hq1 : Blk ((W.setRow (b + 1) (sv 0 false)).setCell ⟨b + 1 + 1, 0, none⟩ (.int .i64 1)) (b + 1) (sv 0 false) 72 := (hr1.put (sv 0 false)).set_other (by omega) _ _
    have hq2 : Blk ((W.setRow (b + 1) (sv 0 false)).setCell ⟨b + 1 + 1, 0, none⟩ (.int .i64 1)) (b + 1 + 1) #[.int .i64 1] 26 := hr2.set 0 _ rfl
    refine leave_one rfl hK2 (results_cells_row rfl _ _ (b + 1) (b + 1 + 1) 72 (sv 0 false) _ (.int .i64 1) rfl (blk_mark hq1 hK2) Tryd.underlying72 rfl size_step rfl ((blk_mark hq2 hK2).cell 0) Tryd.isAgg26) ⟨?_, below_mark hB2 (by have := HD.out; omega) hK2⟩
    rw [HT.out.1, HT.out.2.1, HT.out.2.2]
  case stop =>
    rintro D c pre W hD ⟨j, hj, hpre⟩ ⟨rfl, ys, x, hys, hk, hr1, hr2, hBW⟩ hdef
    obtain ⟨hl, h2, h3⟩ := allL_step (hys.symm.trans hpre) hj
    have hyes : IsStep n k := ⟨hl, by omega, by omega⟩
    have hkn : k.toNat = ys.length := by omega
    have HT : Hid (stL n k = (x.1 : Nat) ∧ stF n k = x.2 ∧ stC n k = 0) := by
      refine ⟨(if_pos hyes).trans ?_, (if_pos hyes).trans ?_, if_pos hyes⟩
      · rw [hkn, h3]
      · rw [hkn, h3]
    have HBW := Lib.hid hBW
    have HD := Lib.hid hD
    have HDEF := Lib.hid hdef
    have HR1 := Lib.hid hr1
    have HR2 := Lib.hid hr2
    clear hj hpre hys hk hr1 hr2 hBW hdef hl h2 h3 hyes hkn hD
    gi_wp2_with fail
    refine leave_one rfl HDEF.out (results_cells_row rfl _ _ (b + 1) (b + 1 + 1) 72 (sv x.1 x.2) _ (.int .i64 0) rfl (blk_mark HR1.out HDEF.out) Tryd.underlying72 rfl size_step rfl ((blk_mark HR2.out HDEF.out).cell 0) Tryd.isAgg26) ⟨?_, below_mark HBW.out (by have := HD.out; omega) HDEF.out⟩
    rw [HT.out.1, HT.out.2.1, HT.out.2.2]

set_option maxHeartbeats 2000000 in
theorem or_place (n l : Int) (f : Bool) (w : World) : Calls Tryd.prog 72 #[.int .i64 n, .agg (sv l f)] w (PlaceT n l f w) := by
  refine calls_of_marks Tryd.func72 rfl ?_
  simp only [Tryd.ntmps72, List.size_toArray, List.length_cons, List.length_nil, Nat.reduceAdd, Nat.reduceSub, Array.replicate_succ, Array.replicate_zero, List.push_toArray, List.append_toArray, List.nil_append, List.cons_append]
  go_wp2_with fail
  refine (or_steps_raw n _).mono ?_
  rintro r w1 ⟨rfl, rfl⟩
  go_wp2_with fail
  obtain ⟨W0, hW0, hS0, hz, hc4⟩ := at_start w n (sv l f) #[.int .i64 0] 72 3
  obtain ⟨b, hb⟩ : ∃ b, w.heap.size = b := ⟨_, rfl⟩
  have HB := Lib.hid hb
  rw [hW0]
  rw [hb] at hS0 hz hc4 ⊢
  have HBe : w.heap.size ≤ b := Nat.le_of_eq hb
  clear hW0 hb
  refine wpIn_wide.1 (wpIn_rangeFunc_ownH (F := Fence.wide) (n := 9) rfl (by decide) (gf := 88) (lb := #[.pointer (some ⟨b + 1 + 1 + 1 + 1, 0, none⟩)]) rfl trivial steps_enters
    (steps_stops 8 (by decide) (b + 1 + 1 + 1 + 1) n W0 (by omega) hc4) KeepB.trans (KeepB.mark (by simp; omega)) (Below.refl _ _) (fun _ => rfl)
    (fun xs W => AtS w b (sv l f) 72 #[.int .i64 0] 3 xs.length W ∧ ∀ x ∈ xs, sameS (x.1 : Nat) x.2 l f = false)
    (fun c xs W => c = .ret ∧ ∃ ys x, xs = ys ++ [x] ∧ sameS (x.1 : Nat) x.2 l f = true ∧ Blk W (b + 1) #[.int .i64 ys.length] 3 ∧ Blk W (b + 1 + 1) #[.int .i64 0] 26 ∧ Below w.heap.size w W)
    ?hI ?hIx ⟨hS0, fun x hx => absurd hx List.not_mem_nil⟩
    (fun x a' W => ∃ g, a' = { tmps := #[Value.int IntKind.i64 n, Value.agg (sv l f), undef,
          Value.pointer (some { block := b, off := 0 }),
          Value.pointer (some { block := b + 1, off := 0 }),
          Value.pointer (some { block := b + 1 + 1, off := 0 }),
          Value.pointer (some { block := b + 1 + 1 + 1, off := 0 }), Value.pointer (some { block := g, off := 0 }), Value.int IntKind.i64 n,
          Value.func (Fn.func 88) #[] #[Value.pointer (some { block := b + 1 + 1 + 1 + 1, off := 0 })], Value.agg (sv x.1 x.2),
          undef, undef, undef, undef, undef, undef], defers := [] } ∧ Blk W g (sv x.1 x.2) 72 ∧ b + 5 ≤ g) ?hAx ?assign ?body ?done ?stop)
  case hI =>
    intro xs X Y row h hg hr
    exact ⟨h.1.kept hg (by have := HB.out; omega) hr, h.2⟩
  case hIx =>
    rintro c xs X Y row ⟨hc, ys, x, h1, h2, h3, h4, h5⟩ hg hr
    exact ⟨hc, ys, x, h1, h2, blk_kept h3 hg (fun r e => (hr r e).2), blk_kept h4 hg (fun r e => (hr r e).2), h5.grown hg h5.size (fun r e => by have := (hr r e).1; have := HB.out; omega)⟩
  case hAx =>
    rintro x a' _ X Y row ⟨g, h1, h2, h3⟩ hg hr
    exact ⟨g, h1, blk_kept h2 hg (fun r e => (hr r e).2), h3⟩
  case assign =>
    rintro l' pre x W K ⟨hC, hne⟩ hK
    have HC := Lib.hid hC
    have HNE := Lib.hid hne
    clear hC hne
    gi_wp2_with (refine wpListIn_store_row rfl 72 (.tmp 7) (.tmp 10) rfl W.heap.size (sv x.1 x.2) rfl rfl 72 (sv 0 false) (Blk.new W (sv 0 false) 72) size_step rfl (sv_one _ _) ?_)
    have hb' : Below W.heap.size W ((W.alloc (.cells (sv 0 false) 72)).setRow W.heap.size (sv x.1 x.2)) := below_put (Nat.le_refl _) _ ((Below.refl _ _).alloc (Nat.le_refl _) _)
    exact hK _ _ (keeps_of_below _ hb') (KeepB.of_below hb' (by have := HC.out.size; simp; omega)) ⟨HC.out.after hb', HNE.out⟩ ⟨W.heap.size, rfl, (Blk.new W (sv 0 false) 72).put _, HC.out.size⟩
  case body =>
    rintro l' pre x a' W _ _ ⟨hC, hne⟩ ⟨g, rfl, hblk, hg5⟩ hlen
    have cp := hC.p.cell 0
    have fp := hC.p.free 0
    have hq : Blk W b #[.int .i64 l, .bool f] 72 := hC.q
    have hx : Blk W g #[.int .i64 (x.1 : Nat), .bool x.2] 72 := hblk
    have c1 := hC.r1.cell 0
    have f1 := hC.r1.free 0
    have hpl : pre.length ≤ 1000 := by have := allL_le n; omega
    have heq := fun w => eql_step (x.1 : Nat) l x.2 f w
    have HC := Lib.hid hC
    have HNE := Lib.hid hne
    clear hC hne hblk
    by_cases hs : sameS (x.1 : Nat) x.2 l f = true
    · have hr2 : Blk (W.setCell ⟨b + 1, 0, none⟩ (.int .i64 pre.length)) (b + 1 + 1) #[.int .i64 0] 26 := HC.out.r2.set_other (by omega) _ _
      have c2 := hr2.cell 0
      have f2 := hr2.free 0
      have HS := Lib.hid hs
      rw [hs] at heq
      clear hs
      gi_wp2_with (first
        | (refine wpListIn_load_row rfl 72 (.tmp 7) rfl g rfl 72 #[.int .i64 (x.1 : Nat), .bool x.2] (0, 0) _ hx Tryd.underlying72 rfl size_step ?_)
        | (refine wpListIn_load_row rfl 72 (.tmp 3) rfl b rfl 72 #[.int .i64 l, .bool f] (0, 0) _ hq Tryd.underlying72 rfl size_step ?_))
      refine ⟨(keeps_set _ _ _).trans (keeps_set _ _ _), rfl, pre, x, rfl, HS.out, ?_, hr2.set 0 _ rfl, ?_⟩
      · exact (HC.out.r1.set 0 _ rfl).set_other (by omega) _ _
      · exact (HC.out.below.setCell (p := ⟨b + 1, 0, none⟩) (by show _ ≤ b + 1; omega) _).setCell (p := ⟨b + 1 + 1, 0, none⟩) (by show _ ≤ b + 1 + 1; omega) _
    · have hsf : sameS (x.1 : Nat) x.2 l f = false := by simpa using hs
      have e1 : (pre ++ [x]).length = pre.length + 1 := by simp
      have HE := Lib.hid e1
      have HS := Lib.hid hsf
      rw [hsf] at heq
      clear e1 hs hsf
      gi_wp2_with (first
        | (refine wpListIn_load_row rfl 72 (.tmp 7) rfl g rfl 72 #[.int .i64 (x.1 : Nat), .bool x.2] (0, 0) _ hx Tryd.underlying72 rfl size_step ?_)
        | (refine wpListIn_load_row rfl 72 (.tmp 3) rfl b rfl 72 #[.int .i64 l, .bool f] (0, 0) _ hq Tryd.underlying72 rfl size_step ?_))
      refine ⟨keeps_set _ _ _, KeepB.set 0 _ (by simp), by rw [HE.out]; exact HC.out.next HBe, fun y hy => ?_⟩
      rcases List.mem_append.1 hy with hy | hy
      · exact HNE.out y hy
      · rw [List.mem_singleton.1 hy]; exact HS.out
  case done =>
    rintro D xs W hD hS ⟨hC, hne⟩ hdef
    have hS' : xs = allL n := hS
    have hno : ¬ IsLine n l := by
      rintro ⟨h1, h2, h3⟩
      have hsp := step_place (n := n.toNat) (l := l.toNat) f (by omega)
      have hm := (allL_mem h1 hsp.2).2
      rw [hsp.1] at hm
      have h := hne (l.toNat, f) (by rw [hS']; exact hm)
      rw [Bool.eq_false_iff] at h
      exact h ((sameS_iff _ _ _ _).2 ⟨by show (l.toNat : Int) = l; omega, rfl⟩)
    have HT : Hid (plN n l f = 0 ∧ plC n l = 1) := ⟨if_neg hno, if_neg hno⟩
    have c1 := hC.r1.cell 0
    have f1 := hC.r1.free 0
    have hr2 : Blk (W.setCell ⟨b + 1, 0, none⟩ (.int .i64 0)) (b + 1 + 1) #[.int .i64 0] 26 := hC.r2.set_other (by omega) _ _
    have c2 := hr2.cell 0
    have f2 := hr2.free 0
    have HC := Lib.hid hC
    have HD := Lib.hid hD
    have HDEF := Lib.hid hdef
    clear hC hne hS hS' hno hD hdef
    go_wp2_with fail
    have hK2 : ((W.setCell ⟨b + 1, 0, none⟩ (.int .i64 0)).setCell ⟨b + 1 + 1, 0, none⟩ (.int .i64 1)).heap[D]? = some (.deferred (some [])) :=
      (keeps_set (b + 5) ⟨b + 1 + 1, 0, none⟩ (.int .i64 1)).same D _ (by have := HD.out; omega) ((keeps_set (b + 5) ⟨b + 1, 0, none⟩ (.int .i64 0)).same D _ (by have := HD.out; omega) HDEF.out rfl) rfl
    have hB2 : Below w.heap.size w ((W.setCell ⟨b + 1, 0, none⟩ (.int .i64 0)).setCell ⟨b + 1 + 1, 0, none⟩ (.int .i64 1)) :=
      (HC.out.below.setCell (p := ⟨b + 1, 0, none⟩) (by show _ ≤ b + 1; omega) _).setCell (p := ⟨b + 1 + 1, 0, none⟩) (by show _ ≤ b + 1 + 1; omega) _
    have hq1 : Blk ((W.setCell ⟨b + 1, 0, none⟩ (.int .i64 0)).setCell ⟨b + 1 + 1, 0, none⟩ (.int .i64 1)) (b + 1) #[.int .i64 0] 3 := (HC.out.r1.set 0 _ rfl).set_other (by omega) _ _
    have hq2 : Blk ((W.setCell ⟨b + 1, 0, none⟩ (.int .i64 0)).setCell ⟨b + 1 + 1, 0, none⟩ (.int .i64 1)) (b + 1 + 1) #[.int .i64 1] 26 := hr2.set 0 _ rfl
    refine leave_one rfl hK2 (results_cells_two rfl _ _ (b + 1) (b + 1 + 1) (.int .i64 0) (.int .i64 1) rfl ((blk_mark hq1 hK2).cell 0) Tryd.isAgg3 rfl ((blk_mark hq2 hK2).cell 0) Tryd.isAgg26) ⟨?_, below_mark hB2 (by have := HD.out; omega) hK2⟩
    rw [HT.out.1, HT.out.2]
  case stop =>
    rintro D c pre W hD ⟨j, hj, hpre⟩ ⟨rfl, ys, x, hys, hs, hr1, hr2, hBW⟩ hdef
    obtain ⟨hl, h2, h3⟩ := allL_step (hys.symm.trans hpre) hj
    obtain ⟨hs1, hs2⟩ := (sameS_iff _ _ _ _).1 hs
    have hps := place_step h2
    rw [h3] at hps
    have hyes : IsLine n l := ⟨hl, by omega, by omega⟩
    have HT : Hid (plN n l f = (ys.length : Nat) ∧ plC n l = 0) := by
      refine ⟨(if_pos hyes).trans ?_, if_pos hyes⟩
      rw [← hps.1, ← hs2, show l.toNat = x.1 by omega]
    have HBW := Lib.hid hBW
    have HD := Lib.hid hD
    have HDEF := Lib.hid hdef
    have HR1 := Lib.hid hr1
    have HR2 := Lib.hid hr2
    clear hj hpre hys hs hr1 hr2 hBW hdef hl h2 h3 hyes hD hps hs1 hs2
    gi_wp2_with fail
    refine leave_one rfl HDEF.out (results_cells_two rfl _ _ (b + 1) (b + 1 + 1) (.int .i64 ys.length) (.int .i64 0) rfl ((blk_mark HR1.out HDEF.out).cell 0) Tryd.isAgg3 rfl ((blk_mark HR2.out HDEF.out).cell 0) Tryd.isAgg26) ⟨?_, below_mark HBW.out (by have := HD.out; omega) HDEF.out⟩
    rw [HT.out.1, HT.out.2]

theorem or_after (n k l : Int) (w : World) : Calls Tryd.prog 52 #[.int .i64 n, .int .i64 k, .int .i64 l] w (AfterT n k l w) := by
  unfold AfterT afN afC
  have hp1 := fun w => or_place n l false w
  have hp2 := fun w => or_place n l true w
  unfold PlaceT plN plC at hp1 hp2
  by_cases hl : IsLine n l
  · have hno : IsAfter n k l ↔ 0 ≤ k ∧ k ≤ 2 * n := ⟨fun h => ⟨h.2.1, h.2.2.1⟩, fun h => ⟨hl.1, h.1, h.2, hl.2.1, hl.2.2⟩⟩
    simp only [if_pos hl] at hp1 hp2
    obtain ⟨m, rfl⟩ : ∃ m : Nat, n = m := ⟨n.toNat, by have := hl.1; unfold LinesOk at this; omega⟩
    obtain ⟨j, rfl⟩ : ∃ j : Nat, l = j := ⟨l.toNat, by have := hl.2.1; omega⟩
    have hm : m ≤ 64 := by have := hl.1; unfold LinesOk at this; omega
    have hj : j < m := by have := hl.2.2; omega
    obtain ⟨p1, hp1e⟩ : ∃ p, placeC m j false = p := ⟨_, rfl⟩
    obtain ⟨p2, hp2e⟩ : ∃ p, placeC m j true = p := ⟨_, rfl⟩
    have hb1 : p1 < 2 * m := by rw [← hp1e]; exact (step_place false hj).2
    have hb2 : p2 < 2 * m := by rw [← hp2e]; exact (step_place true hj).2
    have hlt : p1 < p2 := by rw [← hp1e, ← hp2e]; exact foggy_first m j
    simp only [Int.toNat_natCast, hp1e, hp2e] at hp1 hp2
    have HP1 := Lib.hid hp1
    have HP2 := Lib.hid hp2
    clear hp1 hp2
    by_cases hk : 0 ≤ k ∧ k ≤ 2 * (m : Int)
    · rw [if_pos (hno.2 hk), if_pos (hno.2 hk)]
      obtain ⟨k, rfl⟩ : ∃ q : Nat, k = q := ⟨k.toNat, by omega⟩
      have haf : afterC m k j = if p2 < k then 2 else if p1 < k then 1 else 0 := by unfold afterC; rw [hp1e, hp2e]
      rw [Int.toNat_natCast, Int.toNat_natCast, Int.toNat_natCast, haf]
      have g1 : ¬ (k : Int) < 0 := by omega
      have g2 : ¬ 2 * (m : Int) < (k : Int) := by omega
      have hc : (p2 < k) ∨ (¬ p2 < k ∧ p1 < k) ∨ (¬ p2 < k ∧ ¬ p1 < k) := by omega
      have hkm : k ≤ 2 * m := by omega
      clear hno hl hk haf hp1e hp2e
      rcases hc with hc | ⟨hc, hc2⟩ | ⟨hc, hc2⟩
      · rw [if_pos hc]
        have g3 : (p2 : Int) < (k : Int) := by omega
        go_enter Tryd.func52, Tryd.ntmps52
        go_wp2_with fail
        refine (HP1.out _).mono ?_
        rintro r w1 ⟨rfl, hb1⟩
        go_wp2_with fail
        refine (HP2.out _).mono ?_
        rintro r w2 ⟨rfl, hb2⟩
        go_wp2_with fail
        refine bodyPost_ret (results_tmp2 rfl _ _ _) rfl ?_
        exact ⟨rfl, hb1.trans (hb2.mono hb1.size)⟩
      · rw [if_neg hc, if_pos hc2]
        have g3 : ¬ (p2 : Int) < (k : Int) := by omega
        have g4 : (p1 : Int) < (k : Int) := by omega
        go_enter Tryd.func52, Tryd.ntmps52
        go_wp2_with fail
        refine (HP1.out _).mono ?_
        rintro r w1 ⟨rfl, hb1⟩
        go_wp2_with fail
        refine (HP2.out _).mono ?_
        rintro r w2 ⟨rfl, hb2⟩
        go_wp2_with fail
        refine bodyPost_ret (results_tmp2 rfl _ _ _) rfl ?_
        exact ⟨rfl, hb1.trans (hb2.mono hb1.size)⟩
      · rw [if_neg hc, if_neg hc2]
        have g3 : ¬ (p2 : Int) < (k : Int) := by omega
        have g4 : ¬ (p1 : Int) < (k : Int) := by omega
        go_enter Tryd.func52, Tryd.ntmps52
        go_wp2_with fail
        refine (HP1.out _).mono ?_
        rintro r w1 ⟨rfl, hb1⟩
        go_wp2_with fail
        refine (HP2.out _).mono ?_
        rintro r w2 ⟨rfl, hb2⟩
        go_wp2_with fail
        refine bodyPost_ret (results_tmp2 rfl _ _ _) rfl ?_
        exact ⟨rfl, hb1.trans (hb2.mono hb1.size)⟩
    · rw [if_neg (fun h => hk (hno.1 h)), if_neg (fun h => hk (hno.1 h))]
      have hc : k < 0 ∨ ¬ k < 0 ∧ 2 * (m : Int) < k := by omega
      clear hno hl hk hp1e hp2e HP2
      rcases hc with hc | ⟨hc, hc2⟩
      all_goals
        go_enter Tryd.func52, Tryd.ntmps52
        go_wp2_with fail
        refine (HP1.out _).mono ?_
        rintro r w1 ⟨rfl, hb1⟩
        go_wp2_with fail
        refine bodyPost_ret (results_tmp2 rfl _ _ _) rfl ?_
        exact ⟨rfl, hb1⟩
  · have hno : ¬ IsAfter n k l := fun h => hl ⟨h.1, h.2.2.2.1, h.2.2.2.2⟩
    rw [if_neg hno, if_neg hno]
    simp only [if_neg hl] at hp1
    have HP1 := Lib.hid hp1
    clear hp1 hp2 hno hl
    go_enter Tryd.func52, Tryd.ntmps52
    go_wp2_with fail
    refine (HP1.out _).mono ?_
    rintro r w1 ⟨rfl, hb1⟩
    go_wp2_with fail
    refine bodyPost_ret (results_tmp2 rfl _ _ _) rfl ?_
    exact ⟨rfl, hb1⟩

end Go.Proofs.YtjmoecfgpfdncaaDoor
