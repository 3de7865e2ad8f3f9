/- Texts of one claim, merged: CeRE, CeR9, CeRA, CeRB, CeRF, FaP, BitsZ, GeM, CeS, CeN, CeA, Rng, OrI. -/
import Derived.Test.YtalefbmoebobkaaGreatDoorS2
import Derived.Test.YtalefbmoebobkaaGreatDoorS1
import Derived.Sort.LotA
import Derived.Shelf.SlSortCmp.Insertion
import Derived.Lib.Small
import Derived.Lib.ConvBytes
import Derived.RangeFuncNested
import Derived.RangeFuncBound
import Derived.RangeFuncCalls
import Derived.RangeFuncLeaves
import Derived.Shelf.Abstract
import Derived.Shelf.RegionOpen
import Derived.WalkKit
import Derived.OwnWalkIn
import Derived.TacticsInMore
import Derived.LoopNIn
import Derived.LoopIn
/- The reference of layer 8, walked: two, whole; Foggy, Fine. -/
namespace Go.Proofs.YtalefbmoebobkaaGreatDoor
set_option maxRecDepth 100000
open Go.RowKit
theorem rce_two (s : St) (g c h d : Nat) (line : Int) (p q r : ByteArray) (f : Bool) (x k a b : Int) (w : World) (hw : WfSt s) (hr : RAt w s g c h d) :
  Calls Tryz.prog 92 #[.agg (cv s g c h d), .int .i64 line, .agg (tv3 p q r), .bool f, .agg (fv x k a b)] w (PairT (twoSt s line p q r f k a b) (twoC s line p q r f k) g h w) := by
 by_cases hok : TwoOk s line p q r f
 ·obtain ⟨i, rfl⟩ : ∃ i : Nat, line = i := ⟨_, hok.2.2.2.2.1⟩
  exact rce_two_yes s g c h d i p q r f x k a b w hw hr hok
 ·rw [(two_no (k := k) (a := a) (b := b) hok).1, (two_no (k := k) (a := a) (b := b) hok).2]
  have hl1 := hw.l1
  have hl64 := hw.l64
  have hd2 := hw.done
  obtain ⟨L, Y, mode, done, bad, torn, slc, tlc, ps, hs⟩ := s
  simp only at hl1 hl64 hd2
  cases bad with
  | true => exact two_bad L Y mode done slc tlc ps hs torn g c h d line p q r f x k a b w hw hr
  | false =>
  cases torn with
  | true => exact two_torn L Y mode done slc tlc ps hs g c h d line p q r f x k a b w hw hr
  | false =>
  by_cases h1 : mode = 1
  ·exact two_mode L Y mode done slc tlc ps hs g c h d line p q r f x k a b w hw hr h1
  by_cases h2 : stC L done = 0
  ·have hst : IsStep L done := by
    by_cases hs : IsStep L done
    ·exact hs
    ·unfold stC at h2; rw [if_neg hs] at h2; exact absurd h2 (by decide)
   have hdl : done < 2 * L := by obtain ⟨_, _, h⟩ := hst; omega
   have hsl : stL L done = ((stepC L done).1 : Nat) := by unfold stL; rw [if_pos hst]; simp
   have hsf : stF L done = (stepC L done).2 := by unfold stF; rw [if_pos hst]; simp
   by_cases h3 : line = stL L done
   ·by_cases h4 : f = stF L done
    ·cases h5 : takesB ⟨L, Y, mode, done, false, false, slc, tlc, ps, hs⟩ p with
     | false => exact two_p L Y mode done slc tlc ps hs g c h d line p q r f x k a b w hw hr h1 h2 h3 h4 h5
     | true =>
     cases h6 : takesB ⟨L, Y, mode, done, false, false, slc, tlc, ps, hs⟩ q with
     | false => exact two_q L Y mode done slc tlc ps hs g c h d line p q r f x k a b w hw hr h1 h2 h3 h4 h5 h6
     | true =>
     cases h7 : takesB ⟨L, Y, mode, done, false, false, slc, tlc, ps, hs⟩ r with
     | false => exact two_r L Y mode done slc tlc ps hs g c h d line p q r f x k a b w hw hr h1 h2 h3 h4 h5 h6 h7
     | true =>
     have hil : (stepC L done).1 < L := (place_step (n := L) (k := done) hdl).2
     have hf : f = true := by
      cases hff : f with
      | true => rfl
      | false =>
       exfalso
       apply hok
       refine ⟨rfl, rfl, h1, hdl, h3.trans hsl, h4.trans hsf, h5, h6, h7, fun hc => ?_⟩
       rw [hff] at hc
       cases hc
     have hpn : ¬ (pageAt ⟨L, Y, mode, done, false, false, slc, tlc, ps, hs⟩ (3 * (stepC L done).1) = p ∧ pageAt ⟨L, Y, mode, done, false, false, slc, tlc, ps, hs⟩ (3 * (stepC L done).1 + 1) = q ∧ pageAt ⟨L, Y, mode, done, false, false, slc, tlc, ps, hs⟩ (3 * (stepC L done).1 + 2) = r) := by
      intro hc
      apply hok
      refine ⟨rfl, rfl, h1, hdl, h3.trans hsl, h4.trans hsf, h5, h6, h7, fun _ => ?_⟩
      have hi : line.toNat = (stepC L done).1 := by rw [h3, hsl]; simp
      rw [hi]
      exact hc
     have hgo := fun m hm heq hne => two_loop L Y mode done slc tlc ps hs g c h d line p q r f x k a b w hw hr (stepC L done).1 (h3.trans hsl) hil hl64 h1 h2 h3 hf (by rw [← h4]; exact hf) h5 h6 h7 m hm heq hne
     by_cases e0 : pageAt ⟨L, Y, mode, done, false, false, slc, tlc, ps, hs⟩ (3 * (stepC L done).1) = p
     ·by_cases e1 : pageAt ⟨L, Y, mode, done, false, false, slc, tlc, ps, hs⟩ (3 * (stepC L done).1 + 1) = q
      ·refine hgo 2 (by omega) ?_ (fun hc => hpn ⟨e0, e1, hc⟩)
       intro n hn
       match n, hn with
       | 0, _ => exact e0
       | 1, _ => exact e1
      ·refine hgo 1 (by omega) ?_ e1
       intro n hn
       match n, hn with
       | 0, _ => exact e0
     ·exact hgo 0 (by omega) (fun n hn => absurd hn (by omega)) e0
    ·exact two_fine L Y mode done slc tlc ps hs g c h d line p q r f x k a b w hw hr h1 h2 h3 h4
   ·exact two_line L Y mode done slc tlc ps hs g c h d line p q r f x k a b w hw hr h1 h2 h3
  ·exact two_step L Y mode done slc tlc ps hs g c h d line p q r f x k a b w hw hr h1 h2
/- The reference of layer 8, walked: Erase, where it is refused, and where it goes well. -/
theorem moreSt_wf {s : St} (h : WfSt s) (h1 : s.slc < 1000000000) (h2 : s.tlc < 1000000000) : WfSt (moreSt s) := by
 obtain ⟨a1, a2, a3, a4, a5, a6, a7, a8, a9, a10⟩ := h
 unfold moreSt
 split
 ·exact ⟨a1, a2, a3, a4, a5, a6, a7, a8, a9, h2⟩
 ·exact ⟨a1, a2, a3, a4, a5, a6, a7, a8, h1, a10⟩
theorem more_same (s : St) : (moreSt s).L = s.L ∧ (moreSt s).Y = s.Y ∧ (moreSt s).ps = s.ps ∧ (moreSt s).hs = s.hs ∧ (moreSt s).mode = s.mode := by
 unfold moreSt
 split <;> exact ⟨rfl, rfl, rfl, rfl, rfl⟩
theorem more_two (s : St) (g c h d : Nat) (hm : s.mode = 2) : cv (moreSt s) g c h d = #[.int .i64 s.L, .int .i64 s.Y, .int .i64 s.mode, .int .i64 s.done, .bool s.bad, .bool s.torn, .int .i64 s.slc, .int .i64 ((s.tlc : Int) + 1), .slice (some ⟨g, 0, none⟩) (3 * s.L) c, .slice (some ⟨h, 0, none⟩) (3 * s.L) d] := by
 unfold moreSt
 rw [if_pos hm]
 rfl
theorem more_one (s : St) (g c h d : Nat) (hm : ¬ s.mode = 2) : cv (moreSt s) g c h d = #[.int .i64 s.L, .int .i64 s.Y, .int .i64 s.mode, .int .i64 s.done, .bool s.bad, .bool s.torn, .int .i64 ((s.slc : Int) + 1), .int .i64 s.tlc, .slice (some ⟨g, 0, none⟩) (3 * s.L) c, .slice (some ⟨h, 0, none⟩) (3 * s.L) d] := by
 unfold moreSt
 rw [if_neg hm]
 rfl
theorem blankS_size (n : Nat) : (blankS n).size = (n + 24) / 8 * 9 := by simp [blankS, ByteArray.size]
theorem atT_size {s : St} (h : WfSt s) (j : Nat) : (atT s j).size ≤ 400 := by
 unfold atT
 split
 ·rw [blankS_size]; obtain ⟨h1, h2, h3⟩ := h.y; omega
 ·have := h.size j
  split
  ·exact this
  ·split
   ·rw [hurtT_size]; exact this
   ·exact this
theorem ruinT_size {s : St} (h : WfSt s) (a b k : Int) (j : Nat) : (ruinT s a b k j).size ≤ 400 := by
 unfold ruinT
 split
 ·exact atT_size h j
 ·rw [pageT_size]; exact atT_size h j
theorem ruinTo_wf {s t : St} (hs : WfSt s) (ht : WfSt t) (a b k : Int) : ∀ n, WfSt (ruinTo s t a b k n)
 | 0 => ht
 | n + 1 => putSt_wf (ruinTo_wf hs ht a b k n) n true (ruinT_size hs a b k n)
theorem slcSt_wf {s : St} (h : WfSt s) : WfSt (slcSt s) := by
 unfold slcSt
 split
 ·obtain ⟨a1, a2, a3, a4, a5, a6, a7, a8, a9, a10⟩ := h
  exact ⟨a1, a2, a3, a4, a5, a6, a7, Or.inr (Or.inl rfl), a9, a10⟩
 ·exact h
theorem rce_erase_bad (s : St) (g c h d : Nat) (x k a b : Int) (w : World) (hw : WfSt s) (hr : RAt w s g c h d) (hb : s.bad = true) :
  Calls Tryz.prog 46 #[.agg (cv s g c h d), .agg (fv x k a b)] w (PairT (eraseSt s k a b) (eraseC s k) g h w) := by
 have he : eraseSt s k a b = s ∧ eraseC s k = 80 := by unfold eraseSt eraseC; rw [if_pos hb, if_pos hb]; exact ⟨rfl, rfl⟩
 rw [he.1, he.2]
 have HPOST : Hid (∀ A B C e, e = .returned (.tuple #[.agg (cv s g c h d), .int .i64 80]) → PairT s 80 g h w e (((w.alloc A).alloc B).alloc C)) :=
  fun A B C e he => ⟨⟨g, c, h, d, he, hr.after hw (below_3 w _ _ _), Or.inl ⟨rfl, rfl⟩⟩, below_3 w _ _ _⟩
 obtain ⟨L, Y, mode, done, bad, torn, slc, tlc, ps, hs⟩ := s
 simp only at hb
 subst hb
 clear hw hr he
 go_enter Tryz.func46, Tryz.ntmps46
 unfold cv fv
 go_wp2_with fail
 exact bodyPost_ret (results_cell_tmp rfl _ _ (w.heap.size + 1 + 1) 66 _ _ rfl (blk_third w _ _ _ _) Tryz.underlying66 rfl size_cell) rfl (HPOST.out _ _ _ _ rfl)
structure CM (w0 : World) (s : St) (g c h d : Nat) (x k a b : Int) (w : World) : Prop where
 cell : Blk w w0.heap.size (cv (moreSt s) g c h d) 66
 how : Blk w (w0.heap.size + 1) (fv x k a b) 40
 ans : Blk w (w0.heap.size + 2) zv 66
 rd : RAt w (moreSt s) g c h d
 low : Below w0.heap.size w0 w
 top : w0.heap.size + 3 ≤ w.heap.size
/- The reference of layer 8, walked: Erase, where it goes well. -/
theorem newSt_wf {s : St} (h : WfSt s) : WfSt (newSt s.L s.Y) := by
 obtain ⟨a1, a2, a3, a4, a5, a6, a7, a8, a9, a10⟩ := h
 refine ⟨a1, a2, a3, Nat.zero_le _, by simp [newSt], by simp [newSt], fun j => ?_, Or.inl rfl, Nat.zero_le _, Nat.zero_le _⟩
 simp only [newSt, List.getD_eq_getElem?_getD, List.getElem?_replicate]
 split <;> simp
set_option maxHeartbeats 1000000 in
theorem rce_erase_well (s : St) (g c h d : Nat) (x k a b : Int) (w : World) (hw : WfSt s) (hr : RAt w s g c h d) (hb : s.bad = false) (hk : hurtsB k = false) (hn1 : s.slc < 1000000000) (hn2 : s.tlc < 1000000000) :
  Calls Tryz.prog 46 #[.agg (cv s g c h d), .agg (fv x k a b)] w (PairT (eraseSt s k a b) (eraseC s k) g h w) := by
 have hk12 : k ≠ 1 ∧ k ≠ 2 := by
  unfold hurtsB at hk
  constructor <;> (intro hc; rw [hc] at hk; simp at hk)
 have he : eraseSt s k a b = { newSt s.L s.Y with slc := (moreSt s).slc, tlc := (moreSt s).tlc } ∧ eraseC s k = 0 := by
  unfold eraseSt eraseC endC
  rw [if_neg (by rw [hb]; simp), if_neg (by rw [hk]; simp), if_neg (by rw [hb]; simp), if_neg hk12.1, if_neg hk12.2]
  exact ⟨rfl, rfl⟩
 rw [he.1, he.2]
 have hnew : NewOk s.L s.Y := ⟨⟨by have := hw.l1; omega, by have := hw.l64; omega⟩, by omega, by simpa using hw.y⟩
 have HWM := Lib.hid (moreSt_wf hw hn1 hn2)
 obtain ⟨L, Y, mode, done, bad, torn, slc, tlc, ps, hs⟩ := s
 simp only at hb hn1 hn2 hnew
 subst hb
 have HWF := Lib.hid hw
 have HR := Lib.hid hr
 have HK := Lib.hid hk
 have HNEW := Lib.hid hnew
 clear hw hr he hk hnew
 by_cases hmo : mode = 2
 ·have hmb : ((mode : Int) == 2) = true := by simp [hmo]
  have HMO := Lib.hid hmo
  clear hmo
  go_enter Tryz.func46, Tryz.ntmps46
  unfold cv fv
  go_wp2_with (first
   | (refine wpList_load_row rfl 40 (.tmp 3) rfl (w.heap.size + 1) rfl 40 (fv x k a b) (0, 0) _ (blk_mid w _ _ _ _) Tryz.underlying40 rfl size_fault ?_))
  refine (rce_hurts x k a b _).mono ?_
  rintro e w2 ⟨rfl, hb2⟩
  rw [HK.out]
  have hcm : CM w ⟨L, Y, mode, done, false, torn, slc, tlc, ps, hs⟩ g c h d x k a b w2 := by
   refine ⟨?_, (blk_mid w _ _ _ _).after hb2, (blk_third w _ _ _ _).after hb2, ?_, (below_3 w _ _ _).trans (hb2.mono (below_3 w _ _ _).size), by have := hb2.size; simp at this; omega⟩
   ·rw [more_two _ g c h d HMO.out]
    exact (((Blk.new w _ _).alloc _).alloc _).after hb2
   ·exact RAt.same (HR.out.after HWF.out ((below_3 w _ _ _).trans (hb2.mono (below_3 w _ _ _).size))) (more_same _).2.2.1 (more_same _).2.2.2.1
  have HCM := Lib.hid hcm
  clear hb2 hcm
  have b1 := HCM.out.cell
  rw [more_two _ g c h d HMO.out] at b1
  have hc0 : w2.cell? ⟨w.heap.size, 0, none⟩ = some (.int .i64 L) := b1.cell 0
  have hc1 : w2.cell? ⟨w.heap.size, 1, none⟩ = some (.int .i64 Y) := b1.cell 1
  have B1 := Lib.hid b1
  clear b1
  go_wp2_with fail
  refine (rce_new L Y _).mono ?_
  rintro e w3 ⟨hyes, _, hb3⟩
  obtain ⟨g', h', c', d', rfl, hr', hg', hh'⟩ := hyes HNEW.out
  simp only [Int.toNat_natCast] at hr'
  rw [show newSt (L : Int).toNat (Y : Int).toNat = newSt L Y by simp only [Int.toNat_natCast]]
  have b3 := B1.out.after hb3
  have z3 := HCM.out.ans.after hb3
  have l3 := HCM.out.low.trans (hb3.mono HCM.out.low.size)
  have t3 : w.heap.size + 3 ≤ w3.heap.size := Nat.le_trans HCM.out.top hb3.size
  have hwn := newSt_wf HWF.out
  simp only at hwn
  have hlt := hr'.lt hwn
  have t2 := HCM.out.top
  clear hyes hb3 hc0 hc1
  obtain ⟨w4, hw4⟩ : ∃ w4, (w3.alloc (.cells zv 66)).setRow w3.heap.size (cv (newSt L Y) g' c' h' d') = w4 := ⟨_, rfl⟩
  have n4 : Blk w4 w3.heap.size (cv (newSt L Y) g' c' h' d') 66 := by rw [← hw4]; exact (Blk.new w3 zv _).put _
  have b4 := (b3.alloc (.cells zv 66)).put_other (c := w3.heap.size) (by omega) (cv (newSt L Y) g' c' h' d')
  rw [hw4] at b4
  have z4 : Blk w4 (w.heap.size + 2) zv 66 := by rw [← hw4]; exact (z3.alloc _).put_other (by omega) _
  have l4 : Below w.heap.size w w4 := by rw [← hw4]; exact below_put (by omega) _ (l3.alloc (by omega) _)
  have r4 : RAt w4 (newSt L Y) g' c' h' d' := by
   rw [← hw4]
   exact (hr'.keep (heap_alloc_old _ _ hlt.1) (heap_alloc_old _ _ hlt.2)).keep (setRow_heap_ne _ _ _ _ (by omega)) (setRow_heap_ne _ _ _ _ (by omega))
  have a6 : w4.cell? ⟨w.heap.size, 6, none⟩ = some (.int .i64 (slc : Nat)) := b4.cell 6
  have x6 : w4.cell? ⟨w3.heap.size, 6, none⟩ = some (.int .i64 0) := n4.cell 6
  have f6 := n4.free 6
  have n5 : Blk (w4.setCell ⟨w3.heap.size, 6, none⟩ (.int .i64 (slc : Nat))) w3.heap.size _ 66 := n4.set 6 _ rfl
  have b5 := b4.set_other (c := w3.heap.size) (by omega) 6 (.int .i64 (slc : Nat))
  have a7 : (w4.setCell ⟨w3.heap.size, 6, none⟩ (.int .i64 (slc : Nat))).cell? ⟨w.heap.size, 7, none⟩ = some (.int .i64 ((tlc : Int) + 1)) := b5.cell 7
  have x7 : (w4.setCell ⟨w3.heap.size, 6, none⟩ (.int .i64 (slc : Nat))).cell? ⟨w3.heap.size, 7, none⟩ = some (.int .i64 0) := by rw [n5.cell 7]; rfl
  have f7 := n5.free 7
  have n6 : Blk ((w4.setCell ⟨w3.heap.size, 6, none⟩ (.int .i64 (slc : Nat))).setCell ⟨w3.heap.size, 7, none⟩ (.int .i64 ((tlc : Int) + 1))) w3.heap.size (cv { newSt L Y with slc := (moreSt (⟨L, Y, mode, done, false, torn, slc, tlc, ps, hs⟩ : St)).slc, tlc := (moreSt (⟨L, Y, mode, done, false, torn, slc, tlc, ps, hs⟩ : St)).tlc } g' c' h' d') 66 := n5.set 7 _ (by unfold moreSt; rw [if_pos HMO.out]; rfl)
  have z6 := (z4.set_other (c := w3.heap.size) (by omega) 6 (.int .i64 (slc : Nat))).set_other (c := w3.heap.size) (by omega) 7 (.int .i64 ((tlc : Int) + 1))
  have N3 := Lib.hid (Blk.new w3 zv 66)
  have HW4 := Lib.hid hw4
  have N6 := Lib.hid n6
  have Z6 := Lib.hid z6
  have R4 := Lib.hid r4
  have L4 := Lib.hid l4
  have HG : Hid (w.heap.size + 3 ≤ g' ∧ w.heap.size + 3 ≤ h' ∧ g' < w3.heap.size ∧ h' < w3.heap.size) := ⟨by omega, by omega, hlt.1, hlt.2⟩
  have T3 := Lib.hid t3
  clear hw4 n4 b4 z4 l4 r4 n5 b5 n6 z6 b3 z3 l3 hr' hg' hh' hlt hwn t2 t3
  go_wp2_with (first
   | (refine wpList_store_row rfl 66 (.tmp 6) (.tmp 35) rfl w3.heap.size (cv (newSt L Y) g' c' h' d') rfl rfl 66 zv N3.out size_cell rfl (cv_one _ _ _ _ _) ?_; change wpList _ _ _ _ _ ((w3.alloc (.cells zv 66)).setRow w3.heap.size (cv (newSt L Y) g' c' h' d')); rw [HW4.out])
   | (refine wpList_load_row rfl 66 (.tmp 6) rfl w3.heap.size rfl 66 (cv { newSt L Y with slc := (moreSt (⟨L, Y, mode, done, false, torn, slc, tlc, ps, hs⟩ : St)).slc, tlc := (moreSt (⟨L, Y, mode, done, false, torn, slc, tlc, ps, hs⟩ : St)).tlc } g' c' h' d') (0, 0) _ N6.out Tryz.underlying66 rfl size_cell ?_)
   | (refine wpList_store_row rfl 66 (.tmp 4) (.tmp 43) rfl (w.heap.size + 2) (cv { newSt L Y with slc := (moreSt (⟨L, Y, mode, done, false, torn, slc, tlc, ps, hs⟩ : St)).slc, tlc := (moreSt (⟨L, Y, mode, done, false, torn, slc, tlc, ps, hs⟩ : St)).tlc } g' c' h' d') rfl rfl 66 zv Z6.out size_cell rfl (cv_one _ _ _ _ _) ?_))
  have hG := HG.out
  have hT := T3.out
  refine bodyPost_ret (results_cell_tmp rfl _ _ (w.heap.size + 2) 66 (cv { newSt L Y with slc := (moreSt (⟨L, Y, mode, done, false, torn, slc, tlc, ps, hs⟩ : St)).slc, tlc := (moreSt (⟨L, Y, mode, done, false, torn, slc, tlc, ps, hs⟩ : St)).tlc } g' c' h' d') _ rfl (Z6.out.put _) Tryz.underlying66 rfl size_cell) rfl ⟨⟨g', c', h', d', rfl, RAt.same (s := newSt L Y) (R4.out.keep ?_ ?_) rfl rfl, Or.inr ⟨by omega, by omega⟩⟩, below_put (by omega) _ ((L4.out.setCell (p := ⟨w3.heap.size, 6, none⟩) (by simp; omega) _).setCell (p := ⟨w3.heap.size, 7, none⟩) (by simp; omega) _)⟩
  ·exact (setRow_heap_ne _ _ _ _ (by omega)).trans ((Below.heap_setCell _ _ _ _ (by simp; omega)).trans (Below.heap_setCell _ _ _ _ (by simp; omega)))
  ·exact (setRow_heap_ne _ _ _ _ (by omega)).trans ((Below.heap_setCell _ _ _ _ (by simp; omega)).trans (Below.heap_setCell _ _ _ _ (by simp; omega)))
 ·have hmb : ((mode : Int) == 2) = false := by simpa using hmo
  have HMO := Lib.hid hmo
  clear hmo
  go_enter Tryz.func46, Tryz.ntmps46
  unfold cv fv
  go_wp2_with (first
   | (refine wpList_load_row rfl 40 (.tmp 3) rfl (w.heap.size + 1) rfl 40 (fv x k a b) (0, 0) _ (blk_mid w _ _ _ _) Tryz.underlying40 rfl size_fault ?_))
  refine (rce_hurts x k a b _).mono ?_
  rintro e w2 ⟨rfl, hb2⟩
  rw [HK.out]
  have hcm : CM w ⟨L, Y, mode, done, false, torn, slc, tlc, ps, hs⟩ g c h d x k a b w2 := by
   refine ⟨?_, (blk_mid w _ _ _ _).after hb2, (blk_third w _ _ _ _).after hb2, ?_, (below_3 w _ _ _).trans (hb2.mono (below_3 w _ _ _).size), by have := hb2.size; simp at this; omega⟩
   ·rw [more_one _ g c h d HMO.out]
    exact (((Blk.new w _ _).alloc _).alloc _).after hb2
   ·exact RAt.same (HR.out.after HWF.out ((below_3 w _ _ _).trans (hb2.mono (below_3 w _ _ _).size))) (more_same _).2.2.1 (more_same _).2.2.2.1
  have HCM := Lib.hid hcm
  clear hb2 hcm
  have b1 := HCM.out.cell
  rw [more_one _ g c h d HMO.out] at b1
  have hc0 : w2.cell? ⟨w.heap.size, 0, none⟩ = some (.int .i64 L) := b1.cell 0
  have hc1 : w2.cell? ⟨w.heap.size, 1, none⟩ = some (.int .i64 Y) := b1.cell 1
  have B1 := Lib.hid b1
  clear b1
  go_wp2_with fail
  refine (rce_new L Y _).mono ?_
  rintro e w3 ⟨hyes, _, hb3⟩
  obtain ⟨g', h', c', d', rfl, hr', hg', hh'⟩ := hyes HNEW.out
  simp only [Int.toNat_natCast] at hr'
  rw [show newSt (L : Int).toNat (Y : Int).toNat = newSt L Y by simp only [Int.toNat_natCast]]
  have b3 := B1.out.after hb3
  have z3 := HCM.out.ans.after hb3
  have l3 := HCM.out.low.trans (hb3.mono HCM.out.low.size)
  have t3 : w.heap.size + 3 ≤ w3.heap.size := Nat.le_trans HCM.out.top hb3.size
  have hwn := newSt_wf HWF.out
  simp only at hwn
  have hlt := hr'.lt hwn
  have t2 := HCM.out.top
  clear hyes hb3 hc0 hc1
  obtain ⟨w4, hw4⟩ : ∃ w4, (w3.alloc (.cells zv 66)).setRow w3.heap.size (cv (newSt L Y) g' c' h' d') = w4 := ⟨_, rfl⟩
  have n4 : Blk w4 w3.heap.size (cv (newSt L Y) g' c' h' d') 66 := by rw [← hw4]; exact (Blk.new w3 zv _).put _
  have b4 := (b3.alloc (.cells zv 66)).put_other (c := w3.heap.size) (by omega) (cv (newSt L Y) g' c' h' d')
  rw [hw4] at b4
  have z4 : Blk w4 (w.heap.size + 2) zv 66 := by rw [← hw4]; exact (z3.alloc _).put_other (by omega) _
  have l4 : Below w.heap.size w w4 := by rw [← hw4]; exact below_put (by omega) _ (l3.alloc (by omega) _)
  have r4 : RAt w4 (newSt L Y) g' c' h' d' := by
   rw [← hw4]
   exact (hr'.keep (heap_alloc_old _ _ hlt.1) (heap_alloc_old _ _ hlt.2)).keep (setRow_heap_ne _ _ _ _ (by omega)) (setRow_heap_ne _ _ _ _ (by omega))
  have a6 : w4.cell? ⟨w.heap.size, 6, none⟩ = some (.int .i64 ((slc : Int) + 1)) := b4.cell 6
  have x6 : w4.cell? ⟨w3.heap.size, 6, none⟩ = some (.int .i64 0) := n4.cell 6
  have f6 := n4.free 6
  have n5 : Blk (w4.setCell ⟨w3.heap.size, 6, none⟩ (.int .i64 ((slc : Int) + 1))) w3.heap.size _ 66 := n4.set 6 _ rfl
  have b5 := b4.set_other (c := w3.heap.size) (by omega) 6 (.int .i64 ((slc : Int) + 1))
  have a7 : (w4.setCell ⟨w3.heap.size, 6, none⟩ (.int .i64 ((slc : Int) + 1))).cell? ⟨w.heap.size, 7, none⟩ = some (.int .i64 (tlc : Nat)) := b5.cell 7
  have x7 : (w4.setCell ⟨w3.heap.size, 6, none⟩ (.int .i64 ((slc : Int) + 1))).cell? ⟨w3.heap.size, 7, none⟩ = some (.int .i64 0) := by rw [n5.cell 7]; rfl
  have f7 := n5.free 7
  have n6 : Blk ((w4.setCell ⟨w3.heap.size, 6, none⟩ (.int .i64 ((slc : Int) + 1))).setCell ⟨w3.heap.size, 7, none⟩ (.int .i64 (tlc : Nat))) w3.heap.size (cv { newSt L Y with slc := (moreSt (⟨L, Y, mode, done, false, torn, slc, tlc, ps, hs⟩ : St)).slc, tlc := (moreSt (⟨L, Y, mode, done, false, torn, slc, tlc, ps, hs⟩ : St)).tlc } g' c' h' d') 66 := n5.set 7 _ (by unfold moreSt; rw [if_neg HMO.out]; rfl)
  have z6 := (z4.set_other (c := w3.heap.size) (by omega) 6 (.int .i64 ((slc : Int) + 1))).set_other (c := w3.heap.size) (by omega) 7 (.int .i64 (tlc : Nat))
  have N3 := Lib.hid (Blk.new w3 zv 66)
  have HW4 := Lib.hid hw4
  have N6 := Lib.hid n6
  have Z6 := Lib.hid z6
  have R4 := Lib.hid r4
  have L4 := Lib.hid l4
  have HG : Hid (w.heap.size + 3 ≤ g' ∧ w.heap.size + 3 ≤ h' ∧ g' < w3.heap.size ∧ h' < w3.heap.size) := ⟨by omega, by omega, hlt.1, hlt.2⟩
  have T3 := Lib.hid t3
  clear hw4 n4 b4 z4 l4 r4 n5 b5 n6 z6 b3 z3 l3 hr' hg' hh' hlt hwn t2 t3
  go_wp2_with (first
   | (refine wpList_store_row rfl 66 (.tmp 6) (.tmp 35) rfl w3.heap.size (cv (newSt L Y) g' c' h' d') rfl rfl 66 zv N3.out size_cell rfl (cv_one _ _ _ _ _) ?_; change wpList _ _ _ _ _ ((w3.alloc (.cells zv 66)).setRow w3.heap.size (cv (newSt L Y) g' c' h' d')); rw [HW4.out])
   | (refine wpList_load_row rfl 66 (.tmp 6) rfl w3.heap.size rfl 66 (cv { newSt L Y with slc := (moreSt (⟨L, Y, mode, done, false, torn, slc, tlc, ps, hs⟩ : St)).slc, tlc := (moreSt (⟨L, Y, mode, done, false, torn, slc, tlc, ps, hs⟩ : St)).tlc } g' c' h' d') (0, 0) _ N6.out Tryz.underlying66 rfl size_cell ?_)
   | (refine wpList_store_row rfl 66 (.tmp 4) (.tmp 43) rfl (w.heap.size + 2) (cv { newSt L Y with slc := (moreSt (⟨L, Y, mode, done, false, torn, slc, tlc, ps, hs⟩ : St)).slc, tlc := (moreSt (⟨L, Y, mode, done, false, torn, slc, tlc, ps, hs⟩ : St)).tlc } g' c' h' d') rfl rfl 66 zv Z6.out size_cell rfl (cv_one _ _ _ _ _) ?_))
  have hG := HG.out
  have hT := T3.out
  refine bodyPost_ret (results_cell_tmp rfl _ _ (w.heap.size + 2) 66 (cv { newSt L Y with slc := (moreSt (⟨L, Y, mode, done, false, torn, slc, tlc, ps, hs⟩ : St)).slc, tlc := (moreSt (⟨L, Y, mode, done, false, torn, slc, tlc, ps, hs⟩ : St)).tlc } g' c' h' d') _ rfl (Z6.out.put _) Tryz.underlying66 rfl size_cell) rfl ⟨⟨g', c', h', d', rfl, RAt.same (s := newSt L Y) (R4.out.keep ?_ ?_) rfl rfl, Or.inr ⟨by omega, by omega⟩⟩, below_put (by omega) _ ((L4.out.setCell (p := ⟨w3.heap.size, 6, none⟩) (by simp; omega) _).setCell (p := ⟨w3.heap.size, 7, none⟩) (by simp; omega) _)⟩
  ·exact (setRow_heap_ne _ _ _ _ (by omega)).trans ((Below.heap_setCell _ _ _ _ (by simp; omega)).trans (Below.heap_setCell _ _ _ _ (by simp; omega)))
  ·exact (setRow_heap_ne _ _ _ _ (by omega)).trans ((Below.heap_setCell _ _ _ _ (by simp; omega)).trans (Below.heap_setCell _ _ _ _ (by simp; omega)))
/- The reference of layer 8, walked: Erase, where it is cut, or fails. -/
set_option maxHeartbeats 2000000 in
theorem rce_erase_hurt (s : St) (g c h d : Nat) (x k a b : Int) (w : World) (hw : WfSt s) (hr : RAt w s g c h d) (hb : s.bad = false) (hk : hurtsB k = true) (hn1 : s.slc < 1000000000) (hn2 : s.tlc < 1000000000) :
  Calls Tryz.prog 46 #[.agg (cv s g c h d), .agg (fv x k a b)] w (PairT (eraseSt s k a b) (eraseC s k) g h w) := by
 have he : eraseSt s k a b = endSt (slcSt (ruinTo (moreSt s) (moreSt s) a b k (3 * s.L))) k ∧ eraseC s k = endC k := by
  unfold eraseSt eraseC
  rw [if_neg (by rw [hb]; simp), if_pos hk, if_neg (by rw [hb]; simp)]
  exact ⟨rfl, rfl⟩
 rw [he.1, he.2]
 have HWM := Lib.hid (moreSt_wf hw hn1 hn2)
 obtain ⟨L, Y, mode, done, bad, torn, slc, tlc, ps, hs⟩ := s
 simp only at hb hn1 hn2
 subst hb
 have HWF := Lib.hid hw
 have HR := Lib.hid hr
 have HK := Lib.hid hk
 clear hw hr he hk
 by_cases hmo : mode = 2
 ·have hmb : ((mode : Int) == 2) = true := by simp [hmo]
  have HMO := Lib.hid hmo
  clear hmo
  go_enter Tryz.func46, Tryz.ntmps46
  unfold cv fv
  go_wp2_with (first
   | (refine wpList_load_row rfl 40 (.tmp 3) rfl (w.heap.size + 1) rfl 40 (fv x k a b) (0, 0) _ (blk_mid w _ _ _ _) Tryz.underlying40 rfl size_fault ?_))
  refine (rce_hurts x k a b _).mono ?_
  rintro e w2 ⟨rfl, hb2⟩
  rw [HK.out]
  have hcm : CM w ⟨L, Y, mode, done, false, torn, slc, tlc, ps, hs⟩ g c h d x k a b w2 := by
   refine ⟨?_, (blk_mid w _ _ _ _).after hb2, (blk_third w _ _ _ _).after hb2, ?_, (below_3 w _ _ _).trans (hb2.mono (below_3 w _ _ _).size), by have := hb2.size; simp at this; omega⟩
   ·rw [more_two _ g c h d HMO.out]
    exact (((Blk.new w _ _).alloc _).alloc _).after hb2
   ·exact RAt.same (HR.out.after HWF.out ((below_3 w _ _ _).trans (hb2.mono (below_3 w _ _ _).size))) (more_same _).2.2.1 (more_same _).2.2.2.1
  have HCM := Lib.hid hcm
  clear hb2 hcm
  have hwm := HWM.out
  obtain ⟨m, hm⟩ : ∃ m, moreSt ⟨L, Y, mode, done, false, torn, slc, tlc, ps, hs⟩ = m := ⟨_, rfl⟩
  have hml : m.L = L := by rw [← hm]; exact (more_same _).1
  have c1 := HCM.out.cell
  have c2 := HCM.out.how
  have c3 := HCM.out.ans
  have c4 := HCM.out.rd
  have c5 := HCM.out.low
  have c6 := HCM.out.top
  rw [hm] at hwm c1 c4
  have hl1 := hwm.l1
  have hl64 := hwm.l64
  rw [hml] at hl1 hl64
  have hlt := HR.out.lt HWF.out
  have HX : Hid (∀ wr, Below w2.heap.size w2 wr → Blk wr w.heap.size (cv m g c h d) 66 ∧ Blk wr (w.heap.size + 1) (fv x k a b) 40 ∧ Blk wr (w.heap.size + 2) zv 66 ∧ RAt wr m g c h d) :=
   fun wr hb => ⟨c1.after hb, c2.after hb, c3.after hb, c4.after hwm hb⟩
  obtain ⟨w4, hw4⟩ : ∃ w4, (w2.alloc (.cells zv 66)).setRow w2.heap.size (cv m g c h d) = w4 := ⟨_, rfl⟩
  have n4 : Blk w4 w2.heap.size (cv m g c h d) 66 := by rw [← hw4]; exact (Blk.new w2 zv _).put _
  have l4 : Below w2.heap.size w2 w4 := by rw [← hw4]; exact below_put (Nat.le_refl _) _ ((Below.refl _ _).alloc (Nat.le_refl _) _)
  have t4 : w2.heap.size < w4.heap.size := n4.lt
  have r4 := (HX.out w4 l4).2.2.2
  have N2 := Lib.hid (Blk.new w2 zv 66)
  have HW4 := Lib.hid hw4
  have N4 := Lib.hid n4
  have L4 := Lib.hid l4
  have T4 := Lib.hid t4
  have R4 := Lib.hid r4
  have C1 := Lib.hid c1
  have HM := Lib.hid hm
  have HML := Lib.hid hml
  have HWM2 := Lib.hid hwm
  have LOW := Lib.hid c5
  have TOP := Lib.hid c6
  have HLT := Lib.hid hlt
  clear hwm hm hml c1 c2 c3 c4 c5 c6 hw4 n4 l4 t4 r4 HCM hlt
  go_wp2_with (first
   | (refine wpList_load_row rfl 66 (.tmp 2) rfl w.heap.size rfl 66 (cv m g c h d) (0, 0) _ C1.out Tryz.underlying66 rfl size_cell ?_)
   | (refine wpList_store_row rfl 66 (.tmp 8) (.tmp 44) rfl w2.heap.size (cv m g c h d) rfl rfl 66 zv N2.out size_cell rfl (cv_one _ _ _ _ _) ?_; change wpList _ _ _ _ _ ((w2.alloc (.cells zv 66)).setRow w2.heap.size (cv m g c h d)); rw [HW4.out]))
  go_loopw [9] (fun iv wr => ∃ (n g' c' h' d' : Nat), n ≤ 3 * L ∧ iv = .int .i64 n ∧ Blk wr w2.heap.size (cv (ruinTo m m a b k n) g' c' h' d') 66 ∧ RAt wr (ruinTo m m a b k n) g' c' h' d' ∧ ((g' = g ∧ h' = h) ∨ (w2.heap.size < g' ∧ w2.heap.size < h')) ∧ Below w2.heap.size w2 wr ∧ w2.heap.size < wr.heap.size) (fun iv _ => 3 * L - (intOf iv).toNat)
  case atStart => exact ⟨0, g, c, h, d, Nat.zero_le _, rfl, N4.out, R4.out, Or.inl ⟨rfl, rfl⟩, L4.out, T4.out⟩
  case round =>
   obtain ⟨n, g', c', h', d', hn, rfl, hkn, hkr, hgh, hkl, hkt⟩ := hrel
   obtain ⟨cur, hcur⟩ : ∃ cur, ruinTo m m a b k n = cur := ⟨_, rfl⟩
   have hcwf : WfSt cur := by rw [← hcur]; exact ruinTo_wf HWM2.out HWM2.out a b k n
   rw [hcur] at hkn hkr
   have hx := HX.out wr hkl
   have hc0 : wr.cell? ⟨w.heap.size, 0, none⟩ = some (.int .i64 L) := by rw [← HML.out]; exact hx.1.cell 0
   have hw3 : IntKind.i64.wrap (3 * (L : Int)) = 3 * (L : Int) := by rw [IntKind.wrap_i64]; omega
   by_cases hlt : n < 3 * L
   ·have hlt' : (n : Int) < 3 * (L : Int) := by omega
    have CN : Hid (ruinTo m m a b k (n + 1) = putSt cur n (ruinT m a b k n) true) := by show ruinTo m m a b k (n + 1) = _; rw [← hcur]; rfl
    have HX1 := Lib.hid hx.1
    have HX2 := Lib.hid hx.2.1
    have HAT := Lib.hid (rce_at m g c h d n wr HWM2.out hx.2.2.2 (by rw [HML.out]; exact hlt))
    have hsz := atT_size HWM2.out n
    have CWF := Lib.hid hcwf
    have KN0 := Lib.hid hkn
    have KR0 := Lib.hid hkr
    have KL0 := Lib.hid hkl
    have KT0 := Lib.hid hkt
    clear hx hcwf hkn hkr hkl hgh hcur hkt
    go_wp2_with (first
     | (refine wpList_load_row rfl 66 (.tmp 2) rfl w.heap.size rfl 66 (cv m g c h d) (0, 0) _ HX1.out Tryz.underlying66 rfl size_cell ?_))
    refine HAT.out.mono ?_
    rintro e w5 ⟨rfl, hb5⟩
    have KN1 := Lib.hid (KN0.out.after hb5)
    have KR1 := Lib.hid (KR0.out.after CWF.out hb5)
    have KL1 := Lib.hid (KL0.out.trans (hb5.mono KL0.out.size))
    have KT1 : Hid (w2.heap.size < w5.heap.size) := Nat.lt_of_lt_of_le KT0.out hb5.size
    have HX3 := Lib.hid (HX2.out.after hb5)
    clear hb5 HX1 HX2 KN0 KR0 KL0 KT0 HAT
    obtain ⟨t, ht⟩ : ∃ t, atT m n = t := ⟨_, rfl⟩
    have HAH : Hid (atH m n = true → ruinT m a b k n = t) := fun h => by unfold ruinT; rw [if_pos h, ht]
    have HAN : Hid (atH m n = false → ruinT m a b k n = pageT t k a b) := fun h => by unfold ruinT; rw [if_neg (by rw [h]; simp), ht]
    rw [ht] at hsz ⊢
    obtain ⟨old, hold⟩ : ∃ old, atH m n = old := ⟨_, rfl⟩
    rw [hold] at HAH HAN ⊢
    clear ht hold
    cases old with
    | true =>
     have HRU := Lib.hid (HAH.out rfl)
     rw [HRU.out] at CN
     clear HAH HAN
     go_wp2_with (first
      | (refine wpList_load_row rfl 66 (.tmp 8) rfl w2.heap.size rfl 66 (cv cur g' c' h' d') (0, 0) _ KN1.out Tryz.underlying66 rfl size_cell ?_))
     refine (rce_put cur g' c' h' d' n t true _ CWF.out KR1.out).mono ?_
     rintro e w7 ⟨⟨g2, c2, h2, d2, rfl, hr2, hg2, hh2⟩, hb7⟩
     have KN7 := Lib.hid (KN1.out.after hb7)
     have KL7 := Lib.hid (KL1.out.trans (hb7.mono KL1.out.size))
     have hlt7 := hr2.lt (putSt_wf CWF.out n true hsz)
     have KT7 : Hid (w2.heap.size < w5.heap.size) := KT1.out
     have HR2 := Lib.hid hr2
     have HG2 : Hid (w2.heap.size < g2 ∧ w2.heap.size < h2) := ⟨by have := KT1.out; omega, by have := KT1.out; omega⟩
     clear hb7 hr2 hg2 hh2
     go_wp2_with (refine wpList_store_row rfl 66 (.tmp 8) (.tmp 66) rfl w2.heap.size (cv (putSt cur n t true) g2 c2 h2 d2) rfl rfl 66 (cv cur g' c' h' d') KN7.out size_cell rfl (cv_one _ _ _ _ _) ?_)
     go_roundw
     case rel =>
      have hG2 := HG2.out
      refine ⟨n + 1, g2, c2, h2, d2, by omega, by go_num, ?_, ?_, Or.inr hG2, below_put (Nat.le_refl _) _ KL7.out, ?_⟩
      ·rw [CN.out]; exact KN7.out.put _
      ·rw [CN.out]; exact HR2.out.keep (setRow_heap_ne _ _ _ _ (by omega)) (setRow_heap_ne _ _ _ _ (by omega))
      ·rw [size_setRow]; have := KN7.out.lt; omega
     case measure => simp [intOf]; omega
    | false =>
     have HRU := Lib.hid (HAN.out rfl)
     rw [HRU.out] at CN
     clear HAH HAN
     go_wp2_with (first
      | (refine wpList_load_row rfl 40 (.tmp 3) rfl (w.heap.size + 1) rfl 40 (fv x k a b) (0, 0) _ HX3.out Tryz.underlying40 rfl size_fault ?_))
     refine (rce_page t x k a b _ (by omega)).mono ?_
     rintro e w6 ⟨rfl, hb6⟩
     have KN2 := Lib.hid (KN1.out.after hb6)
     have KR2 := Lib.hid (KR1.out.after CWF.out hb6)
     have KL2 := Lib.hid (KL1.out.trans (hb6.mono KL1.out.size))
     have KT2 : Hid (w2.heap.size < w6.heap.size) := Nat.lt_of_lt_of_le KT1.out hb6.size
     have hpsz : (pageT t k a b).size ≤ 400 := by rw [pageT_size]; exact hsz
     clear hb6 KN1 KR1 KL1 KT1
     go_wp2_with (first
      | (refine wpList_load_row rfl 66 (.tmp 8) rfl w2.heap.size rfl 66 (cv cur g' c' h' d') (0, 0) _ KN2.out Tryz.underlying66 rfl size_cell ?_))
     refine (rce_put cur g' c' h' d' n (pageT t k a b) true _ CWF.out KR2.out).mono ?_
     rintro e w7 ⟨⟨g2, c2, h2, d2, rfl, hr2, hg2, hh2⟩, hb7⟩
     have KN7 := Lib.hid (KN2.out.after hb7)
     have KL7 := Lib.hid (KL2.out.trans (hb7.mono KL2.out.size))
     have hlt7 := hr2.lt (putSt_wf CWF.out n true hpsz)
     have KT7 : Hid (w2.heap.size < w6.heap.size) := KT2.out
     have HR2 := Lib.hid hr2
     have HG2 : Hid (w2.heap.size < g2 ∧ w2.heap.size < h2) := ⟨by have := KT2.out; omega, by have := KT2.out; omega⟩
     clear hb7 hr2 hg2 hh2
     go_wp2_with (refine wpList_store_row rfl 66 (.tmp 8) (.tmp 66) rfl w2.heap.size (cv (putSt cur n (pageT t k a b) true) g2 c2 h2 d2) rfl rfl 66 (cv cur g' c' h' d') KN7.out size_cell rfl (cv_one _ _ _ _ _) ?_)
     go_roundw
     case rel =>
      have hG2 := HG2.out
      refine ⟨n + 1, g2, c2, h2, d2, by omega, by go_num, ?_, ?_, Or.inr hG2, below_put (Nat.le_refl _) _ KL7.out, ?_⟩
      ·rw [CN.out]; exact KN7.out.put _
      ·rw [CN.out]; exact HR2.out.keep (setRow_heap_ne _ _ _ _ (by omega)) (setRow_heap_ne _ _ _ _ (by omega))
      ·rw [size_setRow]; have := KN7.out.lt; omega
     case measure => simp [intOf]; omega
   ·obtain rfl : n = 3 * L := by omega
    have hlt' : ¬ ((3 * L : Nat) : Int) < 3 * (L : Int) := by omega
    have hc2 : wr.cell? ⟨w2.heap.size, 2, none⟩ = some (.int .i64 cur.mode) := hkn.cell 2
    have hf2 := hkn.free 2
    have HCUR : Hid (ruinTo (moreSt ⟨L, Y, mode, done, false, torn, slc, tlc, ps, hs⟩) (moreSt ⟨L, Y, mode, done, false, torn, slc, tlc, ps, hs⟩) a b k (3 * L) = cur) := by show ruinTo _ _ _ _ _ _ = _; rw [HM.out]; exact hcur
    clear hcur
    have hne : g' ≠ w2.heap.size ∧ h' ≠ w2.heap.size := by
     have h3 := HLT.out
     have h4 := TOP.out
     rcases hgh with h1 | h1 <;> omega
    by_cases hz : cur.mode = 0
    ·have hzz : True := trivial
     have hz2 : (cur.mode == 0) = true := by simp [hz]
     have hsl : slcSt cur = { cur with mode := 1 } := if_pos hz
     obtain ⟨wz, hwz⟩ : ∃ wz, wr.setCell ⟨w2.heap.size, 2, none⟩ (.int .i64 1) = wz := ⟨_, rfl⟩
     have kz : Blk wz w2.heap.size (cv (slcSt cur) g' c' h' d') 66 := by rw [← hwz, hsl]; exact hkn.set 2 _ rfl
     have lz : Below w2.heap.size w2 wz := by rw [← hwz]; exact hkl.setCell (Nat.le_refl _) _
     have rz : RAt wz (slcSt cur) g' c' h' d' := by
      rw [← hwz, hsl]
      exact RAt.same (s := cur) (hkr.keep (Below.heap_setCell _ _ _ _ (by simpa using hne.1)) (Below.heap_setCell _ _ _ _ (by simpa using hne.2))) rfl rfl
     have tz : w2.heap.size < wz.heap.size := kz.lt
     have HWZ := Lib.hid hwz
     have hx2 := HX.out wz lz
     have KZ := Lib.hid kz
     have RZ := Lib.hid rz
     have LZ := Lib.hid lz
     have TZ := Lib.hid tz
     have HXF := Lib.hid hx2.2.1
     have HXR := Lib.hid hx2.2.2.1
     have HSW := Lib.hid (slcSt_wf hcwf)
     have HGH := Lib.hid hgh
     clear hx hx2 kz lz rz tz hsl hz hwz hkn hkr hkl hkt hgh hcwf
     go_wp2_with (first
      | (first | (rw [HWZ.out]; refine wpList_load_row rfl 66 (.tmp 8) rfl w2.heap.size rfl 66 (cv (slcSt cur) g' c' h' d') (0, 0) _ KZ.out Tryz.underlying66 rfl size_cell ?_) | refine wpList_load_row rfl 66 (.tmp 8) rfl w2.heap.size rfl 66 (cv (slcSt cur) g' c' h' d') (0, 0) _ KZ.out Tryz.underlying66 rfl size_cell ?_)
      | (refine wpList_load_row rfl 40 (.tmp 3) rfl (w.heap.size + 1) rfl 40 (fv x k a b) (0, 0) _ HXF.out Tryz.underlying40 rfl size_fault ?_))
     refine (rce_ends (slcSt cur) g' c' h' d' x k a b _).mono ?_
     rintro e w8 ⟨rfl, hb8⟩
     have XR8 := Lib.hid (HXR.out.after hb8)
     have RZ8 := Lib.hid (RZ.out.after HSW.out hb8)
     have LW : Hid (Below w.heap.size w w8) := (LOW.out.trans (LZ.out.mono (by have := TOP.out; omega))).trans (hb8.mono (by have := TOP.out; have := TZ.out; omega))
     clear hb8
     go_wp2_with (refine wpList_store_row rfl 66 (.tmp 4) (.tmp 74) rfl (w.heap.size + 2) (cv (endSt (slcSt cur) k) g' c' h' d') rfl rfl 66 zv XR8.out size_cell rfl (cv_one _ _ _ _ _) ?_)
     have hG : (g' = g ∧ h' = h) ∨ (w.heap.size + 3 ≤ g' ∧ w.heap.size + 3 ≤ h') := by
      rcases HGH.out with h1 | h1
      ·exact Or.inl h1
      ·exact Or.inr (by have := TOP.out; omega)
     have hL := HLT.out
     have hcu := HCUR.out
     rw [hcu]
     exact bodyPost_ret (results_cell_tmp rfl _ _ (w.heap.size + 2) 66 (cv (endSt (slcSt cur) k) g' c' h' d') _ rfl (XR8.out.put _) Tryz.underlying66 rfl size_cell) rfl ⟨⟨g', c', h', d', rfl, (RAt_end RZ8.out k).keep (setRow_heap_ne _ _ _ _ (by omega)) (setRow_heap_ne _ _ _ _ (by omega)), hG.elim Or.inl (fun h1 => Or.inr ⟨by omega, by omega⟩)⟩, below_put (by omega) _ LW.out⟩
    ·have hzz : True := trivial
     have hz2 : (cur.mode == 0) = false := by simpa using hz
     have hsl : slcSt cur = cur := if_neg hz
     obtain ⟨wz, hwz⟩ : ∃ wz, wr = wz := ⟨_, rfl⟩
     have kz : Blk wz w2.heap.size (cv (slcSt cur) g' c' h' d') 66 := by rw [← hwz, hsl]; exact hkn
     have lz : Below w2.heap.size w2 wz := by rw [← hwz]; exact hkl
     have rz : RAt wz (slcSt cur) g' c' h' d' := by rw [← hwz, hsl]; exact hkr
     have tz : w2.heap.size < wz.heap.size := kz.lt
     have HWZ := Lib.hid hwz
     have hx2 := HX.out wz lz
     have KZ := Lib.hid kz
     have RZ := Lib.hid rz
     have LZ := Lib.hid lz
     have TZ := Lib.hid tz
     have HXF := Lib.hid hx2.2.1
     have HXR := Lib.hid hx2.2.2.1
     have HSW := Lib.hid (slcSt_wf hcwf)
     have HGH := Lib.hid hgh
     clear hx hx2 kz lz rz tz hsl hz hwz hkn hkr hkl hkt hgh hcwf
     go_wp2_with (first
      | (first | (rw [HWZ.out]; refine wpList_load_row rfl 66 (.tmp 8) rfl w2.heap.size rfl 66 (cv (slcSt cur) g' c' h' d') (0, 0) _ KZ.out Tryz.underlying66 rfl size_cell ?_) | refine wpList_load_row rfl 66 (.tmp 8) rfl w2.heap.size rfl 66 (cv (slcSt cur) g' c' h' d') (0, 0) _ KZ.out Tryz.underlying66 rfl size_cell ?_)
      | (refine wpList_load_row rfl 40 (.tmp 3) rfl (w.heap.size + 1) rfl 40 (fv x k a b) (0, 0) _ HXF.out Tryz.underlying40 rfl size_fault ?_))
     refine (rce_ends (slcSt cur) g' c' h' d' x k a b _).mono ?_
     rintro e w8 ⟨rfl, hb8⟩
     have XR8 := Lib.hid (HXR.out.after hb8)
     have RZ8 := Lib.hid (RZ.out.after HSW.out hb8)
     have LW : Hid (Below w.heap.size w w8) := (LOW.out.trans (LZ.out.mono (by have := TOP.out; omega))).trans (hb8.mono (by have := TOP.out; have := TZ.out; omega))
     clear hb8
     go_wp2_with (refine wpList_store_row rfl 66 (.tmp 4) (.tmp 74) rfl (w.heap.size + 2) (cv (endSt (slcSt cur) k) g' c' h' d') rfl rfl 66 zv XR8.out size_cell rfl (cv_one _ _ _ _ _) ?_)
     have hG : (g' = g ∧ h' = h) ∨ (w.heap.size + 3 ≤ g' ∧ w.heap.size + 3 ≤ h') := by
      rcases HGH.out with h1 | h1
      ·exact Or.inl h1
      ·exact Or.inr (by have := TOP.out; omega)
     have hL := HLT.out
     have hcu := HCUR.out
     rw [hcu]
     exact bodyPost_ret (results_cell_tmp rfl _ _ (w.heap.size + 2) 66 (cv (endSt (slcSt cur) k) g' c' h' d') _ rfl (XR8.out.put _) Tryz.underlying66 rfl size_cell) rfl ⟨⟨g', c', h', d', rfl, (RAt_end RZ8.out k).keep (setRow_heap_ne _ _ _ _ (by omega)) (setRow_heap_ne _ _ _ _ (by omega)), hG.elim Or.inl (fun h1 => Or.inr ⟨by omega, by omega⟩)⟩, below_put (by omega) _ LW.out⟩
 ·have hmb : ((mode : Int) == 2) = false := by simpa using hmo
  have HMO := Lib.hid hmo
  clear hmo
  go_enter Tryz.func46, Tryz.ntmps46
  unfold cv fv
  go_wp2_with (first
   | (refine wpList_load_row rfl 40 (.tmp 3) rfl (w.heap.size + 1) rfl 40 (fv x k a b) (0, 0) _ (blk_mid w _ _ _ _) Tryz.underlying40 rfl size_fault ?_))
  refine (rce_hurts x k a b _).mono ?_
  rintro e w2 ⟨rfl, hb2⟩
  rw [HK.out]
  have hcm : CM w ⟨L, Y, mode, done, false, torn, slc, tlc, ps, hs⟩ g c h d x k a b w2 := by
   refine ⟨?_, (blk_mid w _ _ _ _).after hb2, (blk_third w _ _ _ _).after hb2, ?_, (below_3 w _ _ _).trans (hb2.mono (below_3 w _ _ _).size), by have := hb2.size; simp at this; omega⟩
   ·rw [more_one _ g c h d HMO.out]
    exact (((Blk.new w _ _).alloc _).alloc _).after hb2
   ·exact RAt.same (HR.out.after HWF.out ((below_3 w _ _ _).trans (hb2.mono (below_3 w _ _ _).size))) (more_same _).2.2.1 (more_same _).2.2.2.1
  have HCM := Lib.hid hcm
  clear hb2 hcm
  have hwm := HWM.out
  obtain ⟨m, hm⟩ : ∃ m, moreSt ⟨L, Y, mode, done, false, torn, slc, tlc, ps, hs⟩ = m := ⟨_, rfl⟩
  have hml : m.L = L := by rw [← hm]; exact (more_same _).1
  have c1 := HCM.out.cell
  have c2 := HCM.out.how
  have c3 := HCM.out.ans
  have c4 := HCM.out.rd
  have c5 := HCM.out.low
  have c6 := HCM.out.top
  rw [hm] at hwm c1 c4
  have hl1 := hwm.l1
  have hl64 := hwm.l64
  rw [hml] at hl1 hl64
  have hlt := HR.out.lt HWF.out
  have HX : Hid (∀ wr, Below w2.heap.size w2 wr → Blk wr w.heap.size (cv m g c h d) 66 ∧ Blk wr (w.heap.size + 1) (fv x k a b) 40 ∧ Blk wr (w.heap.size + 2) zv 66 ∧ RAt wr m g c h d) :=
   fun wr hb => ⟨c1.after hb, c2.after hb, c3.after hb, c4.after hwm hb⟩
  obtain ⟨w4, hw4⟩ : ∃ w4, (w2.alloc (.cells zv 66)).setRow w2.heap.size (cv m g c h d) = w4 := ⟨_, rfl⟩
  have n4 : Blk w4 w2.heap.size (cv m g c h d) 66 := by rw [← hw4]; exact (Blk.new w2 zv _).put _
  have l4 : Below w2.heap.size w2 w4 := by rw [← hw4]; exact below_put (Nat.le_refl _) _ ((Below.refl _ _).alloc (Nat.le_refl _) _)
  have t4 : w2.heap.size < w4.heap.size := n4.lt
  have r4 := (HX.out w4 l4).2.2.2
  have N2 := Lib.hid (Blk.new w2 zv 66)
  have HW4 := Lib.hid hw4
  have N4 := Lib.hid n4
  have L4 := Lib.hid l4
  have T4 := Lib.hid t4
  have R4 := Lib.hid r4
  have C1 := Lib.hid c1
  have HM := Lib.hid hm
  have HML := Lib.hid hml
  have HWM2 := Lib.hid hwm
  have LOW := Lib.hid c5
  have TOP := Lib.hid c6
  have HLT := Lib.hid hlt
  clear hwm hm hml c1 c2 c3 c4 c5 c6 hw4 n4 l4 t4 r4 HCM hlt
  go_wp2_with (first
   | (refine wpList_load_row rfl 66 (.tmp 2) rfl w.heap.size rfl 66 (cv m g c h d) (0, 0) _ C1.out Tryz.underlying66 rfl size_cell ?_)
   | (refine wpList_store_row rfl 66 (.tmp 8) (.tmp 44) rfl w2.heap.size (cv m g c h d) rfl rfl 66 zv N2.out size_cell rfl (cv_one _ _ _ _ _) ?_; change wpList _ _ _ _ _ ((w2.alloc (.cells zv 66)).setRow w2.heap.size (cv m g c h d)); rw [HW4.out]))
  go_loopw [9] (fun iv wr => ∃ (n g' c' h' d' : Nat), n ≤ 3 * L ∧ iv = .int .i64 n ∧ Blk wr w2.heap.size (cv (ruinTo m m a b k n) g' c' h' d') 66 ∧ RAt wr (ruinTo m m a b k n) g' c' h' d' ∧ ((g' = g ∧ h' = h) ∨ (w2.heap.size < g' ∧ w2.heap.size < h')) ∧ Below w2.heap.size w2 wr ∧ w2.heap.size < wr.heap.size) (fun iv _ => 3 * L - (intOf iv).toNat)
  case atStart => exact ⟨0, g, c, h, d, Nat.zero_le _, rfl, N4.out, R4.out, Or.inl ⟨rfl, rfl⟩, L4.out, T4.out⟩
  case round =>
   obtain ⟨n, g', c', h', d', hn, rfl, hkn, hkr, hgh, hkl, hkt⟩ := hrel
   obtain ⟨cur, hcur⟩ : ∃ cur, ruinTo m m a b k n = cur := ⟨_, rfl⟩
   have hcwf : WfSt cur := by rw [← hcur]; exact ruinTo_wf HWM2.out HWM2.out a b k n
   rw [hcur] at hkn hkr
   have hx := HX.out wr hkl
   have hc0 : wr.cell? ⟨w.heap.size, 0, none⟩ = some (.int .i64 L) := by rw [← HML.out]; exact hx.1.cell 0
   have hw3 : IntKind.i64.wrap (3 * (L : Int)) = 3 * (L : Int) := by rw [IntKind.wrap_i64]; omega
   by_cases hlt : n < 3 * L
   ·have hlt' : (n : Int) < 3 * (L : Int) := by omega
    have CN : Hid (ruinTo m m a b k (n + 1) = putSt cur n (ruinT m a b k n) true) := by show ruinTo m m a b k (n + 1) = _; rw [← hcur]; rfl
    have HX1 := Lib.hid hx.1
    have HX2 := Lib.hid hx.2.1
    have HAT := Lib.hid (rce_at m g c h d n wr HWM2.out hx.2.2.2 (by rw [HML.out]; exact hlt))
    have hsz := atT_size HWM2.out n
    have CWF := Lib.hid hcwf
    have KN0 := Lib.hid hkn
    have KR0 := Lib.hid hkr
    have KL0 := Lib.hid hkl
    have KT0 := Lib.hid hkt
    clear hx hcwf hkn hkr hkl hgh hcur hkt
    go_wp2_with (first
     | (refine wpList_load_row rfl 66 (.tmp 2) rfl w.heap.size rfl 66 (cv m g c h d) (0, 0) _ HX1.out Tryz.underlying66 rfl size_cell ?_))
    refine HAT.out.mono ?_
    rintro e w5 ⟨rfl, hb5⟩
    have KN1 := Lib.hid (KN0.out.after hb5)
    have KR1 := Lib.hid (KR0.out.after CWF.out hb5)
    have KL1 := Lib.hid (KL0.out.trans (hb5.mono KL0.out.size))
    have KT1 : Hid (w2.heap.size < w5.heap.size) := Nat.lt_of_lt_of_le KT0.out hb5.size
    have HX3 := Lib.hid (HX2.out.after hb5)
    clear hb5 HX1 HX2 KN0 KR0 KL0 KT0 HAT
    obtain ⟨t, ht⟩ : ∃ t, atT m n = t := ⟨_, rfl⟩
    have HAH : Hid (atH m n = true → ruinT m a b k n = t) := fun h => by unfold ruinT; rw [if_pos h, ht]
    have HAN : Hid (atH m n = false → ruinT m a b k n = pageT t k a b) := fun h => by unfold ruinT; rw [if_neg (by rw [h]; simp), ht]
    rw [ht] at hsz ⊢
    obtain ⟨old, hold⟩ : ∃ old, atH m n = old := ⟨_, rfl⟩
    rw [hold] at HAH HAN ⊢
    clear ht hold
    cases old with
    | true =>
     have HRU := Lib.hid (HAH.out rfl)
     rw [HRU.out] at CN
     clear HAH HAN
     go_wp2_with (first
      | (refine wpList_load_row rfl 66 (.tmp 8) rfl w2.heap.size rfl 66 (cv cur g' c' h' d') (0, 0) _ KN1.out Tryz.underlying66 rfl size_cell ?_))
     refine (rce_put cur g' c' h' d' n t true _ CWF.out KR1.out).mono ?_
     rintro e w7 ⟨⟨g2, c2, h2, d2, rfl, hr2, hg2, hh2⟩, hb7⟩
     have KN7 := Lib.hid (KN1.out.after hb7)
     have KL7 := Lib.hid (KL1.out.trans (hb7.mono KL1.out.size))
     have hlt7 := hr2.lt (putSt_wf CWF.out n true hsz)
     have KT7 : Hid (w2.heap.size < w5.heap.size) := KT1.out
     have HR2 := Lib.hid hr2
     have HG2 : Hid (w2.heap.size < g2 ∧ w2.heap.size < h2) := ⟨by have := KT1.out; omega, by have := KT1.out; omega⟩
     clear hb7 hr2 hg2 hh2
     go_wp2_with (refine wpList_store_row rfl 66 (.tmp 8) (.tmp 66) rfl w2.heap.size (cv (putSt cur n t true) g2 c2 h2 d2) rfl rfl 66 (cv cur g' c' h' d') KN7.out size_cell rfl (cv_one _ _ _ _ _) ?_)
     go_roundw
     case rel =>
      have hG2 := HG2.out
      refine ⟨n + 1, g2, c2, h2, d2, by omega, by go_num, ?_, ?_, Or.inr hG2, below_put (Nat.le_refl _) _ KL7.out, ?_⟩
      ·rw [CN.out]; exact KN7.out.put _
      ·rw [CN.out]; exact HR2.out.keep (setRow_heap_ne _ _ _ _ (by omega)) (setRow_heap_ne _ _ _ _ (by omega))
      ·rw [size_setRow]; have := KN7.out.lt; omega
     case measure => simp [intOf]; omega
    | false =>
     have HRU := Lib.hid (HAN.out rfl)
     rw [HRU.out] at CN
     clear HAH HAN
     go_wp2_with (first
      | (refine wpList_load_row rfl 40 (.tmp 3) rfl (w.heap.size + 1) rfl 40 (fv x k a b) (0, 0) _ HX3.out Tryz.underlying40 rfl size_fault ?_))
     refine (rce_page t x k a b _ (by omega)).mono ?_
     rintro e w6 ⟨rfl, hb6⟩
     have KN2 := Lib.hid (KN1.out.after hb6)
     have KR2 := Lib.hid (KR1.out.after CWF.out hb6)
     have KL2 := Lib.hid (KL1.out.trans (hb6.mono KL1.out.size))
     have KT2 : Hid (w2.heap.size < w6.heap.size) := Nat.lt_of_lt_of_le KT1.out hb6.size
     have hpsz : (pageT t k a b).size ≤ 400 := by rw [pageT_size]; exact hsz
     clear hb6 KN1 KR1 KL1 KT1
     go_wp2_with (first
      | (refine wpList_load_row rfl 66 (.tmp 8) rfl w2.heap.size rfl 66 (cv cur g' c' h' d') (0, 0) _ KN2.out Tryz.underlying66 rfl size_cell ?_))
     refine (rce_put cur g' c' h' d' n (pageT t k a b) true _ CWF.out KR2.out).mono ?_
     rintro e w7 ⟨⟨g2, c2, h2, d2, rfl, hr2, hg2, hh2⟩, hb7⟩
     have KN7 := Lib.hid (KN2.out.after hb7)
     have KL7 := Lib.hid (KL2.out.trans (hb7.mono KL2.out.size))
     have hlt7 := hr2.lt (putSt_wf CWF.out n true hpsz)
     have KT7 : Hid (w2.heap.size < w6.heap.size) := KT2.out
     have HR2 := Lib.hid hr2
     have HG2 : Hid (w2.heap.size < g2 ∧ w2.heap.size < h2) := ⟨by have := KT2.out; omega, by have := KT2.out; omega⟩
     clear hb7 hr2 hg2 hh2
     go_wp2_with (refine wpList_store_row rfl 66 (.tmp 8) (.tmp 66) rfl w2.heap.size (cv (putSt cur n (pageT t k a b) true) g2 c2 h2 d2) rfl rfl 66 (cv cur g' c' h' d') KN7.out size_cell rfl (cv_one _ _ _ _ _) ?_)
     go_roundw
     case rel =>
      have hG2 := HG2.out
      refine ⟨n + 1, g2, c2, h2, d2, by omega, by go_num, ?_, ?_, Or.inr hG2, below_put (Nat.le_refl _) _ KL7.out, ?_⟩
      ·rw [CN.out]; exact KN7.out.put _
      ·rw [CN.out]; exact HR2.out.keep (setRow_heap_ne _ _ _ _ (by omega)) (setRow_heap_ne _ _ _ _ (by omega))
      ·rw [size_setRow]; have := KN7.out.lt; omega
     case measure => simp [intOf]; omega
   ·obtain rfl : n = 3 * L := by omega
    have hlt' : ¬ ((3 * L : Nat) : Int) < 3 * (L : Int) := by omega
    have hc2 : wr.cell? ⟨w2.heap.size, 2, none⟩ = some (.int .i64 cur.mode) := hkn.cell 2
    have hf2 := hkn.free 2
    have HCUR : Hid (ruinTo (moreSt ⟨L, Y, mode, done, false, torn, slc, tlc, ps, hs⟩) (moreSt ⟨L, Y, mode, done, false, torn, slc, tlc, ps, hs⟩) a b k (3 * L) = cur) := by show ruinTo _ _ _ _ _ _ = _; rw [HM.out]; exact hcur
    clear hcur
    have hne : g' ≠ w2.heap.size ∧ h' ≠ w2.heap.size := by
     have h3 := HLT.out
     have h4 := TOP.out
     rcases hgh with h1 | h1 <;> omega
    by_cases hz : cur.mode = 0
    ·have hzz : True := trivial
     have hz2 : (cur.mode == 0) = true := by simp [hz]
     have hsl : slcSt cur = { cur with mode := 1 } := if_pos hz
     obtain ⟨wz, hwz⟩ : ∃ wz, wr.setCell ⟨w2.heap.size, 2, none⟩ (.int .i64 1) = wz := ⟨_, rfl⟩
     have kz : Blk wz w2.heap.size (cv (slcSt cur) g' c' h' d') 66 := by rw [← hwz, hsl]; exact hkn.set 2 _ rfl
     have lz : Below w2.heap.size w2 wz := by rw [← hwz]; exact hkl.setCell (Nat.le_refl _) _
     have rz : RAt wz (slcSt cur) g' c' h' d' := by
      rw [← hwz, hsl]
      exact RAt.same (s := cur) (hkr.keep (Below.heap_setCell _ _ _ _ (by simpa using hne.1)) (Below.heap_setCell _ _ _ _ (by simpa using hne.2))) rfl rfl
     have tz : w2.heap.size < wz.heap.size := kz.lt
     have HWZ := Lib.hid hwz
     have hx2 := HX.out wz lz
     have KZ := Lib.hid kz
     have RZ := Lib.hid rz
     have LZ := Lib.hid lz
     have TZ := Lib.hid tz
     have HXF := Lib.hid hx2.2.1
     have HXR := Lib.hid hx2.2.2.1
     have HSW := Lib.hid (slcSt_wf hcwf)
     have HGH := Lib.hid hgh
     clear hx hx2 kz lz rz tz hsl hz hwz hkn hkr hkl hkt hgh hcwf
     go_wp2_with (first
      | (first | (rw [HWZ.out]; refine wpList_load_row rfl 66 (.tmp 8) rfl w2.heap.size rfl 66 (cv (slcSt cur) g' c' h' d') (0, 0) _ KZ.out Tryz.underlying66 rfl size_cell ?_) | refine wpList_load_row rfl 66 (.tmp 8) rfl w2.heap.size rfl 66 (cv (slcSt cur) g' c' h' d') (0, 0) _ KZ.out Tryz.underlying66 rfl size_cell ?_)
      | (refine wpList_load_row rfl 40 (.tmp 3) rfl (w.heap.size + 1) rfl 40 (fv x k a b) (0, 0) _ HXF.out Tryz.underlying40 rfl size_fault ?_))
     refine (rce_ends (slcSt cur) g' c' h' d' x k a b _).mono ?_
     rintro e w8 ⟨rfl, hb8⟩
     have XR8 := Lib.hid (HXR.out.after hb8)
     have RZ8 := Lib.hid (RZ.out.after HSW.out hb8)
     have LW : Hid (Below w.heap.size w w8) := (LOW.out.trans (LZ.out.mono (by have := TOP.out; omega))).trans (hb8.mono (by have := TOP.out; have := TZ.out; omega))
     clear hb8
     go_wp2_with (refine wpList_store_row rfl 66 (.tmp 4) (.tmp 74) rfl (w.heap.size + 2) (cv (endSt (slcSt cur) k) g' c' h' d') rfl rfl 66 zv XR8.out size_cell rfl (cv_one _ _ _ _ _) ?_)
     have hG : (g' = g ∧ h' = h) ∨ (w.heap.size + 3 ≤ g' ∧ w.heap.size + 3 ≤ h') := by
      rcases HGH.out with h1 | h1
      ·exact Or.inl h1
      ·exact Or.inr (by have := TOP.out; omega)
     have hL := HLT.out
     have hcu := HCUR.out
     rw [hcu]
     exact bodyPost_ret (results_cell_tmp rfl _ _ (w.heap.size + 2) 66 (cv (endSt (slcSt cur) k) g' c' h' d') _ rfl (XR8.out.put _) Tryz.underlying66 rfl size_cell) rfl ⟨⟨g', c', h', d', rfl, (RAt_end RZ8.out k).keep (setRow_heap_ne _ _ _ _ (by omega)) (setRow_heap_ne _ _ _ _ (by omega)), hG.elim Or.inl (fun h1 => Or.inr ⟨by omega, by omega⟩)⟩, below_put (by omega) _ LW.out⟩
    ·have hzz : True := trivial
     have hz2 : (cur.mode == 0) = false := by simpa using hz
     have hsl : slcSt cur = cur := if_neg hz
     obtain ⟨wz, hwz⟩ : ∃ wz, wr = wz := ⟨_, rfl⟩
     have kz : Blk wz w2.heap.size (cv (slcSt cur) g' c' h' d') 66 := by rw [← hwz, hsl]; exact hkn
     have lz : Below w2.heap.size w2 wz := by rw [← hwz]; exact hkl
     have rz : RAt wz (slcSt cur) g' c' h' d' := by rw [← hwz, hsl]; exact hkr
     have tz : w2.heap.size < wz.heap.size := kz.lt
     have HWZ := Lib.hid hwz
     have hx2 := HX.out wz lz
     have KZ := Lib.hid kz
     have RZ := Lib.hid rz
     have LZ := Lib.hid lz
     have TZ := Lib.hid tz
     have HXF := Lib.hid hx2.2.1
     have HXR := Lib.hid hx2.2.2.1
     have HSW := Lib.hid (slcSt_wf hcwf)
     have HGH := Lib.hid hgh
     clear hx hx2 kz lz rz tz hsl hz hwz hkn hkr hkl hkt hgh hcwf
     go_wp2_with (first
      | (first | (rw [HWZ.out]; refine wpList_load_row rfl 66 (.tmp 8) rfl w2.heap.size rfl 66 (cv (slcSt cur) g' c' h' d') (0, 0) _ KZ.out Tryz.underlying66 rfl size_cell ?_) | refine wpList_load_row rfl 66 (.tmp 8) rfl w2.heap.size rfl 66 (cv (slcSt cur) g' c' h' d') (0, 0) _ KZ.out Tryz.underlying66 rfl size_cell ?_)
      | (refine wpList_load_row rfl 40 (.tmp 3) rfl (w.heap.size + 1) rfl 40 (fv x k a b) (0, 0) _ HXF.out Tryz.underlying40 rfl size_fault ?_))
     refine (rce_ends (slcSt cur) g' c' h' d' x k a b _).mono ?_
     rintro e w8 ⟨rfl, hb8⟩
     have XR8 := Lib.hid (HXR.out.after hb8)
     have RZ8 := Lib.hid (RZ.out.after HSW.out hb8)
     have LW : Hid (Below w.heap.size w w8) := (LOW.out.trans (LZ.out.mono (by have := TOP.out; omega))).trans (hb8.mono (by have := TOP.out; have := TZ.out; omega))
     clear hb8
     go_wp2_with (refine wpList_store_row rfl 66 (.tmp 4) (.tmp 74) rfl (w.heap.size + 2) (cv (endSt (slcSt cur) k) g' c' h' d') rfl rfl 66 zv XR8.out size_cell rfl (cv_one _ _ _ _ _) ?_)
     have hG : (g' = g ∧ h' = h) ∨ (w.heap.size + 3 ≤ g' ∧ w.heap.size + 3 ≤ h') := by
      rcases HGH.out with h1 | h1
      ·exact Or.inl h1
      ·exact Or.inr (by have := TOP.out; omega)
     have hL := HLT.out
     have hcu := HCUR.out
     rw [hcu]
     exact bodyPost_ret (results_cell_tmp rfl _ _ (w.heap.size + 2) 66 (cv (endSt (slcSt cur) k) g' c' h' d') _ rfl (XR8.out.put _) Tryz.underlying66 rfl size_cell) rfl ⟨⟨g', c', h', d', rfl, (RAt_end RZ8.out k).keep (setRow_heap_ne _ _ _ _ (by omega)) (setRow_heap_ne _ _ _ _ (by omega)), hG.elim Or.inl (fun h1 => Or.inr ⟨by omega, by omega⟩)⟩, below_put (by omega) _ LW.out⟩
theorem rce_erase (s : St) (g c h d : Nat) (x k a b : Int) (w : World) (hw : WfSt s) (hr : RAt w s g c h d) (hn1 : s.slc < 1000000000) (hn2 : s.tlc < 1000000000) :
  Calls Tryz.prog 46 #[.agg (cv s g c h d), .agg (fv x k a b)] w (PairT (eraseSt s k a b) (eraseC s k) g h w) := by
 cases hb : s.bad with
 | true => exact rce_erase_bad s g c h d x k a b w hw hr hb
 | false =>
  cases hk : hurtsB k with
  | true => exact rce_erase_hurt s g c h d x k a b w hw hr hb hk hn1 hn2
  | false => exact rce_erase_well s g c h d x k a b w hw hr hb hk hn1 hn2
/- The reference of layer 8, walked: Foggy, Fine; what each act leaves can be. -/
theorem progSt_wf {s : St} (h : WfSt s) (line : Int) (p : ByteArray) (k a b : Int) : WfSt (progSt s line p k a b) := by
 unfold progSt
 split
 ·rename_i hok
  obtain ⟨_, _, _, k4, k5, k6⟩ := hok
  exact endSt_wf (putSt_wf (stepSt_wf h (Or.inl rfl) (by omega)) _ _ (by rw [pageT_size]; exact takes_size h k6)) k
 ·exact h
theorem twoSt_wf {s : St} (h : WfSt s) (line : Int) (p q r : ByteArray) (f : Bool) (k a b : Int) : WfSt (twoSt s line p q r f k a b) := by
 unfold twoSt
 split
 ·rename_i hok
  exact endSt_wf (put3_wf (stepSt_wf h (Or.inr rfl) hok.2.2.2.1) _ k a b (takes_size h hok.2.2.2.2.2.2.1) (takes_size h hok.2.2.2.2.2.2.2.1) (takes_size h hok.2.2.2.2.2.2.2.2.1) 3 (Nat.le_refl _)) k
 ·exact h
theorem eraseSt_wf {s : St} (h : WfSt s) (k a b : Int) (h1 : s.slc < 1000000000) (h2 : s.tlc < 1000000000) : WfSt (eraseSt s k a b) := by
 have hm := moreSt_wf h h1 h2
 unfold eraseSt
 split
 ·exact h
 ·split
  ·exact endSt_wf (slcSt_wf (ruinTo_wf hm hm a b k _)) k
  ·obtain ⟨a1, a2, a3, a4, a5, a6, a7, a8, a9, a10⟩ := newSt_wf h
   exact ⟨a1, a2, a3, a4, a5, a6, a7, a8, hm.slc, hm.tlc⟩
set_option maxHeartbeats 1000000 in
theorem rce_foggy (s : St) (g c h d : Nat) (line : Int) (p q r : ByteArray) (x k a b : Int) (w : World) (hw : WfSt s) (hr : RAt w s g c h d) (hw2 : WfSt (twoSt s line p q r false k a b)) :
  Calls Tryz.prog 44 #[.agg (cv s g c h d), .int .i64 line, .agg (tv3 p q r), .agg (fv x k a b)] w (PairT (twoSt s line p q r false k a b) (twoC s line p q r false k) g h w) := by
 have b1 := blk_4a w (.cells (tv3 p q r) 38) (.cells (fv x k a b) 40) (.cells zv 66) (cv s g c h d) 66
 have b2 := blk_4b w (.cells (cv s g c h d) 66) (.cells (fv x k a b) 40) (.cells zv 66) (tv3 p q r) 38
 have b3 := blk_4c w (.cells (cv s g c h d) 66) (.cells (tv3 p q r) 38) (.cells zv 66) (fv x k a b) 40
 have b4 := blk_4d w (.cells (cv s g c h d) 66) (.cells (tv3 p q r) 38) (.cells (fv x k a b) 40) zv 66
 have bw := below_4 w (.cells (cv s g c h d) 66) (.cells (tv3 p q r) 38) (.cells (fv x k a b) 40) (.cells zv 66)
 obtain ⟨w1, hw1⟩ : ∃ w1, (((w.alloc (.cells (cv s g c h d) 66)).alloc (.cells (tv3 p q r) 38)).alloc (.cells (fv x k a b) 40)).alloc (.cells zv 66) = w1 := ⟨_, rfl⟩
 rw [hw1] at b1 b2 b3 b4 bw
 have B1 := Lib.hid b1
 have B2 := Lib.hid b2
 have B3 := Lib.hid b3
 have B4 := Lib.hid b4
 have BW := Lib.hid bw
 have HW1 := Lib.hid hw1
 have HWF := Lib.hid hw
 have HW2 := Lib.hid hw2
 have HR := Lib.hid (hr.after hw bw)
 have HLT := Lib.hid (hr.lt hw)
 have ht4 : w.heap.size + 4 ≤ w1.heap.size := by rw [← hw1]; simp only [World.size_alloc]; omega
 have HT4 := Lib.hid ht4
 clear b1 b2 b3 b4 bw hw1 hw hr ht4 hw2
 go_enter Tryz.func44, Tryz.ntmps44
 go_wp2_with (first
  | (change wpList _ _ _ _ _ ((((w.alloc (.cells (cv s g c h d) 66)).alloc (.cells (tv3 p q r) 38)).alloc (.cells (fv x k a b) 40)).alloc (.cells zv 66)); rw [HW1.out]; refine wpList_load_row rfl 66 (.tmp 4) rfl w.heap.size rfl 66 (cv s g c h d) (0, 0) _ B1.out Tryz.underlying66 rfl size_cell ?_)
  | (refine wpList_load_row rfl 38 (.tmp 6) rfl (w.heap.size + 1) rfl 38 (tv3 p q r) (0, 0) _ B2.out Tryz.underlying38 rfl size_three ?_)
  | (refine wpList_load_row rfl 40 (.tmp 7) rfl (w.heap.size + 2) rfl 40 (fv x k a b) (0, 0) _ B3.out Tryz.underlying40 rfl size_fault ?_))
 refine (rce_two s g c h d line p q r false x k a b _ HWF.out HR.out).mono ?_
 rintro e w2 ⟨⟨g', c', h', d', rfl, hr', hgh⟩, hb2⟩
 have B42 := Lib.hid (B4.out.after hb2)
 have BW2 := Lib.hid (BW.out.trans (hb2.mono BW.out.size))
 have HR2 := Lib.hid hr'
 have HGH := Lib.hid hgh
 obtain ⟨s2, hs2⟩ : ∃ s2, twoSt s line p q r false k a b = s2 := ⟨_, rfl⟩
 obtain ⟨ec, hec⟩ : ∃ ec, twoC s line p q r false k = ec := ⟨_, rfl⟩
 have HS2 := Lib.hid hs2
 have HEC := Lib.hid hec
 rw [hs2] at HR2 HW2
 rw [hs2, hec]
 clear hb2 hr' hgh hs2 hec
 go_wp2_with (refine wpList_store_row rfl 66 (.tmp 8) (.tmp 15) rfl (w.heap.size + 3) (cv s2 g' c' h' d') rfl rfl 66 zv B42.out size_cell rfl (cv_one _ _ _ _ _) ?_)
 have hG := HGH.out
 have hL := HLT.out
 have hT := HT4.out
 rw [HS2.out, HEC.out]
 exact bodyPost_ret (results_cell_tmp rfl _ _ (w.heap.size + 3) 66 (cv s2 g' c' h' d') _ rfl (B42.out.put _) Tryz.underlying66 rfl size_cell) rfl ⟨⟨g', c', h', d', rfl, HR2.out.keep (setRow_heap_ne _ _ _ _ (by omega)) (setRow_heap_ne _ _ _ _ (by omega)), hG.elim Or.inl (fun h1 => Or.inr ⟨by omega, by omega⟩)⟩, below_put (by omega) _ BW2.out⟩
set_option maxHeartbeats 1000000 in
theorem rce_fine (s : St) (g c h d : Nat) (line : Int) (p q r : ByteArray) (x k a b : Int) (w : World) (hw : WfSt s) (hr : RAt w s g c h d) (hw2 : WfSt (twoSt s line p q r true k a b)) :
  Calls Tryz.prog 45 #[.agg (cv s g c h d), .int .i64 line, .agg (tv3 p q r), .agg (fv x k a b)] w (PairT (twoSt s line p q r true k a b) (twoC s line p q r true k) g h w) := by
 have b1 := blk_4a w (.cells (tv3 p q r) 38) (.cells (fv x k a b) 40) (.cells zv 66) (cv s g c h d) 66
 have b2 := blk_4b w (.cells (cv s g c h d) 66) (.cells (fv x k a b) 40) (.cells zv 66) (tv3 p q r) 38
 have b3 := blk_4c w (.cells (cv s g c h d) 66) (.cells (tv3 p q r) 38) (.cells zv 66) (fv x k a b) 40
 have b4 := blk_4d w (.cells (cv s g c h d) 66) (.cells (tv3 p q r) 38) (.cells (fv x k a b) 40) zv 66
 have bw := below_4 w (.cells (cv s g c h d) 66) (.cells (tv3 p q r) 38) (.cells (fv x k a b) 40) (.cells zv 66)
 obtain ⟨w1, hw1⟩ : ∃ w1, (((w.alloc (.cells (cv s g c h d) 66)).alloc (.cells (tv3 p q r) 38)).alloc (.cells (fv x k a b) 40)).alloc (.cells zv 66) = w1 := ⟨_, rfl⟩
 rw [hw1] at b1 b2 b3 b4 bw
 have B1 := Lib.hid b1
 have B2 := Lib.hid b2
 have B3 := Lib.hid b3
 have B4 := Lib.hid b4
 have BW := Lib.hid bw
 have HW1 := Lib.hid hw1
 have HWF := Lib.hid hw
 have HW2 := Lib.hid hw2
 have HR := Lib.hid (hr.after hw bw)
 have HLT := Lib.hid (hr.lt hw)
 have ht4 : w.heap.size + 4 ≤ w1.heap.size := by rw [← hw1]; simp only [World.size_alloc]; omega
 have HT4 := Lib.hid ht4
 clear b1 b2 b3 b4 bw hw1 hw hr ht4 hw2
 go_enter Tryz.func45, Tryz.ntmps45
 go_wp2_with (first
  | (change wpList _ _ _ _ _ ((((w.alloc (.cells (cv s g c h d) 66)).alloc (.cells (tv3 p q r) 38)).alloc (.cells (fv x k a b) 40)).alloc (.cells zv 66)); rw [HW1.out]; refine wpList_load_row rfl 66 (.tmp 4) rfl w.heap.size rfl 66 (cv s g c h d) (0, 0) _ B1.out Tryz.underlying66 rfl size_cell ?_)
  | (refine wpList_load_row rfl 38 (.tmp 6) rfl (w.heap.size + 1) rfl 38 (tv3 p q r) (0, 0) _ B2.out Tryz.underlying38 rfl size_three ?_)
  | (refine wpList_load_row rfl 40 (.tmp 7) rfl (w.heap.size + 2) rfl 40 (fv x k a b) (0, 0) _ B3.out Tryz.underlying40 rfl size_fault ?_))
 refine (rce_two s g c h d line p q r true x k a b _ HWF.out HR.out).mono ?_
 rintro e w2 ⟨⟨g', c', h', d', rfl, hr', hgh⟩, hb2⟩
 have B42 := Lib.hid (B4.out.after hb2)
 have BW2 := Lib.hid (BW.out.trans (hb2.mono BW.out.size))
 have HR2 := Lib.hid hr'
 have HGH := Lib.hid hgh
 obtain ⟨s2, hs2⟩ : ∃ s2, twoSt s line p q r true k a b = s2 := ⟨_, rfl⟩
 obtain ⟨ec, hec⟩ : ∃ ec, twoC s line p q r true k = ec := ⟨_, rfl⟩
 have HS2 := Lib.hid hs2
 have HEC := Lib.hid hec
 rw [hs2] at HR2 HW2
 rw [hs2, hec]
 clear hb2 hr' hgh hs2 hec
 go_wp2_with (refine wpList_store_row rfl 66 (.tmp 8) (.tmp 15) rfl (w.heap.size + 3) (cv s2 g' c' h' d') rfl rfl 66 zv B42.out size_cell rfl (cv_one _ _ _ _ _) ?_)
 have hG := HGH.out
 have hL := HLT.out
 have hT := HT4.out
 rw [HS2.out, HEC.out]
 exact bodyPost_ret (results_cell_tmp rfl _ _ (w.heap.size + 3) 66 (cv s2 g' c' h' d') _ rfl (B42.out.put _) Tryz.underlying66 rfl size_cell) rfl ⟨⟨g', c', h', d', rfl, HR2.out.keep (setRow_heap_ne _ _ _ _ (by omega)) (setRow_heap_ne _ _ _ _ (by omega)), hG.elim Or.inl (fun h1 => Or.inr ⟨by omega, by omega⟩)⟩, below_put (by omega) _ BW2.out⟩
end Go.Proofs.YtalefbmoebobkaaGreatDoor
/- Lists of faults, sorted by their first number so that those of one number keep their order: what it is, that there is one, what an exchange of neighbours does. No program in this text. -/
namespace Go.Proofs.YtalefbmoebobkaaGreatDoor
set_option maxRecDepth 100000
open Go.Sort
abbrev Fa := Int × Int × Int × Int
def Srt (l : List Fa) : Prop := l.Pairwise fun x y => x.1 ≤ y.1
def StbF (l l' : List Fa) : Prop := ∀ v : Int, l.filter (fun x => x.1 == v) = l'.filter (fun x => x.1 == v)
theorem StbF.refl (l : List Fa) : StbF l l := fun _ => rfl
theorem StbF.symm {l l' : List Fa} (h : StbF l l') : StbF l' l := fun v => (h v).symm
theorem StbF.trans {a b c : List Fa} (h : StbF a b) (k : StbF b c) : StbF a c := fun v => (h v).trans (k v)
theorem StbF.app {a a' b b' : List Fa} (h : StbF a a') (k : StbF b b') : StbF (a ++ b) (a' ++ b') := fun v => by rw [List.filter_append, List.filter_append, h v, k v]
theorem StbF.mem {a b : List Fa} (h : StbF a b) {x : Fa} (hx : x ∈ a) : x ∈ b := by
 have h1 : x ∈ a.filter (fun y => y.1 == x.1) := List.mem_filter.2 ⟨hx, by simp⟩
 rw [h x.1] at h1
 exact (List.mem_filter.1 h1).1
theorem filter_none {l : List Fa} {v : Int} (h : ∀ x ∈ l, x.1 ≠ v) : l.filter (fun x => x.1 == v) = [] := by
 rw [List.filter_eq_nil_iff]
 intro x hx
 simpa using h x hx
theorem StbF.swap {X Y : List Fa} (h : ∀ x ∈ X, ∀ y ∈ Y, x.1 ≠ y.1) : StbF (X ++ Y) (Y ++ X) := by
 intro v
 rw [List.filter_append, List.filter_append]
 by_cases hx : ∃ x ∈ X, x.1 = v
 ·obtain ⟨x, hx, rfl⟩ := hx
  rw [filter_none (l := Y) (fun y hy => (h x hx y hy).symm)]
  simp
 ·rw [filter_none (l := X) (fun x hx' e => hx ⟨x, hx', e⟩)]
  simp
theorem StbF.cancel {A X X' B : List Fa} (h : StbF (A ++ X ++ B) (A ++ X' ++ B)) : StbF X X' := by
 intro v
 have := h v
 simp only [List.filter_append] at this
 exact List.append_cancel_left (List.append_cancel_right this)
theorem Srt.app {X Y : List Fa} (h : Srt X) (k : Srt Y) (hxy : ∀ x ∈ X, ∀ y ∈ Y, x.1 ≤ y.1) : Srt (X ++ Y) := List.pairwise_append.2 ⟨h, k, hxy⟩
theorem Srt.left {X Y : List Fa} (h : Srt (X ++ Y)) : Srt X := (List.pairwise_append.1 h).1
theorem Srt.right {X Y : List Fa} (h : Srt (X ++ Y)) : Srt Y := (List.pairwise_append.1 h).2.1
theorem Srt.cross {X Y : List Fa} (h : Srt (X ++ Y)) : ∀ x ∈ X, ∀ y ∈ Y, x.1 ≤ y.1 := (List.pairwise_append.1 h).2.2
theorem merge_parts {X1 X2 Y1 Y2 Z1 Z2 : List Fa} (hX : Srt (X1 ++ X2)) (hY : Srt (Y1 ++ Y2)) (h21 : ∀ y ∈ Y1, ∀ x ∈ X2, y.1 < x.1) (h12 : ∀ x ∈ X1, ∀ y ∈ Y2, x.1 ≤ y.1)
  (hZ1 : Srt Z1) (s1 : StbF (X1 ++ Y1) Z1) (hZ2 : Srt Z2) (s2 : StbF (X2 ++ Y2) Z2) : Srt (Z1 ++ Z2) ∧ StbF (X1 ++ X2 ++ (Y1 ++ Y2)) (Z1 ++ Z2) := by
 refine ⟨hZ1.app hZ2 ?_, ?_⟩
 ·intro x hx y hy
  have hx' := s1.symm.mem hx
  have hy' := s2.symm.mem hy
  rcases List.mem_append.1 hx' with ax | ax <;> rcases List.mem_append.1 hy' with ay | ay
  ·exact hX.cross x ax y ay
  ·exact h12 x ax y ay
  ·exact Int.le_of_lt (h21 x ax y ay)
  ·exact hY.cross x ax y ay
 ·have e : StbF (X1 ++ X2 ++ (Y1 ++ Y2)) (X1 ++ Y1 ++ (X2 ++ Y2)) := by
   have h := StbF.swap (X := X2) (Y := Y1) fun x hx y hy e => by have := h21 y hy x hx; omega
   have h2 := ((StbF.refl X1).app h).app (StbF.refl Y2)
   simpa [List.append_assoc] using h2
  exact e.trans (s1.app s2)
/-! ### exchanges, as lists -/
theorem arr_at {d : Array Fa} {P Q : List Fa} {x : Fa} (h : d.toList = P ++ x :: Q) : d[P.length]! = x := by
 rw [getElem!_def, ← Array.getElem?_toList, h]
 simp
theorem arr_size {d : Array Fa} {P : List Fa} (h : d.toList = P) : d.size = P.length := by rw [← h]; simp
theorem swp_list {d : Array Fa} {P Q R : List Fa} {x y : Fa} {i j : Nat} (h : d.toList = P ++ x :: (Q ++ y :: R)) (hi : i = P.length) (hj : j = P.length + 1 + Q.length) :
  (swp d i j).toList = P ++ y :: (Q ++ x :: R) := by
 subst hi hj
 have e1 : d[P.length]! = x := arr_at h
 have e2 : d[P.length + 1 + Q.length]! = y := by
  have h2 : d.toList = (P ++ x :: Q) ++ y :: R := by rw [h]; simp
  have := arr_at h2
  simpa [Nat.add_comm, Nat.add_left_comm, Nat.add_assoc] using this
 unfold swp
 rw [e1, e2, Array.toList_setIfInBounds, Array.toList_setIfInBounds, h]
 have a : (P ++ x :: (Q ++ y :: R)).set P.length y = P ++ y :: (Q ++ y :: R) := by simp
 rw [a]
 have b : (P ++ y :: (Q ++ y :: R)).set (P.length + 1 + Q.length) x = P ++ y :: (Q ++ x :: R) := by
  rw [List.set_append_right _ _ (by omega), show P.length + 1 + Q.length - P.length = Q.length + 1 by omega, List.set_cons_succ, List.set_append_right _ _ (by omega)]
  simp
 rw [b]
theorem swp_comm (d : Array Fa) (i j : Nat) (hi : i < d.size) (hj : j < d.size) (hn : i ≠ j) : swp d i j = swp d j i := by
 apply Array.ext
 ·simp [size_swp]
 ·intro k h1 h2
  have a := swp_get d hi hj k
  have b := swp_get d hj hi k
  rw [getElem!_pos (swp d i j) k h1] at a
  rw [getElem!_pos (swp d j i) k h2] at b
  rw [a, b]
  by_cases e1 : k = j <;> by_cases e2 : k = i <;> simp [e1, e2] <;> simp_all
def swr (d : Array Fa) (a b : Nat) : Nat → Array Fa
 | 0 => d
 | n + 1 => swp (swr d a b n) (a + n) (b + n)
theorem size_swr (d : Array Fa) (a b : Nat) : ∀ n, (swr d a b n).size = d.size
 | 0 => rfl
 | n + 1 => by rw [swr, size_swp, size_swr d a b n]
theorem swr_list {d : Array Fa} {A X M Y B : List Fa} (h : d.toList = A ++ X ++ M ++ Y ++ B) (hl : X.length = Y.length) :
  ∀ k, k ≤ X.length → (swr d A.length (A.length + X.length + M.length) k).toList = A ++ Y.take k ++ X.drop k ++ M ++ X.take k ++ Y.drop k ++ B
 | 0, _ => by simpa [swr] using h
 | k + 1, hk => by
  have ih := swr_list h hl k (by omega)
  obtain ⟨x, hx⟩ : ∃ x, X[k]? = some x := ⟨X[k], by rw [List.getElem?_eq_getElem]⟩
  obtain ⟨y, hy⟩ : ∃ y, Y[k]? = some y := ⟨Y[k]'(by omega), by rw [List.getElem?_eq_getElem]⟩
  obtain ⟨hk1, hx1⟩ := List.getElem?_eq_some_iff.1 hx
  obtain ⟨hk2, hy1⟩ := List.getElem?_eq_some_iff.1 hy
  have ex : X.drop k = x :: X.drop (k + 1) := by rw [List.drop_eq_getElem_cons hk1, hx1]
  have ey : Y.drop k = y :: Y.drop (k + 1) := by rw [List.drop_eq_getElem_cons hk2, hy1]
  have tx : X.take (k + 1) = X.take k ++ [x] := by rw [List.take_add_one, hx]; rfl
  have ty : Y.take (k + 1) = Y.take k ++ [y] := by rw [List.take_add_one, hy]; rfl
  have h1 : (swr d A.length (A.length + X.length + M.length) k).toList = (A ++ Y.take k) ++ x :: ((X.drop (k + 1) ++ M ++ X.take k) ++ y :: (Y.drop (k + 1) ++ B)) := by
   rw [ih, ex, ey]; simp
  rw [swr, swp_list h1 (by simp; omega) (by simp; omega), tx, ty]
  simp
theorem swr_all {d : Array Fa} {A X M Y B : List Fa} {a b n : Nat} (h : d.toList = A ++ X ++ M ++ Y ++ B) (ha : a = A.length) (hb : b = A.length + X.length + M.length) (hn : n = X.length) (hl : X.length = Y.length) :
  (swr d a b n).toList = A ++ Y ++ M ++ X ++ B := by
 subst ha hb hn
 rw [swr_list h hl _ (Nat.le_refl _), hl, List.take_length, List.drop_length, ← hl, List.take_length, List.drop_length]
 simp
/-! ### the insertion sort -/
def cfF (x y : Fa) : Int := Lib.compareInt x.1 y.1
theorem ltF (x y : Fa) : Go.Proofs.ltOf cfF x y = decide (x.1 < y.1) := by
 unfold Go.Proofs.ltOf cfF Lib.compareInt
 by_cases h1 : x.1 < y.1
 ·simp [h1]
 ·by_cases h2 : y.1 < x.1 <;> simp [h1, h2]
theorem swoF : SWO (Go.Proofs.ltOf cfF) where
 irrefl x := by rw [ltF]; simp
 trans x y z h1 h2 := by rw [ltF] at *; simp at *; omega
 ntrans x y z h1 h2 := by rw [ltF] at *; simp at *; omega
theorem StbF.swp_next (d : Array Fa) (j : Nat) (hj : j + 1 < d.size) (hl : d[j + 1]!.1 < d[j]!.1) : StbF d.toList (swp d (j + 1) j).toList := by
 have hn : j + 1 < d.toList.length := by simpa using hj
 have e0 : d.toList = d.toList.take j ++ d.toList[j] :: ([] ++ d.toList[j + 1] :: d.toList.drop (j + 2)) := by
  rw [List.nil_append, ← List.drop_eq_getElem_cons hn, ← List.drop_eq_getElem_cons (by omega), List.take_append_drop]
 have l0 : (d.toList.take j).length = j := by rw [List.length_take]; omega
 have e1 := swp_list (i := j) (j := j + 1) e0 l0.symm (by rw [l0]; rfl)
 rw [swp_comm d (j + 1) j hj (by omega) (by omega), e1]
 have g1 : d[j + 1]! = d.toList[j + 1] := by rw [getElem!_pos d (j + 1) hj]; simp
 have g0 : d[j]! = d.toList[j] := by rw [getElem!_pos d j (by omega)]; simp
 rw [g0, g1] at hl
 generalize d.toList[j + 1] = u at hl e0 ⊢
 generalize d.toList[j] = v at hl e0 ⊢
 have h2 := ((StbF.refl (d.toList.take j)).app (StbF.swap (X := [v]) (Y := [u]) (fun x hx y hy => by simp at hx hy; subst hx hy; omega))).app (StbF.refl (d.toList.drop (j + 2)))
 have e2 : d.toList = d.toList.take j ++ ([v] ++ [u]) ++ d.toList.drop (j + 2) := e0.trans (by simp)
 rw [← e2] at h2
 refine h2.trans ?_
 simp [StbF.refl]
theorem StbF.insInner (a : Nat) : ∀ (j : Nat) (d : Array Fa), j < d.size → StbF d.toList (insInner (Go.Proofs.ltOf cfF) a j d).toList ∧ (insInner (Go.Proofs.ltOf cfF) a j d).size = d.size
 | 0, d, _ => ⟨StbF.refl _, rfl⟩
 | j + 1, d, hj => by
  rw [Go.Sort.insInner]
  split
  ·rename_i h
   have hl : d[j + 1]!.1 < d[j]!.1 := by
    have := (Bool.and_eq_true _ _ ▸ h).2
    rw [ltF] at this
    simpa using this
   have ih := StbF.insInner a j (swp d (j + 1) j) (by rw [size_swp]; omega)
   exact ⟨(StbF.swp_next d j hj hl).trans ih.1, by rw [ih.2, size_swp]⟩
  ·exact ⟨StbF.refl _, rfl⟩
theorem StbF.insOuter (a b : Nat) : ∀ (n i : Nat) (d : Array Fa), b - i ≤ n → b ≤ d.size → StbF d.toList (insOuter (Go.Proofs.ltOf cfF) a b i d).toList
 | 0, i, d, h, hb => by rw [insOuter_stop _ _ _ _ _ (by omega)]; exact StbF.refl _
 | n + 1, i, d, h, hb => by
  by_cases hi : i < b
  ·have k := StbF.insInner a i d (by omega)
   rw [insOuter_go _ _ _ _ _ hi]
   exact k.1.trans (StbF.insOuter a b n (i + 1) _ (by omega) (by rw [k.2]; exact hb))
  ·rw [insOuter_stop _ _ _ _ _ hi]; exact StbF.refl _
theorem split3 (l : List Fa) (a b : Nat) : l = l.take a ++ (l.drop a).take b ++ l.drop (a + b) := by
 rw [List.append_assoc, ← List.drop_drop, List.take_append_drop, List.take_append_drop]
theorem ins_list {d : Array Fa} {A X B : List Fa} {a b : Nat} (h : d.toList = A ++ X ++ B) (ha : a = A.length) (hb : b = A.length + X.length) :
  ∃ X', (insertionSort (Go.Proofs.ltOf cfF) d a b).toList = A ++ X' ++ B ∧ X'.length = X.length ∧ Srt X' ∧ StbF X X' := by
 subst ha hb
 have hs : d.size = A.length + X.length + B.length := by rw [arr_size h]; simp; omega
 have hk := insertionSort_holds (lt := Go.Proofs.ltOf cfF) swoF d A.length (A.length + X.length) (by omega) (by omega)
 have hst : StbF d.toList (insertionSort (Go.Proofs.ltOf cfF) d A.length (A.length + X.length)).toList := StbF.insOuter _ _ _ _ d (Nat.le_refl _) (by omega)
 obtain ⟨⟨hz, hout, _⟩, hsrt⟩ := hk
 generalize insertionSort (Go.Proofs.ltOf cfF) d A.length (A.length + X.length) = d' at hz hout hsrt hst
 have hlen : d'.toList.length = A.length + X.length + B.length := by simp; omega
 have out : ∀ i, i < A.length ∨ A.length + X.length ≤ i → d'.toList[i]? = d.toList[i]? := by
  intro i hi
  have h1 := hout i hi
  rcases Nat.lt_or_ge i d.size with h2 | h2
  ·rw [getElem!_pos d' i (by omega), getElem!_pos d i h2] at h1
   rw [Array.getElem?_toList, Array.getElem?_toList, Array.getElem?_eq_getElem (by omega), Array.getElem?_eq_getElem h2, h1]
  ·rw [List.getElem?_eq_none (by simp; omega), List.getElem?_eq_none (by simp; omega)]
 have eA : d'.toList.take A.length = A := by
  apply List.ext_getElem?
  intro i
  rcases Nat.lt_or_ge i A.length with h1 | h1
  ·rw [List.getElem?_take_of_lt h1, out i (Or.inl h1), h, List.append_assoc, List.getElem?_append_left h1]
  ·rw [List.getElem?_eq_none (by simp; omega), List.getElem?_eq_none h1]
 have eB : d'.toList.drop (A.length + X.length) = B := by
  apply List.ext_getElem?
  intro i
  rw [List.getElem?_drop, out _ (Or.inr (by omega)), h, List.getElem?_append_right (by simp)]
  congr 1
  simp
 have e3 := split3 d'.toList A.length X.length
 rw [eA, eB] at e3
 refine ⟨_, e3, ?_, ?_, ?_⟩
 ·rw [List.length_take, List.length_drop]; omega
 ·refine List.pairwise_iff_getElem.2 ?_
  intro i j hi hj hij
  have hj' : j < X.length := by rw [List.length_take] at hj; omega
  have h1 := hsrt (A.length + i) (A.length + j) (by omega) (by omega) (by omega)
  rw [ltF] at h1
  have g : ∀ t (ht : t < X.length), d'[A.length + t]! = (d'.toList[A.length + t]'(by omega)) := fun t ht => by rw [getElem!_pos d' (A.length + t) (by omega)]; simp
  rw [g i (by omega), g j hj'] at h1
  simp only [List.getElem_take, List.getElem_drop]
  simp only [decide_eq_false_iff_not] at h1
  exact Int.not_lt.1 h1
 ·rw [h, e3] at hst
  exact hst.cancel
end Go.Proofs.YtalefbmoebobkaaGreatDoor
/- Contracts of package bits, as far as later layers lean on them: Zeros, Flip. -/
namespace Go.Proofs.YtalefbmoebobkaaGreatDoor
set_option maxRecDepth 100000
open Go.RowKit
theorem flip_yes (s : ByteArray) (i j : Nat) (w : World) (hm : s.size ≤ 1000) (hi : i < s.size) (hj : j < 8) :
  Calls Tryz.prog 78 #[.string s, .int .i64 (8 * (i : Int) + j)] w fun e w' => e = .returned (.tuple #[.string (flipS s i j), .int .i64 0]) ∧ Below w.heap.size w w' := by
 have hq : (8 * (i : Int) + j) / 8 = i := by omega
 have hr : (8 * (i : Int) + j) % 8 = j := by omega
 obtain ⟨cap, W1, hcv, hb1, hcs, hfz, _⟩ := bytes_of (P := Tryz.prog) (src := 9) (dst := 112) (e := 5) Tryz.underlying9 Tryz.underlying112 Tryz.underlying5 s w
 obtain ⟨c, hcc⟩ : ∃ c, (nums s).getD i 0 = c := ⟨_, rfl⟩
 have hc := hcs i (by rw [nums_length]; exact hi)
 rw [hcc] at hc
 have hf := hfz i hi
 have hcb := fun x : Int => (BytesAt.drew (hcs.set i x)).conv (P := Tryz.prog) (src := 112) (e := 5) (dst := 9) Tryz.underlying112 Tryz.underlying5 Tryz.underlying9 s.size cap (len_set _ _ _ _ (nums_length s))
 have HC := Lib.hid hcc
 have HB := Lib.hid hb1
 clear hcs hfz hcc hb1
 go_enter Tryz.func78, Tryz.ntmps78
 go_wp2
 go_region
 go_wp2
 go_ret2
 exact ⟨ret_str (by unfold flipS; rw [HC.out]), (HB.out.setCell (Nat.le_refl _) _).drew⟩
/- Geometries: what the document asks of Check, Snaps, Most, Raw, Bound, Spread, Number, At, and what follows from it. -/
def gv (b l y n s r : Int) : Array Value := #[.int .i64 b, .int .i64 l, .int .i64 y, .int .i64 n, .int .i64 s, .int .i64 r]
def av (x z p : Int) : Array Value := #[.int .i64 x, .int .i64 z, .int .i64 p]
def mostG (b l s : Int) : Int := 3 * l * (b - s - 6) / 2
def snapsG (b y n : Int) : Int := (6 * n + 10 * b + (y - 1)) / y
def PreG (b l y n s r : Int) : Prop := 8 ≤ b ∧ b ≤ 64 ∧ 6 ≤ l ∧ l ≤ 64 ∧ 16 ≤ y ∧ y ≤ 256 ∧ y % 8 = 0 ∧ 0 ≤ s ∧ s ≤ 16 ∧ s ≤ b - 8 ∧ 2 ≤ r ∧ r ≤ 1000 ∧ 1 ≤ n ∧ n ≤ 4096
def OkG (b l y n s r : Int) : Prop := PreG b l y n s r ∧ n ≤ mostG b l s ∧ snapsG b y n ≤ l - 4
instance (b l y n s r : Int) : Decidable (PreG b l y n s r) := by unfold PreG; infer_instance
instance (b l y n s r : Int) : Decidable (OkG b l y n s r) := by unfold OkG; infer_instance
def chkG (b l y n s r : Int) : Int := if OkG b l y n s r then 0 else 60
def HasG (b l x z p : Int) : Prop := 0 ≤ x ∧ x < b ∧ 0 ≤ z ∧ z < l ∧ 0 ≤ p ∧ p < 3
instance (b l x z p : Int) : Decidable (HasG b l x z p) := by unfold HasG; infer_instance
theorem mul_bd {a c A C : Int} (h0 : 0 ≤ a) (h1 : a ≤ A) (h2 : 0 ≤ c) (h3 : c ≤ C) : 0 ≤ a * c ∧ a * c ≤ A * C :=
 ⟨Int.mul_nonneg h0 h2, Int.mul_le_mul h1 h3 h2 (by omega)⟩
theorem pre_most {b l y n s r : Int} (h : PreG b l y n s r) : 0 ≤ 3 * l * (b - s - 6) ∧ 3 * l * (b - s - 6) ≤ 12000 := by
 obtain ⟨h1, h2, h3, h4, h5, h6, h7, h8, h9, h10, h11, h12, h13, h14⟩ := h
 have := mul_bd (a := 3 * l) (c := b - s - 6) (A := 192) (C := 58) (by omega) (by omega) (by omega) (by omega)
 omega
theorem snaps_iff {b y n : Int} (hy : 1 ≤ y) (k : Int) : k * y < 6 * n + 10 * b ↔ k < snapsG b y n := by
 unfold snapsG
 constructor
 ·intro h
  have : k + 1 ≤ (6 * n + 10 * b + (y - 1)) / y := by
   rw [Int.le_ediv_iff_mul_le (by omega), Int.add_mul]
   omega
  omega
 ·intro h
  have h2 : k + 1 ≤ (6 * n + 10 * b + (y - 1)) / y := by omega
  rw [Int.le_ediv_iff_mul_le (by omega), Int.add_mul] at h2
  omega
theorem snaps_bd {b l y n s r : Int} (h : PreG b l y n s r) : 1 ≤ snapsG b y n ∧ snapsG b y n ≤ 1600 := by
 obtain ⟨h1, h2, h3, h4, h5, h6, h7, h8, h9, h10, h11, h12, h13, h14⟩ := h
 constructor
 ·have := (snaps_iff (b := b) (y := y) (n := n) (by omega) 0).1 (by omega)
  omega
 ·have h : ¬ 1600 < snapsG b y n := by
   intro hc
   have := (snaps_iff (b := b) (y := y) (n := n) (by omega) 1600).2 hc
   omega
  omega
/- Layer 8: what is read of a state that was turned. -/
theorem put_page (s : St) (i j : Nat) (p : ByteArray) (h : Bool) (hi : i < s.ps.length) : pageAt (putSt s i p h) j = if j = i then p else pageAt s j := by
 unfold pageAt putSt
 simp only [List.getD_eq_getElem?_getD, List.getElem?_set]
 by_cases e : i = j
 ·subst e; rw [if_pos rfl, if_pos hi, if_pos rfl]; rfl
 ·rw [if_neg e, if_neg (Ne.symm e)]
theorem put_mark (s : St) (i j : Nat) (p : ByteArray) (h : Bool) (hi : i < s.hs.length) : (putSt s i p h).hs.getD j false = if j = i then h else s.hs.getD j false := by
 unfold putSt
 simp only [List.getD_eq_getElem?_getD, List.getElem?_set]
 by_cases e : i = j
 ·subst e; rw [if_pos rfl, if_pos hi, if_pos rfl]; rfl
 ·rw [if_neg e, if_neg (Ne.symm e)]
theorem ruin_lens (s t : St) (a b k : Int) : ∀ n, (ruinTo s t a b k n).ps.length = t.ps.length ∧ (ruinTo s t a b k n).hs.length = t.hs.length
 | 0 => ⟨rfl, rfl⟩
 | n + 1 => by
  have h := ruin_lens s t a b k n
  constructor
  ·simp [ruinTo, putSt, h.1]
  ·simp [ruinTo, putSt, h.2]
theorem ruin_page (s t : St) (a b k : Int) (j : Nat) : ∀ n, n ≤ t.ps.length → n ≤ t.hs.length → j < n → pageAt (ruinTo s t a b k n) j = ruinT s a b k j ∧ (ruinTo s t a b k n).hs.getD j false = true
 | 0, _, _, h => absurd h (Nat.not_lt_zero _)
 | n + 1, h1, h2, h => by
  have hl := ruin_lens s t a b k n
  have e1 := put_page (ruinTo s t a b k n) n j (ruinT s a b k n) true (by rw [hl.1]; omega)
  have e2 := put_mark (ruinTo s t a b k n) n j (ruinT s a b k n) true (by rw [hl.2]; omega)
  show pageAt (putSt _ _ _ _) j = _ ∧ (putSt _ _ _ _).hs.getD j false = true
  rw [e1, e2]
  by_cases e : j = n
  ·subst e; rw [if_pos rfl, if_pos rfl]; exact ⟨rfl, rfl⟩
  ·rw [if_neg e, if_neg e]; exact ruin_page s t a b k j n (by omega) (by omega) (by omega)
theorem end_same (s : St) (k : Int) : (endSt s k).L = s.L ∧ (endSt s k).Y = s.Y ∧ (endSt s k).mode = s.mode ∧ (endSt s k).done = s.done := by
 unfold endSt
 split
 ·exact ⟨rfl, rfl, rfl, rfl⟩
 ·split <;> exact ⟨rfl, rfl, rfl, rfl⟩
theorem full_of_size {p : ByteArray} {n : Nat} (h : p.size = n + 1) : ¬ p = ByteArray.empty := fun he => by rw [he] at h; exact absurd h (by simp)
theorem newSt_ok {l y : Nat} (h1 : 1 ≤ l) (h2 : l ≤ 64) (h3 : LenOk y) : WfSt (newSt l y) := by
 refine ⟨h1, h2, h3, Nat.zero_le _, by simp [newSt], by simp [newSt], fun j => ?_, Or.inl rfl, Nat.zero_le _, Nat.zero_le _⟩
 simp only [newSt, List.getD_eq_getElem?_getD, List.getElem?_replicate]
 split <;> simp
/- Layer 8, the code: its lines, and what they have to do with what the document asks. -/
structure Ln where
 p : ByteArray
 q : ByteArray
 r : ByteArray
 h : Bool
def Ln.pt (l : Ln) : Nat → ByteArray
 | 0 => l.p
 | 1 => l.q
 | _ => l.r
def l0 : Ln := ⟨ByteArray.empty, ByteArray.empty, ByteArray.empty, false⟩
def lnAt (ls : List Ln) (i : Nat) : Ln := ls.getD i l0
def hurtL (l : Ln) (a b : Int) : Ln := if l.h = true then l else ⟨hurtT l.p a b, hurtT l.q a b, hurtT l.r a b, true⟩
def stepL (p q r : ByteArray) (k a b : Int) : Ln := if hurtsB k = true then ⟨hurtT p a b, hurtT q a b, hurtT r a b, true⟩ else ⟨p, q, r, false⟩
def lnTold (s : St) (ls : List Ln) (i : Nat) : Ln := if isFog s (3 * i) = true then hurtL (lnAt ls i) 0 0 else lnAt ls i
def lieT (s : St) (j : Nat) : ByteArray := if pageAt s j = ByteArray.empty then blankS s.Y else pageAt s j
structure AbsC (s : St) (ls : List Ln) : Prop where
 len : ls.length = s.L
 size : ∀ i t, ((lnAt ls i).pt t).size ≤ 400
 one : ∀ i, i < s.L → (lnAt ls i).p = lieT s (3 * i) ∧ (lnAt ls i).h = s.hs.getD (3 * i) false
 all : s.mode ≠ 1 → ∀ i t, i < s.L → t < 3 → (lnAt ls i).pt t = lieT s (3 * i + t) ∧ (lnAt ls i).h = s.hs.getD (3 * i + t) false
 full : ∀ j, s.hs.getD j false = true → ¬ pageAt s j = ByteArray.empty
 zero : s.mode = 0 → s.done = 0
 fog : s.mode = 2 → ∀ i t, i < s.L → t < 3 → afterC s.L s.done i = 1 → ¬ pageAt s (3 * i + t) = ByteArray.empty
theorem fog_at (s : St) (i t : Nat) (ht : t < 3) : isFog s (3 * i + t) = isFog s (3 * i) := by
 unfold isFog
 rw [show (3 * i + t) / 3 = i by omega, show 3 * i / 3 = i by omega]
theorem hurtL_pt (l : Ln) (a b : Int) (t : Nat) : (hurtL l a b).pt t = if l.h = true then l.pt t else hurtT (l.pt t) a b := by
 unfold hurtL
 split
 ·rfl
 ·match t with
  | 0 => rfl
  | 1 => rfl
  | _ + 2 => rfl
theorem hurtL_h (l : Ln) (a b : Int) : (hurtL l a b).h = true := by
 unfold hurtL
 split
 ·assumption
 ·rfl
theorem stepL_pt (p q r : ByteArray) (k a b : Int) : (stepL p q r k a b).p = pageT p k a b ∧ (stepL p q r k a b).q = pageT q k a b ∧ (stepL p q r k a b).r = pageT r k a b ∧ (stepL p q r k a b).h = hurtsB k := by
 unfold stepL pageT
 split
 ·rename_i h; exact ⟨rfl, rfl, rfl, h.symm⟩
 ·rename_i h; exact ⟨rfl, rfl, rfl, by simpa using h⟩
theorem lnAt_set (ls : List Ln) (i j : Nat) (l : Ln) (hi : i < ls.length) : lnAt (ls.set i l) j = if j = i then l else lnAt ls j := by
 unfold lnAt
 simp only [List.getD_eq_getElem?_getD, List.getElem?_set]
 by_cases e : i = j
 ·subst e; rw [if_pos rfl, if_pos hi, if_pos rfl]; rfl
 ·rw [if_neg e, if_neg (Ne.symm e)]
theorem fullT {s : St} {p : ByteArray} (h : takesB s p = true) (k a b : Int) : ¬ pageT p k a b = ByteArray.empty := by
 intro he
 have h1 := pageT_size p k a b
 unfold takesB at h
 simp at h
 rw [he, h] at h1
 have : (ByteArray.empty).size = 0 := rfl
 unfold rawOf at h1
 omega
theorem AbsC.same {s t : St} {ls : List Ln} (h : AbsC s ls) (h1 : t.L = s.L) (h2 : t.Y = s.Y) (h3 : t.mode = s.mode) (h4 : t.done = s.done) (h5 : t.ps = s.ps) (h6 : t.hs = s.hs) : AbsC t ls := by
 obtain ⟨L, Y, mode, done, bad, torn, slc, tlc, ps, hs⟩ := s
 obtain ⟨L', Y', mode', done', bad', torn', slc', tlc', ps', hs'⟩ := t
 simp only at h1 h2 h3 h4 h5 h6
 subst h1 h2 h3 h4 h5 h6
 obtain ⟨a1, a2, a3, a4, a5, a6, a7⟩ := h
 exact ⟨a1, a2, a3, a4, a5, a6, a7⟩
theorem AbsC.ended {s : St} {ls : List Ln} (h : AbsC s ls) (k : Int) : AbsC (endSt s k) ls := by
 have e1 := end_same s k
 have e2 := endSt_ps s k
 exact h.same e1.1 e1.2.1 e1.2.2.1 e1.2.2.2 e2.1 e2.2
theorem AbsC.fresh {s : St} (hw : WfSt s) (h0 : s.mode = 0) (hd : s.done = 0) (hp : ∀ j, pageAt s j = ByteArray.empty) (hh : ∀ j, s.hs.getD j false = false) :
  AbsC s (List.replicate s.L ⟨blankS s.Y, blankS s.Y, blankS s.Y, false⟩) := by
 have hbl : (blankS s.Y).size ≤ 400 := by rw [blankS_size]; obtain ⟨h1, h2, h3⟩ := hw.y; omega
 have hl : ∀ i, i < s.L → lnAt (List.replicate s.L ⟨blankS s.Y, blankS s.Y, blankS s.Y, false⟩) i = ⟨blankS s.Y, blankS s.Y, blankS s.Y, false⟩ := by
  intro i hi
  unfold lnAt
  rw [List.getD_eq_getElem?_getD, List.getElem?_replicate, if_pos hi]; rfl
 refine ⟨by simp, fun i t => ?_, fun i hi => ?_, fun _ i t hi ht => ?_, fun j hj => ?_, fun _ => hd, fun h2 => ?_⟩
 ·by_cases hi : i < s.L
  ·rw [hl i hi]
   match t with
   | 0 => exact hbl
   | 1 => exact hbl
   | _ + 2 => exact hbl
  ·unfold lnAt
   rw [List.getD_eq_getElem?_getD, List.getElem?_replicate, if_neg hi]
   match t with
   | 0 => exact Nat.zero_le _
   | 1 => exact Nat.zero_le _
   | _ + 2 => exact Nat.zero_le _
 ·rw [hl i hi, hh]
  unfold lieT
  rw [if_pos (hp _)]
  exact ⟨rfl, rfl⟩
 ·rw [hl i hi, hh]
  unfold lieT
  rw [if_pos (hp _)]
  refine ⟨?_, rfl⟩
  match t with
  | 0 => rfl
  | 1 => rfl
  | _ + 2 => rfl
 ·rw [hh] at hj; cases hj
 ·rw [h0] at h2; cases h2
theorem AbsC.read1 {s : St} {ls : List Ln} (h : AbsC s ls) (i t : Nat) (hi : i < s.L) (ht : t < 3) (hm : s.mode ≠ 1 ∨ t = 0) : (lnTold s ls i).pt t = atT s (3 * i + t) ∧ (lnTold s ls i).h = atH s (3 * i + t) := by
 have hb : (lnAt ls i).pt t = lieT s (3 * i + t) ∧ (lnAt ls i).h = s.hs.getD (3 * i + t) false := by
  rcases hm with hm | rfl
  ·exact h.all hm i t hi ht
  ·exact h.one i hi
 have hfull := h.full (3 * i + t)
 have hfog : isFog s (3 * i) = true → ¬ pageAt s (3 * i + t) = ByteArray.empty := by
  intro hf
  unfold isFog at hf
  rw [Bool.and_eq_true, beq_iff_eq, beq_iff_eq, show 3 * i / 3 = i by omega] at hf
  exact h.fog hf.1 i t hi ht hf.2
 unfold lnTold atT atH
 rw [fog_at s i t ht]
 unfold lieT at hb
 by_cases he : pageAt s (3 * i + t) = ByteArray.empty
 ·have hf : isFog s (3 * i) = false := by
   cases hq : isFog s (3 * i)
   ·rfl
   ·exact absurd he (hfog hq)
  have hh : s.hs.getD (3 * i + t) false = false := by
   cases hq : s.hs.getD (3 * i + t) false
   ·rfl
   ·exact absurd he (hfull hq)
  rw [if_pos he] at hb
  rw [hf, if_neg (by simp), if_pos he, if_pos he, hb.1, hb.2, hh]
  exact ⟨rfl, rfl⟩
 ·rw [if_neg he] at hb
  rw [if_neg he, if_neg he]
  cases hh : s.hs.getD (3 * i + t) false with
  | true =>
   rw [hh] at hb
   rw [if_pos rfl, if_pos rfl]
   split
   ·rw [hurtL_pt, if_pos hb.2, hb.1, hurtL_h]; exact ⟨rfl, rfl⟩
   ·exact hb
  | false =>
   rw [hh] at hb
   cases hf : isFog s (3 * i) with
   | true =>
    simp only [Bool.false_eq_true, if_false, if_true]
    rw [hurtL_pt, hb.2, if_neg (by simp), hb.1, hurtL_h]; exact ⟨rfl, rfl⟩
   | false =>
    simp only [Bool.false_eq_true, if_false]
    exact hb
theorem AbsC.prog {s : St} {ls : List Ln} (h : AbsC s ls) (hw : WfSt s) {line : Int} {p : ByteArray} (hok : ProgOk s line p) (k a b : Int) :
  AbsC (progSt s line p k a b) (ls.set line.toNat (stepL p ByteArray.empty ByteArray.empty k a b)) := by
 unfold progSt
 rw [if_pos hok]
 obtain ⟨k1, k2, k3, k4, k5, k6⟩ := hok
 apply AbsC.ended
 obtain ⟨n, hn⟩ : ∃ n, line.toNat = n := ⟨_, rfl⟩
 rw [hn]
 have hnL : n < s.L := by omega
 have hst := stepL_pt p ByteArray.empty ByteArray.empty k a b
 have hps : 3 * n < (stepSt s 1).ps.length := by show 3 * n < s.ps.length; rw [hw.psl]; omega
 have hhs : 3 * n < (stepSt s 1).hs.length := by show 3 * n < s.hs.length; rw [hw.hsl]; omega
 have hpg := fun j => put_page (stepSt s 1) (3 * n) j (pageT p k a b) (hurtsB k) hps
 have hmk := fun j => put_mark (stepSt s 1) (3 * n) j (pageT p k a b) (hurtsB k) hhs
 have hln := fun j => lnAt_set ls n j (stepL p ByteArray.empty ByteArray.empty k a b) (by rw [h.len]; exact hnL)
 have hfl := fullT k6 k a b
 have hsz := takes_size hw k6
 have he0 : ∀ k a b, (pageT ByteArray.empty k a b).size ≤ 400 := fun k a b => by rw [pageT_size]; exact Nat.zero_le _
 refine ⟨by simp [putSt, stepSt, h.len], fun i t => ?_, fun i hi => ?_, fun hm => absurd rfl hm, fun j hj => ?_, fun hm => absurd (show (1 : Int) = 0 from hm) (by decide), fun hm => absurd (show (1 : Int) = 2 from hm) (by decide)⟩
 ·rw [hln]
  split
  ·match t with
   | 0 => show (stepL _ _ _ _ _ _).p.size ≤ 400; rw [hst.1, pageT_size]; exact hsz
   | 1 => show (stepL _ _ _ _ _ _).q.size ≤ 400; rw [hst.2.1]; exact he0 _ _ _
   | _ + 2 => show (stepL _ _ _ _ _ _).r.size ≤ 400; rw [hst.2.2.1]; exact he0 _ _ _
  ·exact h.size i t
 ·have hi2 : i < s.L := hi
  unfold lieT
  rw [hln, hpg, hmk]
  by_cases e : i = n
  ·subst e
   simp only [if_true, hfl, if_false]
   exact ⟨hst.1, hst.2.2.2⟩
  ·have e3 : ¬ 3 * i = 3 * n := by omega
   simp only [e, e3, if_false]
   exact h.one i hi2
 ·rw [hpg]
  rw [hmk] at hj
  split
  ·exact hfl
  ·rename_i e
   rw [if_neg e] at hj
   exact h.full j hj
theorem put3_three (s : St) (i : Nat) (p q r : ByteArray) (k a b : Int) (j : Nat) (h1 : i + 2 < s.ps.length) (h2 : i + 2 < s.hs.length) :
  pageAt (put3 s i p q r k a b 3) j = (if j = i + 2 then pageT r k a b else if j = i + 1 then pageT q k a b else if j = i then pageT p k a b else pageAt s j)
  ∧ (put3 s i p q r k a b 3).hs.getD j false = (if j = i + 2 ∨ j = i + 1 ∨ j = i then hurtsB k else s.hs.getD j false) := by
 show pageAt (putSt (putSt (putSt s i (pageT p k a b) (hurtsB k)) (i + 1) (pageT q k a b) (hurtsB k)) (i + 2) (pageT r k a b) (hurtsB k)) j = _
  ∧ (putSt (putSt (putSt s i (pageT p k a b) (hurtsB k)) (i + 1) (pageT q k a b) (hurtsB k)) (i + 2) (pageT r k a b) (hurtsB k)).hs.getD j false = _
 rw [put_page _ _ _ _ _ (by simp [putSt]; omega), put_page _ _ _ _ _ (by simp [putSt]; omega), put_page _ _ _ _ _ (by omega),
  put_mark _ _ _ _ _ (by simp [putSt]; omega), put_mark _ _ _ _ _ (by simp [putSt]; omega), put_mark _ _ _ _ _ (by omega)]
 refine ⟨rfl, ?_⟩
 by_cases e2 : j = i + 2
 ·rw [if_pos e2, if_pos (Or.inl e2)]
 ·rw [if_neg e2]
  by_cases e1 : j = i + 1
  ·rw [if_pos e1, if_pos (Or.inr (Or.inl e1))]
  ·rw [if_neg e1]
   by_cases e0 : j = i
   ·rw [if_pos e0, if_pos (Or.inr (Or.inr e0))]
   ·rw [if_neg e0, if_neg (by omega)]
theorem AbsC.two {s : St} {ls : List Ln} (h : AbsC s ls) (hw : WfSt s) {line : Int} {p q r : ByteArray} {f : Bool} (hok : TwoOk s line p q r f) (k a b : Int) :
  AbsC (twoSt s line p q r f k a b) (ls.set line.toNat (stepL p q r k a b)) := by
 unfold twoSt
 rw [if_pos hok]
 obtain ⟨k1, k2, k3, k4, k5, k6, k7, k8, k9, k10⟩ := hok
 apply AbsC.ended
 obtain ⟨n, hn⟩ : ∃ n, line.toNat = n := ⟨_, rfl⟩
 rw [hn]
 have hst1 := place_step k4
 have hn1 : (stepC s.L s.done).1 = n := by omega
 have hnL : n < s.L := by omega
 have hst := stepL_pt p q r k a b
 have hps : 3 * n + 2 < (stepSt s 2).ps.length := by show 3 * n + 2 < s.ps.length; rw [hw.psl]; omega
 have hhs : 3 * n + 2 < (stepSt s 2).hs.length := by show 3 * n + 2 < s.hs.length; rw [hw.hsl]; omega
 have hpt := fun j => put3_three (stepSt s 2) (3 * n) p q r k a b j hps hhs
 obtain ⟨S, hS⟩ : ∃ S, put3 (stepSt s 2) (3 * n) p q r k a b 3 = S := ⟨_, rfl⟩
 have hSf : S.L = s.L ∧ S.Y = s.Y ∧ S.mode = 2 ∧ S.done = s.done + 1 := by rw [← hS]; exact ⟨rfl, rfl, rfl, rfl⟩
 rw [hS] at hpt ⊢
 have hln := fun j => lnAt_set ls n j (stepL p q r k a b) (by rw [h.len]; exact hnL)
 have f7 := fullT k7 k a b
 have f8 := fullT k8 k a b
 have f9 := fullT k9 k a b
 have s7 := takes_size hw k7
 have s8 := takes_size hw k8
 have s9 := takes_size hw k9
 have hps0 : ∀ j, pageAt (stepSt s 2) j = pageAt s j := fun _ => rfl
 have hhs0 : ∀ j, (stepSt s 2).hs.getD j false = s.hs.getD j false := fun _ => rfl
 have hall : ∀ i t, i < s.L → t < 3 → (lnAt (ls.set n (stepL p q r k a b)) i).pt t = lieT S (3 * i + t) ∧ (lnAt (ls.set n (stepL p q r k a b)) i).h = S.hs.getD (3 * i + t) false := by
  intro i t hi ht
  unfold lieT
  rw [hln, (hpt _).1, (hpt _).2, hSf.2.1]
  by_cases e : i = n
  ·subst e
   rw [if_pos rfl]
   match t, ht with
   | 0, _ =>
    have b2 : ¬ 3 * i = 3 * i + 2 := by omega
    have b1 : ¬ 3 * i = 3 * i + 1 := by omega
    simp only [Nat.add_zero, b2, b1, if_false, if_true, false_or, f7]
    exact ⟨hst.1, hst.2.2.2⟩
   | 1, _ =>
    have b2 : ¬ 3 * i + 1 = 3 * i + 2 := by omega
    simp only [b2, if_false, if_true, false_or, true_or, f8]
    exact ⟨hst.2.1, hst.2.2.2⟩
   | 2, _ =>
    simp only [if_true, if_false, true_or, f9]
    exact ⟨hst.2.2.1, hst.2.2.2⟩
  ·have a2 : ¬ 3 * i + t = 3 * n + 2 := by omega
   have a1 : ¬ 3 * i + t = 3 * n + 1 := by omega
   have a0 : ¬ 3 * i + t = 3 * n := by omega
   simp only [e, a2, a1, a0, or_self, if_false]
   exact h.all k3 i t hi ht
 refine ⟨by simp [hSf.1, h.len], fun i t => ?_, fun i hi => ?_, fun _ i t hi ht => hall i t (by rw [← hSf.1]; exact hi) ht, fun j hj => ?_, fun hm => absurd (hm.symm.trans hSf.2.2.1) (by decide), fun _ i t hi ht haf => ?_⟩
 ·rw [hln]
  split
  ·match t with
   | 0 => show (stepL _ _ _ _ _ _).p.size ≤ 400; rw [hst.1, pageT_size]; exact s7
   | 1 => show (stepL _ _ _ _ _ _).q.size ≤ 400; rw [hst.2.1, pageT_size]; exact s8
   | _ + 2 => show (stepL _ _ _ _ _ _).r.size ≤ 400; rw [hst.2.2.1, pageT_size]; exact s9
  ·exact h.size i t
 ·exact hall i 0 (by rw [← hSf.1]; exact hi) (by omega)
 ·rw [(hpt j).2] at hj
  rw [(hpt j).1]
  by_cases e : j = 3 * n + 2 ∨ j = 3 * n + 1 ∨ j = 3 * n
  ·split
   ·exact f9
   ·split
    ·exact f8
    ·split
     ·exact f7
     ·omega
  ·rw [if_neg e, hhs0] at hj
   have a2 : ¬ j = 3 * n + 2 := by omega
   have a1 : ¬ j = 3 * n + 1 := by omega
   have a0 : ¬ j = 3 * n := by omega
   simp only [a2, a1, a0, if_false, hps0]
   exact h.full j hj
 ·rw [hSf.1] at hi
  rw [hSf.1, hSf.2.2.2, after_succ k4 hi, hn1] at haf
  rw [(hpt _).1]
  by_cases e : i = n
  ·subst e
   match t, ht with
   | 0, _ =>
    have b2 : ¬ 3 * i = 3 * i + 2 := by omega
    have b1 : ¬ 3 * i = 3 * i + 1 := by omega
    simp only [Nat.add_zero, b2, b1, if_false, if_true]; exact f7
   | 1, _ =>
    have b2 : ¬ 3 * i + 1 = 3 * i + 2 := by omega
    simp only [b2, if_false, if_true]; exact f8
   | 2, _ =>
    simp only [if_true]; exact f9
  ·rw [if_neg (Ne.symm e)] at haf
   have a2 : ¬ 3 * i + t = 3 * n + 2 := by omega
   have a1 : ¬ 3 * i + t = 3 * n + 1 := by omega
   have a0 : ¬ 3 * i + t = 3 * n := by omega
   simp only [a2, a1, a0, if_false, hps0]
   rcases hw.mode with h0 | h0 | h0
   ·rw [h.zero h0, after_none] at haf
    exact absurd haf (by decide)
   ·exact absurd h0 k3
   ·exact h.fog h0 i t hi ht haf
theorem blankS_full {n : Nat} (h : LenOk n) : ¬ blankS n = ByteArray.empty := by
 have h1 := blankS_size n
 obtain ⟨h2, _, _⟩ := h
 exact full_of_size (n := (n + 24) / 8 * 9 - 1) (by omega)
theorem hurtT_full {p : ByteArray} (a b : Int) (h : ¬ p = ByteArray.empty) : ¬ hurtT p a b = ByteArray.empty := by
 intro he
 have h1 := hurtT_size p a b
 rw [he] at h1
 exact h (ByteArray.size_eq_zero_iff.1 h1.symm)
theorem atT_full {s : St} (hw : WfSt s) (j : Nat) : ¬ atT s j = ByteArray.empty := by
 unfold atT
 split
 ·exact blankS_full hw.y
 ·rename_i h
  split
  ·exact h
  ·split
   ·exact hurtT_full 0 0 h
   ·exact h
theorem more_all (s : St) : (moreSt s).L = s.L ∧ (moreSt s).Y = s.Y ∧ (moreSt s).ps = s.ps ∧ (moreSt s).hs = s.hs ∧ (moreSt s).mode = s.mode ∧ (moreSt s).done = s.done := by
 unfold moreSt
 split <;> exact ⟨rfl, rfl, rfl, rfl, rfl, rfl⟩
theorem AbsC.more {s : St} {ls : List Ln} (h : AbsC s ls) : AbsC (moreSt s) ls := by
 have e := more_all s
 exact h.same e.1 e.2.1 e.2.2.2.2.1 e.2.2.2.2.2 e.2.2.1 e.2.2.2.1
theorem slc_all (s : St) : (slcSt s).L = s.L ∧ (slcSt s).Y = s.Y ∧ (slcSt s).ps = s.ps ∧ (slcSt s).hs = s.hs ∧ (slcSt s).mode = (if s.mode = 0 then 1 else s.mode) ∧ (slcSt s).done = s.done := by
 unfold slcSt
 split <;> exact ⟨rfl, rfl, rfl, rfl, rfl, rfl⟩
theorem ruin_all (s t : St) (a b k : Int) : ∀ n, (ruinTo s t a b k n).L = t.L ∧ (ruinTo s t a b k n).Y = t.Y ∧ (ruinTo s t a b k n).mode = t.mode ∧ (ruinTo s t a b k n).done = t.done
 | 0 => ⟨rfl, rfl, rfl, rfl⟩
 | n + 1 => ruin_all s t a b k n
theorem lnTold_size {s : St} {ls : List Ln} (h : AbsC s ls) (i t : Nat) : ((lnTold s ls i).pt t).size ≤ 400 := by
 unfold lnTold
 split
 ·rw [hurtL_pt]
  split
  ·exact h.size i t
  ·rw [hurtT_size]; exact h.size i t
 ·exact h.size i t
theorem AbsC.ruin {s : St} {ls ls' : List Ln} (h : AbsC s ls) (hw : WfSt s) (hb : s.bad = false) (k a b : Int) (hk : hurtsB k = true) (hl : ls'.length = s.L) (hln : ∀ i, i < s.L → lnAt ls' i = hurtL (lnTold s ls i) a b) :
  AbsC (eraseSt s k a b) ls' := by
 unfold eraseSt
 rw [if_neg (by rw [hb]; simp), if_pos hk]
 apply AbsC.ended
 have hma := more_all s
 have hM : AbsC (moreSt s) ls := h.more
 have hat : ∀ j, atT (moreSt s) j = atT s j ∧ atH (moreSt s) j = atH s j := by
  intro j
  unfold atT atH isFog pageAt
  rw [hma.1, hma.2.1, hma.2.2.1, hma.2.2.2.1, hma.2.2.2.2.1, hma.2.2.2.2.2]
  exact ⟨rfl, rfl⟩
 have hwm : ∀ j, ¬ ruinT (moreSt s) a b k j = ByteArray.empty := by
  intro j
  unfold ruinT pageT
  rw [(hat j).1, (hat j).2, if_pos hk]
  split
  ·exact atT_full hw j
  ·exact hurtT_full a b (atT_full hw j)
 have hru : ∀ j, ruinT (moreSt s) a b k j = if atH s j = true then atT s j else hurtT (atT s j) a b := by
  intro j
  unfold ruinT pageT
  rw [(hat j).1, (hat j).2, if_pos hk]
 obtain ⟨R, hR⟩ : ∃ R, ruinTo (moreSt s) (moreSt s) a b k (3 * s.L) = R := ⟨_, rfl⟩
 have hRa := ruin_all (moreSt s) (moreSt s) a b k (3 * s.L)
 have hRp := fun j => ruin_page (moreSt s) (moreSt s) a b k j (3 * s.L) (by rw [hma.2.2.1, hw.psl]; exact Nat.le_refl _) (by rw [hma.2.2.2.1, hw.hsl]; exact Nat.le_refl _)
 have hRl := ruin_lens (moreSt s) (moreSt s) a b k (3 * s.L)
 rw [hR] at hRa hRp hRl ⊢
 have hSa := slc_all R
 have hRL : R.L = s.L := hRa.1.trans hma.1
 have hpp : ∀ j, j < 3 * s.L → pageAt (slcSt R) j = ruinT (moreSt s) a b k j ∧ (slcSt R).hs.getD j false = true := by
  intro j hj
  unfold pageAt
  rw [hSa.2.2.1, hSa.2.2.2.1]
  exact hRp j hj
 have hml : (slcSt R).mode = if s.mode = 0 then 1 else s.mode := by rw [hSa.2.2.2.2.1, hRa.2.2.1, hma.2.2.2.2.1]
 have hLL : (slcSt R).L = s.L := hSa.1.trans hRL
 have key : ∀ i t, i < s.L → t < 3 → (s.mode ≠ 1 ∨ t = 0) → (lnAt ls' i).pt t = lieT (slcSt R) (3 * i + t) ∧ (lnAt ls' i).h = (slcSt R).hs.getD (3 * i + t) false := by
  intro i t hi ht hm
  have hrd := h.read1 i t hi ht hm
  have hp := hpp (3 * i + t) (by omega)
  unfold lieT
  rw [hln i hi, hurtL_pt, hurtL_h, hp.1, hp.2, if_neg (hwm _), hru, hrd.1, hrd.2]
  exact ⟨rfl, rfl⟩
 refine ⟨hl.trans hLL.symm, fun i t => ?_, fun i hi => key i 0 (by rw [← hLL]; exact hi) (by omega) (Or.inr rfl), fun hm i t hi ht => key i t (by rw [← hLL]; exact hi) ht (Or.inl fun h1 => hm (by rw [hml, h1]; rfl)), fun j hj => ?_, fun h0 => ?_, fun _ i t hi ht _ => ?_⟩
 ·by_cases hi : i < s.L
  ·rw [hln i hi, hurtL_pt]
   split
   ·exact lnTold_size h i t
   ·rw [hurtT_size]; exact lnTold_size h i t
  ·have he : lnAt ls' i = l0 := by
    unfold lnAt
    rw [List.getD_eq_getElem?_getD, List.getElem?_eq_none (by omega)]; rfl
   rw [he]
   match t with
   | 0 => exact Nat.zero_le _
   | 1 => exact Nat.zero_le _
   | _ + 2 => exact Nat.zero_le _
 ·by_cases hj3 : j < 3 * s.L
  ·rw [(hpp j hj3).1]; exact hwm j
  ·exfalso
   rw [hSa.2.2.2.1, List.getD_eq_getElem?_getD, List.getElem?_eq_none (by rw [hRl.2, hma.2.2.2.1, hw.hsl]; omega)] at hj
   cases hj
 ·exfalso
  rw [hml] at h0
  split at h0
  ·cases h0
  ·contradiction
 ·rw [(hpp _ (by rw [hLL] at hi; omega)).1]; exact hwm _
theorem AbsC.clean {s : St} (hw : WfSt s) (hb : s.bad = false) (k a b : Int) (hk : hurtsB k = false) (h1 : s.slc < 1000000000) (h2 : s.tlc < 1000000000) :
  AbsC (eraseSt s k a b) (List.replicate s.L ⟨blankS s.Y, blankS s.Y, blankS s.Y, false⟩) := by
 have hwe := eraseSt_wf hw k a b h1 h2
 have he : eraseSt s k a b = { newSt s.L s.Y with slc := (moreSt s).slc, tlc := (moreSt s).tlc } := by
  unfold eraseSt
  rw [if_neg (by rw [hb]; simp), if_neg (by rw [hk]; simp)]
 rw [he] at hwe ⊢
 refine AbsC.fresh (s := { newSt s.L s.Y with slc := (moreSt s).slc, tlc := (moreSt s).tlc }) hwe rfl rfl (fun j => ?_) (fun j => ?_)
 ·unfold pageAt newSt
  simp only [List.getD_eq_getElem?_getD, List.getElem?_replicate]
  split <;> rfl
 ·unfold newSt
  simp only [List.getD_eq_getElem?_getD, List.getElem?_replicate]
  split <;> rfl
theorem AbsC.new {l y : Nat} (hw : WfSt (newSt l y)) : AbsC (newSt l y) (List.replicate l ⟨blankS y, blankS y, blankS y, false⟩) := by
 refine AbsC.fresh (s := newSt l y) hw rfl rfl (fun j => ?_) (fun j => ?_)
 ·unfold pageAt newSt
  simp only [List.getD_eq_getElem?_getD, List.getElem?_replicate]
  split <;> rfl
 ·unfold newSt
  simp only [List.getD_eq_getElem?_getD, List.getElem?_replicate]
  split <;> rfl
/- Calls that change a cell of the code's: what else they leave as it was. -/
structure Only (F : Nat → Prop) (w w' : World) : Prop where
 os : w'.os = w.os
 tape : w'.tape = w.tape
 output : w'.output = w.output
 size : w.heap.size ≤ w'.heap.size
 block : ∀ k, k < w.heap.size → ¬ F k → w'.heap[k]? = w.heap[k]?
theorem Only.refl (F : Nat → Prop) (w : World) : Only F w w := ⟨rfl, rfl, rfl, Nat.le_refl _, fun _ _ _ => rfl⟩
theorem Only.of_below {F : Nat → Prop} {w w' : World} (h : Below w.heap.size w w') : Only F w w' := ⟨h.os, h.tape, h.output, h.size, fun k hk _ => h.block k hk⟩
theorem Only.below {F : Nat → Prop} {w w' : World} {B : Nat} (h : Only F w w') (hB : B ≤ w.heap.size) (hF : ∀ k, F k → B ≤ k) : Below B w w' :=
 ⟨h.os, h.tape, h.output, h.size, fun k hk => h.block k (by omega) (fun hf => by have := hF k hf; omega)⟩
theorem Only.trans {F F' : Nat → Prop} {w w' w'' : World} (h : Only F w w') (h' : Only F' w' w'') (hF : ∀ k, F' k → F k ∨ w.heap.size ≤ k) : Only F w w'' :=
 ⟨h'.os.trans h.os, h'.tape.trans h.tape, h'.output.trans h.output, Nat.le_trans h.size h'.size, fun k hk hn =>
  (h'.block k (by have := h.size; omega) (fun hf => (hF k hf).elim hn (fun h2 => by omega))).trans (h.block k hk hn)⟩
theorem Blk.only {F : Nat → Prop} {w w' : World} {b : Nat} {cs : Array Value} {t : TypeId} (h : Blk w b cs t) (ho : Only F w w') (hb : ¬ F b) : Blk w' b cs t := by
 have hl := h.lt
 unfold Blk at *
 rw [ho.block b hl hb]; exact h
theorem RAt.only {F : Nat → Prop} {w w' : World} {s : St} {g c h d : Nat} (hr : RAt w s g c h d) (hw : WfSt s) (ho : Only F w w') (hg : ¬ F g) (hh : ¬ F h) : RAt w' s g c h d :=
 hr.keep (ho.block g (hr.lt hw).1 hg) (ho.block h (hr.lt hw).2 hh)
def Grows (F F' : Nat → Prop) (w : World) : Prop := ∀ k, F' k → F k ∨ w.heap.size ≤ k
/- A range over a function in a plain walk: the loop's law, how a function that holds one leaves, what a round keeps. -/
theorem calls_of_marks {P : Program} {f : FuncId} {fn : Func} {c : Code} {args : Array Value} {w : World} {R : Ending → World → Prop} (hf : P.funcs[f]? = some fn) (hb : fn.body = some c)
  (h : c.wp P (bodyPostM Fence.wide 9 P fn R) { tmps := args ++ Array.replicate (fn.ntmps - args.size) undef, defers := [] } w) : Calls P f args w R :=
 callsIn_wide.1 (callsIn_of_wp_marks (n := 9) hf hb trivial (wpIn_wide.2 h))
theorem leave_none {P : Program} {fn : Func} {R : Ending → World → Prop} {a : Act} {w : World} {v : Value} (hd : a.defers = []) (hr : (results fn a.tmps).run P w = .ok v w) (h : R (.returned v) w) : bodyPostM Fence.wide 9 P fn R .ret a w := by
 show LeavesInM Fence.wide 9 P fn a.tmps R a.defers .returning w
 rw [hd]
 exact ⟨v, hr, h⟩
theorem leave_one {P : Program} {fn : Func} {R : Ending → World → Prop} {a : Act} {w : World} {v : Value} {D : Nat} (hd : a.defers = [{ target := .collected D, args := #[] }]) (hK : w.heap[D]? = some (.deferred (some [])))
  (hr : (results fn a.tmps).run P (w.putObj D (.deferred none)) = .ok v (w.putObj D (.deferred none))) (h : R (.returned v) (w.putObj D (.deferred none))) : bodyPostM Fence.wide 9 P fn R .ret a w := by
 show LeavesInM Fence.wide 9 P fn a.tmps R a.defers .returning w
 rw [hd]
 exact ⟨by simp, .inl ⟨_, _, rfl, run_takeDeferred hK, v, hr, h⟩⟩
theorem below_mark {w W : World} {D : Nat} (h : Below w.heap.size w W) (hD : w.heap.size ≤ D) (hK : W.heap[D]? = some (.deferred (some []))) : Below w.heap.size w (W.putObj D (.deferred none)) :=
 h.trans (belowK_b (w := w) (Nat.le_refl _) W D _ _ hD hK rfl rfl)
theorem keeps_of_below {W W' : World} (B : Nat) (h : Below W.heap.size W W') : KeepsFrom B W W' :=
 ⟨h.size, fun k _ _ hk _ => (h.block k (Array.getElem?_eq_some_iff.1 hk).1).trans hk⟩
theorem keeps_set {W : World} (B : Nat) (a : Addr) (v : Value) : KeepsFrom B W (W.setCell a v) := (KeepsOthers.setCell W a v).from B
theorem blk_kept {W W' : World} {row : Option Nat} {b : Nat} {cs : Array Value} {t : TypeId} (h : Blk W b cs t) (hg : W.grownBy W' row) (hr : ∀ r, row = some r → ∃ o : Obj, W.heap[r]? = some o ∧ o.isCells = false) : Blk W' b cs t :=
 (hg.block b h.lt (fun e => by
  obtain ⟨o, ho, hc⟩ := hr b e.symm
  rw [show W.heap[b]? = _ from h] at ho
  cases ho
  cases hc)).trans h
theorem blk_mark {W : World} {D b : Nat} {cs : Array Value} {t : TypeId} (h : Blk W b cs t) (hK : W.heap[D]? = some (.deferred (some []))) : Blk (W.putObj D (.deferred none)) b cs t :=
 blk_kept h (grownBy_putObj' W D (.deferred none)) (fun r e => by cases e; exact ⟨_, hK, rfl⟩)
def KeepB (bs : List Nat) (W W' : World) : Prop := ∀ b ∈ bs, W'.heap[b]? = W.heap[b]?
theorem KeepB.refl (bs : List Nat) (W : World) : KeepB bs W W := fun _ _ => rfl
theorem KeepB.trans {bs : List Nat} {A B C : World} (h : KeepB bs A B) (k : KeepB bs B C) : KeepB bs A C := fun b hb => (k b hb).trans (h b hb)
theorem KeepB.cell {bs : List Nat} {W W' : World} (h : KeepB bs W W') {b i : Nat} (hb : b ∈ bs) : W'.cell? ⟨b, i, none⟩ = W.cell? ⟨b, i, none⟩ := by simp [World.cell?, h b hb]
theorem KeepB.of_below {bs : List Nat} {B : Nat} {W W' : World} (h : Below B W W') (hb : ∀ b ∈ bs, b < B) : KeepB bs W W' := fun b hm => h.block b (hb b hm)
theorem KeepB.set {bs : List Nat} {W : World} {g : Nat} (i : Nat) (v : Value) (hg : g ∉ bs) : KeepB bs W (W.setCell ⟨g, i, none⟩ v) :=
 fun b hm => Below.heap_setCell _ _ _ _ (fun e => hg (by simp only at e; rw [← e]; exact hm))
theorem KeepB.mark {bs : List Nat} {w : World} (hb : ∀ b ∈ bs, b < w.heap.size) (W : World) (l : Nat) (o o' : Obj) (hl : w.heap.size ≤ l) (_ : W.heap[l]? = some o) (_ : o.isCells = false) (_ : o.isWalk = false) : KeepB bs W (W.putObj l o') :=
 fun b hm => World.putObj_heap_other (fun e => by have := hb b hm; omega)
/- The iterator of order, walked: the steps of so many lines, one by one. -/
attribute [local go_sem] Oper.semAt_some
def allL (n : Int) : List (Nat × Bool) := if LinesOk n then refL n.toNat else []
theorem allL_le (n : Int) : (allL n).length ≤ 128 := by
 unfold allL
 split
 ·rename_i h
  unfold LinesOk at h
  rw [refL_length _ (by omega)]; omega
 ·simp
theorem refTo_more : ∀ (n k : Nat), 1 ≤ k → k ≤ n → refTo k <+: refTo n
 | 0, k, h1, h => by omega
 | n + 1, k, h1, h => by
  by_cases e : k = n + 1
  ·rw [e]; exact List.prefix_refl _
  ·have := refTo_more n k h1 (by omega)
   rw [refTo_succ n (by omega)]
   exact this.trans (List.prefix_append _ _)
theorem pfx_take {α : Type} {p l : List α} (h : p <+: l) : ∃ j, j ≤ l.length ∧ p = l.take j := ⟨p.length, h.length_le, List.prefix_iff_eq_take.1 h⟩
theorem refL_pfx {n k : Nat} (h1 : 1 ≤ k) (h : k ≤ n) : refTo k <+: refL n := (refTo_more n k h1 h).trans (List.prefix_append _ _)
theorem refL_pfx2 {n k : Nat} (h1 : 1 ≤ k) (h : k < n) : refTo k ++ [(k, false)] <+: refL n := by
 refine List.IsPrefix.trans ?_ (refL_pfx (k := k + 1) (by omega) h)
 rw [refTo_succ k h1]
 exact ⟨[(k - 1, true)], by simp⟩
set_option maxHeartbeats 2000000 in
theorem steps_in (m : Nat) (hm : 1 ≤ m) (l b1 B : Nat) (n : Int) (J Jx : List (Nat × Bool) → World → Prop) (_hA : AbidesFrom B J)
  (hY : ∀ pre x W, J pre W → pre.length < (allL n).length → YieldAt Fence.wide (m - 1) Tryz.prog l #[.agg (sv x.1 x.2)] W fun e W' =>
   (e = .returned (.bool true) ∧ J (pre ++ [x]) W' ∧ KeepB [b1] W W') ∨ (e = .returned (.bool false) ∧ Jx (pre ++ [x]) W'))
  (W : World) (h1 : W.cell? ⟨b1, 0, none⟩ = some (.int .i64 n)) (h0 : J [] W) :
  CallsIn Fence.wide m Tryz.prog 166 #[.func (.yield l) #[] #[], .pointer (some ⟨b1, 0, none⟩)] W fun e W' => (∃ v, e = .returned v) ∧
   ((∃ ys, ys = allL n ∧ J ys W') ∨ (∃ pre, (∃ k, k ≤ (allL n).length ∧ pre = (allL n).take k) ∧ Jx pre W')) := by
 refine callsIn_of_wp Tryz.func166 rfl trivial ?_ rfl
 simp only [Tryz.ntmps166, List.size_toArray, List.length_cons, List.length_nil, Nat.reduceAdd, Nat.reduceSub, Array.replicate_succ, Array.replicate_zero, List.push_toArray, List.append_toArray, List.nil_append, List.cons_append]
 by_cases h : LinesOk n
 ·obtain ⟨c, rfl⟩ : ∃ c : Nat, n = c := ⟨n.toNat, by unfold LinesOk at h; omega⟩
  have hc1 : 1 ≤ c := by unfold LinesOk at h; omega
  have hc64 : c ≤ 64 := by unfold LinesOk at h; omega
  have hall : allL (c : Int) = refL c := if_pos h
  have hlen := refL_length c hc1
  have HALL := Lib.hid hall
  have g1 : ¬ (c : Int) < 1 := by omega
  have g2 : ¬ (64 : Int) < (c : Int) := by omega
  rw [hall, hlen] at hY
  rw [hall]
  have HLEN := Lib.hid hlen
  have HY := Lib.hid hY
  clear h hall hlen hY
  obtain ⟨fn, tmps, assign, body, hy, hR⟩ := HY.out [] (0, false) W h0 (by show 0 < 2 * c; omega)
  simp only [sv, Int.cast_ofNat_Int] at hy hR
  gi_wp2
  refine hR.mono ?_
  clear hR hy
  rintro e W1 (⟨rfl, hJ1, hb1⟩ | ⟨rfl, hJx1⟩)
  ·have HJ1 := Lib.hid hJ1
   have HB1 := Lib.hid hb1
   clear hJ1 hb1 h0
   gi_wp2_with fail
   gi_loopw [3] (fun i wr => ∃ j : Nat, j + 1 ≤ c ∧ i = .int .i64 ((j : Int) + 1) ∧ J (refTo (j + 1)) wr ∧ KeepB [b1] W wr)
    (fun i _ => c + 1 - (intOf i).toNat)
   case atStart => exact ⟨0, hc1, rfl, HJ1.out, HB1.out⟩
   case round =>
    obtain ⟨j, hj, rfl, hJ, hb'⟩ := hrel
    have g3 : wr.cell? ⟨b1, 0, none⟩ = some (.int .i64 c) := (hb'.cell (by simp)).trans h1
    have HJ := Lib.hid hJ
    have HB := Lib.hid hb'
    have hll := refTo_length (j + 1) (by omega)
    clear hJ hb'
    by_cases hlt : j + 1 < c
    ·have hlti : (j : Int) + 1 < (c : Int) := by omega
     obtain ⟨fn, tmps, assign, body, hy, hR⟩ := HY.out (refTo (j + 1)) (j + 1, false) wr HJ.out (by omega)
     simp only [sv, Int.natCast_add, Int.cast_ofNat_Int] at hy hR
     gi_wp2
     refine hR.mono ?_
     clear hR hy
     rintro e W3 (⟨rfl, hJ3, hk3⟩ | ⟨rfl, hJx3⟩)
     ·have HJ3 := Lib.hid hJ3
      have HK3 := Lib.hid hk3
      clear hJ3 hk3
      obtain ⟨fn2, tmps2, assign2, body2, hy2, hR2⟩ := HY.out (refTo (j + 1) ++ [(j + 1, false)]) (j, true) W3 HJ3.out (by rw [List.length_append, hll]; simp; omega)
      simp only [sv] at hy2 hR2
      gi_wp2
      refine hR2.mono ?_
      clear hR2 hy2
      rintro e W4 (⟨rfl, hJ4, hk4⟩ | ⟨rfl, hJx4⟩)
      ·gi_wp2
       go_roundw
       case rel => exact ⟨j + 1, by omega, by go_num, by rw [refTo_succ (j + 1) (by omega)]; simpa using hJ4, HB.out.trans (HK3.out.trans hk4)⟩
       case measure => simp [intOf]; omega
      ·gi_wp2
       refine bodyPost_ret (results_none rfl _ _ _) rfl ?_
       refine ⟨⟨_, rfl⟩, .inr ⟨_, ?_, hJx4⟩⟩
       have h := refL_pfx (n := c) (k := j + 2) (by omega) (by omega)
       rw [refTo_succ (j + 1) (by omega)] at h
       exact pfx_take (by simpa using h)
     ·gi_wp2
      refine ⟨(fun _ h => nomatch h), ?_⟩
      gi_wp2
      refine bodyPost_ret (results_none rfl _ _ _) rfl ?_
      exact ⟨⟨_, rfl⟩, .inr ⟨_, pfx_take (refL_pfx2 (by omega) hlt), hJx3⟩⟩
    ·have hlti : ¬ (j : Int) + 1 < (c : Int) := by omega
     obtain rfl : c = j + 1 := by omega
     obtain ⟨fn, tmps, assign, body, hy, hR⟩ := HY.out (refTo (j + 1)) (j, true) wr HJ.out (by omega)
     simp only [sv] at hy hR
     gi_wp2
     refine hR.mono ?_
     clear hR hy
     rintro e W3 (⟨rfl, hJ3, hk3⟩ | ⟨rfl, hJx3⟩)
     ·gi_wp2
      go_end0
      exact ⟨⟨_, rfl⟩, .inl ⟨_, rfl, hJ3⟩⟩
     ·gi_wp2
      go_end0
      exact ⟨⟨_, rfl⟩, .inr ⟨_, pfx_take (List.prefix_refl _), hJx3⟩⟩
  ·gi_wp2
   refine bodyPost_ret (results_none rfl _ _ _) rfl ?_
   exact ⟨⟨_, rfl⟩, .inr ⟨_, pfx_take (refL_pfx (k := 1) (Nat.le_refl _) hc1), hJx1⟩⟩
 ·have hc : n < 1 ∨ ¬ n < 1 ∧ 64 < n := by unfold LinesOk at h; omega
  have hall : allL n = [] := if_neg h
  rw [hall]
  clear hY h hall
  rcases hc with hc | ⟨hc, hc2⟩
  all_goals
   gi_wp2_with fail
   refine ⟨(fun _ h => nomatch h), ?_⟩
   gi_wp2_with fail
   refine bodyPost_ret (results_none rfl _ _ _) rfl ?_
   exact ⟨⟨_, rfl⟩, .inl ⟨[], rfl, h0⟩⟩
theorem steps_stops (m : Nat) (hm : 1 ≤ m) (b1 : Nat) (n : Int) (w : World) (hb1 : b1 < w.heap.size) (h1 : w.cell? ⟨b1, 0, none⟩ = some (.int .i64 n)) :
  SeqStopsK Fence.wide m Tryz.prog 166 #[.pointer (some ⟨b1, 0, none⟩)] (fun x : Nat × Bool => #[.agg (sv x.1 x.2)]) (KeepB [b1])
   (fun ys => ys = allL n) (fun pre => ∃ k, k ≤ (allL n).length ∧ pre = (allL n).take k) (allL n).length w := fun l J Jx W hW hA _ hY h0 => by
 exact steps_in m hm l b1 W.heap.size n J Jx hA hY W ((hW.cell (p := ⟨b1, 0, none⟩) hb1).trans h1) h0
theorem or_steps_raw (n : Int) (w : World) : Calls Tryz.prog 155 #[.int .i64 n] w fun e w' =>
  e = .returned (.func (.func 166) #[] #[.pointer (some ⟨w.heap.size, 0, none⟩)]) ∧ w' = w.alloc (.cells #[.int .i64 n] 3) := by
 go_enter Tryz.func155, Tryz.ntmps155
 go_wp2
 go_ret
 exact ⟨rfl, rfl⟩
theorem steps_enters : ∀ args W, (callFunc 166 args).run Tryz.prog W = .ok (.enter 166 args) W := enters_of Tryz.func166 (by kernel_rfl) rfl
end Go.Proofs.YtalefbmoebobkaaGreatDoor
