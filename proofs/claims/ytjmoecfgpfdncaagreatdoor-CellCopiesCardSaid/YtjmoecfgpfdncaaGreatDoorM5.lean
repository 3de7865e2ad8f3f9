/- Texts of one claim, merged: CeRD, CeRG, CeRH, CeRE, CeR9, CeRA. -/
import Derived.Test.YtjmoecfgpfdncaaGreatDoorM4

/- The reference of layer 8, walked: two, where it is refused; Foggy, Fine. -/
namespace Go.Proofs.YtjmoecfgpfdncaaGreatDoor
set_option maxRecDepth 100000
open Go.RowKit

theorem two_no {s : St} {line : Int} {p q r : ByteArray} {f : Bool} {k a b : Int} (h : ¬ TwoOk s line p q r f) : twoSt s line p q r f k a b = s ∧ twoC s line p q r f k = 80 := by
  unfold twoSt twoC
  rw [if_neg h, if_neg h]
  exact ⟨rfl, rfl⟩

set_option maxHeartbeats 1000000 in
theorem two_bad (L Y : Nat) (mode : Int) (done slc tlc : Nat) (ps : List ByteArray) (hs : List Bool) (torn : Bool) (g c h d : Nat) (line : Int) (p q r : ByteArray) (f : Bool) (x k a b : Int) (w : World) (hw : WfSt ⟨L, Y, mode, done, true, torn, slc, tlc, ps, hs⟩) (hr : RAt w ⟨L, Y, mode, done, true, torn, slc, tlc, ps, hs⟩ g c h d) :
    Calls Tryz.prog 39 #[.agg (cv ⟨L, Y, mode, done, true, torn, slc, tlc, ps, hs⟩ g c h d), .int .i64 line, .agg (tv3 p q r), .bool f, .agg (fv x k a b)] w (PairT ⟨L, Y, mode, done, true, torn, slc, tlc, ps, hs⟩ 80 g h w) := by
  have HWF := Lib.hid hw
  have HR := Lib.hid hr
  clear hw hr
  obtain ⟨sl, hsl⟩ : ∃ sl, stL L done = sl := ⟨_, rfl⟩
  obtain ⟨sf, hsf⟩ : ∃ sf, stF L done = sf := ⟨_, rfl⟩
  obtain ⟨sc, hsc⟩ : ∃ sc, stC L done = sc := ⟨_, rfl⟩
  have HL := Lib.hid hsl
  have HF := Lib.hid hsf
  have HC := Lib.hid hsc
  clear hsl hsf hsc
  go_enter Tryz.func39, Tryz.ntmps39
  unfold cv fv tv3
  go_wp2_with fail
  refine (ror_at L done _).mono ?_
  rintro e w2 ⟨rfl, hb2⟩
  rw [HL.out, HF.out, HC.out, show sv sl sf = #[.int .i64 sl, .bool sf] from rfl]
  have hq0 : CW8 w ⟨L, Y, mode, done, true, torn, slc, tlc, ps, hs⟩ g c h d p q r x k a b (w2.alloc (.cells #[.int .i64 sl, .bool sf] 70)) :=
    CW8.call ⟨(blk_4a w _ _ _ _ _).after hb2, (blk_4b w _ _ _ _ _).after hb2, (blk_4c w _ _ _ _ _).after hb2, (blk_4d w _ _ _ _ _).after hb2, HR.out.after HWF.out ((below_4 w _ _ _ _).trans (hb2.mono (below_4 w _ _ _ _).size)), (below_4 w _ _ _ _).trans (hb2.mono (below_4 w _ _ _ _).size), by have := hb2.size; simp at this; omega⟩ HWF.out ((Below.refl _ _).alloc (Nat.le_refl _) _)
  have c4 : (w2.alloc (.cells #[.int .i64 sl, .bool sf] 70)).cell? ⟨w.heap.size, 4, none⟩ = some (.bool true) := hq0.cell.cell 4
  have c5 : (w2.alloc (.cells #[.int .i64 sl, .bool sf] 70)).cell? ⟨w.heap.size, 5, none⟩ = some (.bool torn) := hq0.cell.cell 5
  have c2 : (w2.alloc (.cells #[.int .i64 sl, .bool sf] 70)).cell? ⟨w.heap.size, 2, none⟩ = some (.int .i64 mode) := hq0.cell.cell 2
  have c0 : (w2.alloc (.cells #[.int .i64 sl, .bool sf] 70)).cell? ⟨w.heap.size + 1, 0, none⟩ = some (.string p) := hq0.pgs.cell 0
  have Q0 := Lib.hid hq0
  clear hq0 hb2
  go_wp2_with (first
    | (refine wpList_load_row rfl 30 (.tmp 5) rfl w.heap.size rfl 30 (cv ⟨L, Y, mode, done, true, torn, slc, tlc, ps, hs⟩ g c h d) (0, 0) _ Q0.out.cell Tryz.underlying30 rfl size_cell ?_)
    | (refine wpList_store_row rfl 30 (.tmp 10) (.tmp 72) rfl (w.heap.size + 3) (cv ⟨L, Y, mode, done, true, torn, slc, tlc, ps, hs⟩ g c h d) rfl rfl 30 zv Q0.out.ans size_cell rfl (cv_one _ _ _ _ _) ?_))
  have hlt := HR.out.lt HWF.out
  exact bodyPost_ret (results_cell_tmp rfl _ _ (w.heap.size + 3) 30 (cv ⟨L, Y, mode, done, true, torn, slc, tlc, ps, hs⟩ g c h d) _ rfl (Q0.out.ans.put _) Tryz.underlying30 rfl size_cell) rfl ⟨⟨g, c, h, d, rfl, Q0.out.rd.keep (setRow_heap_ne _ _ _ _ (by omega)) (setRow_heap_ne _ _ _ _ (by omega)), Or.inl ⟨rfl, rfl⟩⟩, below_put (by omega) _ Q0.out.low⟩

set_option maxHeartbeats 1000000 in
theorem two_torn (L Y : Nat) (mode : Int) (done slc tlc : Nat) (ps : List ByteArray) (hs : List Bool) (g c h d : Nat) (line : Int) (p q r : ByteArray) (f : Bool) (x k a b : Int) (w : World) (hw : WfSt ⟨L, Y, mode, done, false, true, slc, tlc, ps, hs⟩) (hr : RAt w ⟨L, Y, mode, done, false, true, slc, tlc, ps, hs⟩ g c h d) :
    Calls Tryz.prog 39 #[.agg (cv ⟨L, Y, mode, done, false, true, slc, tlc, ps, hs⟩ g c h d), .int .i64 line, .agg (tv3 p q r), .bool f, .agg (fv x k a b)] w (PairT ⟨L, Y, mode, done, false, true, slc, tlc, ps, hs⟩ 80 g h w) := by
  have HWF := Lib.hid hw
  have HR := Lib.hid hr
  clear hw hr
  obtain ⟨sl, hsl⟩ : ∃ sl, stL L done = sl := ⟨_, rfl⟩
  obtain ⟨sf, hsf⟩ : ∃ sf, stF L done = sf := ⟨_, rfl⟩
  obtain ⟨sc, hsc⟩ : ∃ sc, stC L done = sc := ⟨_, rfl⟩
  have HL := Lib.hid hsl
  have HF := Lib.hid hsf
  have HC := Lib.hid hsc
  clear hsl hsf hsc
  go_enter Tryz.func39, Tryz.ntmps39
  unfold cv fv tv3
  go_wp2_with fail
  refine (ror_at L done _).mono ?_
  rintro e w2 ⟨rfl, hb2⟩
  rw [HL.out, HF.out, HC.out, show sv sl sf = #[.int .i64 sl, .bool sf] from rfl]
  have hq0 : CW8 w ⟨L, Y, mode, done, false, true, slc, tlc, ps, hs⟩ g c h d p q r x k a b (w2.alloc (.cells #[.int .i64 sl, .bool sf] 70)) :=
    CW8.call ⟨(blk_4a w _ _ _ _ _).after hb2, (blk_4b w _ _ _ _ _).after hb2, (blk_4c w _ _ _ _ _).after hb2, (blk_4d w _ _ _ _ _).after hb2, HR.out.after HWF.out ((below_4 w _ _ _ _).trans (hb2.mono (below_4 w _ _ _ _).size)), (below_4 w _ _ _ _).trans (hb2.mono (below_4 w _ _ _ _).size), by have := hb2.size; simp at this; omega⟩ HWF.out ((Below.refl _ _).alloc (Nat.le_refl _) _)
  have c4 : (w2.alloc (.cells #[.int .i64 sl, .bool sf] 70)).cell? ⟨w.heap.size, 4, none⟩ = some (.bool false) := hq0.cell.cell 4
  have c5 : (w2.alloc (.cells #[.int .i64 sl, .bool sf] 70)).cell? ⟨w.heap.size, 5, none⟩ = some (.bool true) := hq0.cell.cell 5
  have c2 : (w2.alloc (.cells #[.int .i64 sl, .bool sf] 70)).cell? ⟨w.heap.size, 2, none⟩ = some (.int .i64 mode) := hq0.cell.cell 2
  have c0 : (w2.alloc (.cells #[.int .i64 sl, .bool sf] 70)).cell? ⟨w.heap.size + 1, 0, none⟩ = some (.string p) := hq0.pgs.cell 0
  have Q0 := Lib.hid hq0
  clear hq0 hb2
  go_wp2_with (first
    | (refine wpList_load_row rfl 30 (.tmp 5) rfl w.heap.size rfl 30 (cv ⟨L, Y, mode, done, false, true, slc, tlc, ps, hs⟩ g c h d) (0, 0) _ Q0.out.cell Tryz.underlying30 rfl size_cell ?_)
    | (refine wpList_store_row rfl 30 (.tmp 10) (.tmp 72) rfl (w.heap.size + 3) (cv ⟨L, Y, mode, done, false, true, slc, tlc, ps, hs⟩ g c h d) rfl rfl 30 zv Q0.out.ans size_cell rfl (cv_one _ _ _ _ _) ?_))
  have hlt := HR.out.lt HWF.out
  exact bodyPost_ret (results_cell_tmp rfl _ _ (w.heap.size + 3) 30 (cv ⟨L, Y, mode, done, false, true, slc, tlc, ps, hs⟩ g c h d) _ rfl (Q0.out.ans.put _) Tryz.underlying30 rfl size_cell) rfl ⟨⟨g, c, h, d, rfl, Q0.out.rd.keep (setRow_heap_ne _ _ _ _ (by omega)) (setRow_heap_ne _ _ _ _ (by omega)), Or.inl ⟨rfl, rfl⟩⟩, below_put (by omega) _ Q0.out.low⟩

set_option maxHeartbeats 1000000 in
theorem two_mode (L Y : Nat) (mode : Int) (done slc tlc : Nat) (ps : List ByteArray) (hs : List Bool) (g c h d : Nat) (line : Int) (p q r : ByteArray) (f : Bool) (x k a b : Int) (w : World) (hw : WfSt ⟨L, Y, mode, done, false, false, slc, tlc, ps, hs⟩) (hr : RAt w ⟨L, Y, mode, done, false, false, slc, tlc, ps, hs⟩ g c h d) (hm : mode = 1) :
    Calls Tryz.prog 39 #[.agg (cv ⟨L, Y, mode, done, false, false, slc, tlc, ps, hs⟩ g c h d), .int .i64 line, .agg (tv3 p q r), .bool f, .agg (fv x k a b)] w (PairT ⟨L, Y, mode, done, false, false, slc, tlc, ps, hs⟩ 80 g h w) := by
  have HWF := Lib.hid hw
  have HR := Lib.hid hr
  clear hw hr
  obtain ⟨sl, hsl⟩ : ∃ sl, stL L done = sl := ⟨_, rfl⟩
  obtain ⟨sf, hsf⟩ : ∃ sf, stF L done = sf := ⟨_, rfl⟩
  obtain ⟨sc, hsc⟩ : ∃ sc, stC L done = sc := ⟨_, rfl⟩
  have HL := Lib.hid hsl
  have HF := Lib.hid hsf
  have HC := Lib.hid hsc
  subst hm
  clear hsl hsf hsc
  go_enter Tryz.func39, Tryz.ntmps39
  unfold cv fv tv3
  go_wp2_with fail
  refine (ror_at L done _).mono ?_
  rintro e w2 ⟨rfl, hb2⟩
  rw [HL.out, HF.out, HC.out, show sv sl sf = #[.int .i64 sl, .bool sf] from rfl]
  have hq0 : CW8 w ⟨L, Y, 1, done, false, false, slc, tlc, ps, hs⟩ g c h d p q r x k a b (w2.alloc (.cells #[.int .i64 sl, .bool sf] 70)) :=
    CW8.call ⟨(blk_4a w _ _ _ _ _).after hb2, (blk_4b w _ _ _ _ _).after hb2, (blk_4c w _ _ _ _ _).after hb2, (blk_4d w _ _ _ _ _).after hb2, HR.out.after HWF.out ((below_4 w _ _ _ _).trans (hb2.mono (below_4 w _ _ _ _).size)), (below_4 w _ _ _ _).trans (hb2.mono (below_4 w _ _ _ _).size), by have := hb2.size; simp at this; omega⟩ HWF.out ((Below.refl _ _).alloc (Nat.le_refl _) _)
  have c4 : (w2.alloc (.cells #[.int .i64 sl, .bool sf] 70)).cell? ⟨w.heap.size, 4, none⟩ = some (.bool false) := hq0.cell.cell 4
  have c5 : (w2.alloc (.cells #[.int .i64 sl, .bool sf] 70)).cell? ⟨w.heap.size, 5, none⟩ = some (.bool false) := hq0.cell.cell 5
  have c2 : (w2.alloc (.cells #[.int .i64 sl, .bool sf] 70)).cell? ⟨w.heap.size, 2, none⟩ = some (.int .i64 1) := hq0.cell.cell 2
  have c0 : (w2.alloc (.cells #[.int .i64 sl, .bool sf] 70)).cell? ⟨w.heap.size + 1, 0, none⟩ = some (.string p) := hq0.pgs.cell 0
  have Q0 := Lib.hid hq0
  clear hq0 hb2
  go_wp2_with (first
    | (refine wpList_load_row rfl 30 (.tmp 5) rfl w.heap.size rfl 30 (cv ⟨L, Y, 1, done, false, false, slc, tlc, ps, hs⟩ g c h d) (0, 0) _ Q0.out.cell Tryz.underlying30 rfl size_cell ?_)
    | (refine wpList_store_row rfl 30 (.tmp 10) (.tmp 72) rfl (w.heap.size + 3) (cv ⟨L, Y, 1, done, false, false, slc, tlc, ps, hs⟩ g c h d) rfl rfl 30 zv Q0.out.ans size_cell rfl (cv_one _ _ _ _ _) ?_))
  have hlt := HR.out.lt HWF.out
  exact bodyPost_ret (results_cell_tmp rfl _ _ (w.heap.size + 3) 30 (cv ⟨L, Y, 1, done, false, false, slc, tlc, ps, hs⟩ g c h d) _ rfl (Q0.out.ans.put _) Tryz.underlying30 rfl size_cell) rfl ⟨⟨g, c, h, d, rfl, Q0.out.rd.keep (setRow_heap_ne _ _ _ _ (by omega)) (setRow_heap_ne _ _ _ _ (by omega)), Or.inl ⟨rfl, rfl⟩⟩, below_put (by omega) _ Q0.out.low⟩

set_option maxHeartbeats 1000000 in
theorem two_step (L Y : Nat) (mode : Int) (done slc tlc : Nat) (ps : List ByteArray) (hs : List Bool) (g c h d : Nat) (line : Int) (p q r : ByteArray) (f : Bool) (x k a b : Int) (w : World) (hw : WfSt ⟨L, Y, mode, done, false, false, slc, tlc, ps, hs⟩) (hr : RAt w ⟨L, Y, mode, done, false, false, slc, tlc, ps, hs⟩ g c h d) (hm : mode ≠ 1) (he : stC L done ≠ 0) :
    Calls Tryz.prog 39 #[.agg (cv ⟨L, Y, mode, done, false, false, slc, tlc, ps, hs⟩ g c h d), .int .i64 line, .agg (tv3 p q r), .bool f, .agg (fv x k a b)] w (PairT ⟨L, Y, mode, done, false, false, slc, tlc, ps, hs⟩ 80 g h w) := by
  have HWF := Lib.hid hw
  have HR := Lib.hid hr
  clear hw hr
  obtain ⟨sl, hsl⟩ : ∃ sl, stL L done = sl := ⟨_, rfl⟩
  obtain ⟨sf, hsf⟩ : ∃ sf, stF L done = sf := ⟨_, rfl⟩
  obtain ⟨sc, hsc⟩ : ∃ sc, stC L done = sc := ⟨_, rfl⟩
  have HL := Lib.hid hsl
  have HF := Lib.hid hsf
  have HC := Lib.hid hsc
  have hmb : ((mode : Int) == 1) = false := by simpa using hm
  obtain rfl : sc = 1 := by
    rw [← hsc]
    unfold stC at he ⊢
    by_cases hst : IsStep L done
    · rw [if_pos hst] at he; exact absurd rfl he
    · rw [if_neg hst]
  clear hsl hsf hsc hm he
  go_enter Tryz.func39, Tryz.ntmps39
  unfold cv fv tv3
  go_wp2_with fail
  refine (ror_at L done _).mono ?_
  rintro e w2 ⟨rfl, hb2⟩
  rw [HL.out, HF.out, HC.out, show sv sl sf = #[.int .i64 sl, .bool sf] from rfl]
  have hq0 : CW8 w ⟨L, Y, mode, done, false, false, slc, tlc, ps, hs⟩ g c h d p q r x k a b (w2.alloc (.cells #[.int .i64 sl, .bool sf] 70)) :=
    CW8.call ⟨(blk_4a w _ _ _ _ _).after hb2, (blk_4b w _ _ _ _ _).after hb2, (blk_4c w _ _ _ _ _).after hb2, (blk_4d w _ _ _ _ _).after hb2, HR.out.after HWF.out ((below_4 w _ _ _ _).trans (hb2.mono (below_4 w _ _ _ _).size)), (below_4 w _ _ _ _).trans (hb2.mono (below_4 w _ _ _ _).size), by have := hb2.size; simp at this; omega⟩ HWF.out ((Below.refl _ _).alloc (Nat.le_refl _) _)
  have c4 : (w2.alloc (.cells #[.int .i64 sl, .bool sf] 70)).cell? ⟨w.heap.size, 4, none⟩ = some (.bool false) := hq0.cell.cell 4
  have c5 : (w2.alloc (.cells #[.int .i64 sl, .bool sf] 70)).cell? ⟨w.heap.size, 5, none⟩ = some (.bool false) := hq0.cell.cell 5
  have c2 : (w2.alloc (.cells #[.int .i64 sl, .bool sf] 70)).cell? ⟨w.heap.size, 2, none⟩ = some (.int .i64 mode) := hq0.cell.cell 2
  have c0 : (w2.alloc (.cells #[.int .i64 sl, .bool sf] 70)).cell? ⟨w.heap.size + 1, 0, none⟩ = some (.string p) := hq0.pgs.cell 0
  have Q0 := Lib.hid hq0
  clear hq0 hb2
  go_wp2_with (first
    | (refine wpList_load_row rfl 30 (.tmp 5) rfl w.heap.size rfl 30 (cv ⟨L, Y, mode, done, false, false, slc, tlc, ps, hs⟩ g c h d) (0, 0) _ Q0.out.cell Tryz.underlying30 rfl size_cell ?_)
    | (refine wpList_store_row rfl 30 (.tmp 10) (.tmp 72) rfl (w.heap.size + 3) (cv ⟨L, Y, mode, done, false, false, slc, tlc, ps, hs⟩ g c h d) rfl rfl 30 zv Q0.out.ans size_cell rfl (cv_one _ _ _ _ _) ?_))
  have hlt := HR.out.lt HWF.out
  exact bodyPost_ret (results_cell_tmp rfl _ _ (w.heap.size + 3) 30 (cv ⟨L, Y, mode, done, false, false, slc, tlc, ps, hs⟩ g c h d) _ rfl (Q0.out.ans.put _) Tryz.underlying30 rfl size_cell) rfl ⟨⟨g, c, h, d, rfl, Q0.out.rd.keep (setRow_heap_ne _ _ _ _ (by omega)) (setRow_heap_ne _ _ _ _ (by omega)), Or.inl ⟨rfl, rfl⟩⟩, below_put (by omega) _ Q0.out.low⟩

end Go.Proofs.YtjmoecfgpfdncaaGreatDoor

/- The reference of layer 8, walked: two, where it is refused; Foggy, Fine. -/
namespace Go.Proofs.YtjmoecfgpfdncaaGreatDoor
set_option maxRecDepth 100000
open Go.RowKit


set_option maxHeartbeats 1000000 in
theorem two_line (L Y : Nat) (mode : Int) (done slc tlc : Nat) (ps : List ByteArray) (hs : List Bool) (g c h d : Nat) (line : Int) (p q r : ByteArray) (f : Bool) (x k a b : Int) (w : World) (hw : WfSt ⟨L, Y, mode, done, false, false, slc, tlc, ps, hs⟩) (hr : RAt w ⟨L, Y, mode, done, false, false, slc, tlc, ps, hs⟩ g c h d) (hm : mode ≠ 1) (he : stC L done = 0) (hl : line ≠ stL L done) :
    Calls Tryz.prog 39 #[.agg (cv ⟨L, Y, mode, done, false, false, slc, tlc, ps, hs⟩ g c h d), .int .i64 line, .agg (tv3 p q r), .bool f, .agg (fv x k a b)] w (PairT ⟨L, Y, mode, done, false, false, slc, tlc, ps, hs⟩ 80 g h w) := by
  have HWF := Lib.hid hw
  have HR := Lib.hid hr
  clear hw hr
  obtain ⟨sl, hsl⟩ : ∃ sl, stL L done = sl := ⟨_, rfl⟩
  obtain ⟨sf, hsf⟩ : ∃ sf, stF L done = sf := ⟨_, rfl⟩
  obtain ⟨sc, hsc⟩ : ∃ sc, stC L done = sc := ⟨_, rfl⟩
  have HL := Lib.hid hsl
  have HF := Lib.hid hsf
  have HC := Lib.hid hsc
  have hmb : ((mode : Int) == 1) = false := by simpa using hm
  obtain rfl : sc = 0 := by rw [← hsc]; exact he
  have hlb : ((sl : Int) == line) = false := by rw [← hsl]; simpa using fun e => hl e.symm
  have hln : ¬ sl = line := by rw [← hsl]; exact fun e => hl e.symm
  clear hsl hsf hsc hm he hl
  go_enter Tryz.func39, Tryz.ntmps39
  unfold cv fv tv3
  go_wp2_with fail
  refine (ror_at L done _).mono ?_
  rintro e w2 ⟨rfl, hb2⟩
  rw [HL.out, HF.out, HC.out, show sv sl sf = #[.int .i64 sl, .bool sf] from rfl]
  have hq0 : CW8 w ⟨L, Y, mode, done, false, false, slc, tlc, ps, hs⟩ g c h d p q r x k a b (w2.alloc (.cells #[.int .i64 sl, .bool sf] 70)) :=
    CW8.call ⟨(blk_4a w _ _ _ _ _).after hb2, (blk_4b w _ _ _ _ _).after hb2, (blk_4c w _ _ _ _ _).after hb2, (blk_4d w _ _ _ _ _).after hb2, HR.out.after HWF.out ((below_4 w _ _ _ _).trans (hb2.mono (below_4 w _ _ _ _).size)), (below_4 w _ _ _ _).trans (hb2.mono (below_4 w _ _ _ _).size), by have := hb2.size; simp at this; omega⟩ HWF.out ((Below.refl _ _).alloc (Nat.le_refl _) _)
  have c4 : (w2.alloc (.cells #[.int .i64 sl, .bool sf] 70)).cell? ⟨w.heap.size, 4, none⟩ = some (.bool false) := hq0.cell.cell 4
  have c5 : (w2.alloc (.cells #[.int .i64 sl, .bool sf] 70)).cell? ⟨w.heap.size, 5, none⟩ = some (.bool false) := hq0.cell.cell 5
  have c2 : (w2.alloc (.cells #[.int .i64 sl, .bool sf] 70)).cell? ⟨w.heap.size, 2, none⟩ = some (.int .i64 mode) := hq0.cell.cell 2
  have c0 : (w2.alloc (.cells #[.int .i64 sl, .bool sf] 70)).cell? ⟨w.heap.size + 1, 0, none⟩ = some (.string p) := hq0.pgs.cell 0
  have Q0 := Lib.hid hq0
  clear hq0 hb2
  go_wp2_with (first
    | (refine wpList_load_row rfl 30 (.tmp 5) rfl w.heap.size rfl 30 (cv ⟨L, Y, mode, done, false, false, slc, tlc, ps, hs⟩ g c h d) (0, 0) _ Q0.out.cell Tryz.underlying30 rfl size_cell ?_)
    | (refine wpList_store_row rfl 30 (.tmp 10) (.tmp 72) rfl (w.heap.size + 3) (cv ⟨L, Y, mode, done, false, false, slc, tlc, ps, hs⟩ g c h d) rfl rfl 30 zv Q0.out.ans size_cell rfl (cv_one _ _ _ _ _) ?_))
  have hlt := HR.out.lt HWF.out
  exact bodyPost_ret (results_cell_tmp rfl _ _ (w.heap.size + 3) 30 (cv ⟨L, Y, mode, done, false, false, slc, tlc, ps, hs⟩ g c h d) _ rfl (Q0.out.ans.put _) Tryz.underlying30 rfl size_cell) rfl ⟨⟨g, c, h, d, rfl, Q0.out.rd.keep (setRow_heap_ne _ _ _ _ (by omega)) (setRow_heap_ne _ _ _ _ (by omega)), Or.inl ⟨rfl, rfl⟩⟩, below_put (by omega) _ Q0.out.low⟩

set_option maxHeartbeats 1000000 in
theorem two_fine (L Y : Nat) (mode : Int) (done slc tlc : Nat) (ps : List ByteArray) (hs : List Bool) (g c h d : Nat) (line : Int) (p q r : ByteArray) (f : Bool) (x k a b : Int) (w : World) (hw : WfSt ⟨L, Y, mode, done, false, false, slc, tlc, ps, hs⟩) (hr : RAt w ⟨L, Y, mode, done, false, false, slc, tlc, ps, hs⟩ g c h d) (hm : mode ≠ 1) (he : stC L done = 0) (hl : line = stL L done) (hf : f ≠ stF L done) :
    Calls Tryz.prog 39 #[.agg (cv ⟨L, Y, mode, done, false, false, slc, tlc, ps, hs⟩ g c h d), .int .i64 line, .agg (tv3 p q r), .bool f, .agg (fv x k a b)] w (PairT ⟨L, Y, mode, done, false, false, slc, tlc, ps, hs⟩ 80 g h w) := by
  have HWF := Lib.hid hw
  have HR := Lib.hid hr
  clear hw hr
  obtain ⟨sl, hsl⟩ : ∃ sl, stL L done = sl := ⟨_, rfl⟩
  obtain ⟨sf, hsf⟩ : ∃ sf, stF L done = sf := ⟨_, rfl⟩
  obtain ⟨sc, hsc⟩ : ∃ sc, stC L done = sc := ⟨_, rfl⟩
  have HL := Lib.hid hsl
  have HF := Lib.hid hsf
  have HC := Lib.hid hsc
  have hmb : ((mode : Int) == 1) = false := by simpa using hm
  obtain rfl : sc = 0 := by rw [← hsc]; exact he
  obtain rfl : sl = line := by rw [← hsl]; exact hl.symm
  cases f
  · obtain rfl : sf = true := by rw [← hsf]; revert hf; cases stF L done <;> simp
    clear hsl hsf hsc hm he hl hf
    go_enter Tryz.func39, Tryz.ntmps39
    unfold cv fv tv3
    go_wp2_with fail
    refine (ror_at L done _).mono ?_
    rintro e w2 ⟨rfl, hb2⟩
    rw [HL.out, HF.out, HC.out, show sv sl true = #[.int .i64 sl, .bool true] from rfl]
    have hq0 : CW8 w ⟨L, Y, mode, done, false, false, slc, tlc, ps, hs⟩ g c h d p q r x k a b (w2.alloc (.cells #[.int .i64 sl, .bool true] 70)) :=
      CW8.call ⟨(blk_4a w _ _ _ _ _).after hb2, (blk_4b w _ _ _ _ _).after hb2, (blk_4c w _ _ _ _ _).after hb2, (blk_4d w _ _ _ _ _).after hb2, HR.out.after HWF.out ((below_4 w _ _ _ _).trans (hb2.mono (below_4 w _ _ _ _).size)), (below_4 w _ _ _ _).trans (hb2.mono (below_4 w _ _ _ _).size), by have := hb2.size; simp at this; omega⟩ HWF.out ((Below.refl _ _).alloc (Nat.le_refl _) _)
    have c4 : (w2.alloc (.cells #[.int .i64 sl, .bool true] 70)).cell? ⟨w.heap.size, 4, none⟩ = some (.bool false) := hq0.cell.cell 4
    have c5 : (w2.alloc (.cells #[.int .i64 sl, .bool true] 70)).cell? ⟨w.heap.size, 5, none⟩ = some (.bool false) := hq0.cell.cell 5
    have c2 : (w2.alloc (.cells #[.int .i64 sl, .bool true] 70)).cell? ⟨w.heap.size, 2, none⟩ = some (.int .i64 mode) := hq0.cell.cell 2
    have c0 : (w2.alloc (.cells #[.int .i64 sl, .bool true] 70)).cell? ⟨w.heap.size + 1, 0, none⟩ = some (.string p) := hq0.pgs.cell 0
    have Q0 := Lib.hid hq0
    clear hq0 hb2
    go_wp2_with (first
      | (refine wpList_load_row rfl 30 (.tmp 5) rfl w.heap.size rfl 30 (cv ⟨L, Y, mode, done, false, false, slc, tlc, ps, hs⟩ g c h d) (0, 0) _ Q0.out.cell Tryz.underlying30 rfl size_cell ?_)
      | (refine wpList_store_row rfl 30 (.tmp 10) (.tmp 72) rfl (w.heap.size + 3) (cv ⟨L, Y, mode, done, false, false, slc, tlc, ps, hs⟩ g c h d) rfl rfl 30 zv Q0.out.ans size_cell rfl (cv_one _ _ _ _ _) ?_))
    have hlt := HR.out.lt HWF.out
    exact bodyPost_ret (results_cell_tmp rfl _ _ (w.heap.size + 3) 30 (cv ⟨L, Y, mode, done, false, false, slc, tlc, ps, hs⟩ g c h d) _ rfl (Q0.out.ans.put _) Tryz.underlying30 rfl size_cell) rfl ⟨⟨g, c, h, d, rfl, Q0.out.rd.keep (setRow_heap_ne _ _ _ _ (by omega)) (setRow_heap_ne _ _ _ _ (by omega)), Or.inl ⟨rfl, rfl⟩⟩, below_put (by omega) _ Q0.out.low⟩
  · obtain rfl : sf = false := by rw [← hsf]; revert hf; cases stF L done <;> simp
    clear hsl hsf hsc hm he hl hf
    go_enter Tryz.func39, Tryz.ntmps39
    unfold cv fv tv3
    go_wp2_with fail
    refine (ror_at L done _).mono ?_
    rintro e w2 ⟨rfl, hb2⟩
    rw [HL.out, HF.out, HC.out, show sv sl false = #[.int .i64 sl, .bool false] from rfl]
    have hq0 : CW8 w ⟨L, Y, mode, done, false, false, slc, tlc, ps, hs⟩ g c h d p q r x k a b (w2.alloc (.cells #[.int .i64 sl, .bool false] 70)) :=
      CW8.call ⟨(blk_4a w _ _ _ _ _).after hb2, (blk_4b w _ _ _ _ _).after hb2, (blk_4c w _ _ _ _ _).after hb2, (blk_4d w _ _ _ _ _).after hb2, HR.out.after HWF.out ((below_4 w _ _ _ _).trans (hb2.mono (below_4 w _ _ _ _).size)), (below_4 w _ _ _ _).trans (hb2.mono (below_4 w _ _ _ _).size), by have := hb2.size; simp at this; omega⟩ HWF.out ((Below.refl _ _).alloc (Nat.le_refl _) _)
    have c4 : (w2.alloc (.cells #[.int .i64 sl, .bool false] 70)).cell? ⟨w.heap.size, 4, none⟩ = some (.bool false) := hq0.cell.cell 4
    have c5 : (w2.alloc (.cells #[.int .i64 sl, .bool false] 70)).cell? ⟨w.heap.size, 5, none⟩ = some (.bool false) := hq0.cell.cell 5
    have c2 : (w2.alloc (.cells #[.int .i64 sl, .bool false] 70)).cell? ⟨w.heap.size, 2, none⟩ = some (.int .i64 mode) := hq0.cell.cell 2
    have c0 : (w2.alloc (.cells #[.int .i64 sl, .bool false] 70)).cell? ⟨w.heap.size + 1, 0, none⟩ = some (.string p) := hq0.pgs.cell 0
    have Q0 := Lib.hid hq0
    clear hq0 hb2
    go_wp2_with (first
      | (refine wpList_load_row rfl 30 (.tmp 5) rfl w.heap.size rfl 30 (cv ⟨L, Y, mode, done, false, false, slc, tlc, ps, hs⟩ g c h d) (0, 0) _ Q0.out.cell Tryz.underlying30 rfl size_cell ?_)
      | (refine wpList_store_row rfl 30 (.tmp 10) (.tmp 72) rfl (w.heap.size + 3) (cv ⟨L, Y, mode, done, false, false, slc, tlc, ps, hs⟩ g c h d) rfl rfl 30 zv Q0.out.ans size_cell rfl (cv_one _ _ _ _ _) ?_))
    have hlt := HR.out.lt HWF.out
    exact bodyPost_ret (results_cell_tmp rfl _ _ (w.heap.size + 3) 30 (cv ⟨L, Y, mode, done, false, false, slc, tlc, ps, hs⟩ g c h d) _ rfl (Q0.out.ans.put _) Tryz.underlying30 rfl size_cell) rfl ⟨⟨g, c, h, d, rfl, Q0.out.rd.keep (setRow_heap_ne _ _ _ _ (by omega)) (setRow_heap_ne _ _ _ _ (by omega)), Or.inl ⟨rfl, rfl⟩⟩, below_put (by omega) _ Q0.out.low⟩

set_option maxHeartbeats 1000000 in
theorem two_p (L Y : Nat) (mode : Int) (done slc tlc : Nat) (ps : List ByteArray) (hs : List Bool) (g c h d : Nat) (line : Int) (p q r : ByteArray) (f : Bool) (x k a b : Int) (w : World) (hw : WfSt ⟨L, Y, mode, done, false, false, slc, tlc, ps, hs⟩) (hr : RAt w ⟨L, Y, mode, done, false, false, slc, tlc, ps, hs⟩ g c h d) (hm : mode ≠ 1) (he : stC L done = 0) (hl : line = stL L done) (hf : f = stF L done) (ht7 : takesB ⟨L, Y, mode, done, false, false, slc, tlc, ps, hs⟩ p = false) :
    Calls Tryz.prog 39 #[.agg (cv ⟨L, Y, mode, done, false, false, slc, tlc, ps, hs⟩ g c h d), .int .i64 line, .agg (tv3 p q r), .bool f, .agg (fv x k a b)] w (PairT ⟨L, Y, mode, done, false, false, slc, tlc, ps, hs⟩ 80 g h w) := by
  have HWF := Lib.hid hw
  have HR := Lib.hid hr
  clear hw hr
  obtain ⟨sl, hsl⟩ : ∃ sl, stL L done = sl := ⟨_, rfl⟩
  obtain ⟨sf, hsf⟩ : ∃ sf, stF L done = sf := ⟨_, rfl⟩
  obtain ⟨sc, hsc⟩ : ∃ sc, stC L done = sc := ⟨_, rfl⟩
  have HL := Lib.hid hsl
  have HF := Lib.hid hsf
  have HC := Lib.hid hsc
  have hmb : ((mode : Int) == 1) = false := by simpa using hm
  obtain rfl : sc = 0 := by rw [← hsc]; exact he
  obtain rfl : sl = line := by rw [← hsl]; exact hl.symm
  obtain rfl : sf = f := by rw [← hsf]; exact hf.symm
  have HT7 : Hid (takesB ⟨L, Y, mode, done, false, false, slc, tlc, ps, hs⟩ p = false) := ht7
  clear hsl hsf hsc hm he hl hf ht7
  go_enter Tryz.func39, Tryz.ntmps39
  unfold cv fv tv3
  go_wp2_with fail
  refine (ror_at L done _).mono ?_
  rintro e w2 ⟨rfl, hb2⟩
  rw [HL.out, HF.out, HC.out, show sv sl sf = #[.int .i64 sl, .bool sf] from rfl]
  have hq0 : CW8 w ⟨L, Y, mode, done, false, false, slc, tlc, ps, hs⟩ g c h d p q r x k a b (w2.alloc (.cells #[.int .i64 sl, .bool sf] 70)) :=
    CW8.call ⟨(blk_4a w _ _ _ _ _).after hb2, (blk_4b w _ _ _ _ _).after hb2, (blk_4c w _ _ _ _ _).after hb2, (blk_4d w _ _ _ _ _).after hb2, HR.out.after HWF.out ((below_4 w _ _ _ _).trans (hb2.mono (below_4 w _ _ _ _).size)), (below_4 w _ _ _ _).trans (hb2.mono (below_4 w _ _ _ _).size), by have := hb2.size; simp at this; omega⟩ HWF.out ((Below.refl _ _).alloc (Nat.le_refl _) _)
  have c4 : (w2.alloc (.cells #[.int .i64 sl, .bool sf] 70)).cell? ⟨w.heap.size, 4, none⟩ = some (.bool false) := hq0.cell.cell 4
  have c5 : (w2.alloc (.cells #[.int .i64 sl, .bool sf] 70)).cell? ⟨w.heap.size, 5, none⟩ = some (.bool false) := hq0.cell.cell 5
  have c2 : (w2.alloc (.cells #[.int .i64 sl, .bool sf] 70)).cell? ⟨w.heap.size, 2, none⟩ = some (.int .i64 mode) := hq0.cell.cell 2
  have c0 : (w2.alloc (.cells #[.int .i64 sl, .bool sf] 70)).cell? ⟨w.heap.size + 1, 0, none⟩ = some (.string p) := hq0.pgs.cell 0
  have Q0 := Lib.hid hq0
  clear hq0 hb2
  go_wp2_with (first
    | (refine wpList_load_row_if (by kernel_rfl) 30 (.tmp 5) rfl w.heap.size rfl 30 (cv ⟨L, Y, mode, done, false, false, slc, tlc, ps, hs⟩ g c h d) (0, 0) _ Q0.out.cell Tryz.underlying30 rfl size_cell ?_))
  refine (rce_takes ⟨L, Y, mode, done, false, false, slc, tlc, ps, hs⟩ g c h d p _ HWF.out).mono ?_
  rintro e w3 ⟨rfl, hb3⟩
  rw [HT7.out]
  have Q3 := Lib.hid (Q0.out.call HWF.out hb3)
  have e1 : w3.cell? ⟨w.heap.size + 1, 1, none⟩ = some (.string q) := Q3.out.pgs.cell 1
  clear hb3 Q0 c0 c2 c4 c5
  go_wp2_with (first
    | (refine wpList_load_row rfl 30 (.tmp 5) rfl w.heap.size rfl 30 (cv ⟨L, Y, mode, done, false, false, slc, tlc, ps, hs⟩ g c h d) (0, 0) _ Q3.out.cell Tryz.underlying30 rfl size_cell ?_)
    | (refine wpList_store_row rfl 30 (.tmp 10) (.tmp 72) rfl (w.heap.size + 3) (cv ⟨L, Y, mode, done, false, false, slc, tlc, ps, hs⟩ g c h d) rfl rfl 30 zv Q3.out.ans size_cell rfl (cv_one _ _ _ _ _) ?_))
  have hlt := HR.out.lt HWF.out
  exact bodyPost_ret (results_cell_tmp rfl _ _ (w.heap.size + 3) 30 (cv ⟨L, Y, mode, done, false, false, slc, tlc, ps, hs⟩ g c h d) _ rfl (Q3.out.ans.put _) Tryz.underlying30 rfl size_cell) rfl ⟨⟨g, c, h, d, rfl, Q3.out.rd.keep (setRow_heap_ne _ _ _ _ (by omega)) (setRow_heap_ne _ _ _ _ (by omega)), Or.inl ⟨rfl, rfl⟩⟩, below_put (by omega) _ Q3.out.low⟩

end Go.Proofs.YtjmoecfgpfdncaaGreatDoor

/- The reference of layer 8, walked: two, where it is refused; Foggy, Fine. -/
namespace Go.Proofs.YtjmoecfgpfdncaaGreatDoor
set_option maxRecDepth 100000
open Go.RowKit


set_option maxHeartbeats 1000000 in
theorem two_q (L Y : Nat) (mode : Int) (done slc tlc : Nat) (ps : List ByteArray) (hs : List Bool) (g c h d : Nat) (line : Int) (p q r : ByteArray) (f : Bool) (x k a b : Int) (w : World) (hw : WfSt ⟨L, Y, mode, done, false, false, slc, tlc, ps, hs⟩) (hr : RAt w ⟨L, Y, mode, done, false, false, slc, tlc, ps, hs⟩ g c h d) (hm : mode ≠ 1) (he : stC L done = 0) (hl : line = stL L done) (hf : f = stF L done) (ht7 : takesB ⟨L, Y, mode, done, false, false, slc, tlc, ps, hs⟩ p = true) (ht8 : takesB ⟨L, Y, mode, done, false, false, slc, tlc, ps, hs⟩ q = false) :
    Calls Tryz.prog 39 #[.agg (cv ⟨L, Y, mode, done, false, false, slc, tlc, ps, hs⟩ g c h d), .int .i64 line, .agg (tv3 p q r), .bool f, .agg (fv x k a b)] w (PairT ⟨L, Y, mode, done, false, false, slc, tlc, ps, hs⟩ 80 g h w) := by
  have HWF := Lib.hid hw
  have HR := Lib.hid hr
  clear hw hr
  obtain ⟨sl, hsl⟩ : ∃ sl, stL L done = sl := ⟨_, rfl⟩
  obtain ⟨sf, hsf⟩ : ∃ sf, stF L done = sf := ⟨_, rfl⟩
  obtain ⟨sc, hsc⟩ : ∃ sc, stC L done = sc := ⟨_, rfl⟩
  have HL := Lib.hid hsl
  have HF := Lib.hid hsf
  have HC := Lib.hid hsc
  have hmb : ((mode : Int) == 1) = false := by simpa using hm
  obtain rfl : sc = 0 := by rw [← hsc]; exact he
  obtain rfl : sl = line := by rw [← hsl]; exact hl.symm
  obtain rfl : sf = f := by rw [← hsf]; exact hf.symm
  have HT7 : Hid (takesB ⟨L, Y, mode, done, false, false, slc, tlc, ps, hs⟩ p = true) := ht7
  have HT8 : Hid (takesB ⟨L, Y, mode, done, false, false, slc, tlc, ps, hs⟩ q = false) := ht8
  clear hsl hsf hsc hm he hl hf ht7 ht8
  go_enter Tryz.func39, Tryz.ntmps39
  unfold cv fv tv3
  go_wp2_with fail
  refine (ror_at L done _).mono ?_
  rintro e w2 ⟨rfl, hb2⟩
  rw [HL.out, HF.out, HC.out, show sv sl sf = #[.int .i64 sl, .bool sf] from rfl]
  have hq0 : CW8 w ⟨L, Y, mode, done, false, false, slc, tlc, ps, hs⟩ g c h d p q r x k a b (w2.alloc (.cells #[.int .i64 sl, .bool sf] 70)) :=
    CW8.call ⟨(blk_4a w _ _ _ _ _).after hb2, (blk_4b w _ _ _ _ _).after hb2, (blk_4c w _ _ _ _ _).after hb2, (blk_4d w _ _ _ _ _).after hb2, HR.out.after HWF.out ((below_4 w _ _ _ _).trans (hb2.mono (below_4 w _ _ _ _).size)), (below_4 w _ _ _ _).trans (hb2.mono (below_4 w _ _ _ _).size), by have := hb2.size; simp at this; omega⟩ HWF.out ((Below.refl _ _).alloc (Nat.le_refl _) _)
  have c4 : (w2.alloc (.cells #[.int .i64 sl, .bool sf] 70)).cell? ⟨w.heap.size, 4, none⟩ = some (.bool false) := hq0.cell.cell 4
  have c5 : (w2.alloc (.cells #[.int .i64 sl, .bool sf] 70)).cell? ⟨w.heap.size, 5, none⟩ = some (.bool false) := hq0.cell.cell 5
  have c2 : (w2.alloc (.cells #[.int .i64 sl, .bool sf] 70)).cell? ⟨w.heap.size, 2, none⟩ = some (.int .i64 mode) := hq0.cell.cell 2
  have c0 : (w2.alloc (.cells #[.int .i64 sl, .bool sf] 70)).cell? ⟨w.heap.size + 1, 0, none⟩ = some (.string p) := hq0.pgs.cell 0
  have Q0 := Lib.hid hq0
  clear hq0 hb2
  go_wp2_with (first
    | (refine wpList_load_row_if (by kernel_rfl) 30 (.tmp 5) rfl w.heap.size rfl 30 (cv ⟨L, Y, mode, done, false, false, slc, tlc, ps, hs⟩ g c h d) (0, 0) _ Q0.out.cell Tryz.underlying30 rfl size_cell ?_))
  refine (rce_takes ⟨L, Y, mode, done, false, false, slc, tlc, ps, hs⟩ g c h d p _ HWF.out).mono ?_
  rintro e w3 ⟨rfl, hb3⟩
  rw [HT7.out]
  have Q3 := Lib.hid (Q0.out.call HWF.out hb3)
  have e1 : w3.cell? ⟨w.heap.size + 1, 1, none⟩ = some (.string q) := Q3.out.pgs.cell 1
  clear hb3 Q0 c0 c2 c4 c5
  go_wp2_with (first
    | (refine wpList_load_row_if (by kernel_rfl) 30 (.tmp 5) rfl w.heap.size rfl 30 (cv ⟨L, Y, mode, done, false, false, slc, tlc, ps, hs⟩ g c h d) (0, 0) _ Q3.out.cell Tryz.underlying30 rfl size_cell ?_))
  refine (rce_takes ⟨L, Y, mode, done, false, false, slc, tlc, ps, hs⟩ g c h d q _ HWF.out).mono ?_
  rintro e w4 ⟨rfl, hb4⟩
  rw [HT8.out]
  have Q4 := Lib.hid (Q3.out.call HWF.out hb4)
  have e2 : w4.cell? ⟨w.heap.size + 1, 2, none⟩ = some (.string r) := Q4.out.pgs.cell 2
  clear hb4 Q3 e1
  go_wp2_with (first
    | (refine wpList_load_row rfl 30 (.tmp 5) rfl w.heap.size rfl 30 (cv ⟨L, Y, mode, done, false, false, slc, tlc, ps, hs⟩ g c h d) (0, 0) _ Q4.out.cell Tryz.underlying30 rfl size_cell ?_)
    | (refine wpList_store_row rfl 30 (.tmp 10) (.tmp 72) rfl (w.heap.size + 3) (cv ⟨L, Y, mode, done, false, false, slc, tlc, ps, hs⟩ g c h d) rfl rfl 30 zv Q4.out.ans size_cell rfl (cv_one _ _ _ _ _) ?_))
  have hlt := HR.out.lt HWF.out
  exact bodyPost_ret (results_cell_tmp rfl _ _ (w.heap.size + 3) 30 (cv ⟨L, Y, mode, done, false, false, slc, tlc, ps, hs⟩ g c h d) _ rfl (Q4.out.ans.put _) Tryz.underlying30 rfl size_cell) rfl ⟨⟨g, c, h, d, rfl, Q4.out.rd.keep (setRow_heap_ne _ _ _ _ (by omega)) (setRow_heap_ne _ _ _ _ (by omega)), Or.inl ⟨rfl, rfl⟩⟩, below_put (by omega) _ Q4.out.low⟩

set_option maxHeartbeats 1000000 in
theorem two_r (L Y : Nat) (mode : Int) (done slc tlc : Nat) (ps : List ByteArray) (hs : List Bool) (g c h d : Nat) (line : Int) (p q r : ByteArray) (f : Bool) (x k a b : Int) (w : World) (hw : WfSt ⟨L, Y, mode, done, false, false, slc, tlc, ps, hs⟩) (hr : RAt w ⟨L, Y, mode, done, false, false, slc, tlc, ps, hs⟩ g c h d) (hm : mode ≠ 1) (he : stC L done = 0) (hl : line = stL L done) (hf : f = stF L done) (ht7 : takesB ⟨L, Y, mode, done, false, false, slc, tlc, ps, hs⟩ p = true) (ht8 : takesB ⟨L, Y, mode, done, false, false, slc, tlc, ps, hs⟩ q = true) (ht9 : takesB ⟨L, Y, mode, done, false, false, slc, tlc, ps, hs⟩ r = false) :
    Calls Tryz.prog 39 #[.agg (cv ⟨L, Y, mode, done, false, false, slc, tlc, ps, hs⟩ g c h d), .int .i64 line, .agg (tv3 p q r), .bool f, .agg (fv x k a b)] w (PairT ⟨L, Y, mode, done, false, false, slc, tlc, ps, hs⟩ 80 g h w) := by
  have HWF := Lib.hid hw
  have HR := Lib.hid hr
  clear hw hr
  obtain ⟨sl, hsl⟩ : ∃ sl, stL L done = sl := ⟨_, rfl⟩
  obtain ⟨sf, hsf⟩ : ∃ sf, stF L done = sf := ⟨_, rfl⟩
  obtain ⟨sc, hsc⟩ : ∃ sc, stC L done = sc := ⟨_, rfl⟩
  have HL := Lib.hid hsl
  have HF := Lib.hid hsf
  have HC := Lib.hid hsc
  have hmb : ((mode : Int) == 1) = false := by simpa using hm
  obtain rfl : sc = 0 := by rw [← hsc]; exact he
  obtain rfl : sl = line := by rw [← hsl]; exact hl.symm
  obtain rfl : sf = f := by rw [← hsf]; exact hf.symm
  have HT7 : Hid (takesB ⟨L, Y, mode, done, false, false, slc, tlc, ps, hs⟩ p = true) := ht7
  have HT8 : Hid (takesB ⟨L, Y, mode, done, false, false, slc, tlc, ps, hs⟩ q = true) := ht8
  have HT9 : Hid (takesB ⟨L, Y, mode, done, false, false, slc, tlc, ps, hs⟩ r = false) := ht9
  clear hsl hsf hsc hm he hl hf ht7 ht8 ht9
  go_enter Tryz.func39, Tryz.ntmps39
  unfold cv fv tv3
  go_wp2_with fail
  refine (ror_at L done _).mono ?_
  rintro e w2 ⟨rfl, hb2⟩
  rw [HL.out, HF.out, HC.out, show sv sl sf = #[.int .i64 sl, .bool sf] from rfl]
  have hq0 : CW8 w ⟨L, Y, mode, done, false, false, slc, tlc, ps, hs⟩ g c h d p q r x k a b (w2.alloc (.cells #[.int .i64 sl, .bool sf] 70)) :=
    CW8.call ⟨(blk_4a w _ _ _ _ _).after hb2, (blk_4b w _ _ _ _ _).after hb2, (blk_4c w _ _ _ _ _).after hb2, (blk_4d w _ _ _ _ _).after hb2, HR.out.after HWF.out ((below_4 w _ _ _ _).trans (hb2.mono (below_4 w _ _ _ _).size)), (below_4 w _ _ _ _).trans (hb2.mono (below_4 w _ _ _ _).size), by have := hb2.size; simp at this; omega⟩ HWF.out ((Below.refl _ _).alloc (Nat.le_refl _) _)
  have c4 : (w2.alloc (.cells #[.int .i64 sl, .bool sf] 70)).cell? ⟨w.heap.size, 4, none⟩ = some (.bool false) := hq0.cell.cell 4
  have c5 : (w2.alloc (.cells #[.int .i64 sl, .bool sf] 70)).cell? ⟨w.heap.size, 5, none⟩ = some (.bool false) := hq0.cell.cell 5
  have c2 : (w2.alloc (.cells #[.int .i64 sl, .bool sf] 70)).cell? ⟨w.heap.size, 2, none⟩ = some (.int .i64 mode) := hq0.cell.cell 2
  have c0 : (w2.alloc (.cells #[.int .i64 sl, .bool sf] 70)).cell? ⟨w.heap.size + 1, 0, none⟩ = some (.string p) := hq0.pgs.cell 0
  have Q0 := Lib.hid hq0
  clear hq0 hb2
  go_wp2_with (first
    | (refine wpList_load_row_if (by kernel_rfl) 30 (.tmp 5) rfl w.heap.size rfl 30 (cv ⟨L, Y, mode, done, false, false, slc, tlc, ps, hs⟩ g c h d) (0, 0) _ Q0.out.cell Tryz.underlying30 rfl size_cell ?_))
  refine (rce_takes ⟨L, Y, mode, done, false, false, slc, tlc, ps, hs⟩ g c h d p _ HWF.out).mono ?_
  rintro e w3 ⟨rfl, hb3⟩
  rw [HT7.out]
  have Q3 := Lib.hid (Q0.out.call HWF.out hb3)
  have e1 : w3.cell? ⟨w.heap.size + 1, 1, none⟩ = some (.string q) := Q3.out.pgs.cell 1
  clear hb3 Q0 c0 c2 c4 c5
  go_wp2_with (first
    | (refine wpList_load_row_if (by kernel_rfl) 30 (.tmp 5) rfl w.heap.size rfl 30 (cv ⟨L, Y, mode, done, false, false, slc, tlc, ps, hs⟩ g c h d) (0, 0) _ Q3.out.cell Tryz.underlying30 rfl size_cell ?_))
  refine (rce_takes ⟨L, Y, mode, done, false, false, slc, tlc, ps, hs⟩ g c h d q _ HWF.out).mono ?_
  rintro e w4 ⟨rfl, hb4⟩
  rw [HT8.out]
  have Q4 := Lib.hid (Q3.out.call HWF.out hb4)
  have e2 : w4.cell? ⟨w.heap.size + 1, 2, none⟩ = some (.string r) := Q4.out.pgs.cell 2
  clear hb4 Q3 e1
  go_wp2_with (first
    | (refine wpList_load_row_if (by kernel_rfl) 30 (.tmp 5) rfl w.heap.size rfl 30 (cv ⟨L, Y, mode, done, false, false, slc, tlc, ps, hs⟩ g c h d) (0, 0) _ Q4.out.cell Tryz.underlying30 rfl size_cell ?_))
  refine (rce_takes ⟨L, Y, mode, done, false, false, slc, tlc, ps, hs⟩ g c h d r _ HWF.out).mono ?_
  rintro e w5 ⟨rfl, hb5⟩
  rw [HT9.out]
  have Q5 := Lib.hid (Q4.out.call HWF.out hb5)
  clear hb5 Q4 e2
  go_wp2_with (first
    | (refine wpList_load_row rfl 30 (.tmp 5) rfl w.heap.size rfl 30 (cv ⟨L, Y, mode, done, false, false, slc, tlc, ps, hs⟩ g c h d) (0, 0) _ Q5.out.cell Tryz.underlying30 rfl size_cell ?_)
    | (refine wpList_store_row rfl 30 (.tmp 10) (.tmp 72) rfl (w.heap.size + 3) (cv ⟨L, Y, mode, done, false, false, slc, tlc, ps, hs⟩ g c h d) rfl rfl 30 zv Q5.out.ans size_cell rfl (cv_one _ _ _ _ _) ?_))
  have hlt := HR.out.lt HWF.out
  exact bodyPost_ret (results_cell_tmp rfl _ _ (w.heap.size + 3) 30 (cv ⟨L, Y, mode, done, false, false, slc, tlc, ps, hs⟩ g c h d) _ rfl (Q5.out.ans.put _) Tryz.underlying30 rfl size_cell) rfl ⟨⟨g, c, h, d, rfl, Q5.out.rd.keep (setRow_heap_ne _ _ _ _ (by omega)) (setRow_heap_ne _ _ _ _ (by omega)), Or.inl ⟨rfl, rfl⟩⟩, below_put (by omega) _ Q5.out.low⟩

theorem text_ne {a b : ByteArray} (h : a ≠ b) : (a.toList == b.toList) = false := by
  rw [← Bool.not_eq_true]
  intro hc
  apply h
  rw [beq_iff_eq, ByteArray.toList_eq, ByteArray.toList_eq] at hc
  exact bytes_eq hc

set_option maxHeartbeats 1000000 in
theorem two_loop (L Y : Nat) (mode : Int) (done slc tlc : Nat) (ps : List ByteArray) (hs : List Bool) (g c h d : Nat) (line : Int) (p q r : ByteArray) (f : Bool) (x k a b : Int) (w : World) (hw : WfSt ⟨L, Y, mode, done, false, false, slc, tlc, ps, hs⟩) (hr : RAt w ⟨L, Y, mode, done, false, false, slc, tlc, ps, hs⟩ g c h d) (i : Nat) (hi : line = i) (hil : i < L) (hl64 : L ≤ 64) (hm : mode ≠ 1) (he : stC L done = 0) (hl : line = stL L done) (hf : f = true) (hf2 : stF L done = true) (ht7 : takesB ⟨L, Y, mode, done, false, false, slc, tlc, ps, hs⟩ p = true) (ht8 : takesB ⟨L, Y, mode, done, false, false, slc, tlc, ps, hs⟩ q = true) (ht9 : takesB ⟨L, Y, mode, done, false, false, slc, tlc, ps, hs⟩ r = true) (m : Nat) (hm3 : m < 3) (heq : ∀ n, n < m → pageAt ⟨L, Y, mode, done, false, false, slc, tlc, ps, hs⟩ (3 * i + n) = pgN p q r n) (hne : pageAt ⟨L, Y, mode, done, false, false, slc, tlc, ps, hs⟩ (3 * i + m) ≠ pgN p q r m) :
    Calls Tryz.prog 39 #[.agg (cv ⟨L, Y, mode, done, false, false, slc, tlc, ps, hs⟩ g c h d), .int .i64 line, .agg (tv3 p q r), .bool f, .agg (fv x k a b)] w (PairT ⟨L, Y, mode, done, false, false, slc, tlc, ps, hs⟩ 80 g h w) := by
  have HWF := Lib.hid hw
  have HR := Lib.hid hr
  clear hw hr
  obtain ⟨sl, hsl⟩ : ∃ sl, stL L done = sl := ⟨_, rfl⟩
  obtain ⟨sf, hsf⟩ : ∃ sf, stF L done = sf := ⟨_, rfl⟩
  obtain ⟨sc, hsc⟩ : ∃ sc, stC L done = sc := ⟨_, rfl⟩
  have HL := Lib.hid hsl
  have HF := Lib.hid hsf
  have HC := Lib.hid hsc
  have hmb : ((mode : Int) == 1) = false := by simpa using hm
  subst hf
  subst hi
  obtain rfl : sc = 0 := by rw [← hsc]; exact he
  obtain rfl : sl = (i : Nat) := by rw [← hsl]; exact hl.symm
  obtain rfl : sf = true := by rw [← hsf]; exact hf2
  have HT7 : Hid (takesB ⟨L, Y, mode, done, false, false, slc, tlc, ps, hs⟩ p = true) := ht7
  have HT8 : Hid (takesB ⟨L, Y, mode, done, false, false, slc, tlc, ps, hs⟩ q = true) := ht8
  have HT9 : Hid (takesB ⟨L, Y, mode, done, false, false, slc, tlc, ps, hs⟩ r = true) := ht9
  have HEQ := Lib.hid heq
  have HNE := Lib.hid hne
  clear hsl hsf hsc hm he hl hf2 ht7 ht8 ht9 heq hne
  go_enter Tryz.func39, Tryz.ntmps39
  unfold cv fv tv3
  go_wp2_with fail
  refine (ror_at L done _).mono ?_
  rintro e w2 ⟨rfl, hb2⟩
  rw [HL.out, HF.out, HC.out, show sv _ _ = #[.int .i64 (i : Nat), .bool true] from rfl]
  have hq0 : CW8 w ⟨L, Y, mode, done, false, false, slc, tlc, ps, hs⟩ g c h d p q r x k a b (w2.alloc (.cells #[.int .i64 (i : Nat), .bool true] 70)) :=
    CW8.call ⟨(blk_4a w _ _ _ _ _).after hb2, (blk_4b w _ _ _ _ _).after hb2, (blk_4c w _ _ _ _ _).after hb2, (blk_4d w _ _ _ _ _).after hb2, HR.out.after HWF.out ((below_4 w _ _ _ _).trans (hb2.mono (below_4 w _ _ _ _).size)), (below_4 w _ _ _ _).trans (hb2.mono (below_4 w _ _ _ _).size), by have := hb2.size; simp at this; omega⟩ HWF.out ((Below.refl _ _).alloc (Nat.le_refl _) _)
  have c4 : (w2.alloc (.cells #[.int .i64 (i : Nat), .bool true] 70)).cell? ⟨w.heap.size, 4, none⟩ = some (.bool false) := hq0.cell.cell 4
  have c5 : (w2.alloc (.cells #[.int .i64 (i : Nat), .bool true] 70)).cell? ⟨w.heap.size, 5, none⟩ = some (.bool false) := hq0.cell.cell 5
  have c2 : (w2.alloc (.cells #[.int .i64 (i : Nat), .bool true] 70)).cell? ⟨w.heap.size, 2, none⟩ = some (.int .i64 mode) := hq0.cell.cell 2
  have c0 : (w2.alloc (.cells #[.int .i64 (i : Nat), .bool true] 70)).cell? ⟨w.heap.size + 1, 0, none⟩ = some (.string p) := hq0.pgs.cell 0
  have Q0 := Lib.hid hq0
  clear hq0 hb2
  go_wp2_with (first
    | (refine wpList_load_row_if (by kernel_rfl) 30 (.tmp 5) rfl w.heap.size rfl 30 (cv ⟨L, Y, mode, done, false, false, slc, tlc, ps, hs⟩ g c h d) (0, 0) _ Q0.out.cell Tryz.underlying30 rfl size_cell ?_))
  refine (rce_takes ⟨L, Y, mode, done, false, false, slc, tlc, ps, hs⟩ g c h d p _ HWF.out).mono ?_
  rintro e w3 ⟨rfl, hb3⟩
  rw [HT7.out]
  have Q3 := Lib.hid (Q0.out.call HWF.out hb3)
  have e1 : w3.cell? ⟨w.heap.size + 1, 1, none⟩ = some (.string q) := Q3.out.pgs.cell 1
  clear hb3 Q0 c0 c2 c4 c5
  go_wp2_with (first
    | (refine wpList_load_row_if (by kernel_rfl) 30 (.tmp 5) rfl w.heap.size rfl 30 (cv ⟨L, Y, mode, done, false, false, slc, tlc, ps, hs⟩ g c h d) (0, 0) _ Q3.out.cell Tryz.underlying30 rfl size_cell ?_))
  refine (rce_takes ⟨L, Y, mode, done, false, false, slc, tlc, ps, hs⟩ g c h d q _ HWF.out).mono ?_
  rintro e w4 ⟨rfl, hb4⟩
  rw [HT8.out]
  have Q4 := Lib.hid (Q3.out.call HWF.out hb4)
  have e2 : w4.cell? ⟨w.heap.size + 1, 2, none⟩ = some (.string r) := Q4.out.pgs.cell 2
  clear hb4 Q3 e1
  go_wp2_with (first
    | (refine wpList_load_row_if (by kernel_rfl) 30 (.tmp 5) rfl w.heap.size rfl 30 (cv ⟨L, Y, mode, done, false, false, slc, tlc, ps, hs⟩ g c h d) (0, 0) _ Q4.out.cell Tryz.underlying30 rfl size_cell ?_))
  refine (rce_takes ⟨L, Y, mode, done, false, false, slc, tlc, ps, hs⟩ g c h d r _ HWF.out).mono ?_
  rintro e w5 ⟨rfl, hb5⟩
  rw [HT9.out]
  have Q5 := Lib.hid (Q4.out.call HWF.out hb5)
  clear hb5 Q4 e2
  go_wp2_with fail
  go_loopw [14] (fun iv wr => ∃ n : Nat, n ≤ m ∧ iv = .int .i64 n ∧ CW8 w ⟨L, Y, mode, done, false, false, slc, tlc, ps, hs⟩ g c h d p q r x k a b wr) (fun iv _ => 3 - (intOf iv).toNat)
  case atStart => exact ⟨0, by omega, rfl, Q5.out⟩
  case round =>
    obtain ⟨n, hn, rfl, hq⟩ := hrel
    have hc8 : wr.cell? ⟨w.heap.size, 8, none⟩ = some (.slice (some ⟨g, 0, none⟩) (3 * L) c) := hq.cell.cell 8
    have hpg := hq.rd.page HWF.out (3 * i + n) (by simp only; omega)
    have hpn := tv_cell hq.pgs n (by omega)
    have HQ := Lib.hid hq
    clear hq
    have hw1 : IntKind.i64.wrap (3 * (i : Int)) = 3 * (i : Int) := by rw [IntKind.wrap_i64]; omega
    have hw2 : IntKind.i64.wrap (3 * (i : Int) + (n : Int)) = ((3 * i + n : Nat) : Int) := by rw [IntKind.wrap_i64]; omega
    have hb2 : ((3 * i + n : Nat) : Int) < ((3 * L : Nat) : Int) := by omega
    have hn3 : n < 3 := by omega
    by_cases hlt : n < m
    · rw [HEQ.out n hlt] at hpg
      obtain ⟨pn, hpn2⟩ : ∃ pn, pgN p q r n = pn := ⟨_, rfl⟩
      rw [hpn2] at hpg hpn
      clear hpn2
      go_wp2_with fail
      go_quiet (fail)
      go_wp2_with fail
      go_roundw
      case rel => exact ⟨n + 1, by omega, by go_num, HQ.out.call HWF.out (drewN_below2 _ _ _)⟩
      case measure => simp [intOf]; omega
    · obtain rfl : n = m := by omega
      have hbe := text_ne HNE.out
      obtain ⟨pn, hpn2⟩ : ∃ pn, pgN p q r n = pn := ⟨_, rfl⟩
      obtain ⟨po, hpo2⟩ : ∃ po, pageAt ⟨L, Y, mode, done, false, false, slc, tlc, ps, hs⟩ (3 * i + n) = po := ⟨_, rfl⟩
      rw [hpn2] at hpn hbe
      rw [hpo2] at hpg hbe
      clear hpn2 hpo2
      have HQ9 : Hid (∀ nq, CW8 w ⟨L, Y, mode, done, false, false, slc, tlc, ps, hs⟩ g c h d p q r x k a b (wr.drewN nq)) := fun nq => HQ.out.call HWF.out (drewN_below2 _ _ _)
      go_wp2_with fail
      go_quiet (fail)
      go_wp2_with (first
        | (refine wpList_load_row rfl 30 (.tmp 5) rfl w.heap.size rfl 30 (cv ⟨L, Y, mode, done, false, false, slc, tlc, ps, hs⟩ g c h d) (0, 0) _ (HQ9.out _).cell Tryz.underlying30 rfl size_cell ?_)
        | (refine wpList_store_row rfl 30 (.tmp 10) (.tmp 92) rfl (w.heap.size + 3) (cv ⟨L, Y, mode, done, false, false, slc, tlc, ps, hs⟩ g c h d) rfl rfl 30 zv (HQ9.out _).ans size_cell rfl (cv_one _ _ _ _ _) ?_))
      have hlt := HR.out.lt HWF.out
      exact bodyPost_ret (results_cell_tmp rfl _ _ (w.heap.size + 3) 30 (cv ⟨L, Y, mode, done, false, false, slc, tlc, ps, hs⟩ g c h d) _ rfl ((HQ9.out _).ans.put _) Tryz.underlying30 rfl size_cell) rfl ⟨⟨g, c, h, d, rfl, (HQ9.out _).rd.keep (setRow_heap_ne _ _ _ _ (by omega)) (setRow_heap_ne _ _ _ _ (by omega)), Or.inl ⟨rfl, rfl⟩⟩, below_put (by omega) _ (HQ9.out _).low⟩

end Go.Proofs.YtjmoecfgpfdncaaGreatDoor

/- The reference of layer 8, walked: two, whole; Foggy, Fine. -/
namespace Go.Proofs.YtjmoecfgpfdncaaGreatDoor
set_option maxRecDepth 100000
open Go.RowKit

theorem rce_two (s : St) (g c h d : Nat) (line : Int) (p q r : ByteArray) (f : Bool) (x k a b : Int) (w : World) (hw : WfSt s) (hr : RAt w s g c h d) :
    Calls Tryz.prog 39 #[.agg (cv s g c h d), .int .i64 line, .agg (tv3 p q r), .bool f, .agg (fv x k a b)] w (PairT (twoSt s line p q r f k a b) (twoC s line p q r f k) g h w) := by
  by_cases hok : TwoOk s line p q r f
  · obtain ⟨i, rfl⟩ : ∃ i : Nat, line = i := ⟨_, hok.2.2.2.2.1⟩
    exact rce_two_yes s g c h d i p q r f x k a b w hw hr hok
  · rw [(two_no (k := k) (a := a) (b := b) hok).1, (two_no (k := k) (a := a) (b := b) hok).2]
    have hl1 := hw.l1
    have hl64 := hw.l64
    have hd2 := hw.done
    obtain ⟨L, Y, mode, done, bad, torn, slc, tlc, ps, hs⟩ := s
    simp only at hl1 hl64 hd2
    cases bad with
    | true => exact two_bad L Y mode done slc tlc ps hs torn g c h d line p q r f x k a b w hw hr
    | false =>
    cases torn with
    | true => exact two_torn L Y mode done slc tlc ps hs g c h d line p q r f x k a b w hw hr
    | false =>
    by_cases h1 : mode = 1
    · exact two_mode L Y mode done slc tlc ps hs g c h d line p q r f x k a b w hw hr h1
    by_cases h2 : stC L done = 0
    · have hst : IsStep L done := by
        by_cases hs : IsStep L done
        · exact hs
        · unfold stC at h2; rw [if_neg hs] at h2; exact absurd h2 (by decide)
      have hdl : done < 2 * L := by obtain ⟨_, _, h⟩ := hst; omega
      have hsl : stL L done = ((stepC L done).1 : Nat) := by unfold stL; rw [if_pos hst]; simp
      have hsf : stF L done = (stepC L done).2 := by unfold stF; rw [if_pos hst]; simp
      by_cases h3 : line = stL L done
      · by_cases h4 : f = stF L done
        · cases h5 : takesB ⟨L, Y, mode, done, false, false, slc, tlc, ps, hs⟩ p with
          | false => exact two_p L Y mode done slc tlc ps hs g c h d line p q r f x k a b w hw hr h1 h2 h3 h4 h5
          | true =>
          cases h6 : takesB ⟨L, Y, mode, done, false, false, slc, tlc, ps, hs⟩ q with
          | false => exact two_q L Y mode done slc tlc ps hs g c h d line p q r f x k a b w hw hr h1 h2 h3 h4 h5 h6
          | true =>
          cases h7 : takesB ⟨L, Y, mode, done, false, false, slc, tlc, ps, hs⟩ r with
          | false => exact two_r L Y mode done slc tlc ps hs g c h d line p q r f x k a b w hw hr h1 h2 h3 h4 h5 h6 h7
          | true =>
          have hil : (stepC L done).1 < L := (place_step (n := L) (k := done) hdl).2
          have hf : f = true := by
            cases hff : f with
            | true => rfl
            | false =>
              exfalso
              apply hok
              refine ⟨rfl, rfl, h1, hdl, h3.trans hsl, h4.trans hsf, h5, h6, h7, fun hc => ?_⟩
              rw [hff] at hc
              cases hc
          have hpn : ¬ (pageAt ⟨L, Y, mode, done, false, false, slc, tlc, ps, hs⟩ (3 * (stepC L done).1) = p ∧ pageAt ⟨L, Y, mode, done, false, false, slc, tlc, ps, hs⟩ (3 * (stepC L done).1 + 1) = q ∧ pageAt ⟨L, Y, mode, done, false, false, slc, tlc, ps, hs⟩ (3 * (stepC L done).1 + 2) = r) := by
            intro hc
            apply hok
            refine ⟨rfl, rfl, h1, hdl, h3.trans hsl, h4.trans hsf, h5, h6, h7, fun _ => ?_⟩
            have hi : line.toNat = (stepC L done).1 := by rw [h3, hsl]; simp
            rw [hi]
            exact hc
          have hgo := fun m hm heq hne => two_loop L Y mode done slc tlc ps hs g c h d line p q r f x k a b w hw hr (stepC L done).1 (h3.trans hsl) hil hl64 h1 h2 h3 hf (by rw [← h4]; exact hf) h5 h6 h7 m hm heq hne
          by_cases e0 : pageAt ⟨L, Y, mode, done, false, false, slc, tlc, ps, hs⟩ (3 * (stepC L done).1) = p
          · by_cases e1 : pageAt ⟨L, Y, mode, done, false, false, slc, tlc, ps, hs⟩ (3 * (stepC L done).1 + 1) = q
            · refine hgo 2 (by omega) ?_ (fun hc => hpn ⟨e0, e1, hc⟩)
              intro n hn
              match n, hn with
              | 0, _ => exact e0
              | 1, _ => exact e1
            · refine hgo 1 (by omega) ?_ e1
              intro n hn
              match n, hn with
              | 0, _ => exact e0
          · exact hgo 0 (by omega) (fun n hn => absurd hn (by omega)) e0
        · exact two_fine L Y mode done slc tlc ps hs g c h d line p q r f x k a b w hw hr h1 h2 h3 h4
      · exact two_line L Y mode done slc tlc ps hs g c h d line p q r f x k a b w hw hr h1 h2 h3
    · exact two_step L Y mode done slc tlc ps hs g c h d line p q r f x k a b w hw hr h1 h2

end Go.Proofs.YtjmoecfgpfdncaaGreatDoor

/- The reference of layer 8, walked: Erase, where it is refused, and where it goes well. -/
namespace Go.Proofs.YtjmoecfgpfdncaaGreatDoor
set_option maxRecDepth 100000
open Go.RowKit

theorem moreSt_wf {s : St} (h : WfSt s) (h1 : s.slc < 1000000000) (h2 : s.tlc < 1000000000) : WfSt (moreSt s) := by
  obtain ⟨a1, a2, a3, a4, a5, a6, a7, a8, a9, a10⟩ := h
  unfold moreSt
  split
  · exact ⟨a1, a2, a3, a4, a5, a6, a7, a8, a9, h2⟩
  · exact ⟨a1, a2, a3, a4, a5, a6, a7, a8, h1, a10⟩
theorem more_same (s : St) : (moreSt s).L = s.L ∧ (moreSt s).Y = s.Y ∧ (moreSt s).ps = s.ps ∧ (moreSt s).hs = s.hs ∧ (moreSt s).mode = s.mode := by
  unfold moreSt
  split <;> exact ⟨rfl, rfl, rfl, rfl, rfl⟩
theorem more_two (s : St) (g c h d : Nat) (hm : s.mode = 2) : cv (moreSt s) g c h d = #[.int .i64 s.L, .int .i64 s.Y, .int .i64 s.mode, .int .i64 s.done, .bool s.bad, .bool s.torn, .int .i64 s.slc, .int .i64 ((s.tlc : Int) + 1), .slice (some ⟨g, 0, none⟩) (3 * s.L) c, .slice (some ⟨h, 0, none⟩) (3 * s.L) d] := by
  unfold moreSt
  rw [if_pos hm]
  rfl
theorem more_one (s : St) (g c h d : Nat) (hm : ¬ s.mode = 2) : cv (moreSt s) g c h d = #[.int .i64 s.L, .int .i64 s.Y, .int .i64 s.mode, .int .i64 s.done, .bool s.bad, .bool s.torn, .int .i64 ((s.slc : Int) + 1), .int .i64 s.tlc, .slice (some ⟨g, 0, none⟩) (3 * s.L) c, .slice (some ⟨h, 0, none⟩) (3 * s.L) d] := by
  unfold moreSt
  rw [if_neg hm]
  rfl
theorem blankS_size (n : Nat) : (blankS n).size = (n + 24) / 8 * 9 := by simp [blankS, ByteArray.size]
theorem atT_size {s : St} (h : WfSt s) (j : Nat) : (atT s j).size ≤ 400 := by
  unfold atT
  split
  · rw [blankS_size]; obtain ⟨h1, h2, h3⟩ := h.y; omega
  · have := h.size j
    split
    · exact this
    · split
      · rw [hurtT_size]; exact this
      · exact this
theorem ruinT_size {s : St} (h : WfSt s) (a b k : Int) (j : Nat) : (ruinT s a b k j).size ≤ 400 := by
  unfold ruinT
  split
  · exact atT_size h j
  · rw [pageT_size]; exact atT_size h j
theorem ruinTo_wf {s t : St} (hs : WfSt s) (ht : WfSt t) (a b k : Int) : ∀ n, WfSt (ruinTo s t a b k n)
  | 0 => ht
  | n + 1 => putSt_wf (ruinTo_wf hs ht a b k n) n true (ruinT_size hs a b k n)
theorem ruinTo_mode (s t : St) (a b k : Int) : ∀ n, (ruinTo s t a b k n).mode = t.mode ∧ (ruinTo s t a b k n).L = t.L
  | 0 => ⟨rfl, rfl⟩
  | n + 1 => ruinTo_mode s t a b k n
theorem slcSt_wf {s : St} (h : WfSt s) : WfSt (slcSt s) := by
  unfold slcSt
  split
  · obtain ⟨a1, a2, a3, a4, a5, a6, a7, a8, a9, a10⟩ := h
    exact ⟨a1, a2, a3, a4, a5, a6, a7, Or.inr (Or.inl rfl), a9, a10⟩
  · exact h

theorem rce_erase_bad (s : St) (g c h d : Nat) (x k a b : Int) (w : World) (hw : WfSt s) (hr : RAt w s g c h d) (hb : s.bad = true) :
    Calls Tryz.prog 17 #[.agg (cv s g c h d), .agg (fv x k a b)] w (PairT (eraseSt s k a b) (eraseC s k) g h w) := by
  have he : eraseSt s k a b = s ∧ eraseC s k = 80 := by unfold eraseSt eraseC; rw [if_pos hb, if_pos hb]; exact ⟨rfl, rfl⟩
  rw [he.1, he.2]
  have HPOST : Hid (∀ A B C e, e = .returned (.tuple #[.agg (cv s g c h d), .int .i64 80]) → PairT s 80 g h w e (((w.alloc A).alloc B).alloc C)) :=
    fun A B C e he => ⟨⟨g, c, h, d, he, hr.after hw (below_3 w _ _ _), Or.inl ⟨rfl, rfl⟩⟩, below_3 w _ _ _⟩
  obtain ⟨L, Y, mode, done, bad, torn, slc, tlc, ps, hs⟩ := s
  simp only at hb
  subst hb
  clear hw hr he
  go_enter Tryz.func17, Tryz.ntmps17
  unfold cv fv
  go_wp2_with fail
  exact bodyPost_ret (results_cell_tmp rfl _ _ (w.heap.size + 1 + 1) 30 _ _ rfl (blk_third w _ _ _ _) Tryz.underlying30 rfl size_cell) rfl (HPOST.out _ _ _ _ rfl)

/-- the world when the count is one more -/
structure CM (w0 : World) (s : St) (g c h d : Nat) (x k a b : Int) (w : World) : Prop where
  cell : Blk w w0.heap.size (cv (moreSt s) g c h d) 30
  how : Blk w (w0.heap.size + 1) (fv x k a b) 38
  ans : Blk w (w0.heap.size + 2) zv 30
  rd : RAt w (moreSt s) g c h d
  low : Below w0.heap.size w0 w
  top : w0.heap.size + 3 ≤ w.heap.size

end Go.Proofs.YtjmoecfgpfdncaaGreatDoor

/- The reference of layer 8, walked: Erase, where it goes well. -/
namespace Go.Proofs.YtjmoecfgpfdncaaGreatDoor
set_option maxRecDepth 100000
open Go.RowKit

theorem newSt_wf {s : St} (h : WfSt s) : WfSt (newSt s.L s.Y) := by
  obtain ⟨a1, a2, a3, a4, a5, a6, a7, a8, a9, a10⟩ := h
  refine ⟨a1, a2, a3, Nat.zero_le _, by simp [newSt], by simp [newSt], fun j => ?_, Or.inl rfl, Nat.zero_le _, Nat.zero_le _⟩
  simp only [newSt, List.getD_eq_getElem?_getD, List.getElem?_replicate]
  split <;> simp
set_option maxHeartbeats 1000000 in
theorem rce_erase_well (s : St) (g c h d : Nat) (x k a b : Int) (w : World) (hw : WfSt s) (hr : RAt w s g c h d) (hb : s.bad = false) (hk : hurtsB k = false) (hn1 : s.slc < 1000000000) (hn2 : s.tlc < 1000000000) :
    Calls Tryz.prog 17 #[.agg (cv s g c h d), .agg (fv x k a b)] w (PairT (eraseSt s k a b) (eraseC s k) g h w) := by
  have hk12 : k ≠ 1 ∧ k ≠ 2 := by
    unfold hurtsB at hk
    constructor <;> (intro hc; rw [hc] at hk; simp at hk)
  have he : eraseSt s k a b = { newSt s.L s.Y with slc := (moreSt s).slc, tlc := (moreSt s).tlc } ∧ eraseC s k = 0 := by
    unfold eraseSt eraseC endC
    rw [if_neg (by rw [hb]; simp), if_neg (by rw [hk]; simp), if_neg (by rw [hb]; simp), if_neg hk12.1, if_neg hk12.2]
    exact ⟨rfl, rfl⟩
  rw [he.1, he.2]
  have hnew : NewOk s.L s.Y := ⟨⟨by have := hw.l1; omega, by have := hw.l64; omega⟩, by omega, by simpa using hw.y⟩
  have HWM := Lib.hid (moreSt_wf hw hn1 hn2)
  obtain ⟨L, Y, mode, done, bad, torn, slc, tlc, ps, hs⟩ := s
  simp only at hb hn1 hn2 hnew
  subst hb
  have HWF := Lib.hid hw
  have HR := Lib.hid hr
  have HK := Lib.hid hk
  have HNEW := Lib.hid hnew
  clear hw hr he hk hnew
  by_cases hmo : mode = 2
  · have hmb : ((mode : Int) == 2) = true := by simp [hmo]
    have HMO := Lib.hid hmo
    clear hmo
    go_enter Tryz.func17, Tryz.ntmps17
    unfold cv fv
    go_wp2_with (first
      | (refine wpList_load_row rfl 38 (.tmp 3) rfl (w.heap.size + 1) rfl 38 (fv x k a b) (0, 0) _ (blk_mid w _ _ _ _) Tryz.underlying38 rfl size_fault ?_))
    refine (rce_hurts x k a b _).mono ?_
    rintro e w2 ⟨rfl, hb2⟩
    rw [HK.out]
    have hcm : CM w ⟨L, Y, mode, done, false, torn, slc, tlc, ps, hs⟩ g c h d x k a b w2 := by
      refine ⟨?_, (blk_mid w _ _ _ _).after hb2, (blk_third w _ _ _ _).after hb2, ?_, (below_3 w _ _ _).trans (hb2.mono (below_3 w _ _ _).size), by have := hb2.size; simp at this; omega⟩
      · rw [more_two _ g c h d HMO.out]
        exact (((Blk.new w _ _).alloc _).alloc _).after hb2
      · exact RAt.same (HR.out.after HWF.out ((below_3 w _ _ _).trans (hb2.mono (below_3 w _ _ _).size))) (more_same _).2.2.1 (more_same _).2.2.2.1
    have HCM := Lib.hid hcm
    clear hb2 hcm
    have b1 := HCM.out.cell
    rw [more_two _ g c h d HMO.out] at b1
    have hc0 : w2.cell? ⟨w.heap.size, 0, none⟩ = some (.int .i64 L) := b1.cell 0
    have hc1 : w2.cell? ⟨w.heap.size, 1, none⟩ = some (.int .i64 Y) := b1.cell 1
    have B1 := Lib.hid b1
    clear b1
    go_wp2_with fail
    refine (rce_new L Y _).mono ?_
    rintro e w3 ⟨hyes, _, hb3⟩
    obtain ⟨g', h', c', d', rfl, hr', hg', hh'⟩ := hyes HNEW.out
    simp only [Int.toNat_natCast] at hr'
    rw [show newSt (L : Int).toNat (Y : Int).toNat = newSt L Y by simp only [Int.toNat_natCast]]
    have b3 := B1.out.after hb3
    have z3 := HCM.out.ans.after hb3
    have l3 := HCM.out.low.trans (hb3.mono HCM.out.low.size)
    have t3 : w.heap.size + 3 ≤ w3.heap.size := Nat.le_trans HCM.out.top hb3.size
    have hwn := newSt_wf HWF.out
    simp only at hwn
    have hlt := hr'.lt hwn
    have t2 := HCM.out.top
    clear hyes hb3 hc0 hc1
    obtain ⟨w4, hw4⟩ : ∃ w4, (w3.alloc (.cells zv 30)).setRow w3.heap.size (cv (newSt L Y) g' c' h' d') = w4 := ⟨_, rfl⟩
    have n4 : Blk w4 w3.heap.size (cv (newSt L Y) g' c' h' d') 30 := by rw [← hw4]; exact (Blk.new w3 zv _).put _
    have b4 := (b3.alloc (.cells zv 30)).put_other (c := w3.heap.size) (by omega) (cv (newSt L Y) g' c' h' d')
    rw [hw4] at b4
    have z4 : Blk w4 (w.heap.size + 2) zv 30 := by rw [← hw4]; exact (z3.alloc _).put_other (by omega) _
    have l4 : Below w.heap.size w w4 := by rw [← hw4]; exact below_put (by omega) _ (l3.alloc (by omega) _)
    have r4 : RAt w4 (newSt L Y) g' c' h' d' := by
      rw [← hw4]
      exact (hr'.keep (heap_alloc_old _ _ hlt.1) (heap_alloc_old _ _ hlt.2)).keep (setRow_heap_ne _ _ _ _ (by omega)) (setRow_heap_ne _ _ _ _ (by omega))
    have a6 : w4.cell? ⟨w.heap.size, 6, none⟩ = some (.int .i64 (slc : Nat)) := b4.cell 6
    have x6 : w4.cell? ⟨w3.heap.size, 6, none⟩ = some (.int .i64 0) := n4.cell 6
    have f6 := n4.free 6
    have n5 : Blk (w4.setCell ⟨w3.heap.size, 6, none⟩ (.int .i64 (slc : Nat))) w3.heap.size _ 30 := n4.set 6 _ rfl
    have b5 := b4.set_other (c := w3.heap.size) (by omega) 6 (.int .i64 (slc : Nat))
    have a7 : (w4.setCell ⟨w3.heap.size, 6, none⟩ (.int .i64 (slc : Nat))).cell? ⟨w.heap.size, 7, none⟩ = some (.int .i64 ((tlc : Int) + 1)) := b5.cell 7
    have x7 : (w4.setCell ⟨w3.heap.size, 6, none⟩ (.int .i64 (slc : Nat))).cell? ⟨w3.heap.size, 7, none⟩ = some (.int .i64 0) := by rw [n5.cell 7]; rfl
    have f7 := n5.free 7
    have n6 : Blk ((w4.setCell ⟨w3.heap.size, 6, none⟩ (.int .i64 (slc : Nat))).setCell ⟨w3.heap.size, 7, none⟩ (.int .i64 ((tlc : Int) + 1))) w3.heap.size (cv { newSt L Y with slc := (moreSt (⟨L, Y, mode, done, false, torn, slc, tlc, ps, hs⟩ : St)).slc, tlc := (moreSt (⟨L, Y, mode, done, false, torn, slc, tlc, ps, hs⟩ : St)).tlc } g' c' h' d') 30 := n5.set 7 _ (by unfold moreSt; rw [if_pos HMO.out]; rfl)
    have z6 := (z4.set_other (c := w3.heap.size) (by omega) 6 (.int .i64 (slc : Nat))).set_other (c := w3.heap.size) (by omega) 7 (.int .i64 ((tlc : Int) + 1))
    have N3 := Lib.hid (Blk.new w3 zv 30)
    have HW4 := Lib.hid hw4
    have N6 := Lib.hid n6
    have Z6 := Lib.hid z6
    have R4 := Lib.hid r4
    have L4 := Lib.hid l4
    have HG : Hid (w.heap.size + 3 ≤ g' ∧ w.heap.size + 3 ≤ h' ∧ g' < w3.heap.size ∧ h' < w3.heap.size) := ⟨by omega, by omega, hlt.1, hlt.2⟩
    have T3 := Lib.hid t3
    clear hw4 n4 b4 z4 l4 r4 n5 b5 n6 z6 b3 z3 l3 hr' hg' hh' hlt hwn t2 t3
    go_wp2_with (first
      | (refine wpList_store_row rfl 30 (.tmp 6) (.tmp 35) rfl w3.heap.size (cv (newSt L Y) g' c' h' d') rfl rfl 30 zv N3.out size_cell rfl (cv_one _ _ _ _ _) ?_; change wpList _ _ _ _ _ ((w3.alloc (.cells zv 30)).setRow w3.heap.size (cv (newSt L Y) g' c' h' d')); rw [HW4.out])
      | (refine wpList_load_row rfl 30 (.tmp 6) rfl w3.heap.size rfl 30 (cv { newSt L Y with slc := (moreSt (⟨L, Y, mode, done, false, torn, slc, tlc, ps, hs⟩ : St)).slc, tlc := (moreSt (⟨L, Y, mode, done, false, torn, slc, tlc, ps, hs⟩ : St)).tlc } g' c' h' d') (0, 0) _ N6.out Tryz.underlying30 rfl size_cell ?_)
      | (refine wpList_store_row rfl 30 (.tmp 4) (.tmp 43) rfl (w.heap.size + 2) (cv { newSt L Y with slc := (moreSt (⟨L, Y, mode, done, false, torn, slc, tlc, ps, hs⟩ : St)).slc, tlc := (moreSt (⟨L, Y, mode, done, false, torn, slc, tlc, ps, hs⟩ : St)).tlc } g' c' h' d') rfl rfl 30 zv Z6.out size_cell rfl (cv_one _ _ _ _ _) ?_))
    have hG := HG.out
    have hT := T3.out
    refine bodyPost_ret (results_cell_tmp rfl _ _ (w.heap.size + 2) 30 (cv { newSt L Y with slc := (moreSt (⟨L, Y, mode, done, false, torn, slc, tlc, ps, hs⟩ : St)).slc, tlc := (moreSt (⟨L, Y, mode, done, false, torn, slc, tlc, ps, hs⟩ : St)).tlc } g' c' h' d') _ rfl (Z6.out.put _) Tryz.underlying30 rfl size_cell) rfl ⟨⟨g', c', h', d', rfl, RAt.same (s := newSt L Y) (R4.out.keep ?_ ?_) rfl rfl, Or.inr ⟨by omega, by omega⟩⟩, below_put (by omega) _ ((L4.out.setCell (p := ⟨w3.heap.size, 6, none⟩) (by simp; omega) _).setCell (p := ⟨w3.heap.size, 7, none⟩) (by simp; omega) _)⟩
    · exact (setRow_heap_ne _ _ _ _ (by omega)).trans ((Below.heap_setCell _ _ _ _ (by simp; omega)).trans (Below.heap_setCell _ _ _ _ (by simp; omega)))
    · exact (setRow_heap_ne _ _ _ _ (by omega)).trans ((Below.heap_setCell _ _ _ _ (by simp; omega)).trans (Below.heap_setCell _ _ _ _ (by simp; omega)))
  · have hmb : ((mode : Int) == 2) = false := by simpa using hmo
    have HMO := Lib.hid hmo
    clear hmo
    go_enter Tryz.func17, Tryz.ntmps17
    unfold cv fv
    go_wp2_with (first
      | (refine wpList_load_row rfl 38 (.tmp 3) rfl (w.heap.size + 1) rfl 38 (fv x k a b) (0, 0) _ (blk_mid w _ _ _ _) Tryz.underlying38 rfl size_fault ?_))
    refine (rce_hurts x k a b _).mono ?_
    rintro e w2 ⟨rfl, hb2⟩
    rw [HK.out]
    have hcm : CM w ⟨L, Y, mode, done, false, torn, slc, tlc, ps, hs⟩ g c h d x k a b w2 := by
      refine ⟨?_, (blk_mid w _ _ _ _).after hb2, (blk_third w _ _ _ _).after hb2, ?_, (below_3 w _ _ _).trans (hb2.mono (below_3 w _ _ _).size), by have := hb2.size; simp at this; omega⟩
      · rw [more_one _ g c h d HMO.out]
        exact (((Blk.new w _ _).alloc _).alloc _).after hb2
      · exact RAt.same (HR.out.after HWF.out ((below_3 w _ _ _).trans (hb2.mono (below_3 w _ _ _).size))) (more_same _).2.2.1 (more_same _).2.2.2.1
    have HCM := Lib.hid hcm
    clear hb2 hcm
    have b1 := HCM.out.cell
    rw [more_one _ g c h d HMO.out] at b1
    have hc0 : w2.cell? ⟨w.heap.size, 0, none⟩ = some (.int .i64 L) := b1.cell 0
    have hc1 : w2.cell? ⟨w.heap.size, 1, none⟩ = some (.int .i64 Y) := b1.cell 1
    have B1 := Lib.hid b1
    clear b1
    go_wp2_with fail
    refine (rce_new L Y _).mono ?_
    rintro e w3 ⟨hyes, _, hb3⟩
    obtain ⟨g', h', c', d', rfl, hr', hg', hh'⟩ := hyes HNEW.out
    simp only [Int.toNat_natCast] at hr'
    rw [show newSt (L : Int).toNat (Y : Int).toNat = newSt L Y by simp only [Int.toNat_natCast]]
    have b3 := B1.out.after hb3
    have z3 := HCM.out.ans.after hb3
    have l3 := HCM.out.low.trans (hb3.mono HCM.out.low.size)
    have t3 : w.heap.size + 3 ≤ w3.heap.size := Nat.le_trans HCM.out.top hb3.size
    have hwn := newSt_wf HWF.out
    simp only at hwn
    have hlt := hr'.lt hwn
    have t2 := HCM.out.top
    clear hyes hb3 hc0 hc1
    obtain ⟨w4, hw4⟩ : ∃ w4, (w3.alloc (.cells zv 30)).setRow w3.heap.size (cv (newSt L Y) g' c' h' d') = w4 := ⟨_, rfl⟩
    have n4 : Blk w4 w3.heap.size (cv (newSt L Y) g' c' h' d') 30 := by rw [← hw4]; exact (Blk.new w3 zv _).put _
    have b4 := (b3.alloc (.cells zv 30)).put_other (c := w3.heap.size) (by omega) (cv (newSt L Y) g' c' h' d')
    rw [hw4] at b4
    have z4 : Blk w4 (w.heap.size + 2) zv 30 := by rw [← hw4]; exact (z3.alloc _).put_other (by omega) _
    have l4 : Below w.heap.size w w4 := by rw [← hw4]; exact below_put (by omega) _ (l3.alloc (by omega) _)
    have r4 : RAt w4 (newSt L Y) g' c' h' d' := by
      rw [← hw4]
      exact (hr'.keep (heap_alloc_old _ _ hlt.1) (heap_alloc_old _ _ hlt.2)).keep (setRow_heap_ne _ _ _ _ (by omega)) (setRow_heap_ne _ _ _ _ (by omega))
    have a6 : w4.cell? ⟨w.heap.size, 6, none⟩ = some (.int .i64 ((slc : Int) + 1)) := b4.cell 6
    have x6 : w4.cell? ⟨w3.heap.size, 6, none⟩ = some (.int .i64 0) := n4.cell 6
    have f6 := n4.free 6
    have n5 : Blk (w4.setCell ⟨w3.heap.size, 6, none⟩ (.int .i64 ((slc : Int) + 1))) w3.heap.size _ 30 := n4.set 6 _ rfl
    have b5 := b4.set_other (c := w3.heap.size) (by omega) 6 (.int .i64 ((slc : Int) + 1))
    have a7 : (w4.setCell ⟨w3.heap.size, 6, none⟩ (.int .i64 ((slc : Int) + 1))).cell? ⟨w.heap.size, 7, none⟩ = some (.int .i64 (tlc : Nat)) := b5.cell 7
    have x7 : (w4.setCell ⟨w3.heap.size, 6, none⟩ (.int .i64 ((slc : Int) + 1))).cell? ⟨w3.heap.size, 7, none⟩ = some (.int .i64 0) := by rw [n5.cell 7]; rfl
    have f7 := n5.free 7
    have n6 : Blk ((w4.setCell ⟨w3.heap.size, 6, none⟩ (.int .i64 ((slc : Int) + 1))).setCell ⟨w3.heap.size, 7, none⟩ (.int .i64 (tlc : Nat))) w3.heap.size (cv { newSt L Y with slc := (moreSt (⟨L, Y, mode, done, false, torn, slc, tlc, ps, hs⟩ : St)).slc, tlc := (moreSt (⟨L, Y, mode, done, false, torn, slc, tlc, ps, hs⟩ : St)).tlc } g' c' h' d') 30 := n5.set 7 _ (by unfold moreSt; rw [if_neg HMO.out]; rfl)
    have z6 := (z4.set_other (c := w3.heap.size) (by omega) 6 (.int .i64 ((slc : Int) + 1))).set_other (c := w3.heap.size) (by omega) 7 (.int .i64 (tlc : Nat))
    have N3 := Lib.hid (Blk.new w3 zv 30)
    have HW4 := Lib.hid hw4
    have N6 := Lib.hid n6
    have Z6 := Lib.hid z6
    have R4 := Lib.hid r4
    have L4 := Lib.hid l4
    have HG : Hid (w.heap.size + 3 ≤ g' ∧ w.heap.size + 3 ≤ h' ∧ g' < w3.heap.size ∧ h' < w3.heap.size) := ⟨by omega, by omega, hlt.1, hlt.2⟩
    have T3 := Lib.hid t3
    clear hw4 n4 b4 z4 l4 r4 n5 b5 n6 z6 b3 z3 l3 hr' hg' hh' hlt hwn t2 t3
    go_wp2_with (first
      | (refine wpList_store_row rfl 30 (.tmp 6) (.tmp 35) rfl w3.heap.size (cv (newSt L Y) g' c' h' d') rfl rfl 30 zv N3.out size_cell rfl (cv_one _ _ _ _ _) ?_; change wpList _ _ _ _ _ ((w3.alloc (.cells zv 30)).setRow w3.heap.size (cv (newSt L Y) g' c' h' d')); rw [HW4.out])
      | (refine wpList_load_row rfl 30 (.tmp 6) rfl w3.heap.size rfl 30 (cv { newSt L Y with slc := (moreSt (⟨L, Y, mode, done, false, torn, slc, tlc, ps, hs⟩ : St)).slc, tlc := (moreSt (⟨L, Y, mode, done, false, torn, slc, tlc, ps, hs⟩ : St)).tlc } g' c' h' d') (0, 0) _ N6.out Tryz.underlying30 rfl size_cell ?_)
      | (refine wpList_store_row rfl 30 (.tmp 4) (.tmp 43) rfl (w.heap.size + 2) (cv { newSt L Y with slc := (moreSt (⟨L, Y, mode, done, false, torn, slc, tlc, ps, hs⟩ : St)).slc, tlc := (moreSt (⟨L, Y, mode, done, false, torn, slc, tlc, ps, hs⟩ : St)).tlc } g' c' h' d') rfl rfl 30 zv Z6.out size_cell rfl (cv_one _ _ _ _ _) ?_))
    have hG := HG.out
    have hT := T3.out
    refine bodyPost_ret (results_cell_tmp rfl _ _ (w.heap.size + 2) 30 (cv { newSt L Y with slc := (moreSt (⟨L, Y, mode, done, false, torn, slc, tlc, ps, hs⟩ : St)).slc, tlc := (moreSt (⟨L, Y, mode, done, false, torn, slc, tlc, ps, hs⟩ : St)).tlc } g' c' h' d') _ rfl (Z6.out.put _) Tryz.underlying30 rfl size_cell) rfl ⟨⟨g', c', h', d', rfl, RAt.same (s := newSt L Y) (R4.out.keep ?_ ?_) rfl rfl, Or.inr ⟨by omega, by omega⟩⟩, below_put (by omega) _ ((L4.out.setCell (p := ⟨w3.heap.size, 6, none⟩) (by simp; omega) _).setCell (p := ⟨w3.heap.size, 7, none⟩) (by simp; omega) _)⟩
    · exact (setRow_heap_ne _ _ _ _ (by omega)).trans ((Below.heap_setCell _ _ _ _ (by simp; omega)).trans (Below.heap_setCell _ _ _ _ (by simp; omega)))
    · exact (setRow_heap_ne _ _ _ _ (by omega)).trans ((Below.heap_setCell _ _ _ _ (by simp; omega)).trans (Below.heap_setCell _ _ _ _ (by simp; omega)))

end Go.Proofs.YtjmoecfgpfdncaaGreatDoor
