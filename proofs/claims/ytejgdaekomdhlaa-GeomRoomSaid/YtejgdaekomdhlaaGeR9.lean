/- The reference of layer 6, walked: At. -/
import Derived.Test.YtejgdaekomdhlaaGeR8
import Derived.StillTailTactics
namespace Go.Proofs.Ytejgdaekomdhlaa
set_option maxRecDepth 100000
open Go.RowKit

def IsPage (b l t : Int) : Prop := 0 ≤ t ∧ t < b * l * 3
instance (b l t : Int) : Decidable (IsPage b l t) := by unfold IsPage; infer_instance
def atA (b l y n s r t : Int) : Array Value := if OkG b l y n s r ∧ IsPage b l t then av (t / (3 * l)) (t / 3 % l) (t % 3) else av 0 0 0
def atC (b l y n s r t : Int) : Int := if OkG b l y n s r then (if IsPage b l t then 0 else 1) else 60
theorem at_ok {b l y n s r t : Int} (h : OkG b l y n s r) (h2 : IsPage b l t) : atA b l y n s r t = av (t / (3 * l)) (t / 3 % l) (t % 3) ∧ atC b l y n s r t = 0 := by
  unfold atA atC
  rw [if_pos ⟨h, h2⟩, if_pos h, if_pos h2]
  exact ⟨rfl, rfl⟩
theorem at_none {b l y n s r t : Int} (h : OkG b l y n s r) (h2 : ¬ IsPage b l t) : atA b l y n s r t = av 0 0 0 ∧ atC b l y n s r t = 1 := by
  unfold atA atC
  rw [if_neg (fun h3 => h2 h3.2), if_pos h, if_neg h2]
  exact ⟨rfl, rfl⟩
theorem at_geo {b l y n s r t : Int} (h : ¬ OkG b l y n s r) : atA b l y n s r t = av 0 0 0 ∧ atC b l y n s r t = 60 := by
  unfold atA atC
  rw [if_neg (fun h3 => h h3.1), if_neg h]
  exact ⟨rfl, rfl⟩
def AtT (b l y n s r t : Int) (w : World) (e : Ending) (w' : World) : Prop := e = .returned (.tuple #[.agg (atA b l y n s r t), .int .i64 (atC b l y n s r t)]) ∧ Below w.heap.size w w'

set_option maxRecDepth 100000 in
theorem rge_at (b l y n s r t : Int) (w : World) (ht : -9223372036854775808 ≤ t ∧ t ≤ 9223372036854775807) : Calls Try.prog 24 #[.agg (gv b l y n s r), .int .i64 t] w (AtT b l y n s r t w) := by
  obtain ⟨w1, hw1⟩ : ∃ w1, (w.alloc (.cells (gv b l y n s r) 23)).alloc (.cells (av 0 0 0) 30) = w1 := ⟨_, rfl⟩
  have hg : Blk w1 w.heap.size (gv b l y n s r) 23 := by rw [← hw1]; exact (Blk.new w _ _).alloc _
  have ha : Blk w1 (w.heap.size + 1) (av 0 0 0) 30 := by
    rw [← hw1]
    have h := Blk.new (w.alloc (.cells (gv b l y n s r) 23)) (av 0 0 0) 30
    rwa [World.size_alloc] at h
  have hb : Below w.heap.size w w1 := by rw [← hw1]; exact ((Below.refl w.heap.size w).alloc (Nat.le_refl _) _).alloc (by simp) _
  have HG := Lib.hid hg
  have HA := Lib.hid ha
  have HB := Lib.hid hb
  have HW := Lib.hid hw1
  clear hg ha hb hw1
  go_enter Try.func24, Try.ntmps24
  go_wp2_with (first | (change wpList _ _ _ _ _ ((w.alloc (.cells (gv b l y n s r) 23)).alloc (.cells (av 0 0 0) 30)); rw [HW.out]; refine wpList_load_row rfl 23 (.tmp 2) rfl w.heap.size rfl 23 (gv b l y n s r) (0, 0) _ HG.out Try.underlying23 rfl size_geo ?_))
  refine (rge_check b l y n s r _).mono ?_
  rintro e w2 ⟨rfl, hb2⟩
  have HG2 := Lib.hid (HG.out.after hb2)
  have HA2 := Lib.hid (HA.out.after hb2)
  have HB2 := Lib.hid (HB.out.trans (hb2.mono HB.out.size))
  clear hb2 HG HA HB
  by_cases hok : OkG b l y n s r
  · have hpre := hok.1
    have HOK := Lib.hid hok
    rw [chk_ok hok]
    clear hok
    obtain ⟨q1, q2, q3, q4, _⟩ := hpre
    have hm := mul_bd (a := b) (c := l) (A := 64) (C := 64) (by omega) (by omega) (by omega) (by omega)
    have g0 : w2.cell? ⟨w.heap.size, 0, none⟩ = some (.int .i64 b) := HG2.out.cell 0
    have g1 : w2.cell? ⟨w.heap.size, 1, none⟩ = some (.int .i64 l) := HG2.out.cell 1
    by_cases hh : IsPage b l t
    · have HH := Lib.hid hh
      obtain ⟨r1, r2⟩ := hh
      have hd3 : 0 ≤ t / 3 := by omega
      have hq1 : t.tdiv (3 * l) = t / (3 * l) := Int.tdiv_eq_ediv_of_nonneg r1
      have hq2 : (t / 3).tmod l = t / 3 % l := Int.tmod_eq_emod_of_nonneg hd3
      have hb1 : 0 ≤ t / (3 * l) := Int.ediv_nonneg r1 (by omega)
      have hb1' : t / (3 * l) ≤ t := Int.ediv_le_self _ r1
      have hb2 : 0 ≤ t / 3 % l := Int.emod_nonneg _ (by omega)
      have hb2' := Int.emod_lt_of_pos (t / 3) (b := l) (by omega)
      have hw1 : IntKind.i64.wrap (3 * l) = 3 * l := by rw [IntKind.wrap_i64]; omega
      have hl3 : ((3 * l : Int) == 0) = false := by simp; omega
      have hl0 : ((l : Int) == 0) = false := by simp; omega
      have hl : ¬ l = 0 := by omega
      have hlz : ¬ 3 * l = 0 := by omega
      have hq3 : t.tdiv 3 = t / 3 := Int.tdiv_eq_ediv_of_nonneg r1
      have hr3 : t.tmod 3 = t % 3 := Int.tmod_eq_emod_of_nonneg r1
      have hwq : IntKind.i64.wrap (t / (3 * l)) = t / (3 * l) := by rw [IntKind.wrap_i64]; omega
      have hw3 : IntKind.i64.wrap (t / 3) = t / 3 := by rw [IntKind.wrap_i64]; omega
      have hwr : IntKind.i64.wrap (t / 3 % l) = t / 3 % l := by rw [IntKind.wrap_i64]; omega
      have hwm : IntKind.i64.wrap (t % 3) = t % 3 := by rw [IntKind.wrap_i64]; omega
      go_wp2_with fail
      go_still_tail 13, (by kernel_rfl)
      change wpList _ _ _ _ _ w2.drew
      have HA3 := Lib.hid HA2.out.drew
      have HB3 := Lib.hid (Below.drew HB2.out)
      clear HA2 HB2 HG2 g0 g1 hq1 hq2 hq3 hr3 hwq hw3 hwr hwm hw1 hl3 hl0 hb1 hb1' hb2 hb2'
      generalize w2.drew = w3 at HA3 HB3 ⊢
      go_wp2_with (refine wpList_store_row rfl 30 (.tmp 4) (.tmp 35) rfl (w.heap.size + 1) (av (t / (3 * l)) (t / 3 % l) (t % 3)) rfl rfl 30 (av 0 0 0) HA3.out size_addr rfl (av_one _ _ _) ?_)
      exact bodyPost_ret (results_cell_tmp rfl _ _ (w.heap.size + 1) 30 (av (t / (3 * l)) (t / 3 % l) (t % 3)) _ rfl (HA3.out.put _) Try.underlying30 rfl size_addr) rfl ⟨by rw [(at_ok HOK.out HH.out).1, (at_ok HOK.out HH.out).2]; rfl, below_put (by omega) _ HB3.out⟩
    · have HH := Lib.hid hh
      have hn : t < 0 ∨ (¬ t < 0 ∧ b * l * 3 ≤ t) := by unfold IsPage at hh; omega
      clear hh
      rcases hn with hn | ⟨hn, hn2⟩
      all_goals
        go_wp2_with (refine wpList_store_row rfl 30 (.tmp 4) (.tmp 22) rfl (w.heap.size + 1) (av 0 0 0) rfl rfl 30 (av 0 0 0) HA2.out size_addr rfl (av_one _ _ _) ?_)
        exact bodyPost_ret (results_cell_tmp rfl _ _ (w.heap.size + 1) 30 (av 0 0 0) _ rfl (HA2.out.put _) Try.underlying30 rfl size_addr) rfl ⟨by rw [(at_none HOK.out HH.out).1, (at_none HOK.out HH.out).2]; rfl, below_put (by omega) _ HB2.out⟩
  · have HOK := Lib.hid hok
    rw [chk_no hok]
    clear hok
    go_wp2_with (refine wpList_store_row rfl 30 (.tmp 4) (.tmp 9) rfl (w.heap.size + 1) (av 0 0 0) rfl rfl 30 (av 0 0 0) HA2.out size_addr rfl (av_one _ _ _) ?_)
    exact bodyPost_ret (results_cell_tmp rfl _ _ (w.heap.size + 1) 30 (av 0 0 0) _ rfl (HA2.out.put _) Try.underlying30 rfl size_addr) rfl ⟨by rw [(at_geo HOK.out).1, (at_geo HOK.out).2]; rfl, below_put (by omega) _ HB2.out⟩

end Go.Proofs.Ytejgdaekomdhlaa
