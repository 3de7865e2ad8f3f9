/- The reference of layer 6, walked: Number. -/
import Derived.Test.YtejgdaekomdhlaaGeR7
namespace Go.Proofs.Ytejgdaekomdhlaa
set_option maxRecDepth 100000
open Go.RowKit

def numR (b l y n s r x z p : Int) : Int := if OkG b l y n s r ∧ HasG b l x z p then numG l x z p else 0
def numC (b l y n s r x z p : Int) : Int := if OkG b l y n s r then (if HasG b l x z p then 0 else 1) else 60
def NumT (b l y n s r x z p : Int) (w : World) (e : Ending) (w' : World) : Prop := e = .returned (.tuple #[.int .i64 (numR b l y n s r x z p), .int .i64 (numC b l y n s r x z p)]) ∧ Below w.heap.size w w'
theorem num_ok {b l y n s r x z p : Int} (h : OkG b l y n s r) (h2 : HasG b l x z p) : numR b l y n s r x z p = numG l x z p ∧ numC b l y n s r x z p = 0 := by
  unfold numR numC
  rw [if_pos ⟨h, h2⟩, if_pos h, if_pos h2]
  exact ⟨rfl, rfl⟩
theorem num_none {b l y n s r x z p : Int} (h : OkG b l y n s r) (h2 : ¬ HasG b l x z p) : numR b l y n s r x z p = 0 ∧ numC b l y n s r x z p = 1 := by
  unfold numR numC
  rw [if_neg (fun h3 => h2 h3.2), if_pos h, if_neg h2]
  exact ⟨rfl, rfl⟩
theorem num_geo {b l y n s r x z p : Int} (h : ¬ OkG b l y n s r) : numR b l y n s r x z p = 0 ∧ numC b l y n s r x z p = 60 := by
  unfold numR numC
  rw [if_neg (fun h3 => h h3.1), if_neg h]
  exact ⟨rfl, rfl⟩
set_option maxRecDepth 100000 in
theorem rge_number (b l y n s r x z p : Int) (w : World) : Calls Try.prog 22 #[.agg (gv b l y n s r), .agg (av x z p)] w (NumT b l y n s r x z p w) := by
  obtain ⟨w1, hw1⟩ : ∃ w1, (w.alloc (.cells (gv b l y n s r) 23)).alloc (.cells (av x z p) 30) = w1 := ⟨_, rfl⟩
  have hg : Blk w1 w.heap.size (gv b l y n s r) 23 := by rw [← hw1]; exact (Blk.new w _ _).alloc _
  have ha : Blk w1 (w.heap.size + 1) (av x z p) 30 := by
    rw [← hw1]
    have h := Blk.new (w.alloc (.cells (gv b l y n s r) 23)) (av x z p) 30
    rwa [World.size_alloc] at h
  have hb : Below w.heap.size w w1 := by rw [← hw1]; exact ((Below.refl w.heap.size w).alloc (Nat.le_refl _) _).alloc (by simp) _
  have HG := Lib.hid hg
  have HA := Lib.hid ha
  have HB := Lib.hid hb
  have HW := Lib.hid hw1
  clear hg ha hb hw1
  go_enter Try.func22, Try.ntmps22
  go_wp2_with (first | (rw [HW.out]; refine wpList_load_row rfl 23 (.tmp 2) rfl w.heap.size rfl 23 (gv b l y n s r) (0, 0) _ HG.out Try.underlying23 rfl size_geo ?_))
  refine (rge_check b l y n s r _).mono ?_
  rintro e w2 ⟨rfl, hb2⟩
  have HG2 := Lib.hid (HG.out.after hb2)
  have HA2 := Lib.hid (HA.out.after hb2)
  have HB2 := Lib.hid (HB.out.trans (hb2.mono HB.out.size))
  clear hb2 HG HA HB
  by_cases hok : OkG b l y n s r
  · have hpre := hok.1
    have HOK := Lib.hid hok
    rw [chk_ok hok]
    clear hok
    obtain ⟨q1, q2, q3, q4, _⟩ := hpre
    go_wp2_with (first
      | (refine wpList_load_row rfl 23 (.tmp 2) rfl w.heap.size rfl 23 (gv b l y n s r) (0, 0) _ HG2.out Try.underlying23 rfl size_geo ?_)
      | (refine wpList_load_row rfl 30 (.tmp 3) rfl (w.heap.size + 1) rfl 30 (av x z p) (0, 0) _ HA2.out Try.underlying30 rfl size_addr ?_))
    refine (rge_has b l y n s r x z p _).mono ?_
    rintro e w3 ⟨rfl, hb3⟩
    have HB3 := Lib.hid (HB2.out.trans (hb3.mono HB2.out.size))
    have hg3 := HG2.out.after hb3
    have ha3 := HA2.out.after hb3
    clear hb3 HG2 HA2 HB2
    by_cases hh : HasG b l x z p
    · rw [(hasB_iff b l x z p).2 hh]
      have HH := Lib.hid hh
      obtain ⟨r1, r2, r3, r4, r5, r6⟩ := hh
      have g1 : w3.cell? ⟨w.heap.size, 1, none⟩ = some (.int .i64 l) := hg3.cell 1
      have a0 : w3.cell? ⟨w.heap.size + 1, 0, none⟩ = some (.int .i64 x) := ha3.cell 0
      have a1 : w3.cell? ⟨w.heap.size + 1, 1, none⟩ = some (.int .i64 z) := ha3.cell 1
      have a2 : w3.cell? ⟨w.heap.size + 1, 2, none⟩ = some (.int .i64 p) := ha3.cell 2
      have hm := mul_bd (a := x) (c := l) (A := 64) (C := 64) (by omega) (by omega) (by omega) (by omega)
      clear hg3 ha3
      go_wp2_with fail
      go_ret2
      exact ⟨by rw [(num_ok HOK.out HH.out).1, (num_ok HOK.out HH.out).2]; rfl, HB3.out⟩
    · have HH := Lib.hid hh
      rw [show hasB b l x z p = false by rw [← Bool.not_eq_true, hasB_iff]; exact hh]
      clear hg3 ha3 hh
      go_wp2_with fail
      go_ret2
      exact ⟨by rw [(num_none HOK.out HH.out).1, (num_none HOK.out HH.out).2]; rfl, HB3.out⟩
  · have HOK := Lib.hid hok
    rw [chk_no hok]
    clear hok
    go_wp2_with fail
    go_ret2
    exact ⟨by rw [(num_geo HOK.out).1, (num_geo HOK.out).2]; rfl, HB2.out⟩

end Go.Proofs.Ytejgdaekomdhlaa
