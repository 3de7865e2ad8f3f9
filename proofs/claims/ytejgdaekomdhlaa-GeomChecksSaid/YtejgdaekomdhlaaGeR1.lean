/- The reference of layer 6, walked: Most, Snaps, Check. -/
import Derived.Test.YtejgdaekomdhlaaGeM
import Derived.Test.YtejgdaekomdhlaaBlk
namespace Go.Proofs.Ytejgdaekomdhlaa
set_option maxRecDepth 100000
open Go.RowKit

theorem rge_most (b l y n s r : Int) (w : World) (h : PreG b l y n s r) :
    Calls Try.prog 14 #[.agg (gv b l y n s r)] w fun e w' => e = .returned (.int .i64 (mostG b l s)) ∧ Below w.heap.size w w' := by
  have hm := pre_most h
  obtain ⟨h1, h2, h3, h4, h5, h6, h7, h8, h9, h10, h11, h12, h13, h14⟩ := h
  have hq : (3 * l * (b - s - 6)).tdiv 2 = mostG b l s := by unfold mostG; exact Int.tdiv_eq_ediv_of_nonneg hm.1
  have hbd : 0 ≤ mostG b l s ∧ mostG b l s ≤ 6000 := by unfold mostG; omega
  obtain ⟨m, hme⟩ : ∃ m, mostG b l s = m := ⟨_, rfl⟩
  rw [hme] at hq hbd ⊢
  clear hme
  unfold gv
  go_enter Try.func14, Try.ntmps14
  go_wp2_with fail
  go_ret
  exact ⟨rfl, (Below.refl _ _).alloc (Nat.le_refl _) _⟩

set_option maxRecDepth 100000 in
theorem rge_snaps (b l y n s r : Int) (w : World) (h : PreG b l y n s r) :
    Calls Try.prog 12 #[.agg (gv b l y n s r)] w fun e w' => e = .returned (.int .i64 (snapsG b y n)) ∧ Below w.heap.size w w' := by
  have hbd := snaps_bd h
  obtain ⟨h1, h2, h3, h4, h5, h6, h7, h8, h9, h10, h11, h12, h13, h14⟩ := h
  have hit := fun k : Int => snaps_iff (b := b) (y := y) (n := n) (by omega) k
  obtain ⟨m, hme⟩ : ∃ m, snapsG b y n = m := ⟨_, rfl⟩
  rw [hme] at hbd ⊢
  have HIT : Hid (∀ k : Int, k * y < 6 * n + 10 * b ↔ k < m) := by intro k; rw [← hme]; exact hit k
  clear hme hit
  have hB := (Below.refl w.heap.size w).alloc (Nat.le_refl _) (.cells (gv b l y n s r) 23)
  have HB := Lib.hid hB
  clear hB
  unfold gv
  go_enter Try.func12, Try.ntmps12
  go_wp2_with fail
  go_loop [3] (fun i => ∃ k : Nat, (k : Int) ≤ m ∧ i = .int .i64 k) (fun i => (m.toNat - (intOf i).toNat))
  case atStart => exact ⟨0, by omega, rfl⟩
  case round =>
    obtain ⟨k, hk, rfl⟩ := hrel
    have hp := mul_bd (a := (k : Int)) (c := y) (A := 1600) (C := 256) (by omega) (by omega) (by omega) (by omega)
    have hi := HIT.out k
    by_cases hlt : (k : Int) < m
    · have hc := hi.2 hlt
      clear hi
      go_wp2_with fail
      go_round
      case rel => exact ⟨k + 1, by omega, by go_num⟩
      case measure => simp [intOf]; omega
    · have hc : ¬ (k : Int) * y < 6 * n + 10 * b := fun h => hlt (hi.1 h)
      clear hi
      go_wp2_with fail
      go_ret
      exact ⟨ret_int (by omega), HB.out⟩

end Go.Proofs.Ytejgdaekomdhlaa
