/- The reference of layer 12, walked: Hold. -/
import Derived.Test.YtklbmlnghindjaaDoorShM
namespace Go.Proofs.YtklbmlnghindjaaDoor
set_option maxRecDepth 100000
open Go.RowKit

theorem rsh_hold (n : Int) (w : World) : Calls Tryd.prog 17 #[.int .i64 n] w fun e w' => e = .returned (.int .i64 (holdN n)) ∧ w = w' := by
  by_cases h : 16 ≤ n ∧ n ≤ 256
  · have hp := holdN_pos h
    have hh : (holdN n : Int) = (n - 1) / 9 := by rw [holdN_in h]; omega
    obtain ⟨m, hm⟩ : ∃ m, holdN n = m := ⟨_, rfl⟩
    rw [hm] at hp hh ⊢
    have HM := Lib.hid (⟨hp, hh⟩ : (1 ≤ m ∧ 1 + 9 * (m : Int) ≤ n) ∧ (m : Int) = (n - 1) / 9)
    have b1 : decide (n < 16) = false := decide_eq_false (by omega)
    have b2 : decide ((256 : Int) < n) = false := decide_eq_false (by omega)
    have hn : 16 ≤ n ∧ n ≤ 256 := h
    clear hm hp hh h
    go_enter Tryd.func17, Tryd.ntmps17
    go_wp2_with fail
    go_loop [3] (fun kv => ∃ k : Nat, k ≤ m ∧ kv = .int .i64 k) (fun kv => m - (intOf kv).toNat)
    case atStart => exact ⟨0, Nat.zero_le _, rfl⟩
    case round =>
      obtain ⟨k, hk, rfl⟩ := hrel
      have hm28 := HM.out.1.2
      by_cases hlt : k < m
      · have hle : 1 + 9 * ((k : Int) + 1) ≤ n := by omega
        go_wp2_with fail
        go_round
        case rel => exact ⟨k + 1, by omega, by go_num⟩
        case measure => simp [intOf]; omega
      · obtain rfl : k = m := by omega
        have hgt : ¬ 1 + 9 * ((k : Int) + 1) ≤ n := by have := HM.out.2; omega
        go_wp2_with fail
        go_ret
        exact ⟨rfl, rfl⟩
  · rw [holdN_out h]
    have hc : n < 16 ∨ (¬ n < 16 ∧ (256 : Int) < n) := by omega
    clear h
    rcases hc with hc | ⟨hc, hc2⟩
    all_goals
      go_enter Tryd.func17, Tryd.ntmps17
      go_wp2_with fail
      go_ret
      exact ⟨rfl, rfl⟩

end Go.Proofs.YtklbmlnghindjaaDoor
