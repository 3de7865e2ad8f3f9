/- Contracts of Turn and of the reference's Turn: bits turned round in 64. -/
import Derived.Test.YtcngmhodgpmjfaaBitsW1
namespace Go.Proofs.Ytcngmhodgpmjfaa
open Go.RowKit

/-- how far, from 0 to 63 -/
def far (k : Int) : Nat := (k % 64).toNat
theorem far_lt (k : Int) : far k < 64 := by unfold far; omega
theorem far_wrap (k : Int) : (IntKind.u64.wrap k).tmod 64 = (far k : Int) := by
  rw [IntKind.wrap_u64, Int.tmod_eq_emod_of_nonneg (by omega)]; unfold far; omega
theorem far_neg (k : Int) (h : k.tmod 64 < 0) : k.tmod 64 + 64 = (far k : Int) := by
  have h1 := Int.tmod_eq_emod (a := k) (b := 64)
  unfold far; split at h1 <;> omega
theorem far_pos (k : Int) (h : ¬ k.tmod 64 < 0) : k.tmod 64 = (far k : Int) := by
  have h1 := Int.tmod_eq_emod (a := k) (b := 64)
  unfold far; split at h1 <;> omega
theorem turn_math (v : Int) (a : Nat) (ha : a < 64) (v0 : 0 ≤ v) (v1 : v < p2 64) : bits .or .u64 (IntKind.u64.wrap (v * p2 a)) (v / p2 (64 - a)) = rot v a := by
  have e : IntKind.u64.wrap (v * p2 a) = lo v (64 - a) * p2 a := by
    have h := lo_shl v (64 - a) a
    rw [show 64 - a + a = 64 by omega] at h
    rw [wrap_lo, h]
  have hb := hi_bd v a (by omega) v0 v1
  have hl := lo_bd v (64 - a)
  have hp := p2_pos a
  rw [e, or_add _ _ a (by omega) (Int.mul_emod_left _ _) (Int.mul_nonneg hl.1 (by omega)) ?_ hb.1 hb.2]
  · rfl
  · have h3 : lo v (64 - a) * p2 a < p2 (64 - a) * p2 a := Int.mul_lt_mul_of_pos_right hl.2 hp
    rwa [← p2_add, show 64 - a + a = 64 by omega] at h3

theorem turn_any (v k : Int) (w : World) (v0 : 0 ≤ v) (v1 : v < p2 64) :
    Calls Try.prog 19 #[.int .u64 v, .int .i64 k] w fun e w' => e = .returned (.int .u64 (rot v (far k))) ∧ w = w' := by
  obtain ⟨a, hak⟩ : ∃ a, far k = a := ⟨_, rfl⟩
  have ha : a < 64 := by rw [← hak]; exact far_lt k
  have HT := Lib.hid (turn_math v a ha v0 v1)
  have hw : (IntKind.u64.wrap k).tmod 64 = (a : Int) := by rw [far_wrap, hak]
  rw [hak]; clear hak v0 v1
  go_enter Try.func19, Try.ntmps19
  go_wp2
  go_ret
  exact ⟨ret_int HT.out, rfl⟩

theorem turned_bd (v : Int) (a m : Nat) (ha : a ≤ 64) (hm : m ≤ 64) : 0 ≤ turned v a m ∧ turned v a m < 18446744073709551616 := by
  have hl := lo_bd v m
  have hp := p2_le hm
  have hr := rot_bd (lo v m) a ha hl.1 (by omega)
  have e : turned v a m = rot (lo v m) a := by
    unfold turned rot
    split
    · rename_i h
      have hp2 := p2_le h
      rw [lo_all _ _ hl.1 (by omega), Int.ediv_eq_zero_of_lt hl.1 (by omega)]; omega
    · rw [lo_lo _ _ _ (by omega)]
  rw [e, ← p2_64]; exact hr

theorem rturn_any (v k : Int) (w : World) (v0 : 0 ≤ v) (v1 : v < p2 64) :
    Calls Try.prog 20 #[.int .u64 v, .int .i64 k] w fun e w' => e = .returned (.int .u64 (rot v (far k))) ∧ w = w' := by
  obtain ⟨a, hak⟩ : ∃ a, far k = a := ⟨_, rfl⟩
  have ha : a < 64 := by rw [← hak]; exact far_lt k
  have HT := Lib.hid (turned_all v a ha v0 v1)
  have v2 : v < 18446744073709551616 := by rw [p2_64] at v1; exact v1
  by_cases hk : k.tmod 64 < 0
  all_goals
    first | have hw : k.tmod 64 + 64 = (a : Int) := by rw [far_neg k hk, hak] | have hw : k.tmod 64 = (a : Int) := by rw [far_pos k hk, hak]
    have hb : -64 ≤ k.tmod 64 ∧ k.tmod 64 < 64 := by omega
    rw [hak]; clear hak v1
    go_enter Try.func20, Try.ntmps20
    go_wp2
    go_loop [5, 6] (fun t i => ∃ j : Nat, j ≤ 64 ∧ i = .int .i64 j ∧ t = .int .u64 (turned v a j)) (fun _ i => 64 - (intOf i).toNat)
    case atStart => exact ⟨0, Nat.zero_le _, rfl, by rw [turned_zero]⟩
    case round =>
      obtain ⟨j, hj, rfl, rfl⟩ := hrel
      clear hw hk hb
      by_cases hlt : j < 64
      · have hl := turned_bd v a j (by omega) (by omega)
        have hs := turned_succ v a j ha hlt
        rcases bt_01 v j with hb | hb
        · have HB := Lib.hid hb
          have HS : Hid (turned v a (j + 1) = turned v a j) := by rw [hs, hb]; unfold Hid; omega
          clear hb hs
          go_wp2_with (go_at_call 26; refine (bit_nil v j _ (by omega) v0 v2 HB.out).mono ?_; rintro e w' ⟨rfl, rfl⟩)
          go_round
          case rel => exact ⟨j + 1, by omega, by go_num, by rw [HS.out]⟩
          case measure => simp [intOf]; omega
        · have HB := Lib.hid hb
          have hl2 := turned_bd v a (j + 1) (by omega) (by omega)
          have hp := p2_pos ((j + a) % 64)
          have HS : Hid (turned v a (j + 1) = turned v a j + p2 ((j + a) % 64)) := by rw [hs, hb]; unfold Hid; omega
          rw [HS.out] at hl2
          clear hb hs
          go_wp2_with (first | (go_at_call 26; refine (bit_one v j _ (by omega) v0 v2 HB.out).mono ?_; rintro e w' ⟨rfl, rfl⟩) | (go_at_call 27; fail))
          rw [show ((j : Int) + a) % 64 = (((j + a) % 64 : Nat) : Int) from by omega]
          refine (power_any _ _ (by omega)).mono ?_
          rintro e w' ⟨rfl, rfl⟩
          go_wp2
          go_round
          case rel => exact ⟨j + 1, by omega, by go_num, by rw [HS.out]⟩
          case measure => simp [intOf]; omega
      · obtain rfl : j = 64 := by omega
        go_wp2
        go_ret
        exact ⟨ret_int HT.out, rfl⟩

end Go.Proofs.Ytcngmhodgpmjfaa
