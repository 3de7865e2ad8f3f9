/- Contracts of the small functions of package bits and of the reference of layer 1: isWidth, Power, Bit, Sign, Narrow, Turn. -/
import Derived.Test.YtcngmhodgpmjfaaKit
import Derived.Test.YtcngmhodgpmjfaaBitsM
namespace Go.Proofs.Ytcngmhodgpmjfaa
open Go.RowKit

theorem isWidth_yes (n : Int) (w : World) (h1 : 1 ≤ n) (h2 : n ≤ 64) :
    Calls Try.prog 25 #[.int .i64 n] w fun e w' => e = .returned (.bool true) ∧ w = w' := by
  go_enter Try.func25, Try.ntmps25
  go_wp2
  go_ret
  exact ⟨rfl, rfl⟩

theorem isWidth_no (n : Int) (w : World) (h1 : n < 1 ∨ 64 < n) :
    Calls Try.prog 25 #[.int .i64 n] w fun e w' => e = .returned (.bool false) ∧ w = w' := by
  rcases h1 with h | h
  · go_enter Try.func25, Try.ntmps25
    go_wp2
    go_ret
    exact ⟨rfl, rfl⟩
  · have h' : 1 ≤ n := by omega
    have h3 : decide (n ≤ 64) = false := by simpa using h
    go_enter Try.func25, Try.ntmps25
    go_wp2
    go_ret
    exact ⟨rfl, rfl⟩

theorem power_any (k : Nat) (w : World) (hk : k ≤ 63) :
    Calls Try.prog 27 #[.int .i64 k] w fun e w' => e = .returned (.int .u64 (p2 k)) ∧ w = w' := by
  go_enter Try.func27, Try.ntmps27
  go_wp2
  go_loop [3, 4] (fun t i => ∃ j : Nat, j ≤ k ∧ i = .int .i64 j ∧ t = .int .u64 (p2 j)) (fun _ i => k - (intOf i).toNat)
  case atStart => exact ⟨0, Nat.zero_le _, rfl, rfl⟩
  case round =>
    obtain ⟨j, hj, rfl, rfl⟩ := hrel
    by_cases hlt : j < k
    · have hp := p2_pos j
      have hp2 : p2 j * 2 < 18446744073709551616 := by
        rw [← p2_succ]; exact p2_lt (by omega)
      go_wp2
      go_round
      case rel => exact ⟨j + 1, by omega, by go_num, by rw [p2_succ]⟩
      case measure => simp [intOf]; omega
    · obtain rfl : j = k := by omega
      go_wp2
      go_ret
      exact ⟨rfl, rfl⟩

theorem bit_math (v : Int) (k : Nat) (v0 : 0 ≤ v) (v1 : v < 18446744073709551616) : (IntKind.u64.wrap (v.tdiv (p2 k))).tmod 2 = bt v k := by
  have hp := p2_pos k
  have hd : 0 ≤ v / p2 k := Int.ediv_nonneg v0 (by omega)
  have hl : v / p2 k ≤ v := Int.ediv_le_self _ v0
  rw [Int.tdiv_eq_ediv_of_nonneg v0, IntKind.wrap_u64, Int.emod_eq_of_lt hd (by omega), Int.tmod_eq_emod_of_nonneg hd]
  rfl

theorem bit_any (v : Int) (k : Nat) (w : World) (hk : k ≤ 63) (v0 : 0 ≤ v) (v1 : v < 18446744073709551616) :
    Calls Try.prog 26 #[.int .u64 v, .int .i64 k] w fun e w' => e = .returned (.int .u64 (bt v k)) ∧ w = w' := by
  have HB := Lib.hid (bit_math v k v0 v1)
  have hp := p2_pos k
  go_enter Try.func26, Try.ntmps26
  clear v0 v1
  go_wp2_with (go_at_call 27; refine (power_any k _ hk).mono ?_; rintro e w' ⟨rfl, rfl⟩)
  go_ret
  exact ⟨ret_int HB.out, rfl⟩

theorem bit_one (v : Int) (k : Nat) (w : World) (hk : k ≤ 63) (v0 : 0 ≤ v) (v1 : v < 18446744073709551616) (h : bt v k = 1) :
    Calls Try.prog 26 #[.int .u64 v, .int .i64 k] w fun e w' => e = .returned (.int .u64 1) ∧ w = w' := by
  have := bit_any v k w hk v0 v1; rwa [h] at this
theorem bit_nil (v : Int) (k : Nat) (w : World) (hk : k ≤ 63) (v0 : 0 ≤ v) (v1 : v < 18446744073709551616) (h : bt v k = 0) :
    Calls Try.prog 26 #[.int .u64 v, .int .i64 k] w fun e w' => e = .returned (.int .u64 0) ∧ w = w' := by
  have := bit_any v k w hk v0 v1; rwa [h] at this

theorem sign_yes (v n : Int) (w : World) (h1 : 1 ≤ n) (h2 : n ≤ 64) :
    Calls Try.prog 15 #[.int .u64 v, .int .i64 n] w fun e w' => e = .returned (.tuple #[.int .i64 (sg v n.toNat), .int .i64 0]) ∧ w = w' := by
  go_enter Try.func15, Try.ntmps15
  go_wp2_with (go_at_call 25; refine (isWidth_yes _ _ (by omega) (by omega)).mono ?_; rintro e w' ⟨rfl, rfl⟩)
  go_ret2
  have e := sign_math v n.toNat (by omega) (by omega)
  rw [show 64 - n.toNat = (64 - n).toNat by omega] at e
  exact ⟨by rw [← e]; rfl, rfl⟩

theorem sign_no (v n : Int) (w : World) (h1 : n < 1 ∨ 64 < n) :
    Calls Try.prog 15 #[.int .u64 v, .int .i64 n] w fun e w' => e = .returned (.tuple #[.int .i64 0, .int .i64 1]) ∧ w = w' := by
  go_enter Try.func15, Try.ntmps15
  go_wp2_with (go_at_call 25; refine (isWidth_no _ _ h1).mono ?_; rintro e w' ⟨rfl, rfl⟩)
  go_ret2
  exact ⟨rfl, rfl⟩

theorem narrow_no (v n : Int) (w : World) (h1 : n < 1 ∨ 64 < n) :
    Calls Try.prog 17 #[.int .i64 v, .int .i64 n] w fun e w' => e = .returned (.tuple #[.int .u64 0, .bool false]) ∧ w = w' := by
  go_enter Try.func17, Try.ntmps17
  go_wp2_with (go_at_call 25; refine (isWidth_no _ _ h1).mono ?_; rintro e w' ⟨rfl, rfl⟩)
  go_ret2
  exact ⟨rfl, rfl⟩

theorem narrow_yes (v n : Int) (w : World) (h1 : 1 ≤ n) (h2 : n ≤ 64) (h : sg v n.toNat = v) :
    Calls Try.prog 17 #[.int .i64 v, .int .i64 n] w fun e w' => e = .returned (.tuple #[.int .u64 (lo v n.toNat), .bool true]) ∧ w = w' := by
  have hl := narrow_math v n.toNat (by omega)
  rw [show 64 - n.toNat = (64 - n).toNat by omega] at hl
  have hs : sg (lo v n.toNat) n.toNat = v := by rw [sg_lo _ _ _ (by omega) (by omega), h]
  clear h
  have HL := Lib.hid hl
  have HS := Lib.hid hs
  clear hl hs
  unfold p2 at HL
  go_enter Try.func17, Try.ntmps17
  go_wp2_with (go_at_call 25; refine (isWidth_yes _ _ (by omega) (by omega)).mono ?_; rintro e w' ⟨rfl, rfl⟩)
  rw [HL.out]
  refine (sign_yes _ _ _ h1 h2).mono ?_
  rintro e w' ⟨rfl, rfl⟩
  rw [HS.out]
  go_wp2
  go_ret2
  exact ⟨rfl, rfl⟩

theorem narrow_left (v n : Int) (w : World) (h1 : 1 ≤ n) (h2 : n ≤ 64) (h : sg v n.toNat ≠ v) :
    Calls Try.prog 17 #[.int .i64 v, .int .i64 n] w fun e w' => e = .returned (.tuple #[.int .u64 0, .bool false]) ∧ w = w' := by
  have hl := narrow_math v n.toNat (by omega)
  rw [show 64 - n.toNat = (64 - n).toNat by omega] at hl
  have hs : sg (lo v n.toNat) n.toNat = sg v n.toNat := sg_lo _ _ _ (by omega) (by omega)
  have HL := Lib.hid hl
  have HS := Lib.hid hs
  clear hl hs
  unfold p2 at HL
  go_enter Try.func17, Try.ntmps17
  go_wp2_with (go_at_call 25; refine (isWidth_yes _ _ (by omega) (by omega)).mono ?_; rintro e w' ⟨rfl, rfl⟩)
  rw [HL.out]
  refine (sign_yes _ _ _ h1 h2).mono ?_
  rintro e w' ⟨rfl, rfl⟩
  rw [HS.out]
  go_wp2
  go_ret2
  exact ⟨rfl, rfl⟩

/-! the reference -/
theorem rsign_no (v n : Int) (w : World) (h1 : n < 1 ∨ 64 < n) :
    Calls Try.prog 16 #[.int .u64 v, .int .i64 n] w fun e w' => e = .returned (.tuple #[.int .i64 0, .int .i64 1]) ∧ w = w' := by
  rcases h1 with h | h
  · go_enter Try.func16, Try.ntmps16
    go_wp2
    go_ret2
    exact ⟨rfl, rfl⟩
  · have h' : 1 ≤ n := by omega
    go_enter Try.func16, Try.ntmps16
    go_wp2
    go_ret2
    exact ⟨rfl, rfl⟩

theorem rnarrow_no (v n : Int) (w : World) (h1 : n < 1 ∨ 64 < n) :
    Calls Try.prog 18 #[.int .i64 v, .int .i64 n] w fun e w' => e = .returned (.tuple #[.int .u64 0, .bool false]) ∧ w = w' := by
  rcases h1 with h | h
  · go_enter Try.func18, Try.ntmps18
    go_wp2
    go_ret2
    exact ⟨rfl, rfl⟩
  · have h' : 1 ≤ n := by omega
    go_enter Try.func18, Try.ntmps18
    go_wp2
    go_ret2
    exact ⟨rfl, rfl⟩

/-- the reference's sign: the sum of the lower bits, less the highest one's -/
theorem rsign_yes (v : Int) (m : Nat) (w : World) (hm : m ≤ 63) (v0 : 0 ≤ v) (v1 : v < 18446744073709551616) :
    Calls Try.prog 16 #[.int .u64 v, .int .i64 (m + 1)] w fun e w' => e = .returned (.tuple #[.int .i64 (sg v (m + 1)), .int .i64 0]) ∧ w = w' := by
  go_enter Try.func16, Try.ntmps16
  go_wp2
  go_loop [6, 7] (fun t i => ∃ j : Nat, j ≤ m ∧ i = .int .i64 j ∧ t = .int .i64 (lo v j)) (fun _ i => m - (intOf i).toNat)
  case atStart => exact ⟨0, Nat.zero_le _, rfl, by rw [lo_zero]⟩
  case round =>
    obtain ⟨j, hj, rfl, rfl⟩ := hrel
    have hl := lo_bd v j
    have hp := p2_pos j
    by_cases hlt : j < m
    · have hp2 : p2 j * 2 ≤ 9223372036854775808 := by
        rw [← p2_succ, ← p2_63]; exact p2_le (by omega)
      rcases bt_01 v j with hb | hb
      · have HB := Lib.hid hb
        clear hb
        go_wp2_with (go_at_call 26; refine (bit_nil v j _ (by omega) v0 v1 HB.out).mono ?_; rintro e w' ⟨rfl, rfl⟩)
        go_round
        case rel => exact ⟨j + 1, by omega, by go_num, by rw [lo_succ0 _ _ HB.out]⟩
        case measure => simp [intOf]; omega
      · have HB := Lib.hid hb
        clear hb
        go_wp2_with (first | (go_at_call 26; refine (bit_one v j _ (by omega) v0 v1 HB.out).mono ?_; rintro e w' ⟨rfl, rfl⟩) | (go_at_call 27; refine (power_any j _ (by omega)).mono ?_; rintro e w' ⟨rfl, rfl⟩))
        go_round
        case rel => exact ⟨j + 1, by omega, by go_num, by rw [lo_succ1 _ _ HB.out]⟩
        case measure => simp [intOf]; omega
    · obtain rfl : j = m := by omega
      have hp2 : p2 j ≤ 9223372036854775808 := by
        rw [← p2_63]; exact p2_le hm
      have hs : sg v (j + 1) = lo v j - bt v j * p2 j := rfl
      rcases bt_01 v j with hb | hb
      · have HS : Hid (sg v (j + 1) = lo v j) := by rw [hs, hb]; unfold Hid; omega
        have HB := Lib.hid hb
        clear hb hs
        go_wp2_with (go_at_call 26; refine (bit_nil v j _ (by omega) v0 v1 HB.out).mono ?_; rintro e w' ⟨rfl, rfl⟩)
        go_ret2
        exact ⟨ret_fst HS.out.symm, rfl⟩
      · have HS : Hid (sg v (j + 1) = lo v j - p2 j) := by rw [hs, hb]; unfold Hid; omega
        have HB := Lib.hid hb
        clear hb hs
        go_wp2_with (first | (go_at_call 26; refine (bit_one v j _ (by omega) v0 v1 HB.out).mono ?_; rintro e w' ⟨rfl, rfl⟩) | (go_at_call 27; fail))
        rw [show ((j : Int) + 1 - 2 + 1) = (j : Int) from by omega]
        refine (power_any j _ (by omega)).mono ?_
        rintro e w' ⟨rfl, rfl⟩
        go_wp2_with (go_at_call 27; refine (power_any j _ (by omega)).mono ?_; rintro e w' ⟨rfl, rfl⟩)
        go_ret2
        exact ⟨ret_fst (by rw [HS.out]; omega), rfl⟩

def nres (v : Int) (n : Nat) : Array Value := if sg v n = v then #[.int .u64 (lo v n), .bool true] else #[.int .u64 0, .bool false]
theorem nres_yes {v : Int} {n : Nat} (h : sg v n = v) : nres v n = #[.int .u64 (lo v n), .bool true] := if_pos h
theorem nres_left {v : Int} {n : Nat} (h : ¬ sg v n = v) : nres v n = #[.int .u64 0, .bool false] := if_neg h

/-- the reference's lowest bits, one by one -/
theorem rnarrow_out (v n : Int) (w : World) (h1 : 1 ≤ n) (h2 : n ≤ 64) :
    Calls Try.prog 18 #[.int .i64 v, .int .i64 n] w fun e w' => e = .returned (.tuple (nres v n.toNat)) ∧ w = w' := by
  obtain ⟨n, rfl⟩ := Int.eq_ofNat_of_zero_le (show 0 ≤ n by omega)
  obtain ⟨m, rfl⟩ : ∃ m, n = m + 1 := ⟨n - 1, by omega⟩
  obtain ⟨u, hu⟩ : ∃ u, IntKind.u64.wrap v = u := ⟨_, rfl⟩
  have hub : 0 ≤ u ∧ u < 18446744073709551616 := by
    rw [← hu, wrap_lo, ← p2_64]; exact lo_bd v 64
  have hlu : lo u (m + 1) = lo v (m + 1) := by rw [← hu, wrap_lo]; exact lo_lo _ _ _ (by omega)
  have hsu : sg (lo u (m + 1)) (m + 1) = sg v (m + 1) := by rw [hlu]; exact sg_lo _ _ _ (by omega) (by omega)
  have HU := Lib.hid hu
  have HL := Lib.hid hlu
  have HS := Lib.hid hsu
  clear hu hlu hsu
  obtain ⟨u0, u1⟩ := hub
  go_enter Try.func18, Try.ntmps18
  go_wp2
  rw [HU.out]
  go_loop [6, 8] (fun t i => ∃ j : Nat, j ≤ m + 1 ∧ i = .int .i64 j ∧ t = .int .u64 (lo u j)) (fun _ i => m + 1 - (intOf i).toNat)
  case atStart => exact ⟨0, Nat.zero_le _, rfl, by rw [lo_zero]⟩
  case round =>
    obtain ⟨j, hj, rfl, rfl⟩ := hrel
    have hl := lo_bd u j
    have hp := p2_pos j
    by_cases hlt : j < m + 1
    · have hp2 : p2 j * 2 ≤ 18446744073709551616 := by
        rw [← p2_succ, ← p2_64]; exact p2_le (by omega)
      rcases bt_01 u j with hb | hb
      · have HB := Lib.hid hb
        clear hb
        go_wp2_with (go_at_call 26; refine (bit_nil u j _ (by omega) u0 u1 HB.out).mono ?_; rintro e w' ⟨rfl, rfl⟩)
        go_round
        case rel => exact ⟨j + 1, by omega, by go_num, by rw [lo_succ0 _ _ HB.out]⟩
        case measure => simp [intOf]; omega
      · have HB := Lib.hid hb
        clear hb
        go_wp2_with (first | (go_at_call 26; refine (bit_one u j _ (by omega) u0 u1 HB.out).mono ?_; rintro e w' ⟨rfl, rfl⟩) | (go_at_call 27; refine (power_any j _ (by omega)).mono ?_; rintro e w' ⟨rfl, rfl⟩))
        go_round
        case rel => exact ⟨j + 1, by omega, by go_num, by rw [lo_succ1 _ _ HB.out]⟩
        case measure => simp [intOf]; omega
    · obtain rfl : j = m + 1 := by omega
      have hl64 : p2 (m + 1) ≤ 18446744073709551616 := by rw [← p2_64]; exact p2_le (by omega)
      go_wp2_with fail
      refine (rsign_yes (lo u (m + 1)) m _ (by omega) hl.1 (by omega)).mono ?_
      rintro e w' ⟨rfl, rfl⟩
      rw [HS.out]
      by_cases hz : sg v (m + 1) = v
      · have HZ := Lib.hid hz
        have hz2 : (sg v (m + 1) != v) = false := by simp [hz]
        clear hz
        go_wp2
        go_ret2
        exact ⟨ret_tup (by rw [show ((m + 1 : Nat) : Int).toNat = m + 1 from rfl, nres_yes HZ.out, ← HL.out]; rfl), rfl⟩
      · have HZ := Lib.hid hz
        have hz2 : (sg v (m + 1) != v) = true := by simp [hz]
        clear hz
        go_wp2
        go_ret2
        exact ⟨ret_tup (by rw [show ((m + 1 : Nat) : Int).toNat = m + 1 from rfl, nres_left HZ.out]; rfl), rfl⟩

theorem rnarrow_yes (v n : Int) (w : World) (h1 : 1 ≤ n) (h2 : n ≤ 64) (h : sg v n.toNat = v) :
    Calls Try.prog 18 #[.int .i64 v, .int .i64 n] w fun e w' => e = .returned (.tuple #[.int .u64 (lo v n.toNat), .bool true]) ∧ w = w' := by
  have := rnarrow_out v n w h1 h2; rwa [nres_yes h] at this
theorem rnarrow_left (v n : Int) (w : World) (h1 : 1 ≤ n) (h2 : n ≤ 64) (h : sg v n.toNat ≠ v) :
    Calls Try.prog 18 #[.int .i64 v, .int .i64 n] w fun e w' => e = .returned (.tuple #[.int .u64 0, .bool false]) ∧ w = w' := by
  have := rnarrow_out v n w h1 h2; rwa [nres_left h] at this

end Go.Proofs.Ytcngmhodgpmjfaa
