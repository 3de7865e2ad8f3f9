/- The reference of layer 3, walked: Xor, Bits, Left. -/
import Derived.Test.YtcjhojedenpmbaaDoorHamR1
namespace Go.Proofs.YtcjhojedenpmbaaDoor
open Go.RowKit

theorem xor_div (a b k : Nat) : (a ^^^ b) / 2 ^ k = a / 2 ^ k ^^^ b / 2 ^ k := by
  apply Nat.eq_of_testBit_eq; intro i
  rw [Nat.testBit_xor, Nat.testBit_div_two_pow, Nat.testBit_div_two_pow, Nat.testBit_div_two_pow, Nat.testBit_xor]
theorem xor_step (a b k : Nat) : (a ^^^ b) % 2 ^ (k + 1) = (a ^^^ b) % 2 ^ k + 2 ^ k * ((a / 2 ^ k % 2 + b / 2 ^ k % 2) % 2) := by
  rw [Nat.mod_pow_succ, xor_div, xor_odd]

set_option maxRecDepth 100000 in
theorem xor_any (a b : Nat) (w : World) (ha : a < 128) (hb : b < 128) :
    Calls Tryd.prog 26 #[.int .i64 a, .int .i64 b] w fun e w' => e = .returned (.int .i64 ((a ^^^ b : Nat) : Int)) ∧ w = w' := by
  have HS := Lib.hid (xor_step a b)
  have HA := Lib.hid ha
  have HB := Lib.hid hb
  clear ha hb
  go_enter Tryd.func26, Tryd.ntmps26
  go_wp2
  go_loop [0, 1, 5, 6] (fun x y o p => ∃ k : Nat, k ≤ 7 ∧ x = .int .i64 ((a / 2 ^ k : Nat) : Int) ∧ y = .int .i64 ((b / 2 ^ k : Nat) : Int) ∧ o = .int .i64 (((a ^^^ b) % 2 ^ k : Nat) : Int) ∧ p = .int .i64 ((2 ^ k : Nat) : Int)) (fun x y _ _ => (intOf x).toNat + (intOf y).toNat)
  case atStart => exact ⟨0, by omega, by simp, by simp, by simp [Nat.mod_one], rfl⟩
  case round =>
    obtain ⟨k, hk, rfl, rfl, rfl, rfl⟩ := hrel
    obtain ⟨x, hx⟩ : ∃ x, a / 2 ^ k = x := ⟨_, rfl⟩
    obtain ⟨y, hy⟩ : ∃ y, b / 2 ^ k = y := ⟨_, rfl⟩
    obtain ⟨o, ho⟩ : ∃ o, (a ^^^ b) % 2 ^ k = o := ⟨_, rfl⟩
    obtain ⟨p, hp⟩ : ∃ p, 2 ^ k = p := ⟨_, rfl⟩
    have HX : Hid (a / 2 ^ (k + 1) = x / 2) := by rw [Nat.pow_succ, ← Nat.div_div_eq_div_mul, hx]; rfl
    have HY : Hid (b / 2 ^ (k + 1) = y / 2) := by rw [Nat.pow_succ, ← Nat.div_div_eq_div_mul, hy]; rfl
    have HP : Hid (2 ^ (k + 1) = p * 2) := by rw [← hp]; exact Nat.pow_succ ..
    have HO : Hid ((a ^^^ b) % 2 ^ (k + 1) = o + p * ((x % 2 + y % 2) % 2)) := by rw [HS.out k, hx, hy, ho, hp]; rfl
    have hxb : x < 128 := by rw [← hx]; exact Nat.lt_of_le_of_lt (Nat.div_le_self _ _) HA.out
    have hyb : y < 128 := by rw [← hy]; exact Nat.lt_of_le_of_lt (Nat.div_le_self _ _) HB.out
    have hpb : p ≤ 128 := by rw [← hp]; exact Nat.le_trans (Nat.pow_le_pow_right (by decide) hk) (by decide)
    have hob : o < 128 := by rw [← ho]; exact Nat.lt_of_le_of_lt (Nat.mod_le _ _) (Nat.xor_lt_two_pow (n := 7) HA.out HB.out)
    have HK : Hid (k = 7 → x = 0 ∧ y = 0) := by
      intro e; subst e
      rw [← hx, ← hy]
      have := HA.out; have := HB.out
      exact ⟨by omega, by omega⟩
    have HE : Hid (x = 0 → y = 0 → o = a ^^^ b) := by
      intro e1 e2
      rw [← ho]
      have h1 : a < 2 ^ k := by
        have hp0 : 0 < 2 ^ k := Nat.pow_pos (by decide)
        rcases Nat.lt_or_ge a (2 ^ k) with h | h
        · exact h
        · have := Nat.div_pos h hp0; omega
      have h2 : b < 2 ^ k := by
        have hp0 : 0 < 2 ^ k := Nat.pow_pos (by decide)
        rcases Nat.lt_or_ge b (2 ^ k) with h | h
        · exact h
        · have := Nat.div_pos h hp0; omega
      exact Nat.mod_eq_of_lt (Nat.xor_lt_two_pow h1 h2)
    rw [hx, hy, ho, hp]
    clear hx hy ho hp
    by_cases hz : x = 0 ∧ y = 0
    · have HE0 := Lib.hid (HE.out hz.1 hz.2)
      obtain ⟨rfl, rfl⟩ := hz
      clear HE HK
      go_wp2
      go_ret
      exact ⟨ret_int (by rw [← HE0.out]), rfl⟩
    · have hg : (decide ((0 : Int) < (x : Int)) || decide ((0 : Int) < (y : Int))) = true := by simp; omega
      have hk7 : k + 1 ≤ 7 := by
        rcases Nat.lt_or_ge k 7 with h | h
        · omega
        · exact absurd (HK.out (by omega)) hz
      by_cases hd : x % 2 = y % 2
      · have hd2 : ((x : Int) % 2 == (y : Int) % 2) = true := by simp; omega
        have e0 : (x % 2 + y % 2) % 2 = 0 := by omega
        have HO2 : Hid ((a ^^^ b) % 2 ^ (k + 1) = o) := by have := HO.out; rw [e0] at this; exact this
        go_wp2
        all_goals
          go_round
          case rel => exact ⟨k + 1, hk7, by rw [HX.out]; go_num, by rw [HY.out]; go_num, by rw [HO2.out], by rw [HP.out]; go_num⟩
          case measure => simp [intOf]; omega
      · have hd2 : ((x : Int) % 2 == (y : Int) % 2) = false := by simp; omega
        have e0 : (x % 2 + y % 2) % 2 = 1 := by omega
        have HO2 : Hid ((a ^^^ b) % 2 ^ (k + 1) = o + p) := by have := HO.out; rw [e0, Nat.mul_one] at this; exact this
        go_wp2
        all_goals
          go_round
          case rel => exact ⟨k + 1, hk7, by rw [HX.out]; go_num, by rw [HY.out]; go_num, by rw [HO2.out]; go_num, by rw [HP.out]; go_num⟩
          case measure => simp [intOf]; omega

/-! Left -/
def left3 (xs : List Nat) (k : Nat) : Nat := leftL (xs.take k)
theorem left3_succ (xs : List Nat) (k : Nat) (h : k < xs.length) : left3 xs (k + 1) = left3 xs k ^^^ place (xs.getD k 0) := by
  unfold left3
  rw [List.take_succ_eq_append_getElem h, leftL_snoc]
  simp [List.getD, h]
theorem left3_all (xs : List Nat) : left3 xs xs.length = leftL xs := by unfold left3; rw [List.take_length]
theorem place_cell {w : World} {g : Nat} (h : IntsAt w g pl) (i : Nat) (hi : i < 72) : w.cell? ⟨g, i, none⟩ = some (.int .i64 ((place i : Nat) : Int)) := h i hi

set_option maxRecDepth 100000 in
theorem rleft_any (v : Value) (xs : List Nat) (w : World) (hv : Ints w v xs) (hl : ∀ i, i ∈ xs → i < 72) (hn : xs.length ≤ 100) :
    Calls Tryd.prog 19 #[v] w fun e w' => e = .returned (.int .i64 ((leftL xs : Nat) : Int)) ∧ Below w.heap.size w w' := by
  obtain ⟨a, ca, rfl, hc⟩ := hv
  have HC := Lib.hid hc
  have HA := Lib.hid (left3_all xs)
  have HS := Lib.hid (left3_succ xs)
  have HL := Lib.hid hl
  clear hc hl
  obtain ⟨n, hn2⟩ : ∃ n, xs.length = n := ⟨_, rfl⟩
  have HN := Lib.hid hn2
  rw [hn2] at hn ⊢
  clear hn2
  go_enter Tryd.func19, Tryd.ntmps19
  go_wp2_with fail
  refine (places_any _).mono ?_
  rintro e w1 ⟨v, rfl, hown, hb⟩
  rcases owned_cells hown rfl with ⟨_, h0⟩ | ⟨g, cap, rfl, _, hg, hpl⟩
  · exact absurd h0 (by decide)
  have HP := Lib.hid hpl
  have HB := Lib.hid hb
  clear hown hpl hb
  go_wp2_with fail
  go_loop [4, 5] (fun x i => ∃ k : Nat, k ≤ n ∧ i = .int .i64 k ∧ x = .int .i64 ((left3 xs k : Nat) : Int)) (fun _ i => n - (intOf i).toNat)
  case atStart => exact ⟨0, Nat.zero_le _, rfl, by unfold left3; rw [List.take_zero]; rfl⟩
  case round =>
    obtain ⟨k, hk, rfl, rfl⟩ := hrel
    by_cases hlt : k < n
    · have hlt2 : k < xs.length := by rw [HN.out]; exact hlt
      obtain ⟨b, ha, hbz, hcells⟩ := HC.out k hlt2
      subst ha
      have hcell := HB.out.cell (p := ⟨b, k, none⟩) hbz
      rw [hcells k hlt2] at hcell
      obtain ⟨j, hj⟩ : ∃ j, xs.getD k 0 = j := ⟨_, rfl⟩
      have hj72 : j < 72 := by
        rw [← hj]
        apply HL.out
        have : xs.getD k 0 = xs[k] := by simp [List.getD, hlt2]
        rw [this]; exact List.getElem_mem _
      have HK := Lib.hid (HS.out k hlt2)
      rw [hj] at hcell HK
      have hpc := place_cell HP.out j hj72
      obtain ⟨q, hq⟩ : ∃ q, place j = q := ⟨_, rfl⟩
      have hq7 : q < 128 := by rw [← hq]; have := place_le j; omega
      rw [hq] at hpc HK
      obtain ⟨x, hx⟩ : ∃ x, left3 xs k = x := ⟨_, rfl⟩
      have hx7 : x < 128 := by rw [← hx]; exact leftL_lt _
      rw [hx] at HK ⊢
      clear hj hq hx hcells
      go_wp2_with fail
      refine (xor_any x q _ hx7 hq7).mono ?_
      rintro e w' ⟨rfl, rfl⟩
      rw [← HK.out]
      go_wp2_with fail
      go_round
      case rel => exact ⟨k + 1, by omega, by go_num, rfl⟩
      case measure => simp [intOf]; omega
    · obtain rfl : k = n := by omega
      have HE : Hid (left3 xs k = leftL xs) := by rw [← HA.out, HN.out]; rfl
      go_wp2
      go_ret
      exact ⟨ret_int (by rw [HE.out]), HB.out⟩

end Go.Proofs.YtcjhojedenpmbaaDoor
