/- The reference of layer 7, walked: After. -/
import Derived.Test.YtnodnhmlbcafgaaOrR3
namespace Go.Proofs.Ytnodnhmlbcafgaa
set_option maxRecDepth 100000
open Go.RowKit

theorem ror_after_yes (m k l : Nat) (w : World) (hl : LinesOk m) (hk : k ≤ 2 * m) (hll : l < m) :
    Calls Try.prog 14 #[.int .i64 m, .int .i64 k, .int .i64 l] w fun e w' => e = .returned (.tuple #[.int .i64 (afterC m k l : Nat), .int .i64 0]) ∧ Below w.heap.size w w' := by
  have hm1 : 1 ≤ m := by unfold LinesOk at hl; omega
  have hm64 : m ≤ 64 := by unfold LinesOk at hl; omega
  have HL := Lib.hid hl
  have hlen := refL_length m hm1
  have HS : Hid (∀ i, i < 2 * m → (refL m).getD i (0, false) = stepC m i) := fun i hi => refL_at hm1 hm64 hi
  have HN : Hid (∀ i, i < 2 * m → afterC m (i + 1) l = afterC m i l + (if (stepC m i).1 = l then 1 else 0)) := fun i hi => after_succ hi hll
  have HLE : Hid (∀ i, afterC m i l ≤ 2) := fun i => after_le m i l
  have H0 := Lib.hid (after_none m l)
  have hki : (k : Int) ≤ 2 * (m : Int) := by omega
  have hli : (l : Int) < (m : Int) := by omega
  have hz0 : (2 * (m : Int) == 0) = false := by rw [Bool.eq_false_iff]; intro h; rw [beq_iff_eq] at h; omega
  clear hl
  go_enter Try.func14, Try.ntmps14
  go_wp2_with fail
  refine (ror_steps (m : Int) _).mono ?_
  rintro e w1 ⟨⟨v, rfl, hv, _⟩, hb1⟩
  have hv := hv HL.out
  rw [Int.toNat_natCast] at hv
  obtain ⟨g, cap, rfl, hcap, hcs⟩ := hv.at (by omega)
  rw [hlen] at hcap hcs ⊢
  have HCS := Lib.hid hcs
  have HB := Lib.hid hb1
  clear hb1 hv hcs
  go_wp2_with fail
  go_loop [9, 10] (fun c i => ∃ j : Nat, j ≤ k ∧ i = .int .i64 j ∧ c = .int .i64 (afterC m j l : Nat)) (fun _ i => k + 1 - (intOf i).toNat)
  case atStart => exact ⟨0, Nat.zero_le _, rfl, by rw [H0.out]; rfl⟩
  case round =>
    obtain ⟨j, hj, rfl, rfl⟩ := hrel
    have hle := HLE.out j
    obtain ⟨c, hc⟩ : ∃ c, afterC m j l = c := ⟨_, rfl⟩
    rw [hc] at hle ⊢
    have HC := Lib.hid hc
    clear hc
    by_cases hlt : j < k
    · have hj2 : (j : Int) < 2 * (m : Int) := by omega
      obtain ⟨h1, _⟩ := HCS.out j (by omega)
      rw [HS.out j (by omega)] at h1
      have hn := HN.out j (by omega)
      obtain ⟨⟨sl, sf⟩, hs⟩ : ∃ s, stepC m j = s := ⟨_, rfl⟩
      rw [hs] at h1 hn
      rw [HC.out] at hn
      have HNX := Lib.hid hn
      clear hs hn
      by_cases hsl : sl = l
      · have HR : Hid (afterC m (j + 1) l = c + 1) := HNX.out.trans (by rw [if_pos hsl])
        have hsi : (sl : Int) = (l : Int) := by omega
        have hsb : ((sl : Int) == (l : Int)) = true := by rw [beq_iff_eq]; exact hsi
        clear hsl hsi
        go_wp2_with fail
        go_round
        case rel => exact ⟨j + 1, by omega, by go_num, by rw [HR.out]; go_num⟩
        case measure => simp [intOf]; omega
      · have HR : Hid (afterC m (j + 1) l = c) := HNX.out.trans (by rw [if_neg hsl]; rfl)
        have hsb : ((sl : Int) == (l : Int)) = false := by rw [Bool.eq_false_iff]; intro h; rw [beq_iff_eq] at h; omega
        clear hsl
        go_wp2_with fail
        go_round
        case rel => exact ⟨j + 1, by omega, by go_num, by rw [HR.out]⟩
        case measure => simp [intOf]; omega
    · obtain rfl : j = k := by omega
      go_wp2_with fail
      go_ret2
      exact ⟨by rw [HC.out]; rfl, HB.out⟩
theorem ror_after_no (n k l : Int) (w : World) (h : ¬ IsAfter n k l) :
    Calls Try.prog 14 #[.int .i64 n, .int .i64 k, .int .i64 l] w fun e w' => e = .returned (.tuple #[.int .i64 0, .int .i64 1]) ∧ Below w.heap.size w w' := by
  by_cases hl : LinesOk n
  · obtain ⟨m, rfl⟩ : ∃ m : Nat, n = m := ⟨n.toNat, by unfold LinesOk at hl; omega⟩
    have hm1 : 1 ≤ m := by unfold LinesOk at hl; omega
    have hm64 : m ≤ 64 := by unfold LinesOk at hl; omega
    have hc : k < 0 ∨ (¬ k < 0 ∧ 2 * (m : Int) < k) ∨ (¬ k < 0 ∧ ¬ 2 * (m : Int) < k ∧ l < 0) ∨ (¬ k < 0 ∧ ¬ 2 * (m : Int) < k ∧ ¬ l < 0 ∧ (m : Int) ≤ l) := by
      by_cases h1 : k < 0
      · exact Or.inl h1
      · by_cases h2 : 2 * (m : Int) < k
        · exact Or.inr (Or.inl ⟨h1, h2⟩)
        · by_cases h3 : l < 0
          · exact Or.inr (Or.inr (Or.inl ⟨h1, h2, h3⟩))
          · by_cases h4 : (m : Int) ≤ l
            · exact Or.inr (Or.inr (Or.inr ⟨h1, h2, h3, h4⟩))
            · exact absurd ⟨hl, by omega, by omega, by omega, by omega⟩ h
    have HL := Lib.hid hl
    have hlen := refL_length m hm1
    have hz0 : (2 * (m : Int) == 0) = false := by rw [Bool.eq_false_iff]; intro h; rw [beq_iff_eq] at h; omega
    clear hl h
    rcases hc with h1 | ⟨h1, h2⟩ | ⟨h1, h2, h3⟩ | ⟨h1, h2, h3, h4⟩
    all_goals
      go_enter Try.func14, Try.ntmps14
      go_wp2_with fail
      refine (ror_steps (m : Int) _).mono ?_
      rintro e w1 ⟨⟨v, rfl, hv, _⟩, hb1⟩
      have hv := hv HL.out
      rw [Int.toNat_natCast] at hv
      obtain ⟨g, cap, rfl, hcap, hcs⟩ := hv.at (by omega)
      rw [hlen] at hcap ⊢
      have HB := Lib.hid hb1
      clear hb1 hv hcs
      go_wp2_with fail
      go_ret2
      exact ⟨rfl, HB.out⟩
  · have HN := Lib.hid hl
    clear hl h
    go_enter Try.func14, Try.ntmps14
    go_wp2_with fail
    refine (ror_steps n _).mono ?_
    rintro e w1 ⟨⟨v, rfl, _, hv⟩, hb1⟩
    obtain rfl := hv HN.out
    have HB := Lib.hid hb1
    clear hb1 hv
    go_wp2_with fail
    go_ret2
    exact ⟨rfl, HB.out⟩
theorem ror_after (n k l : Int) (w : World) : Calls Try.prog 14 #[.int .i64 n, .int .i64 k, .int .i64 l] w (AfterT n k l w) := by
  unfold AfterT afN afC
  by_cases h : IsAfter n k l
  · rw [if_pos h, if_pos h]
    obtain ⟨hl, h0, h1, h2, h3⟩ := h
    obtain ⟨m, rfl⟩ : ∃ m : Nat, n = m := ⟨n.toNat, by unfold LinesOk at hl; omega⟩
    obtain ⟨j, rfl⟩ : ∃ j : Nat, k = j := ⟨k.toNat, by omega⟩
    obtain ⟨i, rfl⟩ : ∃ i : Nat, l = i := ⟨l.toNat, by omega⟩
    exact ror_after_yes m j i w hl (by omega) (by omega)
  · rw [if_neg h, if_neg h]
    exact ror_after_no n k l w h

end Go.Proofs.Ytnodnhmlbcafgaa
