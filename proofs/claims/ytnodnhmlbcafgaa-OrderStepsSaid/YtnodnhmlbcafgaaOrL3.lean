/- Layer 7: OrderStaggers's walk. -/
import Derived.Test.YtnodnhmlbcafgaaOrL2
namespace Go.Proofs.Ytnodnhmlbcafgaa
set_option maxRecDepth 100000
open Go.RowKit

/-- what the line ahead is -/
def lastC (m k l : Nat) : Nat := if l = 0 then 2 else afterC m k (l - 1)

set_option maxHeartbeats 2000000 in
theorem walkn_OrderStaggers (m k : Nat) (w : World) (hm : LinesOk m) (hk : k ≤ 2 * m) :
    Calls Try.prog 5 #[.int .i64 m, .int .i64 k] w fun e w' => e = .returned (.bool true) ∧ Below w.heap.size w w' := by
  have hm1 : 1 ≤ m := by unfold LinesOk at hm; omega
  have hm64 : m ≤ 64 := by unfold LinesOk at hm; omega
  have HA : Hid (∀ (l : Nat), l < m → afN m k l = (afterC m k l : Nat) ∧ afC m k l = 0) := fun l hl => af_yes hm hk hl
  have HX : Hid (∀ l, l + 1 < m → afterC m k (l + 1) ≤ afterC m k l ∧ (afterC m k l = 2 → 1 ≤ afterC m k (l + 1))) := fun l hl => after_next hl
  have HF : Hid (∀ l, l < m → afterC m k l = 1 → fogB k l + 1 ≤ fogB k (l + 1)) := fun l hl h => fogB_next hl h
  have HLE : Hid (∀ l, afterC m k l ≤ 2) := fun l => after_le m k l
  have HLA : Hid (∀ l, l < m → afterC m k l ≤ lastC m k l) := fun l hl => by
    unfold lastC
    split
    · exact after_le m k l
    · rename_i h0
      have h := (after_next (n := m) (k := k) (l := l - 1) (by omega)).1
      rwa [show l - 1 + 1 = l by omega] at h
  have hki : (k : Int) ≤ 2 * (m : Int) := by omega
  clear hm
  go_enter Try.func5, Try.ntmps5
  go_wp2_with fail
  refine (orworks_any _).mono ?_
  rintro e w1 ⟨rfl, hb1⟩
  have HB1 := Lib.hid hb1
  clear hb1
  go_wp2_with fail
  go_loopw [5, 6, 7] (fun f la i wr => ∃ (l F : Nat), l ≤ m ∧ i = .int .i64 l ∧ f = .int .i64 F ∧ F ≤ fogB k l ∧ la = .int .i64 (lastC m k l : Nat) ∧ Below w.heap.size w wr) (fun _ _ i _ => m + 1 - (intOf i).toNat)
  case atStart => exact ⟨0, 0, Nat.zero_le _, rfl, rfl, Nat.zero_le _, rfl, HB1.out⟩
  case round =>
    obtain ⟨l, F, hl, rfl, rfl, hF, rfl, hb⟩ := hrel
    have HB := Lib.hid hb
    have hF2 : F ≤ 2 := Nat.le_trans hF (fogB_le k l)
    have HFB := Lib.hid hF
    clear hb hF
    by_cases hlt : l < m
    · have ha := HA.out l hlt
      have hla := HLA.out l hlt
      have hle := HLE.out l
      have hx := HX.out l
      have hf := HF.out l hlt
      obtain ⟨A, hAe⟩ : ∃ A, afterC m k l = A := ⟨_, rfl⟩
      obtain ⟨L, hLe⟩ : ∃ L, lastC m k l = L := ⟨_, rfl⟩
      have hL2 : L ≤ 2 := by rw [← hLe]; unfold lastC; split; exact Nat.le_refl _; exact HLE.out _
      have hnl : lastC m k (l + 1) = A := by unfold lastC; rw [if_neg (by omega)]; exact hAe
      rw [hAe] at ha hla hle hx hf
      rw [hLe] at hla ⊢
      have HA1 := Lib.hid ha
      have HNL := Lib.hid hnl
      have HXX := Lib.hid hx
      have HFF := Lib.hid hf
      have hlm : (l : Int) < (m : Int) := by omega
      have hali : (A : Int) ≤ (L : Int) := by omega
      clear ha hnl hx hf hAe hLe
      rcases (by omega : A = 0 ∨ A = 1 ∨ A = 2) with rfl | rfl | rfl
      · have HUP := Lib.hid (Nat.le_trans HFB.out (fogB_up k l))
        go_wp2_with fail
        refine (or_after (m : Int) (k : Int) (l : Int) _).mono ?_
        rintro e w4 ⟨rfl, hb4⟩
        rw [HA1.out.1, HA1.out.2]
        have HB4 : Hid (Below w.heap.size w w4) := HB.out.trans (hb4.mono HB.out.size)
        clear hb4
        go_wp2_with fail
        go_roundw
        case rel => exact ⟨l + 1, F, by omega, by go_num, rfl, HUP.out, by rw [HNL.out]; rfl, HB4.out⟩
        case measure => simp [intOf]; omega
      · have HUP := Lib.hid (Nat.le_trans (Nat.succ_le_succ HFB.out) (HFF.out rfl))
        go_wp2_with fail
        refine (or_after (m : Int) (k : Int) (l : Int) _).mono ?_
        rintro e w4 ⟨rfl, hb4⟩
        rw [HA1.out.1, HA1.out.2]
        have HB4 : Hid (Below w.heap.size w w4) := HB.out.trans (hb4.mono HB.out.size)
        clear hb4
        go_wp2_with fail
        go_roundw
        case rel => exact ⟨l + 1, F + 1, by omega, by go_num, by go_num, HUP.out, by rw [HNL.out]; rfl, HB4.out⟩
        case measure => simp [intOf]; omega
      · have HUP := Lib.hid (Nat.le_trans HFB.out (fogB_up k l))
        by_cases hl1 : l + 1 < m
        · have hn1 := (HXX.out hl1).2 rfl
          have ha5 : afN m k ((l : Int) + 1) = (afterC m k (l + 1) : Nat) ∧ afC m k ((l : Int) + 1) = 0 := HA.out (l + 1) hl1
          obtain ⟨x, hx⟩ : ∃ x, afterC m k (l + 1) = x := ⟨_, rfl⟩
          rw [hx] at ha5 hn1
          have HA5 := Lib.hid ha5
          have hx0 : ((x : Int) == 0) = false := by rw [Bool.eq_false_iff]; intro h; rw [beq_iff_eq] at h; omega
          have hl1i : (l : Int) + 1 < (m : Int) := by omega
          clear ha5 hx
          go_wp2_with fail
          refine (or_after (m : Int) (k : Int) (l : Int) _).mono ?_
          rintro e w4 ⟨rfl, hb4⟩
          rw [HA1.out.1, HA1.out.2]
          have HB4 : Hid (Below w.heap.size w w4) := HB.out.trans (hb4.mono HB.out.size)
          clear hb4
          go_wp2_with fail
          refine (or_after (m : Int) (k : Int) ((l : Int) + 1) _).mono ?_
          rintro e w5 ⟨rfl, hb5⟩
          rw [HA5.out.1, HA5.out.2]
          have HB5 : Hid (Below w.heap.size w w5) := HB4.out.trans (hb5.mono HB4.out.size)
          clear hb5
          go_wp2_with fail
          go_roundw
          case rel => exact ⟨l + 1, F, by omega, by go_num, rfl, HUP.out, by rw [HNL.out]; rfl, HB5.out⟩
          case measure => simp [intOf]; omega
        · have hl1i : ¬ (l : Int) + 1 < (m : Int) := by omega
          go_wp2_with fail
          refine (or_after (m : Int) (k : Int) (l : Int) _).mono ?_
          rintro e w4 ⟨rfl, hb4⟩
          rw [HA1.out.1, HA1.out.2]
          have HB4 : Hid (Below w.heap.size w w4) := HB.out.trans (hb4.mono HB.out.size)
          clear hb4
          go_wp2_with fail
          go_roundw
          case rel => exact ⟨l + 1, F, by omega, by go_num, rfl, HUP.out, by rw [HNL.out]; rfl, HB4.out⟩
          case measure => simp [intOf]; omega
    · obtain rfl : l = m := by omega
      go_wp2_with fail
      go_ret
      exact ⟨ret_bool (by rw [decide_eq_true_eq]; omega), HB.out⟩

theorem walkb_OrderStaggers (n k : Int) (w : World) (hn : -9223372036854775808 ≤ n ∧ n ≤ 9223372036854775807) (hk : -9223372036854775808 ≤ k ∧ k ≤ 9223372036854775807) :
    Calls Try.prog 5 #[.int .i64 n, .int .i64 k] w fun e w' => e = .returned (.bool true) ∧ Below w.heap.size w w' := by
  obtain ⟨n1, n2⟩ := hn
  obtain ⟨k1, k2⟩ := hk
  have hc : (LinesOk n ∧ 0 ≤ k ∧ k ≤ 2 * n) ∨ n < 1 ∨ (¬ n < 1 ∧ 64 < n) ∨ (¬ n < 1 ∧ ¬ 64 < n ∧ k < 0) ∨ (¬ n < 1 ∧ ¬ 64 < n ∧ ¬ k < 0 ∧ 2 * n < k) := by unfold LinesOk; omega
  rcases hc with ⟨h1, h2, h3⟩ | h1 | ⟨h1, h2⟩ | ⟨h1, h2, h3⟩ | ⟨h1, h2, h3, h4⟩
  · obtain ⟨m, rfl⟩ : ∃ m : Nat, n = m := ⟨n.toNat, by unfold LinesOk at h1; omega⟩
    obtain ⟨j, rfl⟩ : ∃ j : Nat, k = j := ⟨k.toNat, by omega⟩
    exact walkn_OrderStaggers m j w h1 (by omega)
  all_goals
    go_enter Try.func5, Try.ntmps5
    go_wp2_with fail
    refine (orworks_any _).mono ?_
    rintro e w1 ⟨rfl, hb1⟩
    have HB1 := Lib.hid hb1
    clear hb1
    go_wp2_with fail
    go_ret
    exact ⟨rfl, HB1.out⟩

end Go.Proofs.Ytnodnhmlbcafgaa
