/- Layer 7: OrderGoes's walk. -/
import Derived.Test.YtnodnhmlbcafgaaOrL1
namespace Go.Proofs.Ytnodnhmlbcafgaa
set_option maxRecDepth 100000
open Go.RowKit

set_option maxHeartbeats 2000000 in
theorem walkn_OrderGoes (m k : Nat) (w : World) (hm : LinesOk m) (hk : k < 2 * m) :
    Calls Try.prog 6 #[.int .i64 m, .int .i64 k] w fun e w' => e = .returned (.bool true) ∧ Below w.heap.size w w' := by
  have hm1 : 1 ≤ m := by unfold LinesOk at hm; omega
  have hm64 : m ≤ 64 := by unfold LinesOk at hm; omega
  have HS := Lib.hid (st_yes hm hk)
  have HLN := Lib.hid (place_step hk).2
  have HA : Hid (∀ (j l : Nat), j ≤ 2 * m → l < m → afN m j l = (afterC m j l : Nat) ∧ afC m j l = 0) := fun j l hj hl => af_yes hm hj hl
  have HN : Hid (∀ l, l < m → afterC m (k + 1) l = afterC m k l + (if (stepC m k).1 = l then 1 else 0)) := fun l hl => after_succ hk hl
  have HT := Lib.hid (after_at hk)
  have H0 : Hid (∀ l, afterC m 0 l = 0) := fun l => after_none m l
  have H2 : Hid (∀ l, l < m → afterC m (2 * m) l = 2) := fun l hl => after_all hl
  have HLE : Hid (∀ j l, afterC m j l ≤ 2) := fun j l => after_le m j l
  have hki : (k : Int) < 2 * (m : Int) := by omega
  obtain ⟨⟨sl, sf⟩, hs⟩ : ∃ s, stepC m k = s := ⟨_, rfl⟩
  rw [hs] at HS HLN HN HT
  clear hs hm
  go_enter Try.func6, Try.ntmps6
  go_wp2_with fail
  refine (orworks_any _).mono ?_
  rintro e w1 ⟨rfl, hb1⟩
  have HB1 := Lib.hid hb1
  clear hb1
  go_wp2_with fail
  refine (or_at (m : Int) (k : Int) _).mono ?_
  rintro e w2 ⟨rfl, hb2⟩
  rw [HS.out.1, HS.out.2.1, HS.out.2.2]
  have HB2 : Hid (Below w.heap.size w w2) := HB1.out.trans (hb2.mono HB1.out.size)
  clear hb2
  obtain ⟨W3, hW3⟩ : ∃ W3, (w2.alloc (.cells #[.int .i64 0, .bool false] 23)).setRow w2.heap.size (sv sl sf) = W3 := ⟨_, rfl⟩
  have HK3 : Hid (Blk W3 w2.heap.size (sv sl sf) 23) := by
    show Blk W3 w2.heap.size (sv sl sf) 23
    rw [← hW3]
    exact (Blk.new w2 (sv 0 false) 23).put _
  have HB3 : Hid (Below w.heap.size w W3) := by
    show Below w.heap.size w W3
    rw [← hW3]
    exact below_put HB2.out.size _ (HB2.out.alloc HB2.out.size _)
  go_wp2_with (refine wpList_store_row rfl 23 (.tmp 5) (.tmp 39) rfl w2.heap.size (sv sl sf) rfl rfl 23 (sv 0 false) (Blk.new w2 (sv 0 false) 23) size_step rfl (sv_one _ _) ?_; try rw [show (w2.alloc (.cells (sv 0 false) 23)).setRow w2.heap.size (sv sl sf) = W3 from hW3])
  clear hW3
  go_loopw [7] (fun i wr => ∃ l : Nat, l ≤ m ∧ i = .int .i64 l ∧ Blk wr w2.heap.size (sv sl sf) 23 ∧ Below w.heap.size w wr) (fun i _ => m + 1 - (intOf i).toNat)
  case atStart => exact ⟨0, Nat.zero_le _, rfl, HK3.out, HB3.out⟩
  case round =>
    obtain ⟨l, hl, rfl, hblk, hb⟩ := hrel
    have HB := Lib.hid hb
    have HK := Lib.hid hblk
    clear hb hblk
    by_cases hlt : l < m
    · have ha1 : afN m k l = (afterC m k l : Nat) ∧ afC m k l = 0 := HA.out k l (by omega) hlt
      have ha2 : afN m ((k : Int) + 1) l = (afterC m (k + 1) l : Nat) ∧ afC m ((k : Int) + 1) l = 0 := HA.out (k + 1) l (by omega) hlt
      have ha3 : afN m 0 l = (afterC m 0 l : Nat) ∧ afC m 0 l = 0 := HA.out 0 l (by omega) hlt
      have ha4 : afN m (2 * (m : Int)) l = (afterC m (2 * m) l : Nat) ∧ afC m (2 * (m : Int)) l = 0 := HA.out (2 * m) l (by omega) hlt
      rw [H0.out] at ha3
      rw [H2.out l hlt] at ha4
      have hn := HN.out l hlt
      have hle := HLE.out k l
      have ht := HT.out
      obtain ⟨A, hAe⟩ : ∃ A, afterC m k l = A := ⟨_, rfl⟩
      obtain ⟨c, hce⟩ : ∃ c, afterC m (k + 1) l = c := ⟨_, rfl⟩
      rw [hAe] at ha1 hn hle
      rw [hce] at ha2 hn
      have HA1 := Lib.hid ha1
      have HA3 := Lib.hid ha3
      have HA4 := Lib.hid ha4
      have hlm : (l : Int) < (m : Int) := by omega
      clear ha1 ha3 ha4
      by_cases hsl : sl = l
      · rw [if_pos hsl] at hn
        have hci : (c : Int) = (A : Int) + 1 := by omega
        have q3 : ((A : Int) + 1 == 2) = sf := by
          rw [← ht, hsl, hce, hn, Bool.eq_iff_iff, beq_iff_eq, beq_iff_eq]; omega
        have q1 : ((l : Int) == (sl : Int)) = true := by rw [beq_iff_eq, hsl]
        rw [hci] at ha2
        have HA2 := Lib.hid ha2
        clear ha2 hn ht hAe hce hci hsl
        go_wp2_with fail
        refine (or_after (m : Int) (k : Int) (l : Int) _).mono ?_
        rintro e w4 ⟨rfl, hb4⟩
        rw [HA1.out.1, HA1.out.2]
        have HK4 := Lib.hid (HK.out.after hb4)
        have HB4 : Hid (Below w.heap.size w w4) := HB.out.trans (hb4.mono HB.out.size)
        clear hb4
        go_wp2_with fail
        refine (or_after (m : Int) ((k : Int) + 1) (l : Int) _).mono ?_
        rintro e w5 ⟨rfl, hb5⟩
        rw [HA2.out.1, HA2.out.2]
        have HK5 := Lib.hid (HK4.out.after hb5)
        have HB5 : Hid (Below w.heap.size w w5) := HB4.out.trans (hb5.mono HB4.out.size)
        clear hb5
        go_wp2_with fail
        refine (or_after (m : Int) 0 (l : Int) _).mono ?_
        rintro e w6 ⟨rfl, hb6⟩
        rw [HA3.out.1, HA3.out.2]
        have HK6 := Lib.hid (HK5.out.after hb6)
        have HB6 : Hid (Below w.heap.size w w6) := HB5.out.trans (hb6.mono HB5.out.size)
        clear hb6
        go_wp2_with fail
        refine (or_after (m : Int) (2 * (m : Int)) (l : Int) _).mono ?_
        rintro e w7 ⟨rfl, hb7⟩
        rw [HA4.out.1, HA4.out.2]
        have HK7 := Lib.hid (HK6.out.after hb7)
        have HB7 : Hid (Below w.heap.size w w7) := HB6.out.trans (hb7.mono HB6.out.size)
        clear hb7
        have hc0 : w7.cell? ⟨w2.heap.size, 0, none⟩ = some (.int .i64 (sl : Nat)) := HK7.out.cell 0
        have hc1 : w7.cell? ⟨w2.heap.size, 1, none⟩ = some (.bool sf) := HK7.out.cell 1
        go_wp2_with fail
        go_roundw
        case rel => exact ⟨l + 1, by omega, by go_num, HK7.out, HB7.out⟩
        case measure => simp [intOf]; omega
      · rw [if_neg hsl] at hn
        have hci : (c : Int) = (A : Int) := by omega
        have q1 : ((l : Int) == (sl : Int)) = false := by rw [Bool.eq_false_iff]; intro h; rw [beq_iff_eq] at h; omega
        rw [hci] at ha2
        have HA2 := Lib.hid ha2
        clear ha2 hn ht hAe hce hci hsl
        go_wp2_with fail
        refine (or_after (m : Int) (k : Int) (l : Int) _).mono ?_
        rintro e w4 ⟨rfl, hb4⟩
        rw [HA1.out.1, HA1.out.2]
        have HK4 := Lib.hid (HK.out.after hb4)
        have HB4 : Hid (Below w.heap.size w w4) := HB.out.trans (hb4.mono HB.out.size)
        clear hb4
        go_wp2_with fail
        refine (or_after (m : Int) ((k : Int) + 1) (l : Int) _).mono ?_
        rintro e w5 ⟨rfl, hb5⟩
        rw [HA2.out.1, HA2.out.2]
        have HK5 := Lib.hid (HK4.out.after hb5)
        have HB5 : Hid (Below w.heap.size w w5) := HB4.out.trans (hb5.mono HB4.out.size)
        clear hb5
        go_wp2_with fail
        refine (or_after (m : Int) 0 (l : Int) _).mono ?_
        rintro e w6 ⟨rfl, hb6⟩
        rw [HA3.out.1, HA3.out.2]
        have HK6 := Lib.hid (HK5.out.after hb6)
        have HB6 : Hid (Below w.heap.size w w6) := HB5.out.trans (hb6.mono HB5.out.size)
        clear hb6
        go_wp2_with fail
        refine (or_after (m : Int) (2 * (m : Int)) (l : Int) _).mono ?_
        rintro e w7 ⟨rfl, hb7⟩
        rw [HA4.out.1, HA4.out.2]
        have HK7 := Lib.hid (HK6.out.after hb7)
        have HB7 : Hid (Below w.heap.size w w7) := HB6.out.trans (hb7.mono HB6.out.size)
        clear hb7
        have hc0 : w7.cell? ⟨w2.heap.size, 0, none⟩ = some (.int .i64 (sl : Nat)) := HK7.out.cell 0
        have hc1 : w7.cell? ⟨w2.heap.size, 1, none⟩ = some (.bool sf) := HK7.out.cell 1
        go_wp2_with fail
        go_roundw
        case rel => exact ⟨l + 1, by omega, by go_num, HK7.out, HB7.out⟩
        case measure => simp [intOf]; omega
    · obtain rfl : l = m := by omega
      go_wp2_with fail
      go_ret
      exact ⟨rfl, HB.out⟩

theorem walkb_OrderGoes (n k : Int) (w : World) (hn : -9223372036854775808 ≤ n ∧ n ≤ 9223372036854775807) (hk : -9223372036854775808 ≤ k ∧ k ≤ 9223372036854775807) :
    Calls Try.prog 6 #[.int .i64 n, .int .i64 k] w fun e w' => e = .returned (.bool true) ∧ Below w.heap.size w w' := by
  obtain ⟨n1, n2⟩ := hn
  obtain ⟨k1, k2⟩ := hk
  have hc : (LinesOk n ∧ 0 ≤ k ∧ k < 2 * n) ∨ n < 1 ∨ (¬ n < 1 ∧ 64 < n) ∨ (¬ n < 1 ∧ ¬ 64 < n ∧ k < 0) ∨ (¬ n < 1 ∧ ¬ 64 < n ∧ ¬ k < 0 ∧ 2 * n ≤ k) := by unfold LinesOk; omega
  rcases hc with ⟨h1, h2, h3⟩ | h1 | ⟨h1, h2⟩ | ⟨h1, h2, h3⟩ | ⟨h1, h2, h3, h4⟩
  · obtain ⟨m, rfl⟩ : ∃ m : Nat, n = m := ⟨n.toNat, by unfold LinesOk at h1; omega⟩
    obtain ⟨j, rfl⟩ : ∃ j : Nat, k = j := ⟨k.toNat, by omega⟩
    exact walkn_OrderGoes m j w h1 (by omega)
  all_goals
    go_enter Try.func6, Try.ntmps6
    go_wp2_with fail
    refine (orworks_any _).mono ?_
    rintro e w1 ⟨rfl, hb1⟩
    have HB1 := Lib.hid hb1
    clear hb1
    go_wp2_with fail
    go_ret
    exact ⟨rfl, HB1.out⟩

end Go.Proofs.Ytnodnhmlbcafgaa
