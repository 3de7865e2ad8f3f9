/- Layer 7: OrderOnce's walk. -/
import Derived.Test.YtnodnhmlbcafgaaOrL3
namespace Go.Proofs.Ytnodnhmlbcafgaa
set_option maxRecDepth 100000
open Go.RowKit

set_option maxHeartbeats 2000000 in
theorem walkn_OrderOnce (m : Nat) (w : World) (hm : LinesOk m) :
    Calls Try.prog 4 #[.int .i64 m] w fun e w' => e = .returned (.bool true) ∧ Below w.heap.size w w' := by
  have hm1 : 1 ≤ m := by unfold LinesOk at hm; omega
  have hm64 : m ≤ 64 := by unfold LinesOk at hm; omega
  have HP : Hid (∀ (l : Nat) (f : Bool), l < m → plN m l f = (placeC m l f : Nat) ∧ plC m l = 0) := fun l f hl => pl_yes f hm hl
  have HPB : Hid (∀ (l : Nat), l < m → placeC m l false < placeC m l true ∧ placeC m l true < 2 * m) := fun l hl => ⟨foggy_first m l, (step_place true hl).2⟩
  have HS : Hid (∀ (k : Nat), k < 2 * m → (stL m k = ((stepC m k).1 : Nat) ∧ stF m k = (stepC m k).2 ∧ stC m k = 0) ∧ placeC m (stepC m k).1 (stepC m k).2 = k ∧ (stepC m k).1 < m) := fun k hk => ⟨st_yes hm hk, place_step hk⟩
  have HE : Hid (stC m (2 * (m : Int)) = 1) := if_neg (fun h => by have := h.2.2; omega)
  clear hm
  go_enter Try.func4, Try.ntmps4
  go_wp2_with fail
  refine (orworks_any _).mono ?_
  rintro e w1 ⟨rfl, hb1⟩
  have HB1 := Lib.hid hb1
  clear hb1
  go_wp2_with fail
  go_loopw [5] (fun i wr => ∃ l : Nat, l ≤ m ∧ i = .int .i64 l ∧ Below w.heap.size w wr) (fun i _ => m + 1 - (intOf i).toNat)
  case atStart => exact ⟨0, Nat.zero_le _, rfl, HB1.out⟩
  case round =>
    obtain ⟨l, hl, rfl, hb⟩ := hrel
    have HB := Lib.hid hb
    clear hb
    by_cases hlt : l < m
    · have HP1 := Lib.hid (HP.out l false hlt)
      have HP2 := Lib.hid (HP.out l true hlt)
      obtain ⟨hpa, hpb⟩ := HPB.out l hlt
      obtain ⟨A, hA⟩ : ∃ A, placeC m l false = A := ⟨_, rfl⟩
      obtain ⟨C, hC⟩ : ∃ C, placeC m l true = C := ⟨_, rfl⟩
      rw [hA] at HP1 hpa
      rw [hC] at HP2 hpa hpb
      have hpai : (A : Int) < (C : Int) := by omega
      have hpbi : (C : Int) < 2 * (m : Int) := by omega
      have hlm : (l : Int) < (m : Int) := by omega
      clear hA hC
      go_wp2_with fail
      refine (or_place (m : Int) (l : Int) false _).mono ?_
      rintro e w4 ⟨rfl, hb4⟩
      rw [HP1.out.1, HP1.out.2]
      have HB4 : Hid (Below w.heap.size w w4) := HB.out.trans (hb4.mono HB.out.size)
      clear hb4
      go_wp2_with fail
      refine (or_place (m : Int) (l : Int) true _).mono ?_
      rintro e w5 ⟨rfl, hb5⟩
      rw [HP2.out.1, HP2.out.2]
      have HB5 : Hid (Below w.heap.size w w5) := HB4.out.trans (hb5.mono HB4.out.size)
      clear hb5
      go_wp2_with fail
      go_roundw
      case rel => exact ⟨l + 1, by omega, by go_num, HB5.out⟩
      case measure => simp [intOf]; omega
    · obtain rfl : l = m := by omega
      go_wp2_with fail
      go_loopw [10] (fun i wr => ∃ k : Nat, k ≤ 2 * l ∧ i = .int .i64 k ∧ Below w.heap.size w wr) (fun i _ => 2 * l + 1 - (intOf i).toNat)
      case atStart => exact ⟨0, Nat.zero_le _, rfl, HB.out⟩
      case round =>
        obtain ⟨k, hk, rfl, hb⟩ := hrel
        have HBk := Lib.hid hb
        clear hb
        by_cases hkt : k < 2 * l
        · obtain ⟨hst, hpl, hln⟩ := HS.out k hkt
          have hpp := HP.out (stepC l k).1 (stepC l k).2 hln
          rw [hpl] at hpp
          obtain ⟨⟨sl, sf⟩, hs⟩ : ∃ s, stepC l k = s := ⟨_, rfl⟩
          rw [hs] at hst hpp
          have HST := Lib.hid hst
          have HPP := Lib.hid hpp
          have hki : (k : Int) < 2 * (l : Int) := by omega
          clear hst hpl hln hpp hs
          go_wp2_with fail
          refine (or_at (l : Int) (k : Int) _).mono ?_
          rintro e w4 ⟨rfl, hb4⟩
          rw [HST.out.1, HST.out.2.1, HST.out.2.2]
          have HB4 : Hid (Below w.heap.size w w4) := HBk.out.trans (hb4.mono HBk.out.size)
          clear hb4
          obtain ⟨W3, hW3⟩ : ∃ W3, (w4.alloc (.cells #[.int .i64 0, .bool false] 23)).setRow w4.heap.size (sv sl sf) = W3 := ⟨_, rfl⟩
          have HK3 : Hid (Blk W3 w4.heap.size (sv sl sf) 23) := by
            show Blk W3 w4.heap.size (sv sl sf) 23
            rw [← hW3]
            exact (Blk.new w4 (sv 0 false) 23).put _
          have HB3 : Hid (Below w.heap.size w W3) := by
            show Below w.heap.size w W3
            rw [← hW3]
            exact below_put HB4.out.size _ (HB4.out.alloc HB4.out.size _)
          have hc0 : W3.cell? ⟨w4.heap.size, 0, none⟩ = some (.int .i64 (sl : Nat)) := HK3.out.cell 0
          have hc1 : W3.cell? ⟨w4.heap.size, 1, none⟩ = some (.bool sf) := HK3.out.cell 1
          go_wp2_with (refine wpList_store_row rfl 23 (.tmp 11) (.tmp 82) rfl w4.heap.size (sv sl sf) rfl rfl 23 (sv 0 false) (Blk.new w4 (sv 0 false) 23) size_step rfl (sv_one _ _) ?_; try rw [show (w4.alloc (.cells (sv 0 false) 23)).setRow w4.heap.size (sv sl sf) = W3 from hW3])
          refine (or_place (l : Int) (sl : Nat) sf _).mono ?_
          rintro e w5 ⟨rfl, hb5⟩
          rw [HPP.out.1, HPP.out.2]
          have HB5 : Hid (Below w.heap.size w w5) := HB3.out.trans (hb5.mono HB3.out.size)
          clear hb5 hW3 hc0 hc1
          go_wp2_with fail
          go_roundw
          case rel => exact ⟨k + 1, by omega, by go_num, HB5.out⟩
          case measure => simp [intOf]; omega
        · obtain rfl : k = 2 * l := by omega
          have hkt2 : ¬ ((2 * l : Nat) : Int) < 2 * (l : Int) := by omega
          go_wp2_with fail
          refine (or_at (l : Int) (2 * (l : Int)) _).mono ?_
          rintro e w4 ⟨rfl, hb4⟩
          rw [HE.out]
          have HB4 : Hid (Below w.heap.size w w4) := HBk.out.trans (hb4.mono HBk.out.size)
          clear hb4
          obtain ⟨x, hx⟩ : ∃ x, stL (l : Int) (2 * (l : Int)) = x := ⟨_, rfl⟩
          obtain ⟨y, hy⟩ : ∃ y, stF (l : Int) (2 * (l : Int)) = y := ⟨_, rfl⟩
          rw [hx, hy]
          clear hx hy
          go_wp2_with (refine wpList_store_row rfl 23 (.tmp 15) (.tmp 106) rfl w4.heap.size (sv x y) rfl rfl 23 (sv 0 false) (Blk.new w4 (sv 0 false) 23) size_step rfl (sv_one _ _) ?_)
          go_ret
          exact ⟨rfl, below_put HB4.out.size _ (HB4.out.alloc HB4.out.size _)⟩

theorem walkb_OrderOnce (n : Int) (w : World) (hn : -9223372036854775808 ≤ n ∧ n ≤ 9223372036854775807) :
    Calls Try.prog 4 #[.int .i64 n] w fun e w' => e = .returned (.bool true) ∧ Below w.heap.size w w' := by
  obtain ⟨n1, n2⟩ := hn
  have hc : LinesOk n ∨ n < 1 ∨ (¬ n < 1 ∧ 64 < n) := by unfold LinesOk; omega
  rcases hc with h1 | h1 | ⟨h1, h2⟩
  · obtain ⟨m, rfl⟩ : ∃ m : Nat, n = m := ⟨n.toNat, by unfold LinesOk at h1; omega⟩
    exact walkn_OrderOnce m w h1
  all_goals
    have HE : Hid (stC n 0 = 1) := if_neg (fun h => by have := h.1; unfold LinesOk at this; omega)
    go_enter Try.func4, Try.ntmps4
    go_wp2_with fail
    refine (orworks_any _).mono ?_
    rintro e w1 ⟨rfl, hb1⟩
    have HB1 := Lib.hid hb1
    clear hb1
    go_wp2_with fail
    refine (or_at n 0 _).mono ?_
    rintro e w4 ⟨rfl, hb4⟩
    rw [HE.out]
    have HB4 : Hid (Below w.heap.size w w4) := HB1.out.trans (hb4.mono HB1.out.size)
    clear hb4
    obtain ⟨x, hx⟩ : ∃ x, stL n 0 = x := ⟨_, rfl⟩
    obtain ⟨y, hy⟩ : ∃ y, stF n 0 = y := ⟨_, rfl⟩
    rw [hx, hy]
    clear hx hy
    go_wp2_with (refine wpList_store_row rfl 23 (.tmp 3) (.tmp 28) rfl w4.heap.size (sv x y) rfl rfl 23 (sv 0 false) (Blk.new w4 (sv 0 false) 23) size_step rfl (sv_one _ _) ?_)
    go_ret
    exact ⟨rfl, below_put HB4.out.size _ (HB4.out.alloc HB4.out.size _)⟩

end Go.Proofs.Ytnodnhmlbcafgaa
