/- The reference of layer 7, walked: At. -/
import Derived.Test.YtnodnhmlbcafgaaOrR1
namespace Go.Proofs.Ytnodnhmlbcafgaa
set_option maxRecDepth 100000
open Go.RowKit

/-- what the cells of a slice of steps hold -/
theorem OwnSteps.at {w : World} {B : Nat} {v : Value} {l : List (Nat × Bool)} (h : OwnSteps w B v l) (h1 : 1 ≤ l.length) : ∃ g cap, v = .slice (some ⟨g, 0, none⟩) l.length cap ∧ l.length ≤ cap ∧
    ∀ k, k < l.length → w.cell? ⟨g, k * 2, none⟩ = some (.int .i64 ((l.getD k (0, false)).1 : Nat)) ∧ w.cell? ⟨g, k * 2 + 1, none⟩ = some (.bool (l.getD k (0, false)).2) := by
  have hown := h
  unfold OwnSteps at hown
  rcases hown.2 with ⟨_, h0⟩ | ⟨g, cap, cur, rfl, _, _, hc, _, _, _⟩
  · omega
  · refine ⟨g, cap, rfl, hc, fun k hk => ⟨?_, ?_⟩⟩
    · have := hown.cells (g := g) rfl (2 * k) _ (cellsS_line l k hk)
      rw [Nat.mul_comm 2 k] at this
      cases k with
      | zero => simpa [Addr.add] using this
      | succ k => simpa [Addr.add] using this
    · have := hown.cells (g := g) rfl (2 * k + 1) _ (cellsS_fine l k hk)
      rw [Nat.mul_comm 2 k] at this
      simpa [Addr.add] using this

theorem size_step : (Try.prog.info? 23).map (·.size) = some 2 := by kernel_rfl

theorem sv_one (l : Int) (f : Bool) : (sv l f).all (·.oneCell') = true := by
  rw [Array.all_eq_true_iff_forall_mem]
  intro v hv
  simp [sv] at hv
  rcases hv with rfl | rfl <;> rfl

theorem ror_at (n k : Int) (w : World) : Calls Try.prog 10 #[.int .i64 n, .int .i64 k] w (StepT n k w) := by
  unfold StepT stL stF stC
  by_cases h : IsStep n k
  · rw [if_pos h, if_pos h, if_pos h]
    obtain ⟨hl, h0, h2⟩ := h
    obtain ⟨m, rfl⟩ : ∃ m : Nat, n = m := ⟨n.toNat, by unfold LinesOk at hl; omega⟩
    obtain ⟨j, rfl⟩ : ∃ j : Nat, k = j := ⟨k.toNat, by omega⟩
    have hm1 : 1 ≤ m := by unfold LinesOk at hl; omega
    have hm64 : m ≤ 64 := by unfold LinesOk at hl; omega
    have hj : j < 2 * m := by omega
    have HL := Lib.hid hl
    have HA := Lib.hid (refL_at hm1 hm64 hj)
    have hlen := refL_length m hm1
    clear hl h0 h2
    rw [Int.toNat_natCast, Int.toNat_natCast]
    obtain ⟨⟨sl, sf⟩, hs⟩ : ∃ s, stepC m j = s := ⟨_, rfl⟩
    rw [hs]
    have HS := Lib.hid hs
    clear hs
    go_enter Try.func10, Try.ntmps10
    go_wp2_with fail
    refine (ror_steps (m : Int) _).mono ?_
    rintro e w1 ⟨⟨v, rfl, hv, _⟩, hb1⟩
    have hv := hv HL.out
    rw [Int.toNat_natCast] at hv
    obtain ⟨g, cap, rfl, hcap, hcs⟩ := hv.at (by omega)
    rw [hlen] at hcap ⊢
    have hcj := hcs j (by omega)
    rw [HA.out, HS.out] at hcj
    obtain ⟨hc1, hc2⟩ := hcj
    have hji : (j : Int) < ((2 * m : Nat) : Int) := by omega
    have HB : Hid (Below w.heap.size w w1) := ((Below.refl _ _).alloc (Nat.le_refl _) _).trans (hb1.mono (by simp))
    have HK := Lib.hid ((Blk.new w (sv 0 false) 23).after hb1)
    clear hb1 hv hcs
    go_wp2_with (refine wpList_store_row rfl 23 (.tmp 4) (.tmp 21) rfl w.heap.size (sv sl sf) rfl rfl 23 (sv 0 false) HK.out size_step rfl (sv_one _ _) ?_)
    exact bodyPost_ret (results_cell_tmp (P := Try.prog) rfl _ _ w.heap.size 23 (sv sl sf) _ rfl (HK.out.put _) Try.underlying23 rfl size_step) rfl ⟨rfl, below_put (Nat.le_refl _) _ HB.out⟩
  · rw [if_neg h, if_neg h, if_neg h]
    by_cases hl : LinesOk n
    · obtain ⟨m, rfl⟩ : ∃ m : Nat, n = m := ⟨n.toNat, by unfold LinesOk at hl; omega⟩
      have hm1 : 1 ≤ m := by unfold LinesOk at hl; omega
      have hm64 : m ≤ 64 := by unfold LinesOk at hl; omega
      have hk : k < 0 ∨ ¬ k < 0 ∧ 2 * (m : Int) ≤ k := by
        by_cases h0 : k < 0
        · exact Or.inl h0
        · refine Or.inr ⟨h0, ?_⟩
          by_cases h2 : 2 * (m : Int) ≤ k
          · exact h2
          · exact absurd ⟨hl, by omega, by omega⟩ h
      have HL := Lib.hid hl
      have hlen := refL_length m hm1
      clear hl h
      rcases hk with hk | ⟨hk, hk2⟩
      all_goals
        go_enter Try.func10, Try.ntmps10
        go_wp2_with fail
        refine (ror_steps (m : Int) _).mono ?_
        rintro e w1 ⟨⟨v, rfl, hv, _⟩, hb1⟩
        have hv := hv HL.out
        rw [Int.toNat_natCast] at hv
        obtain ⟨g, cap, rfl, hcap, hcs⟩ := hv.at (by omega)
        rw [hlen] at hcap ⊢
        have HB : Hid (Below w.heap.size w w1) := ((Below.refl _ _).alloc (Nat.le_refl _) _).trans (hb1.mono (by simp))
        have HK := Lib.hid ((Blk.new w (sv 0 false) 23).after hb1)
        clear hb1 hv hcs
        go_wp2_with (refine wpList_store_row rfl 23 (.tmp 4) (.tmp 17) rfl w.heap.size (sv 0 false) rfl rfl 23 (sv 0 false) HK.out size_step rfl (sv_one _ _) ?_)
        exact bodyPost_ret (results_cell_tmp (P := Try.prog) rfl _ _ w.heap.size 23 (sv 0 false) _ rfl (HK.out.put _) Try.underlying23 rfl size_step) rfl ⟨rfl, below_put (Nat.le_refl _) _ HB.out⟩
    · have HN := Lib.hid hl
      have hk : k < 0 ∨ ¬ k < 0 := by omega
      clear hl h
      rcases hk with hk | hk
      all_goals
        go_enter Try.func10, Try.ntmps10
        go_wp2_with fail
        refine (ror_steps n _).mono ?_
        rintro e w1 ⟨⟨v, rfl, _, hv⟩, hb1⟩
        obtain rfl := hv HN.out
        have HB : Hid (Below w.heap.size w w1) := ((Below.refl _ _).alloc (Nat.le_refl _) _).trans (hb1.mono (by simp))
        have HK := Lib.hid ((Blk.new w (sv 0 false) 23).after hb1)
        clear hb1 hv
        go_wp2_with (refine wpList_store_row rfl 23 (.tmp 4) (.tmp 17) rfl w.heap.size (sv 0 false) rfl rfl 23 (sv 0 false) HK.out size_step rfl (sv_one _ _) ?_)
        exact bodyPost_ret (results_cell_tmp (P := Try.prog) rfl _ _ w.heap.size 23 (sv 0 false) _ rfl (HK.out.put _) Try.underlying23 rfl size_step) rfl ⟨rfl, below_put (Nat.le_refl _) _ HB.out⟩

end Go.Proofs.Ytnodnhmlbcafgaa
