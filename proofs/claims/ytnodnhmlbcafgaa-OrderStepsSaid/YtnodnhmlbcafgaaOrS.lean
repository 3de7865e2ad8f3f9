/- decklebook.SameSteps, walked. -/
import Derived.Test.YtnodnhmlbcafgaaOrL1
namespace Go.Proofs.Ytnodnhmlbcafgaa
set_option maxRecDepth 100000
open Go.RowKit

/-- a slice of steps, wherever it lies -/
def StepsAt (w : World) (v : Value) (l : List (Nat × Bool)) : Prop := ∃ (a : Option Addr) (cap : Nat), v = .slice a l.length cap ∧ l.length ≤ cap ∧
  ∀ k, k < l.length → ∃ g, a = some ⟨g, 0, none⟩ ∧ w.cell? ⟨g, k * 2, none⟩ = some (.int .i64 ((l.getD k (0, false)).1 : Nat)) ∧ w.cell? ⟨g, k * 2 + 1, none⟩ = some (.bool (l.getD k (0, false)).2)
theorem StepsAt.below {w w' : World} {v : Value} {l : List (Nat × Bool)} (h : StepsAt w v l) (hb : Below w.heap.size w w') : StepsAt w' v l := by
  obtain ⟨a, cap, hv, hc, hk⟩ := h
  refine ⟨a, cap, hv, hc, fun k h => ?_⟩
  obtain ⟨g, ha, h1, h2⟩ := hk k h
  exact ⟨g, ha, (hb.cell (p := ⟨g, k * 2, none⟩) (cell_lt h1)).trans h1, (hb.cell (p := ⟨g, k * 2 + 1, none⟩) (cell_lt h2)).trans h2⟩
theorem OwnSteps.steps {w : World} {B : Nat} {v : Value} {l : List (Nat × Bool)} (h : OwnSteps w B v l) : StepsAt w v l := by
  by_cases h1 : 1 ≤ l.length
  · obtain ⟨g, cap, hv, hc, hk⟩ := h.at h1
    exact ⟨some ⟨g, 0, none⟩, cap, hv, hc, fun k hk' => ⟨g, rfl, hk k hk'⟩⟩
  · have hl : l = [] := List.eq_nil_of_length_eq_zero (by omega)
    subst hl
    rcases h.2 with ⟨hv, _⟩ | ⟨g, cap, cur, hv, _⟩
    · exact ⟨none, 0, hv, Nat.le_refl _, fun k hk => absurd hk (Nat.not_lt_zero k)⟩
    · exact ⟨_, cap, hv, Nat.zero_le _, fun k hk => absurd hk (Nat.not_lt_zero k)⟩
/-- the first k of them, as a slice expression gives them -/
theorem StepsAt.first {w : World} {a : Option Addr} {n cap : Nat} {l : List (Nat × Bool)} (h : StepsAt w (.slice a n cap) l) (k : Nat) (hk : k ≤ l.length) : StepsAt w (.slice a k cap) (l.take k) := by
  obtain ⟨a', cap', hv, hc, hs⟩ := h
  cases hv
  have hl : (l.take k).length = k := by rw [List.length_take]; omega
  refine ⟨a, cap, by rw [hl], by omega, fun j hj => ?_⟩
  rw [hl] at hj
  obtain ⟨g, ha, h1, h2⟩ := hs j (by omega)
  have he : (l.take k).getD j (0, false) = l.getD j (0, false) := by simp [List.getD, List.getElem?_take_of_lt hj]
  rw [he]
  exact ⟨g, ha, h1, h2⟩

theorem book_steps (w : World) (u v : Value) (l : List (Nat × Bool)) (hz : l.length ≤ 1000) (hu : StepsAt w u l) (hv : StepsAt w v l) :
    Calls Try.prog 15 #[u, v] w fun e w' => e = .returned (.bool true) ∧ Below w.heap.size w w' := by
  obtain ⟨a, cap, rfl, hc, hs⟩ := hu
  obtain ⟨a', cap', rfl, hc', hs'⟩ := hv
  have HS := Lib.hid hs
  have HS' := Lib.hid hs'
  clear hs hs'
  obtain ⟨n, hn⟩ : ∃ n, l.length = n := ⟨_, rfl⟩
  rw [hn] at hz hc hc' HS HS' ⊢
  clear hn
  go_enter Try.func15, Try.ntmps15
  go_wp2_with fail
  go_loopw [5, 6] (fun b i wr => ∃ k : Nat, k ≤ n ∧ i = .int .i64 k ∧ b = .bool true ∧ Below w.heap.size w wr) (fun _ i _ => n + 1 - (intOf i).toNat)
  case atStart => exact ⟨0, Nat.zero_le _, rfl, rfl, Below.refl _ _⟩
  case round =>
    obtain ⟨k, hk, rfl, rfl, hb⟩ := hrel
    have HB := Lib.hid hb
    by_cases hlt : k < n
    · obtain ⟨g, rfl, h1, h2⟩ := HS.out k hlt
      obtain ⟨g', rfl, h3, h4⟩ := HS'.out k hlt
      obtain ⟨⟨sl, sf⟩, hse⟩ : ∃ s, l.getD k (0, false) = s := ⟨_, rfl⟩
      rw [hse] at h1 h2 h3 h4
      have hc1 := (hb.cell (p := ⟨g, k * 2, none⟩) (cell_lt h1)).trans h1
      have hc2 := (hb.cell (p := ⟨g, k * 2 + 1, none⟩) (cell_lt h2)).trans h2
      have hc3 := (hb.cell (p := ⟨g', k * 2, none⟩) (cell_lt h3)).trans h3
      have hc4 := (hb.cell (p := ⟨g', k * 2 + 1, none⟩) (cell_lt h4)).trans h4
      have heq : ∀ w, Sem.run Try.prog (binOp .eql 23 (.agg #[.int .i64 (sl : Nat), .bool sf]) (.agg #[.int .i64 (sl : Nat), .bool sf])) w = .ok (.bool true) w := fun w => by
        rw [eql_step, sameS_self]
      clear h1 h2 h3 h4 hse hb
      go_wp2_with fail
      go_quiet (fail)
      go_wp2_with fail
      go_roundw
      case rel => exact ⟨k + 1, by omega, by go_num, rfl, HB.out.trans (drewN_below2 _ _ _)⟩
      case measure => simp [intOf]; omega
    · obtain rfl : k = n := by omega
      clear hb
      go_wp2_with fail
      go_ret
      exact ⟨rfl, HB.out⟩

end Go.Proofs.Ytnodnhmlbcafgaa
