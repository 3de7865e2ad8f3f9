/- decklelaw09.same, walked. -/
import Derived.Test.YtbpkaegkcknemaaFaR2
namespace Go.Proofs.Ytbpkaegkcknemaa
set_option maxRecDepth 100000
open Go.RowKit Go.Shelf Go.Proofs

theorem below_drewNF {B : Nat} {w wr : World} (h : Below B w wr) (q : Nat) : Below B w (wr.drewN q) := ⟨h.os, h.tape, h.output, h.size, h.block⟩

set_option maxHeartbeats 4000000 in
theorem fa_same (oa ob : Option Addr) (cap cap2 : Nat) (xs : List Fa) (hl : xs.length ≤ 1000000) (w : World) (h1 : FsAt w oa xs) (h2 : FsAt w ob xs) :
    Calls Try.prog 14 #[.slice oa xs.length cap, .slice ob xs.length cap2] w fun e w' => e = .returned (.bool true) ∧ Below w.heap.size w w' := by
  by_cases h0 : xs = []
  · subst h0
    show Calls Try.prog _ #[.slice oa 0 cap, .slice ob 0 cap2] w fun e w' => e = .returned (.bool true) ∧ Below w.heap.size w w'
    clear h1 h2
    go_enter Try.func14, Try.ntmps14
    go_wp2
    refine wp_loop_rounds 1 ?_
    rw [rounds_succ]
    go_wp2
    go_ret
    exact ⟨rfl, Below.refl _ _⟩
  · obtain ⟨b1, o1, rfl, hb1, hc1⟩ := h1 h0
    obtain ⟨b2, o2, rfl, hb2, hc2⟩ := h2 h0
    have HC1 : Hid (∀ i (hi : i < xs.length), w.rangeAt b1 (o1 + i * 4) (encF xs[i])) := hc1
    have HC2 : Hid (∀ i (hi : i < xs.length), w.rangeAt b2 (o2 + i * 4) (encF xs[i])) := hc2
    obtain ⟨n, hn⟩ : ∃ n, xs.length = n := ⟨_, rfl⟩
    have HN := Lib.hid hn
    rw [hn] at hl ⊢
    clear h1 h2 hc1 hc2 hn h0
    go_enter Try.func14, Try.ntmps14
    go_wp2
    go_loopg [5, 13] n (fun kx _ s13 wr => ∃ i : Nat, s13 = .int .i64 i ∧ i ≤ n ∧ n - i ≤ kx ∧ Hid (Below w.heap.size w wr))
    case atStart => exact ⟨0, rfl, Nat.zero_le _, Nat.le_refl _, Below.refl _ _⟩
    case round =>
      obtain ⟨i, rfl, hi, hkx, HB⟩ := hrel
      by_cases hlt : i < n
      · have hltz : (i : Int) < (n : Int) := by omega
        have hil : i < xs.length := by have := HN.out; omega
        have hr1 : wr.rangeAt b1 (o1 + i * 4) (encF xs[i]) := fun t u hu => by
          rw [World.cell?_of_block (w := w) (HB.out.block b1 hb1)]; exact HC1.out i hil t u hu
        have hr2 : wr.rangeAt b2 (o2 + i * 4) (encF xs[i]) := fun t u hu => by
          rw [World.cell?_of_block (w := w) (HB.out.block b2 hb2)]; exact HC2.out i hil t u hu
        generalize xs[i] = x at hr1 hr2
        obtain ⟨x1, x2, x3, x4⟩ := x
        have c0 : wr.cell? ⟨b1, o1 + i * 4, none⟩ = some (.int .i64 x1) := hr1 0 _ rfl
        have c1 : wr.cell? ⟨b1, o1 + i * 4 + 1, none⟩ = some (.int .i64 x2) := hr1 1 _ rfl
        have c2 : wr.cell? ⟨b1, o1 + i * 4 + 2, none⟩ = some (.int .i64 x3) := hr1 2 _ rfl
        have c3 : wr.cell? ⟨b1, o1 + i * 4 + 3, none⟩ = some (.int .i64 x4) := hr1 3 _ rfl
        have d0 : wr.cell? ⟨b2, o2 + i * 4, none⟩ = some (.int .i64 x1) := hr2 0 _ rfl
        have d1 : wr.cell? ⟨b2, o2 + i * 4 + 1, none⟩ = some (.int .i64 x2) := hr2 1 _ rfl
        have d2 : wr.cell? ⟨b2, o2 + i * 4 + 2, none⟩ = some (.int .i64 x3) := hr2 2 _ rfl
        have d3 : wr.cell? ⟨b2, o2 + i * 4 + 3, none⟩ = some (.int .i64 x4) := hr2 3 _ rfl
        have hnq : ∀ w, Sem.run Try.prog (binOp .neq 26 (.agg #[.int .i64 x1, .int .i64 x2, .int .i64 x3, .int .i64 x4]) (.agg #[.int .i64 x1, .int .i64 x2, .int .i64 x3, .int .i64 x4])) w = .ok (.bool false) w := fun w => by
          have h := ne_fault (x1, x2, x3, x4) (x1, x2, x3, x4) w
          rw [eqF_self] at h
          exact h
        have HBQ : Hid (∀ q, Below w.heap.size w (wr.drewN q)) := fun q => below_drewNF HB.out q
        clear hr1 hr2 hil
        go_wp2_with fail
        go_quiet (fail)
        go_wp2_with fail
        go_roundg (n - (i + 1))
        case measure => omega
        case rel => exact ⟨i + 1, by go_num, by omega, Nat.le_refl _, HBQ.out _⟩
      · obtain rfl : i = n := by omega
        have hltz : ¬ (i : Int) < (i : Int) := by omega
        go_wp2
        go_ret
        exact ⟨rfl, HB.out⟩

end Go.Proofs.Ytbpkaegkcknemaa
