/- The book's spoilers of pages and of records. -/
import Derived.Test.YtklbmlnghindjaaDoorShB
import Derived.LoopN
namespace Go.Proofs.YtklbmlnghindjaaDoor
set_option maxRecDepth 100000
open Go.RowKit

theorem setCells_neX (b k : Nat) (hne : k ≠ b) : ∀ (vs : List Value) (o : Nat) (w : World), (w.setCells b o vs).heap[k]? = w.heap[k]?
  | [], _, _ => rfl
  | v :: r, o, w => by
    rw [World.setCells, setCells_neX b k hne r (o + 1) _]
    exact Below.heap_setCell _ _ _ _ hne
theorem grownX_setCell {w w' : World} {g : Nat} (h : w.grownBy w' (some g)) (p : Addr) (u : Value) (hp : p.block = g) : w.grownBy (w'.setCell p u) (some g) :=
  ⟨h.os, h.tape, h.output, by rw [World.size_setCell]; exact h.size, fun k hk hn => (Below.heap_setCell _ _ _ _ (fun e => hn (by rw [e, hp]))).trans (h.block k hk hn)⟩
theorem grownX_setCells {w : World} (g : Nat) : ∀ (vs : List Value) (o : Nat) (w' : World), w.grownBy w' (some g) → w.grownBy (w'.setCells g o vs) (some g)
  | [], _, _, h => h
  | v :: r, o, w', h => by
    rw [World.setCells]
    exact grownX_setCells g r (o + 1) _ (grownX_setCell h ⟨g, o, none⟩ v rfl)
theorem grownX_drewN {w w' : World} {r : Option Nat} (h : w.grownBy w' r) (q : Nat) : w.grownBy (w'.drewN q) r := ⟨h.os, h.tape, h.output, h.size, h.block⟩
theorem there_drewNX {w : World} {b o n : Nat} (h : w.there b o n) (q : Nat) : (w.drewN q).there b o n := h
theorem there_ownX {w : World} {B n z : Nat} {v : Value} {xs : List Value} {e : TypeId} {g cap : Nat} (h : w.ownsRow B e z v n xs) (hv : v = .slice (some ⟨g, 0, none⟩) n cap) : w.there g 0 (n * z) := by
  intro j hj
  have hx : j < xs.length := by rw [h.1]; exact hj
  have h1 := cell_of_rowX h hv j xs[j] (List.getElem?_eq_getElem hx)
  rw [Nat.zero_add]
  refine ⟨by rw [h1]; rfl, ?_⟩
  rcases h.2 with ⟨hv2, _⟩ | ⟨g2, cap2, cur, hv2, _, hg, _⟩
  · rw [hv] at hv2; cases hv2
  · rw [hv] at hv2; cases hv2
    simp [World.frozen?, hg]

theorem spoil_recs (w : World) (B n : Nat) (v : Value) (xs : List Value) (hz : n ≤ 1000000) (h : w.ownsRow B 32 3 v n xs) :
    Calls Tryd.prog 10 #[v] w fun e w' => e = .returned (.tuple #[]) ∧ w.grownBy w' v.ownBlock := by
  have h0 := h
  rcases h.2 with ⟨rfl, rfl⟩ | ⟨g, cap, cur, rfl, _⟩
  · clear h h0
    go_enter Tryd.func10, Tryd.ntmps10
    go_wp2
    refine wp_loop_rounds 1 ?_
    rw [rounds_succ]
    go_wp2
    refine bodyPost_end (results_none rfl _ _ _) rfl ?_
    exact ⟨rfl, ⟨rfl, rfl, rfl, Nat.le_refl _, fun _ _ _ => rfl⟩⟩
  · have HT : Hid (w.there g 0 (n * 3)) := there_ownX h0 rfl
    have HG0 : Hid (w.grownBy w (some g)) := ⟨rfl, rfl, rfl, Nat.le_refl _, fun _ _ _ => rfl⟩
    clear h h0
    show Calls Tryd.prog _ _ w fun e w' => e = .returned (.tuple #[]) ∧ w.grownBy w' (some g)
    go_enter Tryd.func10, Tryd.ntmps10
    go_wp2_with fail
    go_loopw [5] (fun i wr => ∃ k : Nat, k ≤ n ∧ i = .int .i64 k ∧ Hid (wr.there g 0 (n * 3)) ∧ Hid (w.grownBy wr (some g))) (fun i _ => n + 1 - (intOf i).toNat)
    case atStart => exact ⟨0, Nat.zero_le _, rfl, HT.out, HG0.out⟩
    case round =>
      obtain ⟨k, hk, rfl, HTR, HGR⟩ := hrel
      by_cases hlt : k < n
      · have hltz : (k : Int) < (n : Int) := by omega
        have hth : wr.there g (k * 3) (ra 99 0 0).size := fun j hj => by
          have hj3 : j < 3 := hj
          have h1 := HTR.out (k * 3 + j) (by omega)
          rw [Nat.zero_add] at h1; exact h1
        have HTH := Lib.hid hth
        clear hth
        go_wp2_with (first
          | (refine wpList_store_mid rfl 32 (.tmp 11) (.tmp 10) rfl g (k * 3) (ra 99 0 0) rfl rfl HTH.out size_rec (ra_one _ _ _) ?_))
        refine ⟨⟨k + 1, by omega, by go_num, World.there_setCells HTR.out g (k * 3) _, grownX_setCells g _ _ _ HGR.out⟩, ?_⟩
        simp [intOf]; omega
      · obtain rfl : k = n := by omega
        have hltz : ¬ (k : Int) < (k : Int) := by omega
        clear hlt
        go_wp2_with fail
        refine bodyPost_end (results_none rfl _ _ _) rfl ?_
        exact ⟨rfl, HGR.out⟩

end Go.Proofs.YtklbmlnghindjaaDoor
