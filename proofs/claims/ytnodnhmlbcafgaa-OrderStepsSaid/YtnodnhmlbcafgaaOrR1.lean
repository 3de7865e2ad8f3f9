/- The reference of layer 7, walked: Steps. -/
import Derived.Test.YtnodnhmlbcafgaaOrM
import Derived.Test.YtnodnhmlbcafgaaBs
import Derived.Test.YtnodnhmlbcafgaaBlk
namespace Go.Proofs.Ytnodnhmlbcafgaa
set_option maxRecDepth 100000
open Go.RowKit

theorem infoStep : (Try.prog.info? 23).map (fun i => (i.zero, i.size, i.bytes)) = some (some (.agg #[.int .i64 0, .bool false]), 2, 16) := by kernel_rfl
/-- a slice of steps of the call's own -/
def OwnSteps (w : World) (B : Nat) (v : Value) (l : List (Nat × Bool)) : Prop := w.ownsRow B 23 2 v l.length (cellsS l)

theorem cells_new (w : World) (l : List Value) (t : TypeId) : ∀ j u, l[j]? = some u → (w.alloc (.cells l.toArray t)).cell? ((⟨w.heap.size, 0, none⟩ : Addr).add j) = some u := by
  intro j u h
  cases j with
  | zero => simp [Addr.add, h]
  | succ j => simp [Addr.add, h]
theorem own_below2 {wr w1 : World} {B n : Nat} {v : Value} {xs : List Value} {E : TypeId} {o : Obj} (hown : wr.ownsRow B E 2 v n xs) (hB : B ≤ wr.heap.size) (hgrow : (wr.alloc o).grownBy w1 v.ownBlock) : Below B wr w1 := by
  refine Below.grown (row := v.ownBlock) ((Below.refl _ _).alloc hB _) hgrow (by simp; omega) ?_
  intro g hg
  exact (hown.lt g hg).1
theorem refTo_succ (k : Nat) (h : 1 ≤ k) : refTo (k + 1) = refTo k ++ [(k, false), (k - 1, true)] := by
  obtain ⟨j, rfl⟩ : ∃ j, k = j + 1 := ⟨k - 1, by omega⟩
  rfl
theorem own_more {w1 : World} {B k : Nat} {v' : Value} (hk : 1 ≤ k) (h : w1.ownsRow B 23 2 v' (2 * k - 1 + 2) (cellsS (refTo k) ++ [.int .i64 k, .bool false, .int .i64 ((k : Int) - 1), .bool true])) : OwnSteps w1 B v' (refTo (k + 1)) := by
  unfold OwnSteps
  rw [refTo_length (k + 1) (by omega), refTo_succ k hk, cellsS_append, show 2 * (k + 1) - 1 = 2 * k - 1 + 2 by omega]
  have e : cellsS [(k, false), (k - 1, true)] = [.int .i64 k, .bool false, .int .i64 ((k : Int) - 1), .bool true] := by
    simp [cellsS]
    omega
  rw [e]
  exact h
theorem own_last {w1 : World} {B k : Nat} {v' : Value} (hk : 1 ≤ k) (h : w1.ownsRow B 23 2 v' (2 * k - 1 + 1) (cellsS (refTo k) ++ [.int .i64 ((k : Int) - 1), .bool true])) : OwnSteps w1 B v' (refL k) := by
  unfold OwnSteps
  rw [refL_length k hk]
  unfold refL
  rw [cellsS_append, show 2 * k = 2 * k - 1 + 1 by omega]
  have e : cellsS [(k - 1, true)] = [.int .i64 ((k : Int) - 1), .bool true] := by
    simp [cellsS]
    omega
  rw [e]
  exact h

theorem ror_steps (lines : Int) (w : World) : Calls Try.prog 8 #[.int .i64 lines] w fun e w' =>
    (∃ v, e = .returned v ∧ (LinesOk lines → OwnSteps w' w.heap.size v (refL lines.toNat)) ∧ (¬ LinesOk lines → v = .slice none 0 0)) ∧ Below w.heap.size w w' := by
  by_cases h : LinesOk lines
  · obtain ⟨n, rfl⟩ : ∃ n : Nat, lines = n := ⟨lines.toNat, by unfold LinesOk at h; omega⟩
    have HL := Lib.hid h
    have hn1 : 1 ≤ n := by unfold LinesOk at h; omega
    have hn64 : n ≤ 64 := by unfold LinesOk at h; omega
    obtain ⟨i0, hi, hz0, hz1, hz2⟩ := info_parts infoStep
    clear h
    go_enter Try.func8, Try.ntmps8
    have hstart : OwnSteps (w.alloc (.cells #[.int .i64 0, .bool false] 23)) w.heap.size (.slice (some ⟨w.heap.size, 0, none⟩) 1 1) (refTo 1) :=
      ⟨rfl, Or.inr ⟨w.heap.size, 1, #[.int .i64 0, .bool false], rfl, Nat.le_refl _, heap_alloc_new _ _, Nat.le_refl _, by decide, rfl, rfl⟩⟩
    have HS := Lib.hid hstart
    clear hstart
    go_wp2_with fail
    go_loopw [3, 4] (fun v i wr => ∃ k : Nat, 1 ≤ k ∧ k ≤ n ∧ i = .int .i64 k ∧ OwnSteps wr w.heap.size v (refTo k) ∧ Below w.heap.size w wr) (fun _ i _ => n - (intOf i).toNat)
    case atStart => exact ⟨1, Nat.le_refl _, hn1, rfl, HS.out, (Below.refl _ _).alloc (Nat.le_refl _) _⟩
    case round =>
      obtain ⟨k, hk1, hkn, rfl, hown, hb⟩ := hrel
      have hlen := refTo_length k hk1
      have HB := Lib.hid hb
      clear hb
      by_cases hlt : k < n
      · unfold OwnSteps at hown
        go_wp2_with (at_builtin; refine wpList_append_own _ rfl _ _ 27 rfl w.heap.size 23 i0 (.agg #[.int .i64 0, .bool false]) 2 16 Try.underlying27 hi hz0 hz1 hz2 rfl (by decide) _ _ _ rfl (hown.alloc _) ⟨wr.heap.size, 0, none⟩ 2 2 [.int .i64 k, .bool false, .int .i64 ((k : Int) - 1), .bool true] rfl rfl ?c1 ?c2 ?c3 ?c4 ?c5 ?_)
        case c1 => exact cells_new wr [.int .i64 k, .bool false, .int .i64 ((k : Int) - 1), .bool true] _
        case c2 => intro u hu; simp at hu; rcases hu with rfl | rfl | rfl | rfl <;> rfl
        case c3 => unfold maxLen; omega
        case c4 => omega
        case c5 => have := HB.out.size; simp; omega
        intro v' w1 hown1 hgrow _
        have HR := Lib.hid (own_more hk1 hown1)
        have HB1 := Lib.hid (HB.out.trans (own_below2 hown HB.out.size hgrow))
        clear hown1 hgrow hown
        go_wp2_with fail
        go_roundw
        case rel => exact ⟨k + 1, by omega, by omega, by go_num, HR.out, HB1.out⟩
        case measure => simp [intOf]; omega
      · obtain rfl : k = n := by omega
        unfold OwnSteps at hown
        go_wp2_with (at_builtin; refine wpList_append_own _ rfl _ _ 27 rfl w.heap.size 23 i0 (.agg #[.int .i64 0, .bool false]) 2 16 Try.underlying27 hi hz0 hz1 hz2 rfl (by decide) _ _ _ rfl (hown.alloc _) ⟨wr.heap.size, 0, none⟩ 1 1 [.int .i64 ((k : Int) - 1), .bool true] rfl rfl ?c1 ?c2 ?c3 ?c4 ?c5 ?_)
        case c1 => exact cells_new wr [.int .i64 ((k : Int) - 1), .bool true] _
        case c2 => intro u hu; simp at hu; rcases hu with rfl | rfl <;> rfl
        case c3 => unfold maxLen; omega
        case c4 => omega
        case c5 => have := HB.out.size; simp; omega
        intro v' w1 hown1 hgrow _
        have HR := Lib.hid (own_last hk1 hown1)
        have HB1 := Lib.hid (HB.out.trans (own_below2 hown HB.out.size hgrow))
        clear hown1 hgrow hown
        go_wp2_with fail
        go_ret
        exact ⟨⟨v', rfl, fun _ => HR.out, fun h => absurd HL.out h⟩, HB1.out⟩
  · have hc : lines < 1 ∨ ¬ lines < 1 ∧ 64 < lines := by unfold LinesOk at h; omega
    have HN := Lib.hid h
    clear h
    rcases hc with hc | ⟨hc, hc2⟩
    all_goals
      go_enter Try.func8, Try.ntmps8
      go_wp2_with fail
      go_ret
      exact ⟨⟨_, rfl, fun h => absurd h HN.out, fun _ => rfl⟩, Below.refl _ _⟩

end Go.Proofs.Ytnodnhmlbcafgaa
