/- The iterator of order, walked: the steps of so many lines, one by one. -/
import Derived.Test.YtnodnhmlbcafgaaOrR4
import Derived.Test.YtnodnhmlbcafgaaRng
namespace Go.Proofs.Ytnodnhmlbcafgaa
set_option maxRecDepth 100000
open Go.RowKit
attribute [local go_sem] Oper.semAt_some

/-- all steps of so many lines; of a number that has none, none -/
def allL (n : Int) : List (Nat × Bool) := if LinesOk n then refL n.toNat else []
theorem allL_le (n : Int) : (allL n).length ≤ 128 := by
  unfold allL
  split
  · rename_i h
    unfold LinesOk at h
    rw [refL_length _ (by omega)]; omega
  · simp
theorem refTo_more : ∀ (n k : Nat), 1 ≤ k → k ≤ n → refTo k <+: refTo n
  | 0, k, h1, h => by omega
  | n + 1, k, h1, h => by
    by_cases e : k = n + 1
    · rw [e]; exact List.prefix_refl _
    · have := refTo_more n k h1 (by omega)
      rw [refTo_succ n (by omega)]
      exact this.trans (List.prefix_append _ _)
theorem pfx_take {α : Type} {p l : List α} (h : p <+: l) : ∃ j, j ≤ l.length ∧ p = l.take j := ⟨p.length, h.length_le, List.prefix_iff_eq_take.1 h⟩
theorem refL_pfx {n k : Nat} (h1 : 1 ≤ k) (h : k ≤ n) : refTo k <+: refL n := (refTo_more n k h1 h).trans (List.prefix_append _ _)
theorem refL_pfx2 {n k : Nat} (h1 : 1 ≤ k) (h : k < n) : refTo k ++ [(k, false)] <+: refL n := by
  refine List.IsPrefix.trans ?_ (refL_pfx (k := k + 1) (by omega) h)
  rw [refTo_succ k h1]
  exact ⟨[(k - 1, true)], by simp⟩
theorem grown_of_below {W W' : World} (h : Below W.heap.size W W') : W.grownBy W' none := ⟨h.os, h.tape, h.output, h.size, fun k hk _ => h.block k hk⟩

set_option maxHeartbeats 2000000 in
theorem steps_in (m : Nat) (hm : 1 ≤ m) (l b1 B : Nat) (n : Int) (J Jx : List (Nat × Bool) → World → Prop) (_hA : AbidesFrom B J)
    (hY : ∀ pre x W, J pre W → pre.length < (allL n).length → YieldAt Fence.wide (m - 1) Try.prog l #[.agg (sv x.1 x.2)] W fun e W' =>
      (e = .returned (.bool true) ∧ J (pre ++ [x]) W' ∧ KeepB [b1] W W') ∨ (e = .returned (.bool false) ∧ Jx (pre ++ [x]) W'))
    (W : World) (h1 : W.cell? ⟨b1, 0, none⟩ = some (.int .i64 n)) (h0 : J [] W) :
    CallsIn Fence.wide m Try.prog 17 #[.func (.yield l) #[] #[], .pointer (some ⟨b1, 0, none⟩)] W fun e W' => (∃ v, e = .returned v) ∧
      ((∃ ys, ys = allL n ∧ J ys W') ∨ (∃ pre, (∃ k, k ≤ (allL n).length ∧ pre = (allL n).take k) ∧ Jx pre W')) := by
  refine callsIn_of_wp Try.func17 rfl trivial ?_ rfl
  simp only [Try.ntmps17, List.size_toArray, List.length_cons, List.length_nil, Nat.reduceAdd, Nat.reduceSub, Array.replicate_succ, Array.replicate_zero, List.push_toArray, List.append_toArray, List.nil_append, List.cons_append]
  by_cases h : LinesOk n
  · obtain ⟨c, rfl⟩ : ∃ c : Nat, n = c := ⟨n.toNat, by unfold LinesOk at h; omega⟩
    have hc1 : 1 ≤ c := by unfold LinesOk at h; omega
    have hc64 : c ≤ 64 := by unfold LinesOk at h; omega
    have hall : allL (c : Int) = refL c := if_pos h
    have hlen := refL_length c hc1
    have HALL := Lib.hid hall
    have g1 : ¬ (c : Int) < 1 := by omega
    have g2 : ¬ (64 : Int) < (c : Int) := by omega
    rw [hall, hlen] at hY
    rw [hall]
    have HLEN := Lib.hid hlen
    have HY := Lib.hid hY
    clear h hall hlen hY
    obtain ⟨fn, tmps, assign, body, hy, hR⟩ := HY.out [] (0, false) W h0 (by show 0 < 2 * c; omega)
    simp only [sv, Int.cast_ofNat_Int] at hy hR
    gi_wp2
    refine hR.mono ?_
    clear hR hy
    rintro e W1 (⟨rfl, hJ1, hb1⟩ | ⟨rfl, hJx1⟩)
    · have HJ1 := Lib.hid hJ1
      have HB1 := Lib.hid hb1
      clear hJ1 hb1 h0
      gi_wp2_with fail
      gi_loopw [3] (fun i wr => ∃ j : Nat, j + 1 ≤ c ∧ i = .int .i64 ((j : Int) + 1) ∧ J (refTo (j + 1)) wr ∧ KeepB [b1] W wr)
        (fun i _ => c + 1 - (intOf i).toNat)
      case atStart => exact ⟨0, hc1, rfl, HJ1.out, HB1.out⟩
      case round =>
        obtain ⟨j, hj, rfl, hJ, hb'⟩ := hrel
        have g3 : wr.cell? ⟨b1, 0, none⟩ = some (.int .i64 c) := (hb'.cell (by simp)).trans h1
        have HJ := Lib.hid hJ
        have HB := Lib.hid hb'
        have hll := refTo_length (j + 1) (by omega)
        clear hJ hb'
        by_cases hlt : j + 1 < c
        · have hlti : (j : Int) + 1 < (c : Int) := by omega
          obtain ⟨fn, tmps, assign, body, hy, hR⟩ := HY.out (refTo (j + 1)) (j + 1, false) wr HJ.out (by omega)
          simp only [sv, Int.natCast_add, Int.cast_ofNat_Int] at hy hR
          gi_wp2
          refine hR.mono ?_
          clear hR hy
          rintro e W3 (⟨rfl, hJ3, hk3⟩ | ⟨rfl, hJx3⟩)
          · have HJ3 := Lib.hid hJ3
            have HK3 := Lib.hid hk3
            clear hJ3 hk3
            obtain ⟨fn2, tmps2, assign2, body2, hy2, hR2⟩ := HY.out (refTo (j + 1) ++ [(j + 1, false)]) (j, true) W3 HJ3.out (by rw [List.length_append, hll]; simp; omega)
            simp only [sv] at hy2 hR2
            gi_wp2
            refine hR2.mono ?_
            clear hR2 hy2
            rintro e W4 (⟨rfl, hJ4, hk4⟩ | ⟨rfl, hJx4⟩)
            · gi_wp2
              go_roundw
              case rel => exact ⟨j + 1, by omega, by go_num, by rw [refTo_succ (j + 1) (by omega)]; simpa using hJ4, HB.out.trans (HK3.out.trans hk4)⟩
              case measure => simp [intOf]; omega
            · gi_wp2
              refine bodyPost_ret (results_none rfl _ _ _) rfl ?_
              refine ⟨⟨_, rfl⟩, .inr ⟨_, ?_, hJx4⟩⟩
              have h := refL_pfx (n := c) (k := j + 2) (by omega) (by omega)
              rw [refTo_succ (j + 1) (by omega)] at h
              exact pfx_take (by simpa using h)
          · gi_wp2
            refine ⟨(fun _ h => nomatch h), ?_⟩
            gi_wp2
            refine bodyPost_ret (results_none rfl _ _ _) rfl ?_
            exact ⟨⟨_, rfl⟩, .inr ⟨_, pfx_take (refL_pfx2 (by omega) hlt), hJx3⟩⟩
        · have hlti : ¬ (j : Int) + 1 < (c : Int) := by omega
          obtain rfl : c = j + 1 := by omega
          obtain ⟨fn, tmps, assign, body, hy, hR⟩ := HY.out (refTo (j + 1)) (j, true) wr HJ.out (by omega)
          simp only [sv] at hy hR
          gi_wp2
          refine hR.mono ?_
          clear hR hy
          rintro e W3 (⟨rfl, hJ3, hk3⟩ | ⟨rfl, hJx3⟩)
          · gi_wp2
            go_end0
            exact ⟨⟨_, rfl⟩, .inl ⟨_, rfl, hJ3⟩⟩
          · gi_wp2
            go_end0
            exact ⟨⟨_, rfl⟩, .inr ⟨_, pfx_take (List.prefix_refl _), hJx3⟩⟩
    · gi_wp2
      refine bodyPost_ret (results_none rfl _ _ _) rfl ?_
      exact ⟨⟨_, rfl⟩, .inr ⟨_, pfx_take (refL_pfx (k := 1) (Nat.le_refl _) hc1), hJx1⟩⟩
  · have hc : n < 1 ∨ ¬ n < 1 ∧ 64 < n := by unfold LinesOk at h; omega
    have hall : allL n = [] := if_neg h
    rw [hall]
    clear hY h hall
    rcases hc with hc | ⟨hc, hc2⟩
    all_goals
      gi_wp2_with fail
      refine ⟨(fun _ h => nomatch h), ?_⟩
      gi_wp2_with fail
      refine bodyPost_ret (results_none rfl _ _ _) rfl ?_
      exact ⟨⟨_, rfl⟩, .inl ⟨[], rfl, h0⟩⟩

theorem steps_stops (m : Nat) (hm : 1 ≤ m) (b1 : Nat) (n : Int) (w : World) (hb1 : b1 < w.heap.size) (h1 : w.cell? ⟨b1, 0, none⟩ = some (.int .i64 n)) :
    SeqStopsK Fence.wide m Try.prog 17 #[.pointer (some ⟨b1, 0, none⟩)] (fun x : Nat × Bool => #[.agg (sv x.1 x.2)]) (KeepB [b1])
      (fun ys => ys = allL n) (fun pre => ∃ k, k ≤ (allL n).length ∧ pre = (allL n).take k) (allL n).length w := fun l J Jx W hW hA _ hY h0 => by
  exact steps_in m hm l b1 W.heap.size n J Jx hA hY W ((hW.cell (p := ⟨b1, 0, none⟩) hb1).trans h1) h0
theorem steps_stops2 (m : Nat) (hm : 1 ≤ m) (b1 : Nat) (n : Int) (w : World) (hb1 : b1 < w.heap.size) (h1 : w.cell? ⟨b1, 0, none⟩ = some (.int .i64 n)) :
    SeqStopsK Fence.wide m Try.prog 17 #[.pointer (some ⟨b1, 0, none⟩)] (fun x : Nat × Bool => #[.agg (sv x.1 x.2)]) (fun A B => Below w.heap.size A B)
      (fun ys => ys = allL n) (fun pre => ∃ k, k ≤ (allL n).length ∧ pre = (allL n).take k) (allL n).length w := fun l J Jx W hW hA _ hY h0 => by
  refine steps_in m hm l b1 W.heap.size n J Jx hA (fun pre x W hJ hl => ?_) W ((hW.cell (p := ⟨b1, 0, none⟩) hb1).trans h1) h0
  obtain ⟨fn, tmps, assign, body, hy, hR⟩ := hY pre x W hJ hl
  refine ⟨fn, tmps, assign, body, hy, hR.mono ?_⟩
  rintro e W' (⟨h1, h2, h3⟩ | h)
  · exact .inl ⟨h1, h2, KeepB.of_below h3 (by simpa using hb1)⟩
  · exact .inr h

/-- what Steps gives, block for block -/
theorem or_steps_raw (n : Int) (w : World) : Calls Try.prog 7 #[.int .i64 n] w fun e w' =>
    e = .returned (.func (.func 17) #[] #[.pointer (some ⟨w.heap.size, 0, none⟩)]) ∧ w' = w.alloc (.cells #[.int .i64 n] 3) := by
  go_enter Try.func7, Try.ntmps7
  go_wp2
  go_ret
  exact ⟨rfl, rfl⟩
theorem steps_enters : ∀ args W, (callFunc 17 args).run Try.prog W = .ok (.enter 17 args) W := enters_of Try.func17 (by kernel_rfl) rfl
theorem or_steps (n : Int) (w : World) : Calls Try.prog 7 #[.int .i64 n] w fun e w' => ∃ (gf : Nat) (lb : Array Value), e = .returned (.func (.func gf) #[] lb) ∧ Below w.heap.size w w' ∧
    (∀ args W, (callFunc gf args).run Try.prog W = .ok (.enter gf args) W) ∧
    SeqStopsK Fence.wide 8 Try.prog gf lb (fun x : Nat × Bool => #[.agg (sv x.1 x.2)]) (fun A B => Below w'.heap.size A B) (fun xs => xs = allL n) (fun pre => ∃ j, j ≤ (allL n).length ∧ pre = (allL n).take j) (allL n).length w' := by
  refine (or_steps_raw n w).mono ?_
  rintro e w' ⟨rfl, rfl⟩
  exact ⟨17, #[.pointer (some ⟨w.heap.size, 0, none⟩)], rfl, (Below.refl _ _).alloc (Nat.le_refl _) _, steps_enters, steps_stops2 8 (by decide) w.heap.size n _ (by simp) ((Blk.new w #[.int .i64 n] 3).cell 0)⟩

end Go.Proofs.Ytnodnhmlbcafgaa
