/- The iterator of sheet: a list of records, so many at a time. -/
import Derived.Test.YtklbmlnghindjaaDoorRng
import Derived.Test.YtklbmlnghindjaaDoorShC4
namespace Go.Proofs.YtklbmlnghindjaaDoor
set_option maxRecDepth 100000
open Go.RowKit
attribute [local go_sem] Oper.semAt_some

/-- the p-th piece, of h records, of len ones -/
def pieceV (b off len h p : Nat) : Value := .slice (some ⟨b, off + p * h * 3, none⟩) (min h (len - p * h)) (min h (len - p * h))
theorem pieces_lt {h len p : Nat} (h0 : 0 < h) : p < (len + h - 1) / h ↔ p * h < len := by
  rw [Nat.lt_iff_add_one_le, Nat.le_div_iff_mul_le h0, Nat.add_mul]
  omega

set_option maxHeartbeats 2000000 in
theorem shp_in (n : Nat) (hn : 1 ≤ n) (l b1 b2 h b off len cap : Nat) (oa : Option Addr) (ho : len = 0 ∨ oa = some ⟨b, off, none⟩) (h0 : 1 ≤ h) (h28 : h ≤ 28) (hlen : len ≤ 1000000) (hcap : len ≤ cap) (J Jx : List Nat → World → Prop)
    (hY : ∀ pre x W, J pre W → pre.length < (len + h - 1) / h → YieldAt Fence.wide (n - 1) Tryd.prog l #[pieceV b off len h x] W fun e W' =>
      (e = .returned (.bool true) ∧ J (pre ++ [x]) W' ∧ KeepB [b1, b2] W W') ∨ (e = .returned (.bool false) ∧ Jx (pre ++ [x]) W'))
    (W : World) (h1 : W.cell? ⟨b1, 0, none⟩ = some (.slice oa len cap)) (h2 : W.cell? ⟨b2, 0, none⟩ = some (.int .i64 h)) (hj : J [] W) :
    CallsIn Fence.wide n Tryd.prog 28 #[.func (.yield l) #[] #[], .pointer (some ⟨b1, 0, none⟩), .pointer (some ⟨b2, 0, none⟩)] W fun e W' => (∃ v, e = .returned v) ∧
      ((∃ ys, ys = List.range ((len + h - 1) / h) ∧ J ys W') ∨ (∃ pre, (∃ k, k ≤ (len + h - 1) / h ∧ pre = List.range k) ∧ Jx pre W')) := by
  refine callsIn_of_wp Tryd.func28 rfl trivial ?_ rfl
  simp only [Tryd.ntmps28, List.size_toArray, List.length_cons, List.length_nil, Nat.reduceAdd, Nat.reduceSub, Array.replicate_succ, Array.replicate_zero, List.push_toArray, List.append_toArray, List.nil_append, List.cons_append]
  have hlast : ∀ p, p < (len + h - 1) / h ↔ p * h < len := fun p => pieces_lt (by omega)
  obtain ⟨c, hc⟩ : ∃ c, (len + h - 1) / h = c := ⟨_, rfl⟩
  rw [hc] at hY ⊢
  simp only [hc] at hlast
  have HLAST := Lib.hid hlast
  have HC := Lib.hid hc
  have HY := Lib.hid hY
  clear hlast hc hY
  gi_wp2
  gi_loopw [4] (fun i wr => ∃ k : Nat, k ≤ c ∧ i = .int .i64 ((k * h : Nat) : Int) ∧ J (List.range k) wr ∧ KeepB [b1, b2] W wr)
    (fun i _ => len + h - (intOf i).toNat)
  case atStart => exact ⟨0, Nat.zero_le _, by simp, hj, KeepB.refl _ _⟩
  case round =>
    obtain ⟨k, hk, rfl, hJ, hb⟩ := hrel
    have g1 : wr.cell? ⟨b1, 0, none⟩ = some (.slice oa len cap) := (hb.cell (by simp)).trans h1
    have g2 : wr.cell? ⟨b2, 0, none⟩ = some (.int .i64 h) := (hb.cell (by simp)).trans h2
    have HJ := Lib.hid hJ
    have HB := Lib.hid hb
    have hLk := HLAST.out k
    obtain ⟨j, hjj⟩ : ∃ j, k * h = j := ⟨_, rfl⟩
    rw [hjj] at hLk ⊢
    by_cases hlt : k < c
    · have hjl : j < len := hLk.1 hlt
      have hjli : (j : Int) < (len : Int) := by omega
      obtain rfl : oa = some ⟨b, off, none⟩ := by
        rcases ho with ho | ho
        · omega
        · exact ho
      have HYY := HY.out (List.range k) k wr hJ (by rw [List.length_range]; exact hlt)
      unfold pieceV at HYY
      rw [hjj] at HYY
      obtain ⟨m, hm⟩ : ∃ m, min h (len - j) = m := ⟨_, rfl⟩
      rw [hm] at HYY
      obtain ⟨fn, tmps, assign, body, hy, hR⟩ := HYY
      have hsn : List.range (k + 1) = List.range k ++ [k] := List.range_succ
      rw [← hsn] at hR
      have HR := Lib.hid hR
      have HJJ := Lib.hid hjj
      have HM : Hid (m = min h (len - j) ∧ 1 ≤ m ∧ j + m ≤ len) := ⟨hm.symm, by omega, by omega⟩
      have hjm : (j : Int) + (m : Int) ≤ (len : Int) := by omega
      have hmm : min ((j : Int) + (h : Int)) (len : Int) = (j : Int) + (m : Int) := by omega
      clear hR hsn hm hb hJ hLk hjj ho
      have HB2 : Hid (∀ W3, KeepB [b1, b2] wr W3 → W3.cell? ⟨b1, 0, none⟩ = some (.slice (some ⟨b, off, none⟩) len cap) ∧ W3.cell? ⟨b2, 0, none⟩ = some (.int .i64 h) ∧ KeepB [b1, b2] W W3) := fun W3 hk3 => ⟨(hk3.cell (by simp)).trans g1, (hk3.cell (by simp)).trans g2, HB.out.trans hk3⟩
      have HN : Hid ((((k + 1) * h : Nat) : Int) = (j : Int) + (h : Int)) := by show (((k + 1) * h : Nat) : Int) = _; rw [Nat.add_mul, HJJ.out]; omega
      by_cases hmc : (j : Int) + (h : Int) ≤ (len : Int)
      · obtain rfl : m = h := by have := HM.out; omega
        clear HY HLAST HC HB HJ
        gi_wp2
        refine HR.out.mono ?_
        clear HR hy
        rintro e W3 (⟨rfl, hJ3, hk3⟩ | ⟨rfl, hJx3⟩)
        · obtain ⟨g3, g4, hb3⟩ := HB2.out W3 hk3
          have HB3 := Lib.hid hb3
          have HJ3 := Lib.hid hJ3
          clear HB2 hb3 hJ3 hk3 g1 g2 h1 h2
          gi_wp2
          go_roundw
          case rel => exact ⟨k + 1, by omega, congrArg (Value.int .i64) HN.out.symm, HJ3.out, HB3.out⟩
          case measure => simp [intOf]; omega
        · have HJX := Lib.hid hJx3
          clear HB2 hJx3 g1 g2 h1 h2
          gi_wp2
          refine bodyPost_ret (results_none rfl _ _ _) rfl ?_
          exact ⟨⟨_, rfl⟩, .inr ⟨_, ⟨k + 1, by omega, rfl⟩, HJX.out⟩⟩
      · have hmc2 : (len : Int) = (j : Int) + (m : Int) := by have := HM.out; omega
        have hml : len - j = m := by have := HM.out; omega
        have hle1 : j ≤ len := by omega
        have HML := Lib.hid hmc2
        clear HY HLAST HC HB HJ hmc2 hmm
        gi_wp2
        refine HR.out.mono ?_
        clear HR hy
        rintro e W3 (⟨rfl, hJ3, hk3⟩ | ⟨rfl, hJx3⟩)
        · obtain ⟨g3, g4, hb3⟩ := HB2.out W3 hk3
          have HB3 := Lib.hid hb3
          have HJ3 := Lib.hid hJ3
          clear HB2 hb3 hJ3 hk3 g1 g2 h1 h2
          gi_wp2
          go_roundw
          case rel => exact ⟨k + 1, by omega, congrArg (Value.int .i64) HN.out.symm, HJ3.out, HB3.out⟩
          case measure => simp [intOf]; omega
        · have HJX := Lib.hid hJx3
          clear HB2 hJx3 g1 g2 h1 h2
          gi_wp2
          refine bodyPost_ret (results_none rfl _ _ _) rfl ?_
          exact ⟨⟨_, rfl⟩, .inr ⟨_, ⟨k + 1, by omega, rfl⟩, HJX.out⟩⟩
    · obtain rfl : k = c := by omega
      have hjs : ¬ (j : Int) < (len : Int) := by have h3 : ¬ j < len := fun h => hlt (hLk.2 h); omega
      clear hLk hlt HY HLAST
      gi_wp2
      go_end0
      exact ⟨⟨_, rfl⟩, .inl HJ.out⟩

theorem shp_stops (n : Nat) (hn : 1 ≤ n) (b1 b2 h b off len cap : Nat) (oa : Option Addr) (ho : len = 0 ∨ oa = some ⟨b, off, none⟩) (h0 : 1 ≤ h) (h28 : h ≤ 28) (hlen : len ≤ 1000000) (hcap : len ≤ cap) (w : World) (hb1 : b1 < w.heap.size) (hb2 : b2 < w.heap.size)
    (h1 : w.cell? ⟨b1, 0, none⟩ = some (.slice oa len cap)) (h2 : w.cell? ⟨b2, 0, none⟩ = some (.int .i64 h)) :
    SeqStopsK Fence.wide n Tryd.prog 28 #[.pointer (some ⟨b1, 0, none⟩), .pointer (some ⟨b2, 0, none⟩)] (fun x : Nat => #[pieceV b off len h x]) (KeepB [b1, b2])
      (fun ys => ys = List.range ((len + h - 1) / h)) (fun pre => ∃ k, k ≤ (len + h - 1) / h ∧ pre = List.range k) ((len + h - 1) / h) w := fun l J Jx W hW _ _ hY hj =>
  shp_in n hn l b1 b2 h b off len cap oa ho h0 h28 hlen hcap J Jx hY W ((hW.cell (p := ⟨b1, 0, none⟩) hb1).trans h1) ((hW.cell (p := ⟨b2, 0, none⟩) hb2).trans h2) hj

theorem shp_any (oa : Option Addr) (len cap : Nat) (h : Int) (w : World) : Calls Tryd.prog 21 #[.slice oa len cap, .int .i64 h] w fun r w' =>
    r = .returned (.func (.func 28) #[] #[.pointer (some ⟨w.heap.size, 0, none⟩), .pointer (some ⟨w.heap.size + 1, 0, none⟩)]) ∧ w' = (w.alloc (.cells #[.slice oa len cap] 24)).alloc (.cells #[.int .i64 h] 3) := by
  go_enter Tryd.func21, Tryd.ntmps21
  go_wp2
  go_ret
  exact ⟨rfl, rfl⟩

end Go.Proofs.YtklbmlnghindjaaDoor
