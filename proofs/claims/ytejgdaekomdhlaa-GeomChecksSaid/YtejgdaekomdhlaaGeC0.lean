/- Layer 6, the code's small ones: isFrom, isBelow, areAll, Most, Snaps, Raw, Spread. -/
import Derived.Test.YtejgdaekomdhlaaGeR3
namespace Go.Proofs.Ytejgdaekomdhlaa
set_option maxRecDepth 100000
open Go.RowKit

def fromB (v lo hi : Int) : Bool := decide (lo ≤ v ∧ v ≤ hi)
def belowB (v n : Int) : Bool := decide (0 ≤ v ∧ v < n)
theorem is_from (v lo hi : Int) (w : World) : Calls Try.prog 27 #[.int .i64 v, .int .i64 lo, .int .i64 hi] w fun e w' => e = .returned (.bool (fromB v lo hi)) ∧ Below w.heap.size w w' := by
  go_enter Try.func27, Try.ntmps27
  go_wp2
  all_goals go_ret
  all_goals exact ⟨ret_bool (by unfold fromB; rw [Bool.eq_iff_iff]; simp; try omega), Below.refl _ _⟩
theorem is_below (v n : Int) (w : World) : Calls Try.prog 28 #[.int .i64 v, .int .i64 n] w fun e w' => e = .returned (.bool (belowB v n)) ∧ Below w.heap.size w w' := by
  go_enter Try.func28, Try.ntmps28
  go_wp2
  all_goals go_ret
  all_goals exact ⟨ret_bool (by unfold belowB; rw [Bool.eq_iff_iff]; simp; try omega), Below.refl _ _⟩

theorem ge_raw (b l y n s r : Int) (w : World) (h0 : OkG b l y n s r) :
    Calls Try.prog 15 #[.agg (gv b l y n s r)] w fun e w' => e = .returned (.int .i64 (rawG y)) ∧ Below w.heap.size w w' := by
  obtain ⟨h1, h2, h3, h4, h5, h6, h7, h8, h9, h10, h11, h12, h13, h14⟩ := h0.1
  clear h0
  have HB := Lib.hid ((Below.refl w.heap.size w).alloc (Nat.le_refl _) (.cells (gv b l y n s r) 23))
  unfold gv at *
  go_enter Try.func15, Try.ntmps15
  go_wp2_with fail
  go_ret
  exact ⟨ret_int (by unfold rawG; omega), HB.out⟩
theorem ge_spread (b l y n s r : Int) (w : World) (h0 : OkG b l y n s r) :
    Calls Try.prog 19 #[.agg (gv b l y n s r)] w fun e w' => e = .returned (.int .i64 (spreadG b r)) ∧ Below w.heap.size w w' := by
  obtain ⟨h1, h2, h3, h4, h5, h6, h7, h8, h9, h10, h11, h12, h13, h14⟩ := h0.1
  clear h0
  have HB := Lib.hid ((Below.refl w.heap.size w).alloc (Nat.le_refl _) (.cells (gv b l y n s r) 23))
  unfold gv at *
  go_enter Try.func19, Try.ntmps19
  go_wp2_with fail
  go_ret
  exact ⟨ret_int (by unfold spreadG; omega), HB.out⟩

/-- Most and Snaps, whatever the numbers are: as they wrap round -/
def mostW (b l s : Int) : Int := wrap64 ((wrap64 (wrap64 (3 * l) * wrap64 (wrap64 (b - s) - 6))).tdiv 2)
def snapsW (b y n : Int) : Int := if y < 1 then 0 else wrap64 ((wrap64 (wrap64 (wrap64 (wrap64 (6 * n) + wrap64 (10 * b)) + y) - 1)).tdiv y)
theorem wrap64_of {x : Int} (h : -9223372036854775808 ≤ x ∧ x ≤ 9223372036854775807) : wrap64 x = x := by
  unfold wrap64; omega
theorem mostW_pre {b l y n s r : Int} (h : PreG b l y n s r) : mostW b l s = mostG b l s := by
  have hm := pre_most h
  obtain ⟨h1, h2, h3, h4, h5, h6, h7, h8, h9, h10, h11, h12, h13, h14⟩ := h
  unfold mostW mostG
  rw [wrap64_of (x := 3 * l) (by omega), wrap64_of (x := b - s) (by omega), wrap64_of (x := b - s - 6) (by omega), wrap64_of (x := 3 * l * (b - s - 6)) (by omega), Int.tdiv_eq_ediv_of_nonneg hm.1, wrap64_of (by omega)]
theorem snapsW_pre {b l y n s r : Int} (h : PreG b l y n s r) : snapsW b y n = snapsG b y n := by
  have hs := snaps_bd h
  unfold snapsG at hs
  obtain ⟨h1, h2, h3, h4, h5, h6, h7, h8, h9, h10, h11, h12, h13, h14⟩ := h
  unfold snapsW snapsG
  have he : 6 * n + 10 * b + (y - 1) = 6 * n + 10 * b + y - 1 := by omega
  rw [he] at hs ⊢
  rw [if_neg (by omega), wrap64_of (x := 6 * n) (by omega), wrap64_of (x := 10 * b) (by omega), wrap64_of (x := 6 * n + 10 * b) (by omega), wrap64_of (x := 6 * n + 10 * b + y) (by omega), wrap64_of (x := 6 * n + 10 * b + y - 1) (by omega), Int.tdiv_eq_ediv_of_nonneg (by omega), wrap64_of (by omega)]
theorem ge_most_any (b l y n s r : Int) (w : World) :
    Calls Try.prog 13 #[.agg (gv b l y n s r)] w fun e w' => e = .returned (.int .i64 (mostW b l s)) ∧ Below w.heap.size w w' := by
  have HB := Lib.hid ((Below.refl w.heap.size w).alloc (Nat.le_refl _) (.cells (gv b l y n s r) 23))
  unfold gv at *
  go_enter Try.func13, Try.ntmps13
  go_wp2_with fail
  go_ret
  exact ⟨rfl, HB.out⟩
theorem ge_snaps_any (b l y n s r : Int) (w : World) :
    Calls Try.prog 11 #[.agg (gv b l y n s r)] w fun e w' => e = .returned (.int .i64 (snapsW b y n)) ∧ Below w.heap.size w w' := by
  have HB := Lib.hid ((Below.refl w.heap.size w).alloc (Nat.le_refl _) (.cells (gv b l y n s r) 23))
  have HS : Hid (y < 1 → snapsW b y n = 0) := fun h => if_pos h
  have HS2 : Hid (¬ y < 1 → snapsW b y n = wrap64 ((wrap64 (wrap64 (wrap64 (wrap64 (6 * n) + wrap64 (10 * b)) + y) - 1)).tdiv y)) := fun h => if_neg h
  obtain ⟨k, hk⟩ : ∃ k, snapsW b y n = k := ⟨_, rfl⟩
  rw [hk] at HS HS2 ⊢
  unfold gv at *
  clear hk
  by_cases h : y < 1
  · go_enter Try.func11, Try.ntmps11
    go_wp2_with fail
    go_ret
    exact ⟨ret_int (HS.out (by omega)).symm, HB.out⟩
  · go_enter Try.func11, Try.ntmps11
    go_wp2_with fail
    go_ret
    exact ⟨ret_int (HS2.out (by omega)).symm, HB.out⟩
theorem ge_most (b l y n s r : Int) (w : World) (h : OkG b l y n s r) :
    Calls Try.prog 13 #[.agg (gv b l y n s r)] w fun e w' => e = .returned (.int .i64 (mostG b l s)) ∧ Below w.heap.size w w' := by
  rw [← mostW_pre h.1]
  exact ge_most_any b l y n s r w
theorem ge_snaps (b l y n s r : Int) (w : World) (h : OkG b l y n s r) :
    Calls Try.prog 11 #[.agg (gv b l y n s r)] w fun e w' => e = .returned (.int .i64 (snapsG b y n)) ∧ Below w.heap.size w w' := by
  rw [← snapsW_pre h.1]
  exact ge_snaps_any b l y n s r w

/-- all of some conditions -/
theorem all_getD (bs : List Bool) (j : Nat) (hj : j < bs.length) (h : bs.getD j false = false) : bs.all id = false := by
  rw [List.all_eq_false]
  refine ⟨bs[j], List.getElem_mem hj, ?_⟩
  rw [List.getD, List.getElem?_eq_getElem hj] at h
  simp at h
  simp [h]
theorem take_all (bs : List Bool) (j : Nat) (hj : j < bs.length) (h : (bs.take j).all id = true) (hb : bs.getD j false = true) : (bs.take (j + 1)).all id = true := by
  rw [List.take_add_one, List.all_append, h, Bool.true_and]
  rw [List.getD, List.getElem?_eq_getElem hj] at hb
  rw [List.getElem?_eq_getElem hj]
  simp at hb
  simp [hb]
theorem all_any (g cap : Nat) (bs : List Bool) (w : World) (hz : bs.length ≤ 1000) (hc : ∀ j, j < bs.length → w.cell? ⟨g, j, none⟩ = some (.bool (bs.getD j false))) :
    Calls Try.prog 26 #[.slice (some ⟨g, 0, none⟩) bs.length cap] w fun e w' => e = .returned (.bool (bs.all id)) ∧ w = w' := by
  obtain ⟨m, hm⟩ : ∃ m, bs.length = m := ⟨_, rfl⟩
  rw [hm] at hz hc ⊢
  have HM := Lib.hid hm
  have HC := Lib.hid hc
  clear hm hc
  go_enter Try.func26, Try.ntmps26
  go_wp2_with fail
  go_loop [7] (fun i => ∃ j : Nat, j ≤ m ∧ i = .int .i64 j ∧ (bs.take j).all id = true) (fun i => m - (intOf i).toNat)
  case atStart => exact ⟨0, Nat.zero_le _, rfl, rfl⟩
  case round =>
    obtain ⟨j, hj, rfl, hall⟩ := hrel
    by_cases hlt : j < m
    · have hcj := HC.out j hlt
      have HN := Lib.hid (fun h => all_getD bs j (by rw [HM.out]; exact hlt) h)
      have HT := Lib.hid (fun h => take_all bs j (by rw [HM.out]; exact hlt) hall h)
      obtain ⟨b, hb⟩ : ∃ b, bs.getD j false = b := ⟨_, rfl⟩
      rw [hb] at hcj
      have HB := Lib.hid hb
      clear hb hall
      cases b with
      | false =>
        have HF := Lib.hid (HN.out HB.out)
        go_wp2_with fail
        go_ret
        exact ⟨by rw [HF.out]; rfl, rfl⟩
      | true =>
        have HR := Lib.hid (HT.out HB.out)
        go_wp2_with fail
        go_round
        case rel => exact ⟨j + 1, by omega, by go_num, HR.out⟩
        case measure => simp [intOf]; omega
    · obtain rfl : j = m := by omega
      have HA : Hid (bs.all id = true) := by
        have h := hall
        rwa [List.take_of_length_le (by rw [HM.out]; exact Nat.le_refl _)] at h
      clear hall
      go_wp2_with fail
      go_ret
      exact ⟨by rw [HA.out]; rfl, rfl⟩


end Go.Proofs.Ytejgdaekomdhlaa
