/- The walk of the law BitsNarrows. -/
import Derived.Test.YtcngmhodgpmjfaaBitsWA
namespace Go.Proofs.Ytcngmhodgpmjfaa
open Go.RowKit

theorem room_64 (v : Int) (h0 : -9223372036854775808 ≤ v) (h1 : v ≤ 9223372036854775807) : sg v 64 = v :=
  (sg_eq v 64 (by decide)).2 (by rw [show p2 (64 - 1) = 9223372036854775808 by decide]; omega)
theorem room_1 (v : Int) : sg v 1 = v ↔ v = 0 ∨ v = -1 := by
  rw [sg_eq v 1 (by decide), show p2 (1 - 1) = 1 by decide]; omega
theorem room_more (v : Int) (n : Nat) (h1 : 1 ≤ n) (h : sg v n = v) : sg v (n + 1) = v := by
  rw [sg_eq _ _ h1] at h
  rw [sg_eq _ _ (by omega)]
  have : p2 (n - 1) ≤ p2 (n + 1 - 1) := p2_le (by omega)
  omega

set_option maxRecDepth 100000 in
theorem nar_out (v n : Int) (w : World) (h : n < 1 ∨ 64 < n) :
    Calls Try.prog 7 #[.int .i64 v, .int .i64 n] w fun e w' => e = .returned (.bool true) ∧ Below w.heap.size w w' := by
  have HD : Hid ((decide (n < 1) || decide (64 < n)) = true) := by
    rw [Bool.or_eq_true, decide_eq_true_eq, decide_eq_true_eq]; exact h
  rcases h with h | h
  all_goals
    go_enter Try.func7, Try.ntmps7
    go_wp2_with fail
    refine (works_any _).mono ?_
    rintro e w1 ⟨rfl, hb1⟩
    have HB1 := Lib.hid hb1
    clear hb1
    go_wp2_with fail
    refine (narrow_no _ _ _ (by omega)).mono ?_
    rintro e w' ⟨rfl, rfl⟩
    go_wp2_with fail
    go_ret
    first | exact ⟨rfl, HB1.out⟩ | exact ⟨ret_bool HD.out, HB1.out⟩

set_option maxRecDepth 100000 in
theorem nar_64 (v : Int) (w : World) (h0 : -9223372036854775808 ≤ v) (h1 : v ≤ 9223372036854775807) :
    Calls Try.prog 7 #[.int .i64 v, .int .i64 64] w fun e w' => e = .returned (.bool true) ∧ Below w.heap.size w w' := by
  have HN := Lib.hid (room_64 v h0 h1)
  have hs : sg (lo v 64) 64 = v := by rw [sg_lo _ _ _ (by omega) (by omega), HN.out]
  have HS := Lib.hid hs
  clear hs
  go_enter Try.func7, Try.ntmps7
  go_wp2_with fail
  refine (works_any _).mono ?_
  rintro e w1 ⟨rfl, hb1⟩
  have HB1 := Lib.hid hb1
  clear hb1
  go_wp2_with fail
  refine (narrow_yes _ _ _ (by omega) (by omega) HN.out).mono ?_
  rintro e w' ⟨rfl, rfl⟩
  go_wp2_with fail
  refine (sign_yes _ _ _ (by omega) (by omega)).mono ?_
  rintro e w' ⟨rfl, rfl⟩
  rw [show ((64 : Int)).toNat = 64 from rfl, HS.out]
  go_wp2_with fail
  refine (narrow_yes _ _ _ (by omega) (by omega) HN.out).mono ?_
  rintro e w' ⟨rfl, rfl⟩
  go_wp2_with fail
  go_ret
  exact ⟨rfl, HB1.out⟩

set_option maxRecDepth 100000 in
theorem nar_1_nil (w : World) :
    Calls Try.prog 7 #[.int .i64 0, .int .i64 1] w fun e w' => e = .returned (.bool true) ∧ Below w.heap.size w w' := by
  go_enter Try.func7, Try.ntmps7
  go_wp2_with fail
  refine (works_any _).mono ?_
  rintro e w1 ⟨rfl, hb1⟩
  have HB1 := Lib.hid hb1
  clear hb1
  go_wp2_with fail
  refine (narrow_yes 0 1 _ (by omega) (by omega) (by decide)).mono ?_
  rintro e w' ⟨rfl, rfl⟩
  rw [show lo 0 (1 : Int).toNat = 0 by decide]
  go_wp2_with fail
  refine (sign_yes 0 1 _ (by omega) (by omega)).mono ?_
  rintro e w' ⟨rfl, rfl⟩
  rw [show sg 0 (1 : Int).toNat = 0 by decide]
  go_wp2_with fail
  refine (narrow_yes 0 2 _ (by omega) (by omega) (by decide)).mono ?_
  rintro e w' ⟨rfl, rfl⟩
  go_wp2_with fail
  go_ret
  exact ⟨rfl, HB1.out⟩

set_option maxRecDepth 100000 in
theorem nar_1_neg (w : World) :
    Calls Try.prog 7 #[.int .i64 (-1), .int .i64 1] w fun e w' => e = .returned (.bool true) ∧ Below w.heap.size w w' := by
  go_enter Try.func7, Try.ntmps7
  go_wp2_with fail
  refine (works_any _).mono ?_
  rintro e w1 ⟨rfl, hb1⟩
  have HB1 := Lib.hid hb1
  clear hb1
  go_wp2_with fail
  refine (narrow_yes (-1) 1 _ (by omega) (by omega) (by decide)).mono ?_
  rintro e w' ⟨rfl, rfl⟩
  rw [show lo (-1) (1 : Int).toNat = 1 by decide]
  go_wp2_with fail
  refine (sign_yes 1 1 _ (by omega) (by omega)).mono ?_
  rintro e w' ⟨rfl, rfl⟩
  rw [show sg 1 (1 : Int).toNat = (-1) by decide]
  go_wp2_with fail
  refine (narrow_yes (-1) 2 _ (by omega) (by omega) (by decide)).mono ?_
  rintro e w' ⟨rfl, rfl⟩
  go_wp2_with fail
  go_ret
  exact ⟨rfl, HB1.out⟩

set_option maxRecDepth 100000 in
theorem nar_1_no (v : Int) (w : World) (h0 : (v == 0) = false) (h1 : (v == -1) = false) :
    Calls Try.prog 7 #[.int .i64 v, .int .i64 1] w fun e w' => e = .returned (.bool true) ∧ Below w.heap.size w w' := by
  have hne : ¬ sg v 1 = v := by
    rw [room_1]; simp at h0 h1; omega
  have HN := Lib.hid hne
  clear hne
  go_enter Try.func7, Try.ntmps7
  go_wp2_with fail
  refine (works_any _).mono ?_
  rintro e w1 ⟨rfl, hb1⟩
  have HB1 := Lib.hid hb1
  clear hb1
  go_wp2_with fail
  refine (narrow_left _ _ _ (by omega) (by omega) HN.out).mono ?_
  rintro e w' ⟨rfl, rfl⟩
  go_wp2_with fail
  go_ret
  exact ⟨rfl, HB1.out⟩

set_option maxRecDepth 100000 in
theorem nar_mid_yes_any (v : Int) (m : Nat) (w : World) (h1 : 1 < m) (h2 : m < 64) (h : sg v m = v) (e0 : (v == 0) = false) (e1 : (v == -1) = false) :
    Calls Try.prog 7 #[.int .i64 v, .int .i64 m] w fun e w' => e = .returned (.bool true) ∧ Below w.heap.size w w' := by
  have hlo := lo_bd v m
  have hz : lo v m / 2 ^ m = 0 := Int.ediv_eq_zero_of_lt hlo.1 hlo.2
  have hs : sg (lo v m) m = v := by rw [sg_lo _ _ _ (by omega) (by omega), h]
  have HZ := Lib.hid hz
  have HS := Lib.hid hs
  have HN := Lib.hid h
  have hm : sg v ((m : Int) + 1).toNat = v := by rw [show ((m : Int) + 1).toNat = m + 1 by omega]; exact room_more v m (by omega) h
  have HM := Lib.hid hm
  have hr := (sg_eq v m (by omega)).1 h
  have hp := p2_pos (m - 1)
  have hp2 : p2 (m - 1) ≤ 4611686018427387904 := by rw [show (4611686018427387904 : Int) = p2 62 by decide]; exact p2_le (by omega)
  clear hs hlo hz h hm
  unfold p2 at hr hp hp2
  have hd1 : decide (-(2 ^ (m - 1) - 1) - 1 ≤ v) = true := decide_eq_true (by omega)
  have hd2 : decide (v ≤ 2 ^ (m - 1) - 1) = true := decide_eq_true (by omega)
  clear hr
  have he64 : ((m : Int) == 64) = false := by simp; omega
  go_enter Try.func7, Try.ntmps7
  go_wp2_with fail
  refine (works_any _).mono ?_
  rintro e w1 ⟨rfl, hb1⟩
  have HB1 := Lib.hid hb1
  clear hb1
  go_wp2_with fail
  refine (narrow_yes v m _ (by omega) (by omega) HN.out).mono ?_
  rintro e w' ⟨rfl, rfl⟩
  go_wp2_with fail
  refine (sign_yes _ m _ (by omega) (by omega)).mono ?_
  rintro e w' ⟨rfl, rfl⟩
  rw [show ((m : Int)).toNat = m from rfl, HS.out]
  go_wp2_with fail
  refine (narrow_yes v (m + 1 : Int) _ (by omega) (by omega) HM.out).mono ?_
  rintro e w' ⟨rfl, rfl⟩
  go_wp2_with fail
  go_ret
  exact ⟨ret_bool (by rw [HZ.out]; rfl), HB1.out⟩

set_option maxRecDepth 100000 in
theorem nar_mid_yes_nil (v : Int) (m : Nat) (w : World) (h1 : 1 < m) (h2 : m < 64) (h : sg v m = v) (e0 : (v == 0) = true) :
    Calls Try.prog 7 #[.int .i64 v, .int .i64 m] w fun e w' => e = .returned (.bool true) ∧ Below w.heap.size w w' := by
  have hlo := lo_bd v m
  have hz : lo v m / 2 ^ m = 0 := Int.ediv_eq_zero_of_lt hlo.1 hlo.2
  have hs : sg (lo v m) m = v := by rw [sg_lo _ _ _ (by omega) (by omega), h]
  have HZ := Lib.hid hz
  have HS := Lib.hid hs
  have HN := Lib.hid h
  have hm : sg v ((m : Int) + 1).toNat = v := by rw [show ((m : Int) + 1).toNat = m + 1 by omega]; exact room_more v m (by omega) h
  have HM := Lib.hid hm
  have hr := (sg_eq v m (by omega)).1 h
  have hp := p2_pos (m - 1)
  have hp2 : p2 (m - 1) ≤ 4611686018427387904 := by rw [show (4611686018427387904 : Int) = p2 62 by decide]; exact p2_le (by omega)
  clear hs hlo hz h hm
  unfold p2 at hr hp hp2
  have hd1 : decide (-(2 ^ (m - 1) - 1) - 1 ≤ v) = true := decide_eq_true (by omega)
  have hd2 : decide (v ≤ 2 ^ (m - 1) - 1) = true := decide_eq_true (by omega)
  clear hr
  have he64 : ((m : Int) == 64) = false := by simp; omega
  go_enter Try.func7, Try.ntmps7
  go_wp2_with fail
  refine (works_any _).mono ?_
  rintro e w1 ⟨rfl, hb1⟩
  have HB1 := Lib.hid hb1
  clear hb1
  go_wp2_with fail
  refine (narrow_yes v m _ (by omega) (by omega) HN.out).mono ?_
  rintro e w' ⟨rfl, rfl⟩
  go_wp2_with fail
  refine (sign_yes _ m _ (by omega) (by omega)).mono ?_
  rintro e w' ⟨rfl, rfl⟩
  rw [show ((m : Int)).toNat = m from rfl, HS.out]
  go_wp2_with fail
  refine (narrow_yes v (m + 1 : Int) _ (by omega) (by omega) HM.out).mono ?_
  rintro e w' ⟨rfl, rfl⟩
  go_wp2_with fail
  go_ret
  exact ⟨ret_bool (by rw [HZ.out]; rfl), HB1.out⟩

set_option maxRecDepth 100000 in
theorem nar_mid_yes_neg (v : Int) (m : Nat) (w : World) (h1 : 1 < m) (h2 : m < 64) (h : sg v m = v) (e0 : (v == 0) = false) (e1 : (v == -1) = true) :
    Calls Try.prog 7 #[.int .i64 v, .int .i64 m] w fun e w' => e = .returned (.bool true) ∧ Below w.heap.size w w' := by
  have hlo := lo_bd v m
  have hz : lo v m / 2 ^ m = 0 := Int.ediv_eq_zero_of_lt hlo.1 hlo.2
  have hs : sg (lo v m) m = v := by rw [sg_lo _ _ _ (by omega) (by omega), h]
  have HZ := Lib.hid hz
  have HS := Lib.hid hs
  have HN := Lib.hid h
  have hm : sg v ((m : Int) + 1).toNat = v := by rw [show ((m : Int) + 1).toNat = m + 1 by omega]; exact room_more v m (by omega) h
  have HM := Lib.hid hm
  have hr := (sg_eq v m (by omega)).1 h
  have hp := p2_pos (m - 1)
  have hp2 : p2 (m - 1) ≤ 4611686018427387904 := by rw [show (4611686018427387904 : Int) = p2 62 by decide]; exact p2_le (by omega)
  clear hs hlo hz h hm
  unfold p2 at hr hp hp2
  have hd1 : decide (-(2 ^ (m - 1) - 1) - 1 ≤ v) = true := decide_eq_true (by omega)
  have hd2 : decide (v ≤ 2 ^ (m - 1) - 1) = true := decide_eq_true (by omega)
  clear hr
  have he64 : ((m : Int) == 64) = false := by simp; omega
  go_enter Try.func7, Try.ntmps7
  go_wp2_with fail
  refine (works_any _).mono ?_
  rintro e w1 ⟨rfl, hb1⟩
  have HB1 := Lib.hid hb1
  clear hb1
  go_wp2_with fail
  refine (narrow_yes v m _ (by omega) (by omega) HN.out).mono ?_
  rintro e w' ⟨rfl, rfl⟩
  go_wp2_with fail
  refine (sign_yes _ m _ (by omega) (by omega)).mono ?_
  rintro e w' ⟨rfl, rfl⟩
  rw [show ((m : Int)).toNat = m from rfl, HS.out]
  go_wp2_with fail
  refine (narrow_yes v (m + 1 : Int) _ (by omega) (by omega) HM.out).mono ?_
  rintro e w' ⟨rfl, rfl⟩
  go_wp2_with fail
  go_ret
  exact ⟨ret_bool (by rw [HZ.out]; rfl), HB1.out⟩

set_option maxRecDepth 100000 in
theorem nar_mid_no (v : Int) (m : Nat) (w : World) (h1 : 1 < m) (h2 : m < 64) (h : ¬ sg v m = v) :
    Calls Try.prog 7 #[.int .i64 v, .int .i64 m] w fun e w' => e = .returned (.bool true) ∧ Below w.heap.size w w' := by
  have HN := Lib.hid h
  have hr : v < -p2 (m - 1) ∨ p2 (m - 1) ≤ v := by rw [sg_eq v m (by omega)] at h; omega
  have hp := p2_pos (m - 1)
  have hp2 : p2 (m - 1) ≤ 4611686018427387904 := by rw [show (4611686018427387904 : Int) = p2 62 by decide]; exact p2_le (by omega)
  have e0 : (v == 0) = false := by simp; omega
  have e1 : (v == -1) = false := by simp; omega
  clear h
  unfold p2 at hr hp hp2
  have he64 : ((m : Int) == 64) = false := by simp; omega
  rcases hr with hr | hr
  · have hd1 : decide (-(2 ^ (m - 1) - 1) - 1 ≤ v) = false := decide_eq_false (by omega)
    have hd2 : decide (v ≤ 2 ^ (m - 1) - 1) = true := decide_eq_true (by omega)
    clear hr
    go_enter Try.func7, Try.ntmps7
    go_wp2_with fail
    refine (works_any _).mono ?_
    rintro e w1 ⟨rfl, hb1⟩
    have HB1 := Lib.hid hb1
    clear hb1
    go_wp2_with fail
    refine (narrow_left v m _ (by omega) (by omega) HN.out).mono ?_
    rintro e w' ⟨rfl, rfl⟩
    go_wp2_with fail
    go_ret
    exact ⟨rfl, HB1.out⟩
  · have hd2 : decide (v ≤ 2 ^ (m - 1) - 1) = false := decide_eq_false (by omega)
    clear hr
    go_enter Try.func7, Try.ntmps7
    go_wp2_with fail
    refine (works_any _).mono ?_
    rintro e w1 ⟨rfl, hb1⟩
    have HB1 := Lib.hid hb1
    clear hb1
    go_wp2_with fail
    refine (narrow_left v m _ (by omega) (by omega) HN.out).mono ?_
    rintro e w' ⟨rfl, rfl⟩
    go_wp2_with fail
    go_ret
    exact ⟨rfl, HB1.out⟩

theorem walk_BitsNarrows (v n : Int) (wv : (Lit.int .i64 v).wf = true) (_wn : (Lit.int .i64 n).wf = true) (w : World) :
    Calls Try.prog 7 #[.int .i64 v, .int .i64 n] w fun e w' => e = .returned (.bool true) ∧ Below w.heap.size w w' := by
  have bv := bounds_i64 wv
  by_cases hin : 1 ≤ n ∧ n ≤ 64
  · obtain ⟨m, rfl⟩ := Int.eq_ofNat_of_zero_le (show 0 ≤ n by omega)
    obtain hm | hm | hm : m = 64 ∨ m = 1 ∨ (1 < m ∧ m < 64) := by omega
    · subst hm; exact nar_64 v w bv.1 bv.2
    · subst hm
      by_cases e0 : v = 0
      · subst e0; exact nar_1_nil w
      · by_cases e1 : v = -1
        · subst e1; exact nar_1_neg w
        · exact nar_1_no v w (by simpa using e0) (by simpa using e1)
    · by_cases hr : sg v m = v
      · by_cases e0 : v = 0
        · exact nar_mid_yes_nil v m w hm.1 hm.2 hr (by simpa using e0)
        · by_cases e1 : v = -1
          · exact nar_mid_yes_neg v m w hm.1 hm.2 hr (by simpa using e0) (by simpa using e1)
          · exact nar_mid_yes_any v m w hm.1 hm.2 hr (by simpa using e0) (by simpa using e1)
      · exact nar_mid_no v m w hm.1 hm.2 hr
  · exact nar_out v n w (by omega)

end Go.Proofs.Ytcngmhodgpmjfaa
