/- The walk of the law BitsBack. -/
import Derived.Test.YtcngmhodgpmjfaaBitsWA
namespace Go.Proofs.Ytcngmhodgpmjfaa
open Go.RowKit

theorem num_le (m : Nat) : ∀ v : Int, num (le v m) + p2 (8 * m) * rest v m = v := by
  induction m with
  | zero => intro v; show (0 : Int) + p2 0 * v = v; rw [p2_zero]; omega
  | succ m ih =>
    intro v
    have h := ih (v / 256)
    have hb : (UInt8.ofNat (v % 256).toNat).toNat = (v % 256).toNat := by
      rw [UInt8.toNat_ofNat']; omega
    show ((UInt8.ofNat (v % 256).toNat).toNat : Int) + 256 * num (le (v / 256) m) + p2 (8 * (m + 1)) * rest v (m + 1) = v
    rw [hb, rest_shift, show 8 * (m + 1) = 8 + 8 * m by omega, p2_add, show p2 8 = 256 from rfl, Int.mul_assoc]
    omega
theorem le_num : ∀ l : List UInt8, le (num l) l.length = l
  | [] => rfl
  | b :: l => by
    have hb : b.toNat < 256 := b.toNat_lt
    have e1 : (num (b :: l) % 256).toNat = b.toNat := by simp only [num]; omega
    have e2 : num (b :: l) / 256 = num l := by simp only [num]; omega
    rw [List.length_cons, le, e1, e2, le_num l, UInt8.ofNat_toNat]
theorem rest_num (l : List UInt8) : num l / p2 (8 * l.length) = 0 := by
  have h := num_bd l
  exact Int.ediv_eq_zero_of_lt h.1 h.2
theorem size_toList (s : ByteArray) : s.data.toList.length = s.size := by simp
theorem numS_eq (s : ByteArray) : numS s = num s.data.toList := by
  unfold numS numTo
  rw [List.take_of_length_le (by rw [size_toList]; omega)]
theorem leS_numS (s : ByteArray) : leS (numS s) s.size = s := by
  unfold leS
  rw [numS_eq, ← size_toList s, le_num]
theorem leS_size (v : Int) (m : Nat) : (leS v m).size = m := by
  show (le v m).toArray.size = m
  rw [List.size_toArray, le_length]
theorem numS_leS (v : Int) (m : Nat) (h : rest v m = 0) : numS (leS v m) = v := by
  have h2 := num_le m v
  rw [h] at h2
  rw [numS_eq]
  show num (le v m) = v
  omega

theorem get_back (v : Int) (m : Nat) (w : World) (h1 : 1 ≤ m) (h2 : m ≤ 8) (h : rest v m = 0) :
    Calls Try.prog 12 #[.string (leS v m)] w fun e w' => e = .returned (.tuple #[.int .u64 v, .int .i64 0]) ∧ w = w' := by
  have hg := get_yes (leS v m) w (by rw [leS_size]; exact h1) (by rw [leS_size]; exact h2)
  rwa [numS_leS v m h] at hg
theorem put_back (s : ByteArray) (w : World) (h1 : 1 ≤ s.size) (h2 : s.size ≤ 8) :
    Calls Try.prog 10 #[.int .u64 (numS s), .int .i64 s.size] w fun e w' => e = .returned (.tuple #[.string s, .int .i64 0]) ∧ Below w.heap.size w w' := by
  have hb := num_bd s.data.toList
  have hp := put_fit (numS s) s.size w h1 h2 (by rw [numS_eq]; exact hb.1) (by rw [numS_eq, ← size_toList s]; exact rest_num _)
  rwa [leS_numS] at hp

set_option maxRecDepth 100000 in
theorem walk_BitsBack (v n : Int) (s : ByteArray) (wv : (Lit.int .u64 v).wf = true) (_wn : (Lit.int .i64 n).wf = true) (hs : s.size ≤ maxLen) (w : World) :
    Calls Try.prog 6 #[.int .u64 v, .int .i64 n, .string s] w fun e w' => e = .returned (.bool true) ∧ Below w.heap.size w w' := by
  have bv := bounds_u64 wv
  have HS := Lib.hid hs
  have hm2 : (s.size : Int) ≤ 9223372036854775807 := by unfold maxLen at hs; omega
  clear hs
  by_cases hfit : 1 ≤ n ∧ n ≤ 8 ∧ rest v n.toNat = 0
  · obtain ⟨h1, h2, hr⟩ := hfit
    obtain ⟨m, rfl⟩ := Int.eq_ofNat_of_zero_le (show 0 ≤ n by omega)
    have HSt := Lib.hid (putStr_yes h1 h2 hr)
    have HEr := Lib.hid (putErr_yes h1 h2 hr)
    have HR := Lib.hid hr
    have hsz := leS_size v m
    clear hr
    by_cases hl : 1 ≤ s.size ∧ s.size ≤ 8
    · obtain ⟨hl1, hl2⟩ := hl
      go_enter Try.func6, Try.ntmps6
      go_wp2_with fail
      refine (works_any _).mono ?_
      rintro e w1 ⟨rfl, hb1⟩
      have HB1 := Lib.hid hb1
      clear hb1
      go_wp2_with fail
      refine (put_all _ _ _ (by omega)).mono ?_
      rintro e w2 ⟨rfl, hb2⟩
      rw [HSt.out, HEr.out]
      have HB2 := Lib.hid (HB1.out.trans (hb2.mono HB1.out.size))
      clear hb2
      go_wp2_with fail
      refine (get_back v m _ (by omega) (by omega) HR.out).mono ?_
      rintro e w' ⟨rfl, rfl⟩
      go_wp2_with fail
      refine (get_yes s _ hl1 hl2).mono ?_
      rintro e w' ⟨rfl, rfl⟩
      go_wp2_with fail
      refine (put_back s _ hl1 hl2).mono ?_
      rintro e w3 ⟨rfl, hb3⟩
      have HB3 := Lib.hid (HB2.out.trans (hb3.mono HB2.out.size))
      clear hb3
      go_wp2_with fail
      go_ret
      exact ⟨rfl, HB3.out⟩
    · have hl2 : s.size < 1 ∨ 8 < s.size := by omega
      have HD : Hid ((decide ((s.size : Int) < 1) || decide (8 < (s.size : Int))) = true) := by
        rw [Bool.or_eq_true, decide_eq_true_eq, decide_eq_true_eq]; unfold Hid; omega
      rcases hl2 with hl2 | hl2
      all_goals
        go_enter Try.func6, Try.ntmps6
        go_wp2_with fail
        refine (works_any _).mono ?_
        rintro e w1 ⟨rfl, hb1⟩
        have HB1 := Lib.hid hb1
        clear hb1
        go_wp2_with fail
        refine (put_all _ _ _ (by omega)).mono ?_
        rintro e w2 ⟨rfl, hb2⟩
        rw [HSt.out, HEr.out]
        have HB2 := Lib.hid (HB1.out.trans (hb2.mono HB1.out.size))
        clear hb2
        go_wp2_with fail
        refine (get_back v m _ (by omega) (by omega) HR.out).mono ?_
        rintro e w' ⟨rfl, rfl⟩
        go_wp2_with fail
        refine (get_no s _ HS.out (by omega)).mono ?_
        rintro e w' ⟨rfl, rfl⟩
        go_wp2_with fail
        go_ret
        first | exact ⟨rfl, HB2.out⟩ | exact ⟨ret_bool HD.out, HB2.out⟩
  · have HEr := Lib.hid (putErr_no hfit)
    clear hfit
    by_cases hl : 1 ≤ s.size ∧ s.size ≤ 8
    · obtain ⟨hl1, hl2⟩ := hl
      go_enter Try.func6, Try.ntmps6
      go_wp2_with fail
      refine (works_any _).mono ?_
      rintro e w1 ⟨rfl, hb1⟩
      have HB1 := Lib.hid hb1
      clear hb1
      go_wp2_with fail
      refine (put_all _ _ _ (by omega)).mono ?_
      rintro e w2 ⟨rfl, hb2⟩
      rw [HEr.out]
      have HB2 := Lib.hid (HB1.out.trans (hb2.mono HB1.out.size))
      clear hb2
      go_wp2_with fail
      refine (get_yes s _ hl1 hl2).mono ?_
      rintro e w' ⟨rfl, rfl⟩
      go_wp2_with fail
      refine (put_back s _ hl1 hl2).mono ?_
      rintro e w3 ⟨rfl, hb3⟩
      have HB3 := Lib.hid (HB2.out.trans (hb3.mono HB2.out.size))
      clear hb3
      go_wp2_with fail
      go_ret
      exact ⟨rfl, HB3.out⟩
    · have hl2 : s.size < 1 ∨ 8 < s.size := by omega
      have HD : Hid ((decide ((s.size : Int) < 1) || decide (8 < (s.size : Int))) = true) := by
        rw [Bool.or_eq_true, decide_eq_true_eq, decide_eq_true_eq]; unfold Hid; omega
      rcases hl2 with hl2 | hl2
      all_goals
        go_enter Try.func6, Try.ntmps6
        go_wp2_with fail
        refine (works_any _).mono ?_
        rintro e w1 ⟨rfl, hb1⟩
        have HB1 := Lib.hid hb1
        clear hb1
        go_wp2_with fail
        refine (put_all _ _ _ (by omega)).mono ?_
        rintro e w2 ⟨rfl, hb2⟩
        rw [HEr.out]
        have HB2 := Lib.hid (HB1.out.trans (hb2.mono HB1.out.size))
        clear hb2
        go_wp2_with fail
        refine (get_no s _ HS.out (by omega)).mono ?_
        rintro e w' ⟨rfl, rfl⟩
        go_wp2_with fail
        go_ret
        first | exact ⟨rfl, HB2.out⟩ | exact ⟨ret_bool HD.out, HB2.out⟩

end Go.Proofs.Ytcngmhodgpmjfaa
