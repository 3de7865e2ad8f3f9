/- The walks of the laws of layer 1 that hold the answers against the reference's: BitsPuts, BitsSigns, BitsFlips. -/
import Derived.Test.YtcngmhodgpmjfaaBitsW8
namespace Go.Proofs.Ytcngmhodgpmjfaa
open Go.RowKit

/-! each call by one contract, whatever it is given -/
def putStr (v n : Int) : ByteArray := if 1 ≤ n ∧ n ≤ 8 ∧ rest v n.toNat = 0 then leS v n.toNat else ByteArray.empty
def putErr (v n : Int) : Int := if 1 ≤ n ∧ n ≤ 8 ∧ rest v n.toNat = 0 then 0 else 1
theorem putStr_yes {v n : Int} (h1 : 1 ≤ n) (h2 : n ≤ 8) (h : rest v n.toNat = 0) : putStr v n = leS v n.toNat := if_pos ⟨h1, h2, h⟩
theorem putErr_yes {v n : Int} (h1 : 1 ≤ n) (h2 : n ≤ 8) (h : rest v n.toNat = 0) : putErr v n = 0 := if_pos ⟨h1, h2, h⟩
theorem putStr_no {v n : Int} (h : ¬ (1 ≤ n ∧ n ≤ 8 ∧ rest v n.toNat = 0)) : putStr v n = ByteArray.empty := if_neg h
theorem putErr_no {v n : Int} (h : ¬ (1 ≤ n ∧ n ≤ 8 ∧ rest v n.toNat = 0)) : putErr v n = 1 := if_neg h

theorem put_fit (v : Int) (n : Nat) (w : World) (h1 : 1 ≤ n) (h2 : n ≤ 8) (v0 : 0 ≤ v) (h : v / p2 (8 * n) = 0) :
    Calls Try.prog 10 #[.int .u64 v, .int .i64 n] w fun e w' => e = .returned (.tuple #[.string (leS v n), .int .i64 0]) ∧ Below w.heap.size w w' := by
  have hp := p2_pos (8 * n)
  have hv : v < p2 (8 * n) := by
    have e1 := Int.emod_add_mul_ediv v (p2 (8 * n))
    have b2 := Int.emod_lt_of_pos v hp
    rw [h] at e1; omega
  obtain rfl | rfl | rfl | rfl | rfl | rfl | rfl | rfl : n = 1 ∨ n = 2 ∨ n = 3 ∨ n = 4 ∨ n = 5 ∨ n = 6 ∨ n = 7 ∨ n = 8 := by omega
  · exact put_1 v w v0 (by rw [show p2 (8 * 1) = 256 by decide] at hv; exact hv)
  · exact put_2 v w v0 (by rw [show p2 (8 * 2) = 65536 by decide] at hv; exact hv)
  · exact put_3 v w v0 (by rw [show p2 (8 * 3) = 16777216 by decide] at hv; exact hv)
  · exact put_4 v w v0 (by rw [show p2 (8 * 4) = 4294967296 by decide] at hv; exact hv)
  · exact put_5 v w v0 (by rw [show p2 (8 * 5) = 1099511627776 by decide] at hv; exact hv)
  · exact put_6 v w v0 (by rw [show p2 (8 * 6) = 281474976710656 by decide] at hv; exact hv)
  · exact put_7 v w v0 (by rw [show p2 (8 * 7) = 72057594037927936 by decide] at hv; exact hv)
  · exact put_8 v w v0 (by rw [show p2 (8 * 8) = 18446744073709551616 by decide] at hv; exact hv)

theorem below_eq {w w' : World} (h : w = w') : Below w.heap.size w w' := by subst h; exact Below.refl _ _

theorem put_all (v n : Int) (w : World) (v0 : 0 ≤ v) :
    Calls Try.prog 10 #[.int .u64 v, .int .i64 n] w fun e w' => e = .returned (.tuple #[.string (putStr v n), .int .i64 (putErr v n)]) ∧ Below w.heap.size w w' := by
  by_cases h1 : 1 ≤ n
  · by_cases h2 : n ≤ 8
    · obtain ⟨m, rfl⟩ := Int.eq_ofNat_of_zero_le (show 0 ≤ n by omega)
      by_cases h : rest v (m : Int).toNat = 0
      · rw [putStr_yes h1 h2 h, putErr_yes h1 h2 h]
        rw [Int.toNat_natCast, rest_p2] at h
        exact put_fit v m w (by omega) (by omega) v0 h
      · have hno : ¬ (1 ≤ (m : Int) ∧ (m : Int) ≤ 8 ∧ rest v (m : Int).toNat = 0) := fun ⟨_, _, h3⟩ => h h3
        rw [putStr_no hno, putErr_no hno]
        rw [Int.toNat_natCast, rest_p2] at h
        exact (put_full v m w (by omega) (by omega) (by simpa [p2] using h)).mono fun e w' ⟨a, b⟩ => ⟨a, below_eq b⟩
    · have hno : ¬ (1 ≤ n ∧ n ≤ 8 ∧ rest v n.toNat = 0) := fun ⟨_, h3, _⟩ => h2 h3
      rw [putStr_no hno, putErr_no hno]
      exact (put_no v n w (Or.inr (by omega))).mono fun e w' ⟨a, b⟩ => ⟨a, below_eq b⟩
  · have hno : ¬ (1 ≤ n ∧ n ≤ 8 ∧ rest v n.toNat = 0) := fun ⟨h3, _, _⟩ => h1 h3
    rw [putStr_no hno, putErr_no hno]
    exact (put_no v n w (Or.inl (by omega))).mono fun e w' ⟨a, b⟩ => ⟨a, below_eq b⟩

theorem rput_all (v n : Int) (w : World) (v0 : 0 ≤ v) (v1 : v < 18446744073709551616) :
    Calls Try.prog 11 #[.int .u64 v, .int .i64 n] w fun e w' => e = .returned (.tuple #[.string (putStr v n), .int .i64 (putErr v n)]) ∧ Below w.heap.size w w' := by
  by_cases h1 : 1 ≤ n
  · by_cases h2 : n ≤ 8
    · obtain ⟨m, rfl⟩ := Int.eq_ofNat_of_zero_le (show 0 ≤ n by omega)
      refine (rput_any v m w (by omega) (by omega) v0 v1).mono fun e w' ⟨a, b⟩ => ⟨a.trans (ret_tup ?_), b⟩
      unfold putRes
      by_cases h : rest v m = 0
      · rw [if_pos h, putStr_yes h1 h2 h, putErr_yes h1 h2 h]; rfl
      · have hno : ¬ (1 ≤ (m : Int) ∧ (m : Int) ≤ 8 ∧ rest v (m : Int).toNat = 0) := fun ⟨_, _, h3⟩ => h h3
        rw [if_neg h, putStr_no hno, putErr_no hno]
    · have hno : ¬ (1 ≤ n ∧ n ≤ 8 ∧ rest v n.toNat = 0) := fun ⟨_, h3, _⟩ => h2 h3
      rw [putStr_no hno, putErr_no hno]
      exact (rput_no v n w (Or.inr (by omega))).mono fun e w' ⟨a, b⟩ => ⟨a, below_eq b⟩
  · have hno : ¬ (1 ≤ n ∧ n ≤ 8 ∧ rest v n.toNat = 0) := fun ⟨h3, _, _⟩ => h1 h3
    rw [putStr_no hno, putErr_no hno]
    exact (rput_no v n w (Or.inl (by omega))).mono fun e w' ⟨a, b⟩ => ⟨a, below_eq b⟩

def getNum (s : ByteArray) : Int := if 1 ≤ s.size ∧ s.size ≤ 8 then numS s else 0
def getErr (s : ByteArray) : Int := if 1 ≤ s.size ∧ s.size ≤ 8 then 0 else 1
theorem get_all (s : ByteArray) (w : World) (hm : s.size ≤ maxLen) :
    Calls Try.prog 12 #[.string s] w fun e w' => e = .returned (.tuple #[.int .u64 (getNum s), .int .i64 (getErr s)]) ∧ w = w' := by
  unfold getNum getErr
  by_cases h : 1 ≤ s.size ∧ s.size ≤ 8
  · rw [if_pos h, if_pos h]; exact get_yes s w h.1 h.2
  · rw [if_neg h, if_neg h]; exact get_no s w hm (by omega)
theorem rget_all (s : ByteArray) (w : World) (hm : s.size ≤ maxLen) :
    Calls Try.prog 13 #[.string s] w fun e w' => e = .returned (.tuple #[.int .u64 (getNum s), .int .i64 (getErr s)]) ∧ w = w' := by
  unfold getNum getErr
  by_cases h : 1 ≤ s.size ∧ s.size ≤ 8
  · rw [if_pos h, if_pos h]; exact rget_yes s w h.1 h.2
  · rw [if_neg h, if_neg h]; exact rget_no s w hm (by omega)

set_option maxRecDepth 100000 in
theorem walk_BitsPuts (v n : Int) (s : ByteArray) (wv : (Lit.int .u64 v).wf = true) (_wn : (Lit.int .i64 n).wf = true) (hs : s.size ≤ maxLen) (w : World) :
    Calls Try.prog 3 #[.int .u64 v, .int .i64 n, .string s] w fun e w' => e = .returned (.bool true) ∧ Below w.heap.size w w' := by
  have bv := bounds_u64 wv
  go_enter Try.func3, Try.ntmps3
  go_wp2_with fail
  refine (put_all _ _ _ (by omega)).mono ?_
  rintro e w1 ⟨rfl, hb1⟩
  have HB1 := Lib.hid hb1
  clear hb1
  go_wp2_with fail
  refine (rput_all _ _ _ (by omega) (by omega)).mono ?_
  rintro e w2 ⟨rfl, hb2⟩
  have HB2 := Lib.hid (HB1.out.trans (hb2.mono HB1.out.size))
  clear hb2
  go_wp2_with fail
  refine (get_all _ _ hs).mono ?_
  rintro e w' ⟨rfl, rfl⟩
  go_wp2_with fail
  refine (rget_all _ _ hs).mono ?_
  rintro e w' ⟨rfl, rfl⟩
  go_wp2_with fail
  refine (works_any _).mono ?_
  rintro e w3 ⟨rfl, hb3⟩
  have HB3 := Lib.hid (HB2.out.trans (hb3.mono HB2.out.size))
  clear hb3
  go_wp2_with fail
  go_ret
  exact ⟨rfl, HB3.out⟩

end Go.Proofs.Ytcngmhodgpmjfaa
