/- The walks of the laws BitsSigns, BitsFlips and BitsTurns. -/
import Derived.Test.YtcngmhodgpmjfaaBitsW9
namespace Go.Proofs.Ytcngmhodgpmjfaa
open Go.RowKit

def signNum (v n : Int) : Int := if 1 ≤ n ∧ n ≤ 64 then sg v n.toNat else 0
def signErr (n : Int) : Int := if 1 ≤ n ∧ n ≤ 64 then 0 else 1
theorem sign_all (v n : Int) (w : World) :
    Calls Try.prog 15 #[.int .u64 v, .int .i64 n] w fun e w' => e = .returned (.tuple #[.int .i64 (signNum v n), .int .i64 (signErr n)]) ∧ w = w' := by
  unfold signNum signErr
  by_cases h : 1 ≤ n ∧ n ≤ 64
  · rw [if_pos h, if_pos h]; exact sign_yes v n w h.1 h.2
  · rw [if_neg h, if_neg h]; exact sign_no v n w (by omega)
theorem rsign_all (v n : Int) (w : World) (v0 : 0 ≤ v) (v1 : v < 18446744073709551616) :
    Calls Try.prog 16 #[.int .u64 v, .int .i64 n] w fun e w' => e = .returned (.tuple #[.int .i64 (signNum v n), .int .i64 (signErr n)]) ∧ w = w' := by
  unfold signNum signErr
  by_cases h : 1 ≤ n ∧ n ≤ 64
  · rw [if_pos h, if_pos h]
    obtain ⟨m, rfl⟩ := Int.eq_ofNat_of_zero_le (show 0 ≤ n by omega)
    obtain ⟨k, rfl⟩ : ∃ k, m = k + 1 := ⟨m - 1, by omega⟩
    exact rsign_yes v k w (by omega) v0 v1
  · rw [if_neg h, if_neg h]; exact rsign_no v n w (by omega)

def narNum (v n : Int) : Int := if 1 ≤ n ∧ n ≤ 64 ∧ sg v n.toNat = v then lo v n.toNat else 0
def narOk (v n : Int) : Bool := decide (1 ≤ n ∧ n ≤ 64 ∧ sg v n.toNat = v)
theorem narrow_all (v n : Int) (w : World) :
    Calls Try.prog 17 #[.int .i64 v, .int .i64 n] w fun e w' => e = .returned (.tuple #[.int .u64 (narNum v n), .bool (narOk v n)]) ∧ w = w' := by
  unfold narNum narOk
  by_cases h : 1 ≤ n ∧ n ≤ 64
  · by_cases h2 : sg v n.toNat = v
    · rw [if_pos ⟨h.1, h.2, h2⟩, decide_eq_true (show 1 ≤ n ∧ n ≤ 64 ∧ sg v n.toNat = v from ⟨h.1, h.2, h2⟩)]; exact narrow_yes v n w h.1 h.2 h2
    · have hno : ¬ (1 ≤ n ∧ n ≤ 64 ∧ sg v n.toNat = v) := fun ⟨_, _, h3⟩ => h2 h3
      rw [if_neg hno, decide_eq_false hno]; exact narrow_left v n w h.1 h.2 h2
  · have hno : ¬ (1 ≤ n ∧ n ≤ 64 ∧ sg v n.toNat = v) := fun ⟨h3, h4, _⟩ => h ⟨h3, h4⟩
    rw [if_neg hno, decide_eq_false hno]; exact narrow_no v n w (by omega)
theorem rnarrow_all (v n : Int) (w : World) :
    Calls Try.prog 18 #[.int .i64 v, .int .i64 n] w fun e w' => e = .returned (.tuple #[.int .u64 (narNum v n), .bool (narOk v n)]) ∧ w = w' := by
  unfold narNum narOk
  by_cases h : 1 ≤ n ∧ n ≤ 64
  · by_cases h2 : sg v n.toNat = v
    · rw [if_pos ⟨h.1, h.2, h2⟩, decide_eq_true (show 1 ≤ n ∧ n ≤ 64 ∧ sg v n.toNat = v from ⟨h.1, h.2, h2⟩)]; exact rnarrow_yes v n w h.1 h.2 h2
    · have hno : ¬ (1 ≤ n ∧ n ≤ 64 ∧ sg v n.toNat = v) := fun ⟨_, _, h3⟩ => h2 h3
      rw [if_neg hno, decide_eq_false hno]; exact rnarrow_left v n w h.1 h.2 h2
  · have hno : ¬ (1 ≤ n ∧ n ≤ 64 ∧ sg v n.toNat = v) := fun ⟨h3, h4, _⟩ => h ⟨h3, h4⟩
    rw [if_neg hno, decide_eq_false hno]; exact rnarrow_no v n w (by omega)

set_option maxRecDepth 100000 in
theorem walk_BitsSigns (v x n : Int) (wv : (Lit.int .u64 v).wf = true) (_wx : (Lit.int .i64 x).wf = true) (_wn : (Lit.int .i64 n).wf = true) (w : World) :
    Calls Try.prog 4 #[.int .u64 v, .int .i64 x, .int .i64 n] w fun e w' => e = .returned (.bool true) ∧ Below w.heap.size w w' := by
  have bv := bounds_u64 wv
  have v1 : v < p2 64 := by rw [p2_64]; omega
  have V1 := Lib.hid v1
  clear v1
  go_enter Try.func4, Try.ntmps4
  go_wp2_with fail
  refine (sign_all _ _ _).mono ?_
  rintro e w' ⟨rfl, rfl⟩
  go_wp2_with fail
  refine (rsign_all _ _ _ (by omega) (by omega)).mono ?_
  rintro e w' ⟨rfl, rfl⟩
  go_wp2_with fail
  refine (narrow_all _ _ _).mono ?_
  rintro e w' ⟨rfl, rfl⟩
  go_wp2_with fail
  refine (rnarrow_all _ _ _).mono ?_
  rintro e w' ⟨rfl, rfl⟩
  go_wp2_with fail
  refine (turn_any _ _ _ (by omega) V1.out).mono ?_
  rintro e w' ⟨rfl, rfl⟩
  go_wp2_with fail
  refine (rturn_any _ _ _ (by omega) V1.out).mono ?_
  rintro e w' ⟨rfl, rfl⟩
  go_wp2_with fail
  refine (works_any _).mono ?_
  rintro e w3 ⟨rfl, hb3⟩
  have HB3 := Lib.hid hb3
  clear hb3
  go_wp2_with fail
  go_ret
  exact ⟨rfl, HB3.out⟩

def flipOut (s : ByteArray) (k : Int) : ByteArray := if 0 ≤ k ∧ k / 8 < s.size then flipS s (k / 8).toNat (k % 8).toNat else ByteArray.empty
def flipErr (s : ByteArray) (k : Int) : Int := if 0 ≤ k ∧ k / 8 < s.size then 0 else 1
theorem flip_all (s : ByteArray) (k : Int) (w : World) (hm : s.size ≤ 1000) (hk : k ≤ 9223372036854775807) :
    Calls Try.prog 21 #[.string s, .int .i64 k] w fun e w' => e = .returned (.tuple #[.string (flipOut s k), .int .i64 (flipErr s k)]) ∧ Below w.heap.size w w' := by
  unfold flipOut flipErr
  by_cases h : 0 ≤ k ∧ k / 8 < s.size
  · rw [if_pos h, if_pos h]
    have hc := flip_yes s (k / 8).toNat (k % 8).toNat w hm (by omega) (by omega)
    rwa [show 8 * (((k / 8).toNat : Nat) : Int) + ((k % 8).toNat : Nat) = k by omega] at hc
  · rw [if_neg h, if_neg h]
    exact (flip_no s k w (by unfold maxLen; omega) hk (by omega)).mono fun e w' ⟨a, b⟩ => ⟨a, below_eq b⟩
theorem rflip_all (s : ByteArray) (k : Int) (w : World) (hm : s.size ≤ 1000) (hk : k ≤ 9223372036854775807) :
    Calls Try.prog 22 #[.string s, .int .i64 k] w fun e w' => e = .returned (.tuple #[.string (flipOut s k), .int .i64 (flipErr s k)]) ∧ Below w.heap.size w w' := by
  unfold flipOut flipErr
  by_cases h : 0 ≤ k ∧ k / 8 < s.size
  · rw [if_pos h, if_pos h]
    have hc := rflip_yes s (k / 8).toNat (k % 8).toNat w hm (by omega) (by omega)
    rwa [show 8 * (((k / 8).toNat : Nat) : Int) + ((k % 8).toNat : Nat) = k by omega] at hc
  · rw [if_neg h, if_neg h]
    exact (rflip_no s k w (by unfold maxLen; omega) hk (by omega)).mono fun e w' ⟨a, b⟩ => ⟨a, below_eq b⟩

set_option maxRecDepth 100000 in
theorem walk_BitsFlips (s : ByteArray) (k : Int) (hs : s.size ≤ maxLen) (wk : (Lit.int .i64 k).wf = true) (w : World) :
    Calls Try.prog 5 #[.string s, .int .i64 k] w fun e w' => e = .returned (.bool true) ∧ Below w.heap.size w w' := by
  have bk := bounds_i64 wk
  have hm2 : (s.size : Int) ≤ 9223372036854775807 := by unfold maxLen at hs; omega
  clear hs
  by_cases h : s.size ≤ 1000
  · go_enter Try.func5, Try.ntmps5
    go_wp2_with fail
    refine (flip_all _ _ _ h (by omega)).mono ?_
    rintro e w1 ⟨rfl, hb1⟩
    have HB1 := Lib.hid hb1
    clear hb1
    go_wp2_with fail
    refine (rflip_all _ _ _ h (by omega)).mono ?_
    rintro e w2 ⟨rfl, hb2⟩
    have HB2 := Lib.hid (HB1.out.trans (hb2.mono HB1.out.size))
    clear hb2
    go_wp2_with fail
    refine (zeros_any _ _ h).mono ?_
    rintro e w' ⟨rfl, rfl⟩
    go_wp2_with fail
    refine (rzeros_any _ _ h).mono ?_
    rintro e w' ⟨rfl, rfl⟩
    go_wp2_with fail
    refine (works_any _).mono ?_
    rintro e w3 ⟨rfl, hb3⟩
    have HB3 := Lib.hid (HB2.out.trans (hb3.mono HB2.out.size))
    clear hb3
    go_wp2_with fail
    go_ret
    exact ⟨rfl, HB3.out⟩
  · go_enter Try.func5, Try.ntmps5
    go_wp2_with fail
    refine (works_any _).mono ?_
    rintro e w3 ⟨rfl, hb3⟩
    have HB3 := Lib.hid hb3
    clear hb3
    go_wp2_with fail
    go_ret
    exact ⟨rfl, HB3.out⟩

theorem far_add (a b : Int) : (far a + far b) % 64 = far (a + b) := by unfold far; omega
set_option maxRecDepth 100000 in
theorem walk_BitsTurns (v a b : Int) (wv : (Lit.int .u64 v).wf = true) (wa : (Lit.int .i16 a).wf = true) (wb : (Lit.int .i16 b).wf = true) (w : World) :
    Calls Try.prog 8 #[.int .u64 v, .int .i16 a, .int .i16 b] w fun e w' => e = .returned (.bool true) ∧ Below w.heap.size w w' := by
  have bv := bounds_u64 wv
  have ba := bounds_i16 wa
  have bb := bounds_i16 wb
  have v1 : v < p2 64 := by rw [p2_64]; omega
  have hr := rot_bd v (far a) (by have := far_lt a; omega) (by omega) v1
  have he := rot_rot v (far a) (far b) (by have := far_lt a; omega) (by have := far_lt b; omega) (by omega) v1
  rw [far_add] at he
  have h64 : rot v (far 64) = v := rot_zero v (by omega) v1
  have h00 : rot v (far 0) = v := rot_zero v (by omega) v1
  have V1 := Lib.hid v1
  have HR := Lib.hid hr
  have HE := Lib.hid he
  have H64 := Lib.hid h64
  have H00 := Lib.hid h00
  clear v1 hr he h64 h00
  go_enter Try.func8, Try.ntmps8
  go_wp2_with fail
  refine (works_any _).mono ?_
  rintro e w3 ⟨rfl, hb3⟩
  have HB3 := Lib.hid hb3
  clear hb3
  go_wp2_with fail
  refine (turn_any _ _ _ (by omega) V1.out).mono ?_
  rintro e w' ⟨rfl, rfl⟩
  go_wp2_with fail
  refine (turn_any _ _ _ HR.out.1 HR.out.2).mono ?_
  rintro e w' ⟨rfl, rfl⟩
  go_wp2_with fail
  rw [HE.out]
  refine (turn_any _ _ _ (by omega) V1.out).mono ?_
  rintro e w' ⟨rfl, rfl⟩
  go_wp2_with fail
  refine (turn_any _ _ _ (by omega) V1.out).mono ?_
  rintro e w' ⟨rfl, rfl⟩
  rw [H64.out]
  go_wp2_with fail
  refine (turn_any _ _ _ (by omega) V1.out).mono ?_
  rintro e w' ⟨rfl, rfl⟩
  rw [H00.out]
  go_wp2_with fail
  go_ret
  exact ⟨rfl, HB3.out⟩

end Go.Proofs.Ytcngmhodgpmjfaa
