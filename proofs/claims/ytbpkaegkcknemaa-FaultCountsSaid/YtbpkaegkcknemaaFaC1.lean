/- Package fault and its reference, walked: which kinds fit; rests; pages with a bit turned. -/
import Derived.Test.YtbpkaegkcknemaaFaS1
import Derived.Test.YtbpkaegkcknemaaBitsZ
import Derived.Test.YtbpkaegkcknemaaBlk
import Derived.Deep.MidRow
namespace Go.Proofs.Ytbpkaegkcknemaa
set_option maxRecDepth 100000
open Go.RowKit

def fitsB (k op : Int) : Bool := decide ((1 ≤ op ∧ op ≤ 5) ∧ (k = 1 ∨ (k = 2 ∧ ¬ op = 1) ∨ (k = 3 ∧ op = 1)))
theorem fa_fits (k op : Int) (w : World) : Calls Try.prog 21 #[.int .i64 k, .int .i64 op] w fun r w' => r = .returned (.bool (fitsB k op)) ∧ w = w' := by
  unfold fitsB
  go_enter Try.func21, Try.ntmps21
  go_wp2
  all_goals go_ret
  all_goals exact ⟨ret_bool (by (try simp only [beq_iff_eq, beq_eq_false_iff_ne, ne_eq] at *); rw [Bool.eq_iff_iff]; simp; try omega), rfl⟩
theorem rfa_fits (k op : Int) (w : World) : Calls Try.prog 22 #[.int .i64 k, .int .i64 op] w fun r w' => r = .returned (.bool (fitsB k op)) ∧ w = w' := by
  unfold fitsB
  go_enter Try.func22, Try.ntmps22
  go_wp2
  all_goals go_ret
  all_goals exact ⟨ret_bool (by (try simp only [beq_iff_eq, beq_eq_false_iff_ne, ne_eq] at *); rw [Bool.eq_iff_iff]; simp; try omega), rfl⟩

theorem fa_rest (n by' : Int) (w : World) (h0 : 0 < by') (h1 : by' ≤ 100000) : Calls Try.prog 24 #[.int .i64 n, .int .i64 by'] w fun r w' => r = .returned (.int .i64 (n % by')) ∧ w = w' := by
  have hm := Int.tmod_eq_emod (a := n) (b := by')
  have hlt := Int.emod_lt_of_pos n h0
  have hge := Int.emod_nonneg n (b := by') (by omega)
  have hab : (by'.natAbs : Int) = by' := by omega
  obtain ⟨x, hx⟩ : ∃ x, n.tmod by' = x := ⟨_, rfl⟩
  obtain ⟨y, hy⟩ : ∃ y, n % by' = y := ⟨_, rfl⟩
  rw [hx, hy] at hm
  rw [hy] at hlt hge ⊢
  have hb' : by' ≠ 0 := by omega
  have hxy : x = y ∨ x = y - by' := by
    by_cases hc : 0 ≤ n ∨ by' ∣ n
    · rw [if_pos hc] at hm; omega
    · rw [if_neg hc, hab] at hm; omega
  have hlo : -100000 ≤ x := by omega
  have hhi : x ≤ 100000 := by omega
  have hz : (x + by').tmod by' = y := by
    rw [Int.tmod_eq_emod_of_nonneg (by omega)]
    rcases hxy with rfl | rfl
    · rw [Int.add_emod_right, Int.emod_eq_of_lt hge hlt]
    · rw [show y - by' + by' = y by omega, Int.emod_eq_of_lt hge hlt]
  clear hm hxy
  go_enter Try.func24, Try.ntmps24
  go_wp2
  go_ret
  exact ⟨rfl, rfl⟩
theorem rfa_rest (n by' : Int) (w : World) (h0 : 0 < by') (h1 : by' ≤ 100000) : Calls Try.prog 26 #[.int .i64 n, .int .i64 by'] w fun r w' => r = .returned (.int .i64 (n % by')) ∧ w = w' := by
  have hm := Int.tmod_eq_emod (a := n) (b := by')
  have hlt := Int.emod_lt_of_pos n h0
  have hge := Int.emod_nonneg n (b := by') (by omega)
  have hab : (by'.natAbs : Int) = by' := by omega
  obtain ⟨x, hx⟩ : ∃ x, n.tmod by' = x := ⟨_, rfl⟩
  obtain ⟨y, hy⟩ : ∃ y, n % by' = y := ⟨_, rfl⟩
  rw [hx, hy] at hm
  rw [hy] at hlt hge ⊢
  have hb' : by' ≠ 0 := by omega
  have hxy : (x < 0 → x + by' = y) ∧ (¬ x < 0 → x = y) := by
    by_cases hc : 0 ≤ n ∨ by' ∣ n
    · rw [if_pos hc] at hm; omega
    · rw [if_neg hc, hab] at hm; omega
  by_cases hneg : x < 0
  · have hxy2 := hxy.1 hneg
    have hlo : -100000 ≤ x := by omega
    clear hm hy hxy
    go_enter Try.func26, Try.ntmps26
    go_wp2
    go_ret
    exact ⟨rfl, rfl⟩
  · have hxy2 := hxy.2 hneg
    clear hm hy hxy
    subst hxy2
    go_enter Try.func26, Try.ntmps26
    go_wp2
    go_ret
    exact ⟨rfl, rfl⟩

/-- which bit of s the fault chooses -/
def bitF (s : ByteArray) (x : Fa) : Nat := (x.2.2.1 % (8 * (s.size : Int))).toNat
theorem bitF_lt (s : ByteArray) (x : Fa) (h : 0 < s.size) : bitF s x < 8 * s.size := by
  have h1 := Int.emod_lt_of_pos x.2.2.1 (b := 8 * (s.size : Int)) (by omega)
  unfold bitF; omega
theorem bitF_int (s : ByteArray) (x : Fa) (h : 0 < s.size) : x.2.2.1 % (8 * (s.size : Int)) = (bitF s x : Int) := by
  have h1 := Int.emod_nonneg x.2.2.1 (b := 8 * (s.size : Int)) (by omega)
  unfold bitF; omega
def flipF (s : ByteArray) (x : Fa) : ByteArray := if s.size = 0 then ByteArray.empty else flipS s (bitF s x / 8) (bitF s x % 8)
theorem empty_of_size {s : ByteArray} (h : s.size = 0) : s = ByteArray.empty := by
  cases s with
  | mk d =>
    have : d.size = 0 := h
    rw [Array.eq_empty_of_size_eq_zero this]; rfl
theorem text_fullF {q : ByteArray} (h : ¬ q = ByteArray.empty) : q.toList.isEmpty = false := by
  rw [ByteArray.toList_eq]
  cases hq : q.data.toList with
  | nil =>
    exfalso
    apply h
    obtain ⟨d⟩ := q
    simp at hq
    subst hq
    rfl
  | cons => rfl
theorem fa_turned (s : ByteArray) (k : Nat) (w : World) (hm : s.size ≤ 1000) (hk : k / 8 < s.size) :
    Calls Try.prog 23 #[.string s, .int .i64 k] w fun e w' => e = .returned (.tuple #[.string (flipS s (k / 8) (k % 8)), .int .i64 0]) ∧ Below w.heap.size w w' := by
  have h := flip_yes s (k / 8) (k % 8) w hm hk (by omega)
  rwa [show 8 * ((k / 8 : Nat) : Int) + ((k % 8 : Nat) : Int) = (k : Int) by omega] at h
theorem rfa_turned (s : ByteArray) (k : Nat) (w : World) (hm : s.size ≤ 1000) (hk : k / 8 < s.size) :
    Calls Try.prog 25 #[.string s, .int .i64 k] w fun e w' => e = .returned (.tuple #[.string (flipS s (k / 8) (k % 8)), .int .i64 0]) ∧ Below w.heap.size w w' := by
  have h := rflip_yes s (k / 8) (k % 8) w hm hk (by omega)
  rwa [show 8 * ((k / 8 : Nat) : Int) + ((k % 8 : Nat) : Int) = (k : Int) by omega] at h

theorem fa_flipped (s : ByteArray) (x : Fa) (w : World) (hm : s.size ≤ 1000) :
    Calls Try.prog 10 #[.string s, .agg (encF x).toArray] w fun e w' => e = .returned (.string (flipF s x)) ∧ Below w.heap.size w w' := by
  obtain ⟨x1, x2, x3, x4⟩ := x
  simp only [encF]
  unfold flipF
  by_cases h0 : s.size = 0
  · rw [if_pos h0, empty_of_size h0]
    go_enter Try.func10, Try.ntmps10
    go_wp2
    go_ret
    exact ⟨rfl, (Below.refl _ _).alloc (Nat.le_refl _) _⟩
  · rw [if_neg h0]
    have hb := bitF_lt s (x1, x2, x3, x4) (by omega)
    have hi := bitF_int s (x1, x2, x3, x4) (by omega)
    have hr := fa_rest x3 (8 * (s.size : Int))
    obtain ⟨q, hq⟩ : ∃ q, bitF s (x1, x2, x3, x4) = q := ⟨_, rfl⟩
    rw [hq] at hb hi ⊢
    simp only at hi
    have HI : Hid (x3 % (8 * (s.size : Int)) = (q : Int)) := hi
    have hne : ¬ s = ByteArray.empty := fun e => h0 (by rw [e]; rfl)
    have hemp := text_fullF hne
    clear hq hi
    go_enter Try.func10, Try.ntmps10
    go_wp2_with fail
    refine (hr _ (by omega) (by omega)).mono ?_
    rintro r w1 ⟨rfl, rfl⟩
    rw [HI.out]
    clear hr
    go_wp2_with fail
    refine (fa_turned s q _ hm (by omega)).mono ?_
    rintro r w1 ⟨rfl, hb1⟩
    have HB1 : Hid (Below w.heap.size w w1) := ((Below.refl _ w).alloc (Nat.le_refl _) _).trans (hb1.mono (by simp))
    clear hb1
    go_wp2
    go_ret
    exact ⟨rfl, HB1.out⟩
theorem rfa_flipped (s : ByteArray) (x : Fa) (w : World) (hm : s.size ≤ 1000) :
    Calls Try.prog 11 #[.string s, .agg (encF x).toArray] w fun e w' => e = .returned (.string (flipF s x)) ∧ Below w.heap.size w w' := by
  obtain ⟨x1, x2, x3, x4⟩ := x
  simp only [encF]
  unfold flipF
  by_cases h0 : s.size = 0
  · rw [if_pos h0, empty_of_size h0]
    go_enter Try.func11, Try.ntmps11
    go_wp2
    go_ret
    exact ⟨rfl, (Below.refl _ _).alloc (Nat.le_refl _) _⟩
  · rw [if_neg h0]
    have hb := bitF_lt s (x1, x2, x3, x4) (by omega)
    have hi := bitF_int s (x1, x2, x3, x4) (by omega)
    have hr := rfa_rest x3 (8 * (s.size : Int))
    obtain ⟨q, hq⟩ : ∃ q, bitF s (x1, x2, x3, x4) = q := ⟨_, rfl⟩
    rw [hq] at hb hi ⊢
    simp only at hi
    have HI : Hid (x3 % (8 * (s.size : Int)) = (q : Int)) := hi
    have hne : ¬ s = ByteArray.empty := fun e => h0 (by rw [e]; rfl)
    have hemp := text_fullF hne
    clear hq hi
    go_enter Try.func11, Try.ntmps11
    go_wp2_with fail
    refine (hr _ (by omega) (by omega)).mono ?_
    rintro r w1 ⟨rfl, rfl⟩
    rw [HI.out]
    clear hr
    go_wp2_with fail
    refine (rfa_turned s q _ hm (by omega)).mono ?_
    rintro r w1 ⟨rfl, hb1⟩
    have HB1 : Hid (Below w.heap.size w w1) := ((Below.refl _ w).alloc (Nat.le_refl _) _).trans (hb1.mono (by simp))
    clear hb1
    go_wp2
    go_ret
    exact ⟨rfl, HB1.out⟩

end Go.Proofs.Ytbpkaegkcknemaa
