/- The two least of some numbers, while they are looked at one by one. No Go in sight. -/
import Derived.Test.YtejgdaekomdhlaaGeM
namespace Go.Proofs.Ytejgdaekomdhlaa
set_option maxRecDepth 100000
open Go.RowKit

/-- k numbers have been looked at, S together: a and b are so small -/
def Two (k : Nat) (S a b : Int) : Prop := 0 ≤ a ∧ a ≤ b ∧ a + ((k : Int) - 1) * b ≤ S
theorem Two.start {x y : Int} (hx : 0 ≤ x) (h : x ≤ y) : Two 2 (x + y) x y := ⟨hx, h, by omega⟩
theorem Two.start' {x y : Int} (hy : 0 ≤ y) (h : y < x) : Two 2 (x + y) y x := ⟨hy, by omega, by omega⟩
theorem Two.least {k : Nat} {S a b n : Int} (h : Two k S a b) (hk : 1 ≤ k) (hn : 0 ≤ n) (hna : n < a) : Two (k + 1) (S + n) n a := by
  obtain ⟨h1, h2, h3⟩ := h
  refine ⟨hn, by omega, ?_⟩
  have hm : ((k : Int) - 1) * a ≤ ((k : Int) - 1) * b := Int.mul_le_mul_of_nonneg_left h2 (by omega)
  have e : (((k + 1 : Nat) : Int) - 1) * a = ((k : Int) - 1) * a + a := by
    rw [show ((k + 1 : Nat) : Int) - 1 = ((k : Int) - 1) + 1 by omega, Int.add_mul, Int.one_mul]
  rw [e]; omega
theorem Two.next {k : Nat} {S a b n : Int} (h : Two k S a b) (hk : 1 ≤ k) (hna : a ≤ n) (hnb : n < b) : Two (k + 1) (S + n) a n := by
  obtain ⟨h1, h2, h3⟩ := h
  refine ⟨h1, hna, ?_⟩
  have hm : ((k : Int) - 1) * n ≤ ((k : Int) - 1) * b := Int.mul_le_mul_of_nonneg_left (by omega) (by omega)
  have e : (((k + 1 : Nat) : Int) - 1) * n = ((k : Int) - 1) * n + n := by
    rw [show ((k + 1 : Nat) : Int) - 1 = ((k : Int) - 1) + 1 by omega, Int.add_mul, Int.one_mul]
  rw [e]; omega
theorem Two.other {k : Nat} {S a b n : Int} (h : Two k S a b) (hnb : b ≤ n) : Two (k + 1) (S + n) a b := by
  obtain ⟨h1, h2, h3⟩ := h
  refine ⟨h1, h2, ?_⟩
  have e : (((k + 1 : Nat) : Int) - 1) * b = ((k : Int) - 1) * b + b := by
    rw [show ((k + 1 : Nat) : Int) - 1 = ((k : Int) - 1) + 1 by omega, Int.add_mul, Int.one_mul]
  rw [e]; omega
theorem Two.room {b l y n s r : Int} (h : OkG b l y n s r) {d : Nat} {S a c : Int} (hd : (d : Int) = b - s - 4) (hS : S ≤ n) (ht : Two d S a c) : a + c ≤ 3 * l := by
  obtain ⟨h1, h2, h3⟩ := ht
  have hd4 : 4 ≤ (d : Int) := by
    obtain ⟨⟨q1, q2, q3, q4, q5, q6, q7, q8, q9, q10, _⟩, _⟩ := h
    omega
  refine room_enough h (a + c) ?_
  rw [← hd]
  have hm : ((d : Int) - 2) * a ≤ ((d : Int) - 2) * c := Int.mul_le_mul_of_nonneg_left h2 (by omega)
  have e1 : (d : Int) * (a + c) = ((d : Int) - 2) * a + 2 * a + ((d : Int) - 1) * c + c := by
    rw [Int.mul_add, Int.sub_mul, Int.sub_mul]; omega
  have e2 : ((d : Int) - 1) * c = ((d : Int) - 2) * c + c := by
    rw [Int.sub_mul, Int.sub_mul]; omega
  omega

end Go.Proofs.Ytejgdaekomdhlaa
