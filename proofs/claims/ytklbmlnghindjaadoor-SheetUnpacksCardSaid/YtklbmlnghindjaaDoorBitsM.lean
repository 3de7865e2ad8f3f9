/- Plain arithmetic for layer 1: powers of two, single bits, the lowest bits of a number, its sign in so many bits, and bits turned round in 64. No Go in sight. -/
import Derived.RowKit
import Derived.Laws.Bits64b
import Derived.Laws.BitsLemmas
namespace Go.Proofs.YtklbmlnghindjaaDoor
open Go.RowKit

def p2 (k : Nat) : Int := 2 ^ k
theorem p2_zero : p2 0 = 1 := rfl
theorem p2_succ (k : Nat) : p2 (k + 1) = p2 k * 2 := Int.pow_succ 2 k
theorem p2_add (a b : Nat) : p2 (a + b) = p2 a * p2 b := Int.pow_add 2 a b
theorem p2_pos (k : Nat) : 0 < p2 k := Int.pow_pos (by decide)
theorem p2_64 : p2 64 = 18446744073709551616 := by decide
theorem p2_63 : p2 63 = 9223372036854775808 := by decide
theorem p2_le {a b : Nat} (h : a ≤ b) : p2 a ≤ p2 b := by
  obtain ⟨c, rfl⟩ := Nat.exists_eq_add_of_le h
  rw [p2_add]
  have h1 := p2_pos a
  have h2 := p2_pos c
  have h3 : p2 a * 1 ≤ p2 a * p2 c := Int.mul_le_mul_of_nonneg_left (by omega) (by omega)
  omega
theorem p2_lt {a : Nat} (h : a < 64) : p2 a < 18446744073709551616 := by
  have h1 : p2 a ≤ p2 63 := p2_le (by omega)
  rw [p2_63] at h1; omega

def bt (v : Int) (k : Nat) : Int := v / p2 k % 2
theorem bt_01 (v : Int) (k : Nat) : bt v k = 0 ∨ bt v k = 1 := by unfold bt; omega
def lo (v : Int) (k : Nat) : Int := v % p2 k
theorem lo_bd (v : Int) (k : Nat) : 0 ≤ lo v k ∧ lo v k < p2 k := ⟨Int.emod_nonneg _ (by have := p2_pos k; omega), Int.emod_lt_of_pos _ (p2_pos k)⟩
theorem lo_zero (v : Int) : lo v 0 = 0 := by unfold lo p2; omega
theorem lo_all (v : Int) (k : Nat) (h0 : 0 ≤ v) (h1 : v < p2 k) : lo v k = v := Int.emod_eq_of_lt h0 h1
theorem emod_two_mul (v P : Int) (hP : 0 < P) : v % (P * 2) = v % P + v / P % 2 * P := by
  have e1 := Int.emod_add_mul_ediv v P
  have e2 := Int.emod_add_mul_ediv (v / P) 2
  have b1 := Int.emod_nonneg v (b := P) (by omega)
  have b2 := Int.emod_lt_of_pos v hP
  have b3 := Int.emod_nonneg (v / P) (b := 2) (by decide)
  have b4 := Int.emod_lt_of_pos (v / P) (b := 2) (by decide)
  have hv : v = (v % P + v / P % 2 * P) + (P * 2) * (v / P / 2) := by
    have e3 : P * (v / P) = P * (v / P % 2 + 2 * (v / P / 2)) := by rw [e2]
    rw [Int.mul_add, ← Int.mul_assoc] at e3
    have e4 : v / P % 2 * P = P * (v / P % 2) := Int.mul_comm _ _
    omega
  have hb : v / P % 2 * P = 0 ∨ v / P % 2 * P = P := by
    have : v / P % 2 = 0 ∨ v / P % 2 = 1 := by omega
    rcases this with h | h <;> rw [h] <;> simp
  conv => lhs; rw [hv]
  rw [Int.add_mul_emod_self_left]
  exact Int.emod_eq_of_lt (by omega) (by omega)
theorem lo_succ (v : Int) (k : Nat) : lo v (k + 1) = lo v k + bt v k * p2 k := by
  unfold lo bt; rw [p2_succ]; exact emod_two_mul v _ (p2_pos k)
theorem lo_succ0 (v : Int) (k : Nat) (h : bt v k = 0) : lo v (k + 1) = lo v k := by rw [lo_succ, h]; omega
theorem lo_succ1 (v : Int) (k : Nat) (h : bt v k = 1) : lo v (k + 1) = lo v k + p2 k := by rw [lo_succ, h]; omega
theorem p2_dvd {a b : Nat} (h : a ≤ b) : p2 a ∣ p2 b := by
  obtain ⟨c, rfl⟩ := Nat.exists_eq_add_of_le h
  rw [p2_add]; exact ⟨p2 c, rfl⟩
theorem lo_lo (v : Int) (a b : Nat) (h : a ≤ b) : lo (lo v b) a = lo v a := Int.emod_emod_of_dvd v (p2_dvd h)

/-- what the lowest n bits say, the highest of them below 0 -/
def sg (v : Int) (n : Nat) : Int := lo v (n - 1) - bt v (n - 1) * p2 (n - 1)
theorem wrap_lo (v : Int) : IntKind.u64.wrap v = lo v 64 := by rw [IntKind.wrap_u64]; unfold lo; rw [p2_64]
theorem wrap64_hi (x : Int) (h0 : p2 63 ≤ x) (h1 : x < p2 64) : wrap64 x = x - p2 64 := by rw [p2_63] at h0; rw [p2_64] at *; unfold wrap64; omega
theorem wrap64_lo (x : Int) (h0 : 0 ≤ x) (h1 : x < p2 63) : wrap64 x = x := by rw [p2_63] at h1; unfold wrap64; omega
theorem lo_shl (v : Int) (n k : Nat) : lo (v * p2 k) (n + k) = lo v n * p2 k := by
  unfold lo; rw [p2_add, Int.mul_comm v, Int.mul_comm (p2 n), Int.mul_emod_mul_of_pos _ _ (p2_pos k), Int.mul_comm]
theorem sign_math (v : Int) (n : Nat) (h1 : 1 ≤ n) (h2 : n ≤ 64) : wrap64 (IntKind.u64.wrap (v * p2 (64 - n))) / p2 (64 - n) = sg v n := by
  obtain ⟨m, rfl⟩ : ∃ m, n = m + 1 := ⟨n - 1, by omega⟩
  obtain ⟨k, hk⟩ : ∃ k, 64 - (m + 1) = k := ⟨_, rfl⟩
  rw [hk, wrap_lo]
  have e64 : 64 = (m + 1) + k := by omega
  have e63 : 63 = m + k := by omega
  have hl : lo (v * p2 k) 64 = lo v (m + 1) * p2 k := by
    rw [e64]; exact lo_shl v (m + 1) k
  rw [hl]
  have hp := p2_pos k
  have hm := lo_bd v m
  have hs : sg v (m + 1) = lo v m - bt v m * p2 m := rfl
  rw [hs]
  rcases bt_01 v m with hb | hb
  · rw [lo_succ0 v m hb, hb]
    have hx : lo v m * p2 k < p2 63 := by
      rw [e63, p2_add]; exact Int.mul_lt_mul_of_pos_right hm.2 hp
    rw [wrap64_lo _ (Int.mul_nonneg hm.1 (by omega)) hx, Int.mul_ediv_cancel _ (by omega)]
    omega
  · rw [lo_succ1 v m hb, hb]
    have hx0 : p2 63 ≤ (lo v m + p2 m) * p2 k := by
      rw [e63, p2_add]; exact Int.mul_le_mul_of_nonneg_right (by omega) (by omega)
    have hx1 : (lo v m + p2 m) * p2 k < p2 64 := by
      rw [e64, p2_add]; refine Int.mul_lt_mul_of_pos_right ?_ hp; rw [p2_succ]; omega
    rw [wrap64_hi _ hx0 hx1]
    have e : (lo v m + p2 m) * p2 k - p2 64 = (lo v m - p2 m) * p2 k := by
      rw [e64, p2_add, p2_succ, ← Int.sub_mul]; congr 1; omega
    rw [e, Int.mul_ediv_cancel _ (by omega)]; omega
theorem sg_bd (v : Int) (n : Nat) (h1 : 1 ≤ n) (h2 : n ≤ 64) : -9223372036854775808 ≤ sg v n ∧ sg v n ≤ 9223372036854775807 := by
  have hm := lo_bd v (n - 1)
  have hp : p2 (n - 1) ≤ p2 63 := p2_le (by omega)
  have hq := p2_pos (n - 1)
  rw [p2_63] at hp
  unfold sg
  rcases bt_01 v (n - 1) with hb | hb <;> rw [hb] <;> omega
theorem bt_lo (v : Int) (a b : Nat) (h : a < b) : bt (lo v b) a = bt v a := by
  have h1 := lo_succ (lo v b) a
  have h2 := lo_succ v a
  rw [lo_lo _ _ _ (by omega), lo_lo _ _ _ (by omega)] at h1
  have h3 : bt (lo v b) a * p2 a = bt v a * p2 a := by omega
  exact Int.eq_of_mul_eq_mul_right (by have := p2_pos a; omega) h3
theorem sg_lo (v : Int) (n b : Nat) (h1 : 1 ≤ n) (h2 : n ≤ b) : sg (lo v b) n = sg v n := by
  unfold sg; rw [lo_lo _ _ _ (by omega), bt_lo _ _ _ (by omega)]
theorem narrow_math (v : Int) (n : Nat) (h2 : n ≤ 64) : IntKind.u64.wrap (IntKind.u64.wrap v * p2 (64 - n)) / p2 (64 - n) = lo v n := by
  obtain ⟨k, hk⟩ : ∃ k, 64 - n = k := ⟨_, rfl⟩
  rw [hk, wrap_lo, wrap_lo]
  have e64 : lo (lo v 64 * p2 k) 64 = lo (lo v 64 * p2 k) (n + k) := by rw [show n + k = 64 by omega]
  rw [e64, lo_shl, lo_lo _ _ _ h2, Int.mul_ediv_cancel _ (by have := p2_pos k; omega)]
/-- what room is in n bits -/
theorem sg_eq (v : Int) (n : Nat) (h1 : 1 ≤ n) : sg v n = v ↔ -p2 (n - 1) ≤ v ∧ v < p2 (n - 1) := by
  obtain ⟨m, rfl⟩ : ∃ m, n = m + 1 := ⟨n - 1, by omega⟩
  have hm := lo_bd v m
  have hp := p2_pos m
  have hs : sg v (m + 1) = lo v m - bt v m * p2 m := rfl
  simp only [Nat.add_sub_cancel]
  rw [hs]
  constructor
  · intro h
    rcases bt_01 v m with hb | hb <;> rw [hb] at h <;> omega
  · rintro ⟨h3, h4⟩
    by_cases h5 : 0 ≤ v
    · have h6 : lo v m = v := lo_all v m h5 h4
      have h7 : bt v m = 0 := by unfold bt; rw [Int.ediv_eq_zero_of_lt h5 h4]; rfl
      rw [h6, h7]; omega
    · have h6 : v / p2 m = -1 := by
        have e1 := Int.emod_add_mul_ediv v (p2 m)
        have b1 := Int.emod_nonneg v (b := p2 m) (by omega)
        have b2 := Int.emod_lt_of_pos v hp
        have h8 : v / p2 m < 0 := Int.ediv_neg_of_neg_of_pos (by omega) hp
        have h9 : -1 ≤ v / p2 m := by
          rw [Int.le_ediv_iff_mul_le hp]; omega
        omega
      have h7 : bt v m = 1 := by unfold bt; rw [h6]; rfl
      have h8 : lo v m = v + p2 m := by
        have e1 := Int.emod_add_mul_ediv v (p2 m)
        rw [h6] at e1
        unfold lo; omega
      rw [h7, h8]; omega

/-! bits turned round in 64 -/
def rot (v : Int) (a : Nat) : Int := lo v (64 - a) * p2 a + v / p2 (64 - a)
theorem split_at (v : Int) (k : Nat) : lo v k + p2 k * (v / p2 k) = v := Int.emod_add_mul_ediv v (p2 k)
theorem hi_bd (v : Int) (a : Nat) (ha : a ≤ 64) (h0 : 0 ≤ v) (h1 : v < p2 64) : 0 ≤ v / p2 (64 - a) ∧ v / p2 (64 - a) < p2 a := by
  have hp := p2_pos (64 - a)
  refine ⟨Int.ediv_nonneg h0 (by omega), ?_⟩
  rw [Int.ediv_lt_iff_lt_mul hp, ← p2_add, show a + (64 - a) = 64 by omega]; exact h1
theorem rot_bd (v : Int) (a : Nat) (ha : a ≤ 64) (h0 : 0 ≤ v) (h1 : v < p2 64) : 0 ≤ rot v a ∧ rot v a < p2 64 := by
  have hb := hi_bd v a ha h0 h1
  have hl := lo_bd v (64 - a)
  have hp := p2_pos a
  unfold rot
  refine ⟨by have := Int.mul_nonneg hl.1 (Int.le_of_lt hp); omega, ?_⟩
  have h3 : (lo v (64 - a) + 1) * p2 a ≤ p2 (64 - a) * p2 a := Int.mul_le_mul_of_nonneg_right (by omega) (by omega)
  rw [← p2_add, show 64 - a + a = 64 by omega, Int.add_mul] at h3
  omega
theorem rot_mul (v : Int) (a : Nat) (ha : a ≤ 64) : rot v a = v * p2 a - (p2 64 - 1) * (v / p2 (64 - a)) := by
  have hs := split_at v (64 - a)
  have h4 : v * p2 a = lo v (64 - a) * p2 a + p2 64 * (v / p2 (64 - a)) := by
    conv => lhs; rw [← hs]
    rw [Int.add_mul, Int.mul_right_comm, ← p2_add, show 64 - a + a = 64 by omega]
  unfold rot
  rw [h4, Int.sub_mul]; omega
theorem rot_mod (v : Int) (a : Nat) (ha : a ≤ 64) : rot v a % (p2 64 - 1) = v * p2 a % (p2 64 - 1) := by
  rw [rot_mul v a ha, Int.sub_mul_emod_self_left]
theorem rot_top (a : Nat) (ha : a ≤ 64) : rot (p2 64 - 1) a = p2 64 - 1 := by
  have hp := p2_pos a
  have hq := p2_pos (64 - a)
  have hpq : p2 64 = p2 a * p2 (64 - a) := by rw [← p2_add, show a + (64 - a) = 64 by omega]
  have e : p2 64 - 1 = (p2 (64 - a) - 1) + p2 (64 - a) * (p2 a - 1) := by rw [Int.mul_sub, hpq, Int.mul_comm (p2 (64 - a))]; omega
  have h1 : lo (p2 64 - 1) (64 - a) = p2 (64 - a) - 1 := by
    unfold lo; rw [e, Int.add_mul_emod_self_left]; exact Int.emod_eq_of_lt (by omega) (by omega)
  have h2 : (p2 64 - 1) / p2 (64 - a) = p2 a - 1 := by
    rw [e, Int.add_mul_ediv_left _ _ (by omega), Int.ediv_eq_zero_of_lt (by omega) (by omega)]; omega
  unfold rot
  rw [h1, h2, Int.sub_mul, hpq, Int.mul_comm (p2 (64 - a))]; omega
theorem rot_lt (v : Int) (a : Nat) (ha : a ≤ 64) (h0 : 0 ≤ v) (h1 : v < p2 64 - 1) : rot v a < p2 64 - 1 := by
  have hb := rot_bd v a ha h0 (by omega)
  have hx : rot v a ≠ p2 64 - 1 := by
    intro h
    -- turned back it would be all ones
    have hi := hi_bd v a ha h0 (by omega)
    have hl := lo_bd v (64 - a)
    have hp := p2_pos a
    have hq := p2_pos (64 - a)
    have hs := split_at v (64 - a)
    have hpq : p2 64 = p2 (64 - a) * p2 a := by rw [← p2_add, show 64 - a + a = 64 by omega]
    unfold rot at h
    have hle : lo v (64 - a) ≤ p2 (64 - a) - 1 := by omega
    have h3 : lo v (64 - a) * p2 a ≤ (p2 (64 - a) - 1) * p2 a := Int.mul_le_mul_of_nonneg_right hle (by omega)
    rw [Int.sub_mul] at h3
    have h4 : v / p2 (64 - a) = p2 a - 1 := by omega
    have h5 : lo v (64 - a) * p2 a = (p2 (64 - a) - 1) * p2 a := by rw [Int.sub_mul]; omega
    have h6 := Int.eq_of_mul_eq_mul_right (by omega) h5
    rw [h4, h6, Int.mul_sub] at hs
    omega
  omega
theorem p2_mod (n : Nat) : ∀ v : Int, v * p2 n % (p2 64 - 1) = v * p2 (n % 64) % (p2 64 - 1) := by
  intro v
  have h : ∀ q r : Nat, v * p2 (64 * q + r) % (p2 64 - 1) = v * p2 r % (p2 64 - 1) := by
    intro q
    induction q with
    | zero => intro r; rw [show 64 * 0 + r = r by omega]
    | succ q ih =>
      intro r
      rw [← ih r, show 64 * (q + 1) + r = (64 * q + r) + 64 by omega, p2_add _ 64]
      have e : v * (p2 (64 * q + r) * p2 64) = v * p2 (64 * q + r) + (p2 64 - 1) * (v * p2 (64 * q + r)) := by
        rw [Int.sub_mul, ← Int.mul_assoc, Int.mul_comm _ (p2 64)]; omega
      rw [e, Int.add_mul_emod_self_left]
  have h2 := h (n / 64) (n % 64)
  rw [show 64 * (n / 64) + n % 64 = n by omega] at h2
  exact h2
theorem rot_rot (v : Int) (a b : Nat) (ha : a ≤ 64) (hb : b ≤ 64) (h0 : 0 ≤ v) (h1 : v < p2 64) : rot (rot v a) b = rot v ((a + b) % 64) := by
  have hp : p2 64 = 18446744073709551616 := p2_64
  by_cases hv : v = p2 64 - 1
  · subst hv; rw [rot_top a ha, rot_top b hb, rot_top _ (by omega)]
  · have hc : (a + b) % 64 ≤ 64 := by omega
    have l1 := rot_lt v a ha h0 (by omega)
    have b1 := rot_bd v a ha h0 h1
    have l2 := rot_lt (rot v a) b hb b1.1 l1
    have b2 := rot_bd (rot v a) b hb b1.1 b1.2
    have l3 := rot_lt v _ hc h0 (by omega)
    have b3 := rot_bd v _ hc h0 h1
    have e : rot (rot v a) b % (p2 64 - 1) = rot v ((a + b) % 64) % (p2 64 - 1) := by
      rw [rot_mod _ _ hb, rot_mod _ _ hc, ← p2_mod (a + b), Int.mul_emod, rot_mod _ _ ha, ← Int.mul_emod, Int.mul_assoc, ← p2_add]
    rwa [Int.emod_eq_of_lt b2.1 l2, Int.emod_eq_of_lt b3.1 l3] at e
theorem rot_zero (v : Int) (h0 : 0 ≤ v) (h1 : v < p2 64) : rot v 0 = v := by
  unfold rot; rw [lo_all _ _ h0 h1, Int.ediv_eq_zero_of_lt h0 h1, p2_zero]; omega
/-- so many bits, each at its new place -/
def turned (v : Int) (a m : Nat) : Int := if m ≤ 64 - a then lo v m * p2 a else lo v (64 - a) * p2 a + lo v m / p2 (64 - a)
theorem turned_zero (v : Int) (a : Nat) : turned v a 0 = 0 := by unfold turned; rw [if_pos (by omega), lo_zero]; omega
theorem turned_all (v : Int) (a : Nat) (ha : a < 64) (h0 : 0 ≤ v) (h1 : v < p2 64) : turned v a 64 = rot v a := by
  unfold turned rot
  split
  · obtain rfl : a = 0 := by omega
    rw [lo_all _ _ h0 h1, Int.ediv_eq_zero_of_lt h0 h1]; omega
  · rw [lo_all v 64 h0 h1]
theorem turned_succ (v : Int) (a m : Nat) (ha : a < 64) (hm : m < 64) : turned v a (m + 1) = turned v a m + bt v m * p2 ((m + a) % 64) := by
  unfold turned
  by_cases h : m + 1 ≤ 64 - a
  · rw [if_pos h, if_pos (by omega), lo_succ, Int.add_mul, Int.mul_assoc, ← p2_add]
    by_cases h2 : m + a < 64
    · rw [Nat.mod_eq_of_lt h2]
    · omega
  · rw [if_neg h]
    have e : (m + a) % 64 = m - (64 - a) := by omega
    have es : p2 m = p2 (m - (64 - a)) * p2 (64 - a) := by rw [← p2_add, show m - (64 - a) + (64 - a) = m by omega]
    rw [e, lo_succ v m, es, ← Int.mul_assoc, Int.add_mul_ediv_right _ _ (by have := p2_pos (64 - a); omega)]
    by_cases h3 : m ≤ 64 - a
    · obtain rfl : m = 64 - a := by omega
      rw [if_pos (by omega)]
      have hb := lo_bd v (64 - a)
      rw [Int.ediv_eq_zero_of_lt hb.1 hb.2]; omega
    · rw [if_neg h3]; omega
theorem nat_or_add (q y a : Nat) (hy : y < 2 ^ a) : 2 ^ a * q ||| y = 2 ^ a * q + y := by
  rw [Nat.mul_comm, ← Nat.shiftLeft_eq, Nat.shiftLeft_add_eq_or_of_lt hy]
theorem or_add (x y : Int) (a : Nat) (ha : a ≤ 64) (hx : x % p2 a = 0) (hx0 : 0 ≤ x) (hx1 : x < p2 64) (hy0 : 0 ≤ y) (hy1 : y < p2 a) : bits .or .u64 x y = x + y := by
  have hle := p2_le ha
  have h64 := p2_64
  obtain ⟨x, rfl⟩ := Int.eq_ofNat_of_zero_le hx0
  obtain ⟨y, rfl⟩ := Int.eq_ofNat_of_zero_le hy0
  have hpa : p2 a = ((2 ^ a : Nat) : Int) := (Int.natCast_pow 2 a).symm
  rw [bits_or_u64_nat x y (by omega) (by omega)]
  rw [hpa] at hx hy1
  have hxm : x % 2 ^ a = 0 := by exact_mod_cast hx
  have hym : y < 2 ^ a := by exact_mod_cast hy1
  have hd : 2 ^ a * (x / 2 ^ a) = x := by have := Nat.mod_add_div x (2 ^ a); omega
  have h := nat_or_add (x / 2 ^ a) y a hym
  rw [hd] at h
  rw [h]; exact Int.natCast_add _ _

end Go.Proofs.YtklbmlnghindjaaDoor
