/- Get, and the reference's Get: the number of some bytes. -/
import Derived.Test.YtcngmhodgpmjfaaBitsW4
namespace Go.Proofs.Ytcngmhodgpmjfaa
open Go.RowKit

/-- the number whose bytes these are, the lowest first -/
def num : List UInt8 → Int
  | [] => 0
  | b :: l => (b.toNat : Int) + 256 * num l
theorem num_bd (l : List UInt8) : 0 ≤ num l ∧ num l < p2 (8 * l.length) := by
  induction l with
  | nil => exact ⟨Int.le_refl 0, by decide⟩
  | cons b l ih =>
    have hb : b.toNat < 256 := b.toNat_lt
    have e : p2 (8 * (b :: l).length) = 256 * p2 (8 * l.length) := by
      rw [List.length_cons, show 8 * (l.length + 1) = 8 + 8 * l.length by omega, p2_add]; rfl
    rw [e]; simp only [num]; omega
theorem num_snoc (b : UInt8) : ∀ l, num (l ++ [b]) = num l + (b.toNat : Int) * p2 (8 * l.length) := by
  intro l
  induction l with
  | nil => simp [num, p2_zero]
  | cons c l ih =>
    have e : p2 (8 * (c :: l).length) = 256 * p2 (8 * l.length) := by
      rw [List.length_cons, show 8 * (l.length + 1) = 8 + 8 * l.length by omega, p2_add]; rfl
    show (c.toNat : Int) + 256 * num (l ++ [b]) = (c.toNat : Int) + 256 * num l + (b.toNat : Int) * p2 (8 * (c :: l).length)
    rw [ih, e, Int.mul_add, Int.mul_left_comm]; omega
theorem take_snoc (s : ByteArray) (k : Nat) (h : k < s.size) : s.data.toList.take (k + 1) = s.data.toList.take k ++ [s[k]] := by
  rw [List.take_succ_eq_append_getElem (by simpa using h)]; rfl
theorem take_len (s : ByteArray) (k : Nat) (h : k ≤ s.size) : (s.data.toList.take k).length = k := by
  rw [List.length_take]; have : s.data.toList.length = s.size := by simp
  omega
theorem or_addr (x y : Int) (a : Nat) (ha : a ≤ 64) (hy : y % p2 a = 0) (hy0 : 0 ≤ y) (hy1 : y < p2 64) (hx0 : 0 ≤ x) (hx1 : x < p2 a) : bits .or .u64 x y = x + y := by
  have hle := p2_le ha
  have h := or_add y x a ha hy hy0 hy1 hx0 hx1
  have h64 := p2_64
  obtain ⟨x, rfl⟩ := Int.eq_ofNat_of_zero_le hx0
  obtain ⟨y, rfl⟩ := Int.eq_ofNat_of_zero_le hy0
  rw [bits_or_u64_nat y x (by omega) (by omega)] at h
  rw [bits_or_u64_nat x y (by omega) (by omega), Nat.or_comm, h]; omega
def numTo (s : ByteArray) (k : Nat) : Int := num (s.data.toList.take k)
theorem numTo_zero (s : ByteArray) : numTo s 0 = 0 := rfl
theorem numTo_bd (s : ByteArray) (k : Nat) (h : k ≤ s.size) : 0 ≤ numTo s k ∧ numTo s k < p2 (8 * k) := by
  have := num_bd (s.data.toList.take k); rwa [take_len s k h] at this
theorem numTo_succ (s : ByteArray) (k : Nat) (h : k < s.size) : numTo s (k + 1) = numTo s k + (s[k].toNat : Int) * p2 (8 * k) := by
  unfold numTo; rw [take_snoc s k h, num_snoc, take_len s k (by omega)]
theorem byte_room (c : UInt8) (k : Nat) (h : k < 8) : (c.toNat : Int) * p2 (8 * k) < p2 64 ∧ 0 ≤ (c.toNat : Int) * p2 (8 * k) := by
  have hb : c.toNat < 256 := c.toNat_lt
  have hp := p2_pos (8 * k)
  have h1 : (c.toNat : Int) * p2 (8 * k) < 256 * p2 (8 * k) := Int.mul_lt_mul_of_pos_right (by omega) hp
  have h2 : 256 * p2 (8 * k) ≤ p2 64 := by
    have : p2 (8 + 8 * k) ≤ p2 64 := p2_le (by omega)
    rwa [p2_add] at this
  exact ⟨by omega, Int.mul_nonneg (by omega) (by omega)⟩
theorem wrap_byte (c : UInt8) : IntKind.u64.wrap (c.toNat : Int) = c.toNat := by
  have hb : c.toNat < 256 := c.toNat_lt
  rw [IntKind.wrap_u64]; omega
theorem get_step (s : ByteArray) (k : Nat) (h : k < s.size) (hs : k < 8) :
    bits .or .u64 (numTo s k) (IntKind.u64.wrap (IntKind.u64.wrap (s[k].toNat : Int) * p2 (8 * k))) = numTo s (k + 1) := by
  have hb := numTo_bd s k (by omega)
  have hr := byte_room s[k] k hs
  rw [wrap_byte, wrap_lo, lo_all _ 64 hr.2 hr.1, or_addr _ _ (8 * k) (by omega) (Int.mul_emod_left _ _) hr.2 hr.1 hb.1 hb.2, numTo_succ s k h]
/-- the place's power of 256, as it is kept in 64 bits -/
def pp (k : Nat) : Int := lo (p2 (8 * k)) 64
theorem pp_zero : pp 0 = 1 := by decide
theorem pp_succ (k : Nat) : IntKind.u64.wrap (pp k * 256) = pp (k + 1) := by
  unfold pp; rw [wrap_lo]
  unfold lo
  rw [Int.mul_emod, Int.emod_emod_of_dvd _ (Int.dvd_refl _), ← Int.mul_emod, show 8 * (k + 1) = 8 * k + 8 by omega, p2_add]; rfl
theorem rget_step (s : ByteArray) (k : Nat) (h : k < s.size) (hs : k < 8) :
    IntKind.u64.wrap (numTo s k + IntKind.u64.wrap (IntKind.u64.wrap (s[k].toNat : Int) * pp k)) = numTo s (k + 1) := by
  have hb := numTo_bd s k (by omega)
  have hb2 := numTo_bd s (k + 1) (by omega)
  have hr := byte_room s[k] k hs
  have hp : pp k = p2 (8 * k) := lo_all _ _ (by have := p2_pos (8 * k); omega) (by
    have h1 : p2 (8 * k) < p2 (8 * k) * 2 := by have := p2_pos (8 * k); omega
    rw [← p2_succ] at h1
    have h2 : p2 (8 * k + 1) ≤ p2 64 := p2_le (by omega)
    omega)
  have h64 : p2 (8 * (k + 1)) ≤ p2 64 := p2_le (by omega)
  rw [numTo_succ s k h] at *
  rw [hp, wrap_byte, wrap_lo (_ * _), lo_all _ 64 hr.2 hr.1, wrap_lo, lo_all _ 64 (by omega) (by omega)]
def numS (s : ByteArray) : Int := numTo s s.size

theorem get_no (s : ByteArray) (w : World) (hm : s.size ≤ maxLen) (h : s.size < 1 ∨ 8 < s.size) :
    Calls Try.prog 12 #[.string s] w fun e w' => e = .returned (.tuple #[.int .u64 0, .int .i64 1]) ∧ w = w' := by
  unfold maxLen at hm
  rcases h with h | h
  · go_enter Try.func12, Try.ntmps12
    go_wp2
    go_ret2
    exact ⟨rfl, rfl⟩
  · have h' : 1 ≤ s.size := by omega
    go_enter Try.func12, Try.ntmps12
    go_wp2
    go_ret2
    exact ⟨rfl, rfl⟩

theorem rget_no (s : ByteArray) (w : World) (hm : s.size ≤ maxLen) (h : s.size < 1 ∨ 8 < s.size) :
    Calls Try.prog 13 #[.string s] w fun e w' => e = .returned (.tuple #[.int .u64 0, .int .i64 1]) ∧ w = w' := by
  unfold maxLen at hm
  rcases h with h | h
  · go_enter Try.func13, Try.ntmps13
    go_wp2
    go_ret2
    exact ⟨rfl, rfl⟩
  · have h' : 1 ≤ s.size := by omega
    go_enter Try.func13, Try.ntmps13
    go_wp2
    go_ret2
    exact ⟨rfl, rfl⟩

theorem get_yes (s : ByteArray) (w : World) (h1 : 1 ≤ s.size) (h2 : s.size ≤ 8) :
    Calls Try.prog 12 #[.string s] w fun e w' => e = .returned (.tuple #[.int .u64 (numS s), .int .i64 0]) ∧ w = w' := by
  go_enter Try.func12, Try.ntmps12
  go_wp2
  go_loop [4, 16] (fun t i => ∃ k : Nat, k ≤ s.size ∧ i = .int .i64 k ∧ t = .int .u64 (numTo s k)) (fun _ i => s.size - (intOf i).toNat)
  case atStart => exact ⟨0, Nat.zero_le _, rfl, by rw [numTo_zero]⟩
  case round =>
    obtain ⟨k, hk, rfl, rfl⟩ := hrel
    by_cases hlt : k < s.size
    · have HG := Lib.hid (get_step s k hlt (by omega))
      go_wp2
      go_round
      case rel => exact ⟨k + 1, by omega, by go_num, by rw [← HG.out]; rfl⟩
      case measure => simp [intOf]; omega
    · obtain rfl : k = s.size := by omega
      go_wp2
      go_ret2
      exact ⟨rfl, rfl⟩

theorem rget_yes (s : ByteArray) (w : World) (h1 : 1 ≤ s.size) (h2 : s.size ≤ 8) :
    Calls Try.prog 13 #[.string s] w fun e w' => e = .returned (.tuple #[.int .u64 (numS s), .int .i64 0]) ∧ w = w' := by
  go_enter Try.func13, Try.ntmps13
  go_wp2
  go_loop [4, 5, 6] (fun t p i => ∃ k : Nat, k ≤ s.size ∧ i = .int .i64 k ∧ t = .int .u64 (numTo s k) ∧ p = .int .u64 (pp k)) (fun _ _ i => s.size - (intOf i).toNat)
  case atStart => exact ⟨0, Nat.zero_le _, rfl, by rw [numTo_zero], by rw [pp_zero]⟩
  case round =>
    obtain ⟨k, hk, rfl, rfl, rfl⟩ := hrel
    by_cases hlt : k < s.size
    · have HG := Lib.hid (rget_step s k hlt (by omega))
      have HP := Lib.hid (pp_succ k)
      go_wp2
      go_round
      case rel => exact ⟨k + 1, by omega, by go_num, by rw [← HG.out], by rw [← HP.out]⟩
      case measure => simp [intOf]; omega
    · obtain rfl : k = s.size := by omega
      go_wp2
      go_ret2
      exact ⟨rfl, rfl⟩

end Go.Proofs.Ytcngmhodgpmjfaa
