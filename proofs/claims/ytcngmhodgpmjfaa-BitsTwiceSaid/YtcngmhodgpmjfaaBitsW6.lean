/- Zeros and Flip, and the reference's. -/
import Derived.Test.YtcngmhodgpmjfaaBitsW5
namespace Go.Proofs.Ytcngmhodgpmjfaa
open Go.RowKit

/-- how many bits of a byte are 1 -/
def ones8 (n : Nat) : Nat := n % 2 + n / 2 % 2 + n / 4 % 2 + n / 8 % 2 + n / 16 % 2 + n / 32 % 2 + n / 64 % 2 + n / 128 % 2
def OnesPost (n : Nat) (w : World) (e : Ending) (w' : World) : Prop := e = .returned (.int .i64 (ones8 n)) ∧ w = w'
set_option maxRecDepth 1000000 in
theorem ones_any (x : Int) (w : World) (h0 : 0 ≤ x) (h1 : x ≤ 255) :
    Calls Try.prog 28 #[.int .u8 x] w (OnesPost x.toNat w) := by
  go_enter Try.func28, Try.ntmps28
  go_wp2
  go_ret
  refine ⟨ret_int ?_, rfl⟩
  have hn : x.toNat < 256 := by omega
  rw [← getElem!_pos]
  generalize x.toNat = n at hn
  clear h0 h1
  revert n
  decide +kernel

/-- how many bits of a text are 0 -/
def zs : List UInt8 → Nat
  | [] => 0
  | b :: l => ones8 (255 - b.toNat) + zs l
theorem zs_snoc (b : UInt8) : ∀ l, zs (l ++ [b]) = zs l + ones8 (255 - b.toNat)
  | [] => by simp [zs]
  | c :: l => by simp only [List.cons_append, zs, zs_snoc b l]; omega
theorem ones8_le (n : Nat) : ones8 n ≤ 8 := by unfold ones8; omega
theorem zs_le : ∀ l, zs l ≤ 8 * l.length
  | [] => by simp [zs]
  | c :: l => by have := zs_le l; have := ones8_le (255 - c.toNat); simp only [zs, List.length_cons]; omega
def zsTo (s : ByteArray) (k : Nat) : Nat := zs (s.data.toList.take k)
theorem zsTo_succ (s : ByteArray) (k : Nat) (h : k < s.size) : zsTo s (k + 1) = zsTo s k + ones8 (255 - s[k].toNat) := by
  unfold zsTo; rw [take_snoc s k h, zs_snoc]
theorem zsTo_le (s : ByteArray) (k : Nat) (h : k ≤ s.size) : zsTo s k ≤ 8 * k := by
  have := zs_le (s.data.toList.take k); rwa [take_len s k h] at this

theorem xor_not (c : UInt8) : bits .xor .u8 IntKind.u8.max (c.toNat : Int) = 255 - (c.toNat : Int) := by
  have h : ∀ n : Nat, n < 256 → bits .xor .u8 IntKind.u8.max (n : Int) = 255 - (n : Int) := by decide +kernel
  exact h _ c.toNat_lt
theorem ones_not (c : UInt8) (w : World) :
    Calls Try.prog 28 #[.int .u8 (bits .xor .u8 IntKind.u8.max (c.toNat : Int))] w (OnesPost (255 - c.toNat) w) := by
  have hb : c.toNat < 256 := c.toNat_lt
  have h := ones_any (255 - (c.toNat : Int)) w (by omega) (by omega)
  rw [xor_not, show 255 - c.toNat = (255 - (c.toNat : Int)).toNat by omega]; exact h

theorem zeros_any (s : ByteArray) (w : World) (hm : s.size ≤ 1000) :
    Calls Try.prog 23 #[.string s] w fun e w' => e = .returned (.int .i64 (zsTo s s.size)) ∧ w = w' := by
  go_enter Try.func23, Try.ntmps23
  go_wp2
  go_loop [3, 7] (fun t i => ∃ k : Nat, k ≤ s.size ∧ i = .int .i64 k ∧ t = .int .i64 (zsTo s k)) (fun _ i => s.size - (intOf i).toNat)
  case atStart => exact ⟨0, Nat.zero_le _, rfl, rfl⟩
  case round =>
    obtain ⟨k, hk, rfl, rfl⟩ := hrel
    have hz := zsTo_le s k hk
    by_cases hlt : k < s.size
    · have hb : s[k].toNat ≤ 255 := by have : s[k].toNat < 256 := s[k].toNat_lt; omega
      have HZ := Lib.hid (zsTo_succ s k hlt)
      have ho := ones8_le (255 - s[k].toNat)
      go_wp2_with fail
      refine (ones_not _ _).mono ?_
      rintro e w' ⟨rfl, rfl⟩
      go_wp2
      go_round
      case rel => exact ⟨k + 1, by omega, by go_num, by rw [HZ.out]; rfl⟩
      case measure => simp [intOf]; omega
    · obtain rfl : k = s.size := by omega
      go_wp2
      go_ret
      exact ⟨rfl, rfl⟩

/-- how many of a byte's k lowest bits are 0 -/
def zb (c : UInt8) : Nat → Nat
  | 0 => 0
  | k + 1 => zb c k + if bt c.toNat k = 0 then 1 else 0
theorem zb_all (c : UInt8) : zb c 8 = ones8 (255 - c.toNat) := by
  have h : ∀ n, n < 256 → zb (UInt8.ofNat n) 8 = ones8 (255 - n) := by decide +kernel
  have := h _ c.toNat_lt
  rwa [UInt8.ofNat_toNat] at this
theorem zb_le (c : UInt8) (k : Nat) : zb c k ≤ k := by
  induction k with
  | zero => exact Nat.le_refl 0
  | succ k ih => simp only [zb]; split <;> omega

theorem rzeros_any (s : ByteArray) (w : World) (hm : s.size ≤ 1000) :
    Calls Try.prog 24 #[.string s] w fun e w' => e = .returned (.int .i64 (zsTo s s.size)) ∧ w = w' := by
  go_enter Try.func24, Try.ntmps24
  go_wp2
  go_loop [3, 4] (fun t i => ∃ k : Nat, k ≤ s.size ∧ i = .int .i64 k ∧ t = .int .i64 (zsTo s k)) (fun _ i => s.size - (intOf i).toNat)
  case atStart => exact ⟨0, Nat.zero_le _, rfl, rfl⟩
  case round =>
    obtain ⟨k, hk, rfl, rfl⟩ := hrel
    have hz := zsTo_le s k hk
    by_cases hlt : k < s.size
    · have hb : s[k].toNat ≤ 255 := by have : s[k].toNat < 256 := s[k].toNat_lt; omega
      have HZ : Hid (zsTo s (k + 1) = zsTo s k + zb s[k] 8) := by rw [zb_all]; exact zsTo_succ s k hlt
      go_wp2
      go_loop [3, 5] (fun t i => ∃ j : Nat, j ≤ 8 ∧ i = .int .i64 j ∧ t = .int .i64 ((zsTo s k + zb s[k] j : Nat) : Int)) (fun _ i => 8 - (intOf i).toNat)
      case atStart => exact ⟨0, Nat.zero_le _, rfl, rfl⟩
      case round =>
        obtain ⟨j, hj, rfl, rfl⟩ := hrel
        have hy := zb_le s[k] j
        by_cases hjt : j < 8
        · rcases bt_01 s[k].toNat j with hbb | hbb
          · have HB := Lib.hid hbb
            have HY : Hid (zb s[k] (j + 1) = zb s[k] j + 1) := by show zb s[k] j + (if bt s[k].toNat j = 0 then 1 else 0) = _; rw [if_pos hbb]
            clear hbb
            go_wp2_with fail
            refine (bit_nil _ j _ (by omega) (by omega) (by omega) HB.out).mono ?_
            rintro e w' ⟨rfl, rfl⟩
            go_wp2
            go_round
            case rel => exact ⟨j + 1, by omega, by go_num, by rw [HY.out]; go_num⟩
            case measure => simp [intOf]; omega
          · have HB := Lib.hid hbb
            have HY : Hid (zb s[k] (j + 1) = zb s[k] j) := by show zb s[k] j + (if bt s[k].toNat j = 0 then 1 else 0) = _; rw [if_neg (by rw [hbb]; decide)]; rfl
            clear hbb
            go_wp2_with fail
            refine (bit_one _ j _ (by omega) (by omega) (by omega) HB.out).mono ?_
            rintro e w' ⟨rfl, rfl⟩
            go_wp2
            go_round
            case rel => exact ⟨j + 1, by omega, by go_num, by rw [HY.out]; go_num⟩
            case measure => simp [intOf]; omega
        · obtain rfl : j = 8 := by omega
          go_wp2
          go_round
          case rel => exact ⟨k + 1, by omega, by go_num, by rw [HZ.out]⟩
          case measure => simp [intOf]; omega
    · obtain rfl : k = s.size := by omega
      go_wp2
      go_ret
      exact ⟨rfl, rfl⟩

end Go.Proofs.Ytcngmhodgpmjfaa
