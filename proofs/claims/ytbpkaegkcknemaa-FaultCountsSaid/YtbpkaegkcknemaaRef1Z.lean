/- The reference of layer 1, as far as later layers lean on it: Zeros. -/
import Derived.Test.YtbpkaegkcknemaaRef1
import Derived.Test.YtbpkaegkcknemaaRef1P
namespace Go.Proofs.Ytbpkaegkcknemaa
open Go.RowKit

/-- how many bits of a byte are 1 -/
def pop8 (n : Nat) : Nat := n % 2 + n / 2 % 2 + n / 4 % 2 + n / 8 % 2 + n / 16 % 2 + n / 32 % 2 + n / 64 % 2 + n / 128 % 2
/-- how many bits of a text are 0 -/
def zs : List UInt8 → Nat
  | [] => 0
  | b :: l => pop8 (255 - b.toNat) + zs l
theorem zs_snoc (b : UInt8) : ∀ l, zs (l ++ [b]) = zs l + pop8 (255 - b.toNat)
  | [] => by simp [zs]
  | c :: l => by simp only [List.cons_append, zs, zs_snoc b l]; omega
theorem pop8_le (n : Nat) : pop8 n ≤ 8 := by unfold pop8; omega
theorem zs_le : ∀ l, zs l ≤ 8 * l.length
  | [] => by simp [zs]
  | c :: l => by have := zs_le l; have := pop8_le (255 - c.toNat); simp only [zs, List.length_cons]; omega
def zsTo (s : ByteArray) (k : Nat) : Nat := zs (s.data.toList.take k)
theorem zsTo_succ (s : ByteArray) (k : Nat) (h : k < s.size) : zsTo s (k + 1) = zsTo s k + pop8 (255 - s[k].toNat) := by
  unfold zsTo; rw [take_snoc s k h, zs_snoc]
theorem zsTo_le (s : ByteArray) (k : Nat) (h : k ≤ s.size) : zsTo s k ≤ 8 * k := by
  have := zs_le (s.data.toList.take k); rwa [take_len s k h] at this

/-- how many of a byte's k lowest bits are 0 -/
def zb (c : UInt8) : Nat → Nat
  | 0 => 0
  | k + 1 => zb c k + if bt c.toNat k = 0 then 1 else 0
theorem zb_all (c : UInt8) : zb c 8 = pop8 (255 - c.toNat) := by
  have h : ∀ n, n < 256 → zb (UInt8.ofNat n) 8 = pop8 (255 - n) := by decide +kernel
  have := h _ c.toNat_lt
  rwa [UInt8.ofNat_toNat] at this
theorem zb_le (c : UInt8) (k : Nat) : zb c k ≤ k := by
  induction k with
  | zero => exact Nat.le_refl 0
  | succ k ih => simp only [zb]; split <;> omega

end Go.Proofs.Ytbpkaegkcknemaa
