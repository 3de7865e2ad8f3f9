/- Plain facts for the code of package ham: what is left of the places, byte by byte, and how many bits are 1, taken together. -/
import Derived.Test.YtcjhojedenpmbaaDoorHamT
import Derived.Lib.BufferWrite
namespace Go.Proofs.YtcjhojedenpmbaaDoor
open Go.RowKit

/-- the places of a byte's bits, put together -/
def leftB (k b : Nat) : Nat → Nat
  | 0 => 0
  | j + 1 => leftB k b j ^^^ (if b.testBit j then place (8 * k + j) else 0)
theorem left_seg (M k b : Nat) : ∀ j, (∀ i, i < j → M.testBit (8 * k + i) = b.testBit i) → left M (8 * k + j) = left M (8 * k) ^^^ leftB k b j
  | 0, _ => by show _ = left M (8 * k) ^^^ 0; rw [Nat.xor_zero]; rfl
  | j + 1, h => by
    show left M (8 * k + j) ^^^ (if M.testBit (8 * k + j) then place (8 * k + j) else 0) = left M (8 * k) ^^^ (leftB k b j ^^^ (if b.testBit j then place (8 * k + j) else 0))
    rw [left_seg M k b j (fun i hi => h i (by omega)), h j (by omega), Nat.xor_assoc]
theorem cnt_seg (M k b : Nat) : ∀ j, (∀ i, i < j → M.testBit (8 * k + i) = b.testBit i) → cnt M (8 * k + j) = cnt M (8 * k) + cnt b j
  | 0, _ => rfl
  | j + 1, h => by
    show cnt M (8 * k + j) + (if M.testBit (8 * k + j) then 1 else 0) = cnt M (8 * k) + (cnt b j + (if b.testBit j then 1 else 0))
    rw [cnt_seg M k b j (fun i hi => h i (by omega)), h j (by omega), Nat.add_assoc]
/-- the lowest bit that is 1 -/
def tz (b : Nat) : Nat := if b % 2 = 1 then 0 else if b / 2 % 2 = 1 then 1 else if b / 4 % 2 = 1 then 2 else if b / 8 % 2 = 1 then 3 else if b / 16 % 2 = 1 then 4 else if b / 32 % 2 = 1 then 5 else if b / 64 % 2 = 1 then 6 else 7
theorem tz_lt (b : Nat) : tz b < 8 := by
  unfold tz
  repeat' split
  all_goals decide
theorem low_lt : ∀ b, b < 256 → 0 < b → (b &&& (b - 1)) < b := by decide +kernel
theorem low_bits : ∀ b : Nat, b < 256 → 0 < b → bits .and .u8 (b : Int) ((b : Int) - 1) = ((b &&& (b - 1) : Nat) : Int) := by decide +kernel
theorem leftB_low : ∀ k, k < 8 → ∀ b, b < 256 → 0 < b → leftB k b 8 = place (8 * k + tz b) ^^^ leftB k (b &&& (b - 1)) 8 := by decide +kernel
theorem leftB_zero : ∀ k, k < 9 → leftB k 0 8 = 0 := by decide +kernel
theorem leftB_check : ∀ b, b < 256 → leftB 8 b 8 = b % 128 := by decide +kernel
theorem xor_u8 (a b : Nat) (ha : a < 256) (hb : b < 256) : bits .xor .u8 (a : Int) (b : Int) = ((a ^^^ b : Nat) : Int) := by
  have hx : a ^^^ b < 2 ^ 8 := Nat.xor_lt_two_pow (by omega) (by omega)
  have h1 : (BitVec.ofInt 8 (a : Int)).toNat = a := by
    rw [BitVec.ofInt_natCast, BitVec.toNat_ofNat]; exact Nat.mod_eq_of_lt (by omega)
  have h2 : (BitVec.ofInt 8 (b : Int)).toNat = b := by
    rw [BitVec.ofInt_natCast, BitVec.toNat_ofNat]; exact Nat.mod_eq_of_lt (by omega)
  show IntKind.u8.wrap ((BitVec.ofInt 8 (a : Int) ^^^ BitVec.ofInt 8 (b : Int)).toNat : Int) = _
  rw [BitVec.toNat_xor, h1, h2, IntKind.wrap_u8]
  omega
theorem not_top : ∀ b : Nat, b < 256 → bits .andNot .u8 (b : Int) 128 = ((b % 128 : Nat) : Int) := by decide +kernel
theorem or_top : ∀ b : Nat, b < 128 → bits .or .u8 (b : Int) 128 = ((b + 128 : Nat) : Int) := by decide +kernel

/-- a chunk's bytes as cells -/
def ca (l : List UInt8) : Array Value := (Lib.byteCells l).toArray
theorem ca_size (l : List UInt8) : (ca l).size = l.length := by simp [ca, Lib.byteCells]
theorem ca_at (l : List UInt8) (i : Nat) (h : i < l.length) : (ca l)[i]? = some (.int .u8 ((l.getD i 0).toNat : Int)) := by
  simp [ca, Lib.byteCells, h, List.getD]
theorem ca_set (l : List UInt8) (i n : Nat) (hn : n < 256) : (ca l).setIfInBounds i (.int .u8 (n : Int)) = ca (l.set i (UInt8.ofNat n)) := by
  have e : (Value.int .u8 (n : Int)) = .int .u8 ((UInt8.ofNat n).toNat : Int) := by
    congr 1
    simp
    omega
  simp [ca, Lib.byteCells, List.map_set, e]
/-- a byte of a chunk -/
def by_ (l : List UInt8) (i : Nat) : Nat := (l.getD i 0).toNat
theorem by_lt (l : List UInt8) (i : Nat) : by_ l i < 256 := (l.getD i 0).toNat_lt
theorem ca_by (l : List UInt8) (i : Nat) (h : i < l.length) : (ca l)[i]? = some (.int .u8 (by_ l i : Int)) := ca_at l i h
theorem by_bit (l : List UInt8) (k i : Nat) (hk : k < l.length) (hi : i < 8) : (numN l).testBit (8 * k + i) = (by_ l k).testBit i :=
  numN_bit l k i _ (by simp [List.getD, hk]) hi
theorem left_by (l : List UInt8) (k : Nat) (hk : k < l.length) : left (numN l) (8 * (k + 1)) = left (numN l) (8 * k) ^^^ leftB k (by_ l k) 8 :=
  left_seg _ _ _ 8 fun i hi => by_bit l k i hk hi
theorem cnt_by (l : List UInt8) (k : Nat) (hk : k < l.length) : cnt (numN l) (8 * (k + 1)) = cnt (numN l) (8 * k) + cnt (by_ l k) 8 :=
  cnt_seg _ _ _ 8 fun i hi => by_bit l k i hk hi

/-- the state of the loop over the bytes: the check's places, and those of the first k bytes -/
def lp (l : List UInt8) (k : Nat) : Nat := by_ l 8 % 128 ^^^ left (numN l) (8 * k)
theorem lp_zero (l : List UInt8) : lp l 0 = by_ l 8 % 128 := by unfold lp; show _ ^^^ 0 = _; rw [Nat.xor_zero]
theorem lp_lt (l : List UInt8) (k : Nat) : lp l k < 128 := Nat.xor_lt_two_pow (n := 7) (Nat.mod_lt _ (by decide)) (left_lt _ _)
theorem lp_succ (l : List UInt8) (k : Nat) (hk : k < l.length) : lp l (k + 1) = lp l k ^^^ leftB k (by_ l k) 8 := by
  unfold lp; rw [left_by l k hk, Nat.xor_assoc]
theorem lp_all (l : List UInt8) (h : l.length = 9) : lp l 8 = left (numN l) 72 := by
  have h1 := left_by l 8 (by omega)
  have h2 : left (numN l) 72 = left (numN l) 64 ^^^ leftB 8 (by_ l 8) 8 := h1
  unfold lp
  rw [h2, leftB_check _ (by_lt l 8), Nat.xor_comm]

/-- the first k bytes put together -/
def xa (l : List UInt8) : Nat → Nat
  | 0 => 0
  | k + 1 => xa l k ^^^ by_ l k
theorem xa_lt (l : List UInt8) : ∀ k, xa l k < 256
  | 0 => by show (0 : Nat) < 256; decide
  | k + 1 => Nat.xor_lt_two_pow (n := 8) (xa_lt l k) (by_lt l k)
theorem xa_cnt (l : List UInt8) : ∀ k, k ≤ l.length → cnt (xa l k) 8 % 2 = cnt (numN l) (8 * k) % 2
  | 0, _ => by show cnt 0 8 % 2 = _; rw [cnt_zero]; rfl
  | k + 1, h => by
    show cnt (xa l k ^^^ by_ l k) 8 % 2 = _
    rw [cnt_xor, cnt_by l k (by omega)]
    have := xa_cnt l k (by omega)
    omega
/-- is the number of its bits that are 1 odd? -/
def oddB (l : List UInt8) : Bool := decide (cnt (numN l) 72 % 2 = 1)

/-- the place p's bit turned, if it is among the eight bytes -/
def turnL (l : List UInt8) (p k : Nat) : List UInt8 := if idx p < k then fl l (idx p / 8) (idx p % 8) else l
theorem turnL_length (l : List UInt8) (p k : Nat) : (turnL l p k).length = l.length := by unfold turnL; split; exact fl_length _ _ _; rfl
theorem turnL_zero (l : List UInt8) (p : Nat) : turnL l p 0 = l := rfl
theorem idx_eq {p k x : Nat} (hp : p ≤ 71) (hk : k < 72) (hx : place k = x) (h : x = p) : idx p = k := by
  subst h; subst hx; exact idx_place hk
theorem turnL_hit (l : List UInt8) (p k x : Nat) (hp : p ≤ 71) (hk : k < 64) (hx : place k = x) (h : x = p) : turnL l p k = l ∧ turnL l p (k + 1) = fl l (k / 8) (k % 8) := by
  have e := idx_eq hp (by omega) hx h
  unfold turnL
  rw [e]
  exact ⟨if_neg (by omega), if_pos (by omega)⟩
theorem turnL_miss (l : List UInt8) (p k x : Nat) (hp : p ≤ 71) (hx : place k = x) (h : x ≠ p) : turnL l p (k + 1) = turnL l p k := by
  have e : idx p ≠ k := by
    intro e
    have := (place_idx hp).2
    rw [e] at this
    omega
  unfold turnL
  by_cases h2 : idx p < k
  · rw [if_pos (by omega), if_pos h2]
  · rw [if_neg (by omega), if_neg h2]
theorem fb_nat (c : UInt8) (j : Nat) (hj : j < 8) : (fb c j).toNat = c.toNat ^^^ 2 ^ j := by
  have h : ∀ n, n < 256 → ∀ j, j < 8 → (fb (UInt8.ofNat n) j).toNat = n ^^^ 2 ^ j := by decide +kernel
  have := h _ c.toNat_lt j hj
  rwa [UInt8.ofNat_toNat] at this
theorem ca_flip (l : List UInt8) (q r : Nat) (hr : r < 8) : (ca l).setIfInBounds q (.int .u8 ((by_ l q ^^^ 2 ^ r : Nat) : Int)) = ca (fl l q r) := by
  have hx : by_ l q ^^^ 2 ^ r < 256 := Nat.xor_lt_two_pow (n := 8) (by_lt l q) (Nat.pow_lt_pow_right (by decide) hr)
  rw [ca_set _ _ _ hx]
  unfold fl
  congr 2
  apply UInt8.toNat_inj.1
  rw [fb_nat _ _ hr]
  show _ % 256 = _
  exact Nat.mod_eq_of_lt hx

/-- the places of the 64 bits, as the program's table has them -/
def plA : Array Value := ((List.range 64).map fun i => Value.int .u8 ((place i : Nat) : Int)).toArray
theorem plA_at (k : Nat) (hk : k < 64) : plA[k]? = some (.int .u8 ((place k : Nat) : Int)) := by
  simp [plA, hk]

end Go.Proofs.YtcjhojedenpmbaaDoor
