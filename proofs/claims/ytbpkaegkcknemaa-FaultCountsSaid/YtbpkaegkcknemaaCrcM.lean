/- Plain arithmetic for layer 2: a text as one great number, a step of the division, and what is left of it. No Go in sight. -/
import Derived.RowKit
namespace Go.Proofs.Ytbpkaegkcknemaa

/-- the polynomial, the highest power's bit the lowest -/
def polyN : Nat := 3988292384
theorem polyN_lt : polyN < 2 ^ 32 := by decide
theorem polyN_ge : 2 ^ 31 ≤ polyN := by decide
/-- one step: the lowest bit is taken away -/
def s0 (x : Nat) : Nat := x / 2 ^^^ (if x % 2 = 1 then polyN else 0)
def sN : Nat → Nat → Nat
  | 0, x => x
  | n + 1, x => sN n (s0 x)
theorem sN_add (m : Nat) : ∀ n x, sN (n + m) x = sN m (sN n x) := by
  intro n
  induction n with
  | zero => intro x; rw [Nat.zero_add]; rfl
  | succ n ih => intro x; rw [show n + 1 + m = (n + m) + 1 by omega]; exact ih (s0 x)
theorem sN_succ (n x : Nat) : sN (n + 1) x = s0 (sN n x) := sN_add 1 n x
theorem xor_half (a b : Nat) : (a ^^^ b) / 2 = a / 2 ^^^ b / 2 := by
  apply Nat.eq_of_testBit_eq; intro i
  rw [Nat.testBit_xor, Nat.testBit_div_two, Nat.testBit_div_two, Nat.testBit_div_two, Nat.testBit_xor]
theorem xor_odd (a b : Nat) : (a ^^^ b) % 2 = (a % 2 + b % 2) % 2 := by
  have h := Nat.testBit_xor a b 0
  simp only [Nat.testBit_zero] at h
  have h1 : a % 2 = 0 ∨ a % 2 = 1 := by omega
  have h2 : b % 2 = 0 ∨ b % 2 = 1 := by omega
  have h3 : (a ^^^ b) % 2 = 0 ∨ (a ^^^ b) % 2 = 1 := by omega
  rcases h1 with h1 | h1 <;> rcases h2 with h2 | h2 <;> rcases h3 with h3 | h3 <;> simp [h1, h2, h3] at h ⊢
theorem s0_xor (a b : Nat) : s0 (a ^^^ b) = s0 a ^^^ s0 b := by
  unfold s0
  rw [xor_half, xor_odd]
  have h1 : a % 2 = 0 ∨ a % 2 = 1 := by omega
  have h2 : b % 2 = 0 ∨ b % 2 = 1 := by omega
  rcases h1 with h1 | h1 <;> rcases h2 with h2 | h2
  · simp [h1, h2]
  · simp [h1, h2, Nat.xor_assoc]
  · simp [h1, h2]
    rw [Nat.xor_assoc, Nat.xor_assoc, Nat.xor_comm (b / 2)]
  · simp [h1, h2]
    rw [Nat.xor_assoc, Nat.xor_comm polyN, Nat.xor_assoc, Nat.xor_self, Nat.xor_zero]
theorem sN_xor (n : Nat) : ∀ a b, sN n (a ^^^ b) = sN n a ^^^ sN n b := by
  induction n with
  | zero => intro a b; rfl
  | succ n ih => intro a b; show sN n (s0 (a ^^^ b)) = sN n (s0 a) ^^^ sN n (s0 b); rw [s0_xor, ih]
theorem s0_two (x : Nat) : s0 (2 * x) = x := by
  unfold s0
  rw [show 2 * x % 2 = 0 by omega, show 2 * x / 2 = x by omega]; simp
theorem sN_shift (n : Nat) : ∀ x, sN n (2 ^ n * x) = x := by
  induction n with
  | zero => intro x; simp [sN]
  | succ n ih => intro x; show sN n (s0 (2 ^ (n + 1) * x)) = x; rw [Nat.pow_succ, Nat.mul_comm (2 ^ n) 2, Nat.mul_assoc, s0_two, ih]
theorem s0_lt (x : Nat) (h : x < 2 ^ 32) : s0 x < 2 ^ 32 := by
  unfold s0
  refine Nat.xor_lt_two_pow (by omega) ?_
  split
  · exact polyN_lt
  · decide
theorem sN_lt (n : Nat) : ∀ x, x < 2 ^ 32 → sN n x < 2 ^ 32 := by
  induction n with
  | zero => intro x h; exact h
  | succ n ih => intro x h; exact ih _ (s0_lt x h)
theorem s0_zero : s0 0 = 0 := by decide
theorem s0_eq_zero (x : Nat) (h : x < 2 ^ 32) (h0 : s0 x = 0) : x = 0 := by
  unfold s0 at h0
  by_cases h1 : x % 2 = 1
  · rw [if_pos h1] at h0
    have h2 : x / 2 = polyN := by
      have := congrArg (· ^^^ polyN) h0
      simpa [Nat.xor_assoc] using this
    have := polyN_ge
    omega
  · rw [if_neg h1] at h0
    simp at h0; omega
theorem sN_eq_zero (n : Nat) : ∀ x, x < 2 ^ 32 → sN n x = 0 → x = 0 := by
  induction n with
  | zero => intro x _ h; exact h
  | succ n ih => intro x h h0; exact s0_eq_zero x h (ih _ (s0_lt x h) h0)
theorem sN_inj (n a b : Nat) (ha : a < 2 ^ 32) (hb : b < 2 ^ 32) (h : sN n a = sN n b) : a = b := by
  have h1 : sN n (a ^^^ b) = 0 := by rw [sN_xor, h, Nat.xor_self]
  have h2 := sN_eq_zero n _ (Nat.xor_lt_two_pow ha hb) h1
  have := congrArg (· ^^^ b) h2
  simpa [Nat.xor_assoc] using this

/-- a text as one number, its first byte the lowest -/
def numN : List UInt8 → Nat
  | [] => 0
  | b :: l => b.toNat + 256 * numN l
theorem numN_lt : ∀ l : List UInt8, numN l < 2 ^ (8 * l.length)
  | [] => by simp [numN]
  | b :: l => by
    have h := numN_lt l
    have hb : b.toNat < 256 := b.toNat_lt
    rw [List.length_cons, show 8 * (l.length + 1) = 8 + 8 * l.length by omega, Nat.pow_add, show 2 ^ 8 = 256 from rfl]
    simp only [numN]; omega
theorem add_xor (a b n : Nat) (h : a < 2 ^ n) : a + 2 ^ n * b = a ^^^ 2 ^ n * b := by
  have h1 := Nat.shiftLeft_add_eq_or_of_lt h b
  rw [Nat.shiftLeft_eq, Nat.mul_comm] at h1
  rw [Nat.add_comm, h1]
  apply Nat.eq_of_testBit_eq; intro i
  rw [Nat.testBit_or, Nat.testBit_xor]
  by_cases hi : i < n
  · have h2 : (2 ^ n * b).testBit i = false := by rw [Nat.testBit_two_pow_mul]; simp; omega
    rw [h2]; simp
  · have h2 : a.testBit i = false := Nat.testBit_lt_two_pow (Nat.lt_of_lt_of_le h (Nat.pow_le_pow_right (by decide) (by omega)))
    rw [h2]; simp
theorem numN_append : ∀ a b : List UInt8, numN (a ++ b) = numN a + 2 ^ (8 * a.length) * numN b
  | [], b => by simp [numN]
  | c :: a, b => by
    have h := numN_append a b
    rw [List.length_cons, show 8 * (a.length + 1) = 8 + 8 * a.length by omega, Nat.pow_add, show 2 ^ 8 = 256 from rfl, Nat.mul_assoc]
    simp only [List.cons_append, numN, h]; omega
theorem numN_inj : ∀ a b : List UInt8, a.length = b.length → numN a = numN b → a = b
  | [], [], _, _ => rfl
  | c :: a, d :: b, hl, h => by
    have hc : c.toNat < 256 := c.toNat_lt
    have hd : d.toNat < 256 := d.toNat_lt
    simp only [numN] at h
    have h1 : c.toNat = d.toNat := by omega
    have h2 : numN a = numN b := by omega
    rw [UInt8.toNat_inj.1 h1, numN_inj a b (by simpa using hl) h2]

/-- the state behind a text -/
def more (st : Nat) (l : List UInt8) : Nat := sN (8 * l.length) (st ^^^ numN l)
theorem more_lt (st : Nat) (l : List UInt8) (h : st < 2 ^ 32) : more st l < 2 ^ 32 := by
  induction l generalizing st with
  | nil => simpa [more, sN, numN] using h
  | cons b l ih =>
    have hb : b.toNat < 256 := b.toNat_lt
    have e : more st (b :: l) = more (sN 8 (st ^^^ b.toNat)) l := by
      unfold more
      rw [List.length_cons, show 8 * (l.length + 1) = 8 + 8 * l.length by omega, sN_add]
      congr 1
      simp only [numN]
      rw [show b.toNat + 256 * numN l = b.toNat ^^^ 2 ^ 8 * numN l from add_xor b.toNat (numN l) 8 hb, ← Nat.xor_assoc, sN_xor, sN_shift]
    rw [e]
    exact ih _ (sN_lt _ _ (Nat.xor_lt_two_pow h (by omega)))
theorem more_cons (st : Nat) (b : UInt8) (l : List UInt8) : more st (b :: l) = more (sN 8 (st ^^^ b.toNat)) l := by
  have hb : b.toNat < 256 := b.toNat_lt
  unfold more
  rw [List.length_cons, show 8 * (l.length + 1) = 8 + 8 * l.length by omega, sN_add]
  congr 1
  simp only [numN]
  rw [show b.toNat + 256 * numN l = b.toNat ^^^ 2 ^ 8 * numN l from add_xor b.toNat (numN l) 8 hb, ← Nat.xor_assoc, sN_xor, sN_shift]
theorem more_nil (st : Nat) : more st [] = st := by simp [more, sN, numN]
theorem more_append (st : Nat) (a b : List UInt8) : more st (a ++ b) = more (more st a) b := by
  unfold more
  rw [List.length_append, show 8 * (a.length + b.length) = 8 * a.length + 8 * b.length by omega, sN_add, numN_append, add_xor _ _ _ (numN_lt a), ← Nat.xor_assoc, sN_xor, sN_shift]
theorem more_snoc (st : Nat) (a : List UInt8) (b : UInt8) : more st (a ++ [b]) = sN 8 (more st a ^^^ b.toNat) := by
  rw [more_append, more_cons, more_nil]

/-- all bits of 32 turned -/
def ones32 : Nat := 4294967295
theorem compl_xor (x : Nat) (h : x < 2 ^ 32) : ones32 - x = x ^^^ ones32 := by
  apply Nat.eq_of_testBit_eq; intro i
  have h1 : ones32 - x = 2 ^ 32 - (x + 1) := by unfold ones32; omega
  rw [h1, Nat.testBit_two_pow_sub_succ h, Nat.testBit_xor, show ones32 = 2 ^ 32 - 1 from rfl, Nat.testBit_two_pow_sub_one]
  by_cases hi : i < 32
  · simp [hi]
  · have : x.testBit i = false := Nat.testBit_lt_two_pow (Nat.lt_of_lt_of_le h (Nat.pow_le_pow_right (by decide) (by omega)))
    simp [hi, this]
def sumN (l : List UInt8) : Nat := more ones32 l ^^^ ones32
/-- four bytes of a number -/
def tail4 (n : Nat) : List UInt8 := [UInt8.ofNat (n % 256), UInt8.ofNat (n / 256 % 256), UInt8.ofNat (n / 65536 % 256), UInt8.ofNat (n / 16777216 % 256)]
theorem numN_tail4 (n : Nat) (h : n < 2 ^ 32) : numN (tail4 n) = n := by
  simp only [tail4, numN, UInt8.toNat_ofNat']
  omega
def sealN (l : List UInt8) : List UInt8 := l ++ tail4 (sumN l)
theorem sumN_lt (l : List UInt8) : sumN l < 2 ^ 32 := Nat.xor_lt_two_pow (more_lt _ _ (by decide)) (by decide)
/-- what every sealed text comes to -/
def good : Nat := sN 32 ones32
theorem more_four (st : Nat) (t : List UInt8) (ht : t.length = 4) : more st t = sN 32 (st ^^^ numN t) := by unfold more; rw [ht]
theorem more_seal (l : List UInt8) : more ones32 (sealN l) = good := by
  unfold sealN
  rw [more_append, more_four _ _ rfl, numN_tail4 _ (sumN_lt l)]
  unfold sumN good
  rw [← Nat.xor_assoc, Nat.xor_self, Nat.zero_xor]
theorem whole_iff (l : List UInt8) (h : 4 ≤ l.length) : sealN (l.take (l.length - 4)) = l ↔ more ones32 l = good := by
  constructor
  · intro h2; rw [← h2]; exact more_seal _
  · intro h2
    have e : l = l.take (l.length - 4) ++ l.drop (l.length - 4) := (List.take_append_drop _ _).symm
    have hd : (l.drop (l.length - 4)).length = 4 := by rw [List.length_drop]; omega
    have h3 : more ones32 l = sN 32 (more ones32 (l.take (l.length - 4)) ^^^ numN (l.drop (l.length - 4))) := by
      conv => lhs; rw [e]
      rw [more_append, more_four _ _ hd]
    rw [h3] at h2
    have hn : numN (l.drop (l.length - 4)) < 2 ^ 32 := by have := numN_lt (l.drop (l.length - 4)); rwa [hd] at this
    have hm := more_lt ones32 (l.take (l.length - 4)) (by decide)
    have h4 := sN_inj 32 _ _ (Nat.xor_lt_two_pow hm hn) (by decide) h2
    have h5 : numN (l.drop (l.length - 4)) = sumN (l.take (l.length - 4)) := by
      have h6 := congrArg (more ones32 (l.take (l.length - 4)) ^^^ ·) h4
      simp only [← Nat.xor_assoc, Nat.xor_self, Nat.zero_xor] at h6
      exact h6
    unfold sealN
    conv => rhs; rw [e]
    congr 1
    exact numN_inj _ _ (by rw [hd]; rfl) (by rw [numN_tail4 _ (sumN_lt _), h5])

/-! three texts put together -/
theorem more_three (a b c l : List UInt8) (st : Nat) (hb : a.length = b.length) (hc : a.length = c.length) (hl : a.length = l.length) (h : numN l = numN a ^^^ numN b ^^^ numN c) :
    more st l = more st a ^^^ more st b ^^^ more st c := by
  unfold more
  rw [← hb, ← hc, ← hl, ← sN_xor, ← sN_xor, h]
  congr 1
  have e : ∀ x y z : Nat, st ^^^ x ^^^ (st ^^^ y) ^^^ (st ^^^ z) = st ^^^ (x ^^^ y ^^^ z) := by
    intro x y z
    apply Nat.eq_of_testBit_eq; intro i
    simp only [Nat.testBit_xor]
    cases st.testBit i <;> cases x.testBit i <;> cases y.testBit i <;> cases z.testBit i <;> rfl
  exact (e _ _ _).symm

/-! bits that lie next to one another -/
theorem more_burst (l m : List UInt8) (st at_ bits : Nat) (hl : l.length = m.length) (hb : bits < 2 ^ 32) (hb0 : bits ≠ 0) (ha : at_ ≤ 8 * l.length) (h : numN m = numN l ^^^ 2 ^ at_ * bits) :
    more st l ≠ more st m := by
  intro he
  have h1 : more st m = more st l ^^^ sN (8 * l.length) (2 ^ at_ * bits) := by
    unfold more; rw [← hl, h, ← Nat.xor_assoc, sN_xor]
  rw [h1] at he
  have h2 : sN (8 * l.length) (2 ^ at_ * bits) = 0 := by
    have := congrArg (more st l ^^^ ·) he
    simpa [← Nat.xor_assoc] using this.symm
  rw [show 8 * l.length = at_ + (8 * l.length - at_) by omega, sN_add, sN_shift] at h2
  exact hb0 (sN_eq_zero _ _ hb h2)

/-! half a byte at a time -/
def half (i : Nat) : Nat := sN 4 i
theorem sN_half (x : Nat) : sN 4 x = x / 16 ^^^ half (x % 16) := by
  have e : x = x % 16 ^^^ 2 ^ 4 * (x / 16) := by
    rw [← add_xor _ _ _ (by omega : x % 16 < 2 ^ 4)]; omega
  conv => lhs; rw [e]
  rw [sN_xor, sN_shift, Nat.xor_comm]; rfl

end Go.Proofs.Ytbpkaegkcknemaa
