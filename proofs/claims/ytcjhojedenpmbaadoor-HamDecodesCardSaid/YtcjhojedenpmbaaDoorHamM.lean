/- Plain arithmetic for layer 3: the places of bits, put together, and how many bits there are. No Go in sight. -/
import Derived.Test.YtcjhojedenpmbaaDoorCrcM
namespace Go.Proofs.YtcjhojedenpmbaaDoor

def pl : List Nat := [3, 5, 6, 7, 9, 10, 11, 12, 13, 14, 15, 17, 18, 19, 20, 21, 22, 23, 24, 25, 26, 27, 28, 29, 30, 31, 33, 34, 35, 36, 37, 38, 39, 40, 41, 42, 43, 44, 45, 46, 47, 48, 49, 50, 51, 52, 53, 54, 55, 56, 57, 58, 59, 60, 61, 62, 63, 65, 66, 67, 68, 69, 70, 71, 1, 2, 4, 8, 16, 32, 64, 0]
def place (i : Nat) : Nat := pl.getD i 0
theorem place_le (i : Nat) : place i ≤ 71 := by
  by_cases h : i < 72
  · have h2 : ∀ i, i < 72 → place i ≤ 71 := by decide +kernel
    exact h2 i h
  · unfold place
    have h3 : pl[i]? = none := List.getElem?_eq_none (by show pl.length ≤ i; rw [show pl.length = 72 from rfl]; omega)
    rw [List.getD_eq_getElem?_getD, h3]; decide
theorem place_inj {i j : Nat} (hi : i < 72) (hj : j < 72) (h : place i = place j) : i = j := by
  have h2 : ∀ i, i < 72 → ∀ j, j < 72 → place i = place j → i = j := by decide +kernel
  exact h2 i hi j hj h
/-- where a place stands among the 72 -/
def idx (p : Nat) : Nat := pl.idxOf p
theorem idx_place {k : Nat} (hk : k < 72) : idx (place k) = k := by
  have h2 : ∀ k, k < 72 → idx (place k) = k := by decide +kernel
  exact h2 k hk
theorem place_idx {p : Nat} (hp : p ≤ 71) : idx p < 72 ∧ place (idx p) = p := by
  have h2 : ∀ p, p < 72 → idx p < 72 ∧ place (idx p) = p := by decide +kernel
  exact h2 p (by omega)

/-- what is left of the places of the bits below n that are 1 -/
def left (M : Nat) : Nat → Nat
  | 0 => 0
  | n + 1 => left M n ^^^ (if M.testBit n then place n else 0)
/-- how many bits below n are 1 -/
def cnt (M : Nat) : Nat → Nat
  | 0 => 0
  | n + 1 => cnt M n + (if M.testBit n then 1 else 0)
theorem left_lt (M : Nat) : ∀ n, left M n < 128
  | 0 => by show (0 : Nat) < 128; decide
  | n + 1 => by
    have h := left_lt M n
    have h2 := place_le n
    unfold left
    refine Nat.xor_lt_two_pow (n := 7) h ?_
    split <;> omega
theorem cnt_le (M : Nat) : ∀ n, cnt M n ≤ n
  | 0 => Nat.le_refl _
  | n + 1 => by
    have h := cnt_le M n
    unfold cnt; split <;> omega
theorem left_xor (A B : Nat) : ∀ n, left (A ^^^ B) n = left A n ^^^ left B n
  | 0 => by show (0 : Nat) = 0 ^^^ 0; rfl
  | n + 1 => by
    have ih := left_xor A B n
    simp only [left, Nat.testBit_xor, ih]
    cases A.testBit n <;> cases B.testBit n <;> simp
    · ac_rfl
    · ac_rfl
    · rw [show left A n ^^^ place n ^^^ (left B n ^^^ place n) = (left A n ^^^ left B n) ^^^ (place n ^^^ place n) by ac_rfl, Nat.xor_self, Nat.xor_zero]
theorem cnt_xor (A B : Nat) : ∀ n, cnt (A ^^^ B) n % 2 = (cnt A n + cnt B n) % 2
  | 0 => rfl
  | n + 1 => by
    have ih := cnt_xor A B n
    simp only [cnt, Nat.testBit_xor]
    cases A.testBit n <;> cases B.testBit n <;> simp <;> omega
theorem cnt_congr {A B : Nat} : ∀ n, (∀ i, i < n → A.testBit i = B.testBit i) → cnt A n = cnt B n
  | 0, _ => rfl
  | n + 1, h => by
    simp only [cnt]
    rw [cnt_congr n (fun i hi => h i (by omega)), h n (by omega)]
theorem pow_testBit (k i : Nat) : (2 ^ k).testBit i = decide (k = i) := Nat.testBit_two_pow ..
theorem cnt_flip {M k : Nat} (hb : M.testBit k = true) : ∀ n, k < n → cnt M n = cnt (M ^^^ 2 ^ k) n + 1
  | 0, h => by omega
  | n + 1, h => by
    simp only [cnt, Nat.testBit_xor, pow_testBit]
    by_cases e : k = n
    · subst e
      rw [cnt_congr (A := M ^^^ 2 ^ k) (B := M) k (fun i hi => by rw [Nat.testBit_xor, pow_testBit, decide_eq_false (by omega)]; simp), hb]
      simp
    · rw [cnt_flip hb n (by omega), decide_eq_false e]
      simp; omega
theorem left_more (M n : Nat) : ∀ d, (∀ i, n ≤ i → i < n + d → M.testBit i = false) → left M (n + d) = left M n
  | 0, _ => rfl
  | d + 1, h => by
    show left M (n + d) ^^^ (if M.testBit (n + d) then place (n + d) else 0) = _
    rw [left_more M n d (fun i h1 h2 => h i h1 (by omega)), h (n + d) (by omega) (by omega)]; simp
theorem cnt_more (M n : Nat) : ∀ d, (∀ i, n ≤ i → i < n + d → M.testBit i = false) → cnt M (n + d) = cnt M n
  | 0, _ => rfl
  | d + 1, h => by
    show cnt M (n + d) + (if M.testBit (n + d) then 1 else 0) = _
    rw [cnt_more M n d (fun i h1 h2 => h i h1 (by omega)), h (n + d) (by omega) (by omega)]; simp
theorem high_nil {M n i : Nat} (h : M < 2 ^ n) (hi : n ≤ i) : M.testBit i = false :=
  Nat.testBit_lt_two_pow (Nat.lt_of_lt_of_le h (Nat.pow_le_pow_right (by decide) hi))
theorem left_64 {M : Nat} (h : M < 2 ^ 64) : left M 72 = left M 64 := left_more M 64 8 fun _ h1 _ => high_nil h h1
theorem cnt_64 {M : Nat} (h : M < 2 ^ 64) : cnt M 72 = cnt M 64 := cnt_more M 64 8 fun _ h1 _ => high_nil h h1
theorem left_pow {k : Nat} (hk : k < 72) : left (2 ^ k) 72 = place k := by
  have h2 : ∀ k, k < 72 → left (2 ^ k) 72 = place k := by decide +kernel
  exact h2 k hk
theorem cnt_pow {k : Nat} (hk : k < 72) : cnt (2 ^ k) 72 = 1 := by
  have h2 : ∀ k, k < 72 → cnt (2 ^ k) 72 = 1 := by decide +kernel
  exact h2 k hk
theorem check_left {c : Nat} (hc : c < 256) : left (2 ^ 64 * c) 72 = c % 128 := by
  have h2 : ∀ c, c < 256 → left (2 ^ 64 * c) 72 = c % 128 := by decide +kernel
  exact h2 c hc
theorem check_cnt {p q : Nat} (hp : p < 128) (hq : q < 2) : cnt (2 ^ 64 * (p + 128 * q)) 72 = cnt p 7 + q := by
  have h2 : ∀ p, p < 128 → ∀ q, q < 2 → cnt (2 ^ 64 * (p + 128 * q)) 72 = cnt p 7 + q := by decide +kernel
  exact h2 p hp q hq

/-- the check -/
def encN (M : Nat) : Nat := left M 64 + 128 * ((cnt M 64 + cnt (left M 64) 7) % 2)
theorem encN_lt (M : Nat) : encN M < 256 := by
  have := left_lt M 64
  unfold encN; omega
/-- eight bytes and their check, as one number -/
def word (M : Nat) : Nat := M ^^^ 2 ^ 64 * encN M
theorem word_left {M : Nat} (h : M < 2 ^ 64) : left (word M) 72 = 0 := by
  have h2 := left_lt M 64
  unfold word
  rw [left_xor, left_64 h, check_left (encN_lt M), show encN M % 128 = left M 64 by unfold encN; omega, Nat.xor_self]
theorem word_even {M : Nat} (h : M < 2 ^ 64) : cnt (word M) 72 % 2 = 0 := by
  unfold word
  rw [cnt_xor, cnt_64 h]
  unfold encN
  rw [check_cnt (left_lt M 64) (Nat.mod_lt _ (by decide))]
  omega
theorem word_lt {M : Nat} (h : M < 2 ^ 64) : word M < 2 ^ 72 := by
  have := encN_lt M
  unfold word
  exact Nat.xor_lt_two_pow (Nat.lt_trans h (by decide)) (by omega)
theorem word_inj {A B : Nat} (hA : A < 2 ^ 64) (hB : B < 2 ^ 64) (h : word A = word B) : A = B := by
  have h1 := congrArg (· % 2 ^ 64) h
  unfold word at h1
  rw [← add_xor _ _ _ hA, ← add_xor _ _ _ hB] at h1
  simp only [Nat.add_mul_mod_self_left, Nat.mod_eq_of_lt hA, Nat.mod_eq_of_lt hB] at h1
  exact h1
theorem one_left {M k : Nat} (h : M < 2 ^ 64) (hk : k < 72) : left (word M ^^^ 2 ^ k) 72 = place k := by
  rw [left_xor, word_left h, left_pow hk, Nat.zero_xor]
theorem one_odd {M k : Nat} (h : M < 2 ^ 64) (hk : k < 72) : cnt (word M ^^^ 2 ^ k) 72 % 2 = 1 := by
  have := word_even h
  rw [cnt_xor, cnt_pow hk]; omega
theorem xor_ne {a b : Nat} (h : a ≠ b) : a ^^^ b ≠ 0 := by
  intro h0
  apply h
  have := congrArg (· ^^^ b) h0
  simpa [Nat.xor_assoc] using this
theorem two_left {M i j : Nat} (h : M < 2 ^ 64) (hi : i < 72) (hj : j < 72) (hij : i ≠ j) : left (word M ^^^ 2 ^ i ^^^ 2 ^ j) 72 ≠ 0 := by
  rw [left_xor, one_left h hi, left_pow hj]
  exact xor_ne fun e => hij (place_inj hi hj e)
theorem two_even {M i j : Nat} (h : M < 2 ^ 64) (hi : i < 72) (hj : j < 72) : cnt (word M ^^^ 2 ^ i ^^^ 2 ^ j) 72 % 2 = 0 := by
  have := one_odd h hi
  rw [cnt_xor, cnt_pow hj]; omega
theorem some_bit {D n : Nat} (h : D < 2 ^ n) (h0 : D ≠ 0) : ∃ i, i < n ∧ D.testBit i = true := by
  obtain ⟨i, hi⟩ := Nat.exists_testBit_of_ne_zero h0
  refine ⟨i, ?_, hi⟩
  rcases Nat.lt_or_ge i n with h1 | h1
  · exact h1
  · rw [high_nil h h1] at hi; cases hi
theorem flip_lt {D n i : Nat} (h : D < 2 ^ n) (hi : i < n) : D ^^^ 2 ^ i < 2 ^ n := Nat.xor_lt_two_pow h (Nat.pow_lt_pow_right (by decide) hi)
theorem cnt_zero : ∀ n, cnt 0 n = 0
  | 0 => rfl
  | n + 1 => by simp [cnt, cnt_zero n]
theorem apart {D : Nat} (h : D < 2 ^ 72) (h0 : D ≠ 0) (hl : left D 72 = 0) (he : cnt D 72 % 2 = 0) : 4 ≤ cnt D 72 := by
  obtain ⟨i, hi, bi⟩ := some_bit h h0
  have c1 := cnt_flip bi 72 hi
  have l1 := flip_lt h hi
  have n1 : D ^^^ 2 ^ i ≠ 0 := by
    intro e; rw [e, cnt_zero] at c1; omega
  obtain ⟨j, hj, bj⟩ := some_bit l1 n1
  have c2 := cnt_flip bj 72 hj
  have l2 := flip_lt l1 hj
  have hij : i ≠ j := by
    intro e; subst e
    rw [Nat.testBit_xor, bi, pow_testBit] at bj; simp at bj
  have n2 : D ^^^ 2 ^ i ^^^ 2 ^ j ≠ 0 := by
    intro e
    have h3 := left_xor (D ^^^ 2 ^ i) (2 ^ j) 72
    rw [left_xor D, hl, left_pow hi, left_pow hj, e, Nat.zero_xor, show left 0 72 = 0 by decide +kernel] at h3
    exact xor_ne (fun e2 => hij (place_inj hi hj e2)) h3.symm
  obtain ⟨k, hk, bk⟩ := some_bit l2 n2
  have c3 := cnt_flip bk 72 hk
  omega
theorem words_apart {A B : Nat} (hA : A < 2 ^ 64) (hB : B < 2 ^ 64) (h : A ≠ B) : 4 ≤ cnt (word A ^^^ word B) 72 := by
  refine apart (Nat.xor_lt_two_pow (word_lt hA) (word_lt hB)) (xor_ne fun e => h (word_inj hA hB e)) ?_ ?_
  · rw [left_xor, word_left hA, word_left hB]; rfl
  · rw [cnt_xor]; have := word_even hA; have := word_even hB; omega

/-- the numbers of the bits that are 1 -/
def onesL (M : Nat) : Nat → List Nat
  | 0 => []
  | n + 1 => onesL M n ++ (if M.testBit n then [n] else [])
theorem onesL_length (M : Nat) : ∀ n, (onesL M n).length = cnt M n
  | 0 => rfl
  | n + 1 => by simp only [onesL, cnt, List.length_append, onesL_length M n]; split <;> rfl
theorem onesL_lt (M : Nat) : ∀ n i, i ∈ onesL M n → i < n
  | 0, i, h => by simp [onesL] at h
  | n + 1, i, h => by
    simp only [onesL, List.mem_append] at h
    rcases h with h | h
    · have := onesL_lt M n i h; omega
    · split at h <;> simp at h; omega
def leftL (l : List Nat) : Nat := l.foldl (fun a i => a ^^^ place i) 0
theorem leftL_snoc (l : List Nat) (i : Nat) : leftL (l ++ [i]) = leftL l ^^^ place i := by unfold leftL; rw [List.foldl_append]; rfl
theorem leftL_ones (M : Nat) : ∀ n, leftL (onesL M n) = left M n
  | 0 => rfl
  | n + 1 => by
    have ih := leftL_ones M n
    simp only [onesL, left]
    split
    · rw [leftL_snoc, ih]
    · rw [List.append_nil, ih, Nat.xor_zero]
theorem leftL_lt (l : List Nat) : leftL l < 128 := by
  unfold leftL
  suffices h : ∀ (l : List Nat) (a : Nat), a < 128 → l.foldl (fun a i => a ^^^ place i) a < 128 from h l 0 (by decide)
  intro l
  induction l with
  | nil => intro a h; exact h
  | cons i l ih => intro a h; exact ih _ (Nat.xor_lt_two_pow (n := 7) h (by have := place_le i; omega))
theorem ones_check {M : Nat} (h : M < 2 ^ 64) : onesL M 72 = onesL M 64 := by
  have h2 : ∀ d, d ≤ 8 → onesL M (64 + d) = onesL M 64 := by
    intro d
    induction d with
    | zero => intro _; rfl
    | succ d ih => intro hd; show onesL M (64 + d) ++ (if M.testBit (64 + d) then [64 + d] else []) = _; rw [ih (by omega), high_nil h (by omega)]; simp
  exact h2 8 (by omega)

end Go.Proofs.YtcjhojedenpmbaaDoor
