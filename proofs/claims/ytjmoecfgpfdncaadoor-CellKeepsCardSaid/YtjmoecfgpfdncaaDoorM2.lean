/- Texts of one claim, merged: HamM, HamT, Ref1P, TagM, Ref1Z, FrM, OrM, CeM, FrR1, FrR2. -/
import Derived.Test.YtjmoecfgpfdncaaDoorM1
import Derived.Handy
import Derived.Laws.BytesArg

/- Plain arithmetic for layer 3: the places of bits, put together, and how many bits there are. No Go in sight. -/
namespace Go.Proofs.YtjmoecfgpfdncaaDoor

def pl : List Nat := [3, 5, 6, 7, 9, 10, 11, 12, 13, 14, 15, 17, 18, 19, 20, 21, 22, 23, 24, 25, 26, 27, 28, 29, 30, 31, 33, 34, 35, 36, 37, 38, 39, 40, 41, 42, 43, 44, 45, 46, 47, 48, 49, 50, 51, 52, 53, 54, 55, 56, 57, 58, 59, 60, 61, 62, 63, 65, 66, 67, 68, 69, 70, 71, 1, 2, 4, 8, 16, 32, 64, 0]
def place (i : Nat) : Nat := pl.getD i 0
theorem place_le (i : Nat) : place i ≤ 71 := by
  by_cases h : i < 72
  · have h2 : ∀ i, i < 72 → place i ≤ 71 := by decide +kernel
    exact h2 i h
  · unfold place
    have h3 : pl[i]? = none := List.getElem?_eq_none (by show pl.length ≤ i; rw [show pl.length = 72 from rfl]; omega)
    rw [List.getD_eq_getElem?_getD, h3]; decide
theorem place_inj {i j : Nat} (hi : i < 72) (hj : j < 72) (h : place i = place j) : i = j := by
  have h2 : ∀ i, i < 72 → ∀ j, j < 72 → place i = place j → i = j := by decide +kernel
  exact h2 i hi j hj h
/-- where a place stands among the 72 -/
def idx (p : Nat) : Nat := pl.idxOf p
theorem idx_place {k : Nat} (hk : k < 72) : idx (place k) = k := by
  have h2 : ∀ k, k < 72 → idx (place k) = k := by decide +kernel
  exact h2 k hk
theorem place_idx {p : Nat} (hp : p ≤ 71) : idx p < 72 ∧ place (idx p) = p := by
  have h2 : ∀ p, p < 72 → idx p < 72 ∧ place (idx p) = p := by decide +kernel
  exact h2 p (by omega)

/-- what is left of the places of the bits below n that are 1 -/
def left (M : Nat) : Nat → Nat
  | 0 => 0
  | n + 1 => left M n ^^^ (if M.testBit n then place n else 0)
/-- how many bits below n are 1 -/
def cnt (M : Nat) : Nat → Nat
  | 0 => 0
  | n + 1 => cnt M n + (if M.testBit n then 1 else 0)
theorem left_lt (M : Nat) : ∀ n, left M n < 128
  | 0 => by show (0 : Nat) < 128; decide
  | n + 1 => by
    have h := left_lt M n
    have h2 := place_le n
    unfold left
    refine Nat.xor_lt_two_pow (n := 7) h ?_
    split <;> omega
theorem cnt_le (M : Nat) : ∀ n, cnt M n ≤ n
  | 0 => Nat.le_refl _
  | n + 1 => by
    have h := cnt_le M n
    unfold cnt; split <;> omega
theorem left_xor (A B : Nat) : ∀ n, left (A ^^^ B) n = left A n ^^^ left B n
  | 0 => by show (0 : Nat) = 0 ^^^ 0; rfl
  | n + 1 => by
    have ih := left_xor A B n
    simp only [left, Nat.testBit_xor, ih]
    cases A.testBit n <;> cases B.testBit n <;> simp
    · ac_rfl
    · ac_rfl
    · rw [show left A n ^^^ place n ^^^ (left B n ^^^ place n) = (left A n ^^^ left B n) ^^^ (place n ^^^ place n) by ac_rfl, Nat.xor_self, Nat.xor_zero]
theorem cnt_xor (A B : Nat) : ∀ n, cnt (A ^^^ B) n % 2 = (cnt A n + cnt B n) % 2
  | 0 => rfl
  | n + 1 => by
    have ih := cnt_xor A B n
    simp only [cnt, Nat.testBit_xor]
    cases A.testBit n <;> cases B.testBit n <;> simp <;> omega
theorem cnt_congr {A B : Nat} : ∀ n, (∀ i, i < n → A.testBit i = B.testBit i) → cnt A n = cnt B n
  | 0, _ => rfl
  | n + 1, h => by
    simp only [cnt]
    rw [cnt_congr n (fun i hi => h i (by omega)), h n (by omega)]
theorem pow_testBit (k i : Nat) : (2 ^ k).testBit i = decide (k = i) := Nat.testBit_two_pow ..
theorem cnt_flip {M k : Nat} (hb : M.testBit k = true) : ∀ n, k < n → cnt M n = cnt (M ^^^ 2 ^ k) n + 1
  | 0, h => by omega
  | n + 1, h => by
    simp only [cnt, Nat.testBit_xor, pow_testBit]
    by_cases e : k = n
    · subst e
      rw [cnt_congr (A := M ^^^ 2 ^ k) (B := M) k (fun i hi => by rw [Nat.testBit_xor, pow_testBit, decide_eq_false (by omega)]; simp), hb]
      simp
    · rw [cnt_flip hb n (by omega), decide_eq_false e]
      simp; omega
theorem left_more (M n : Nat) : ∀ d, (∀ i, n ≤ i → i < n + d → M.testBit i = false) → left M (n + d) = left M n
  | 0, _ => rfl
  | d + 1, h => by
    show left M (n + d) ^^^ (if M.testBit (n + d) then place (n + d) else 0) = _
    rw [left_more M n d (fun i h1 h2 => h i h1 (by omega)), h (n + d) (by omega) (by omega)]; simp
theorem cnt_more (M n : Nat) : ∀ d, (∀ i, n ≤ i → i < n + d → M.testBit i = false) → cnt M (n + d) = cnt M n
  | 0, _ => rfl
  | d + 1, h => by
    show cnt M (n + d) + (if M.testBit (n + d) then 1 else 0) = _
    rw [cnt_more M n d (fun i h1 h2 => h i h1 (by omega)), h (n + d) (by omega) (by omega)]; simp
theorem high_nil {M n i : Nat} (h : M < 2 ^ n) (hi : n ≤ i) : M.testBit i = false :=
  Nat.testBit_lt_two_pow (Nat.lt_of_lt_of_le h (Nat.pow_le_pow_right (by decide) hi))
theorem left_64 {M : Nat} (h : M < 2 ^ 64) : left M 72 = left M 64 := left_more M 64 8 fun _ h1 _ => high_nil h h1
theorem cnt_64 {M : Nat} (h : M < 2 ^ 64) : cnt M 72 = cnt M 64 := cnt_more M 64 8 fun _ h1 _ => high_nil h h1
theorem left_pow {k : Nat} (hk : k < 72) : left (2 ^ k) 72 = place k := by
  have h2 : ∀ k, k < 72 → left (2 ^ k) 72 = place k := by decide +kernel
  exact h2 k hk
theorem cnt_pow {k : Nat} (hk : k < 72) : cnt (2 ^ k) 72 = 1 := by
  have h2 : ∀ k, k < 72 → cnt (2 ^ k) 72 = 1 := by decide +kernel
  exact h2 k hk
theorem check_left {c : Nat} (hc : c < 256) : left (2 ^ 64 * c) 72 = c % 128 := by
  have h2 : ∀ c, c < 256 → left (2 ^ 64 * c) 72 = c % 128 := by decide +kernel
  exact h2 c hc
theorem check_cnt {p q : Nat} (hp : p < 128) (hq : q < 2) : cnt (2 ^ 64 * (p + 128 * q)) 72 = cnt p 7 + q := by
  have h2 : ∀ p, p < 128 → ∀ q, q < 2 → cnt (2 ^ 64 * (p + 128 * q)) 72 = cnt p 7 + q := by decide +kernel
  exact h2 p hp q hq

/-- the check -/
def encN (M : Nat) : Nat := left M 64 + 128 * ((cnt M 64 + cnt (left M 64) 7) % 2)
theorem encN_lt (M : Nat) : encN M < 256 := by
  have := left_lt M 64
  unfold encN; omega
/-- eight bytes and their check, as one number -/
def word (M : Nat) : Nat := M ^^^ 2 ^ 64 * encN M
theorem word_left {M : Nat} (h : M < 2 ^ 64) : left (word M) 72 = 0 := by
  have h2 := left_lt M 64
  unfold word
  rw [left_xor, left_64 h, check_left (encN_lt M), show encN M % 128 = left M 64 by unfold encN; omega, Nat.xor_self]
theorem word_even {M : Nat} (h : M < 2 ^ 64) : cnt (word M) 72 % 2 = 0 := by
  unfold word
  rw [cnt_xor, cnt_64 h]
  unfold encN
  rw [check_cnt (left_lt M 64) (Nat.mod_lt _ (by decide))]
  omega
theorem word_lt {M : Nat} (h : M < 2 ^ 64) : word M < 2 ^ 72 := by
  have := encN_lt M
  unfold word
  exact Nat.xor_lt_two_pow (Nat.lt_trans h (by decide)) (by omega)
theorem word_inj {A B : Nat} (hA : A < 2 ^ 64) (hB : B < 2 ^ 64) (h : word A = word B) : A = B := by
  have h1 := congrArg (· % 2 ^ 64) h
  unfold word at h1
  rw [← add_xor _ _ _ hA, ← add_xor _ _ _ hB] at h1
  simp only [Nat.add_mul_mod_self_left, Nat.mod_eq_of_lt hA, Nat.mod_eq_of_lt hB] at h1
  exact h1
theorem one_left {M k : Nat} (h : M < 2 ^ 64) (hk : k < 72) : left (word M ^^^ 2 ^ k) 72 = place k := by
  rw [left_xor, word_left h, left_pow hk, Nat.zero_xor]
theorem one_odd {M k : Nat} (h : M < 2 ^ 64) (hk : k < 72) : cnt (word M ^^^ 2 ^ k) 72 % 2 = 1 := by
  have := word_even h
  rw [cnt_xor, cnt_pow hk]; omega
theorem xor_ne {a b : Nat} (h : a ≠ b) : a ^^^ b ≠ 0 := by
  intro h0
  apply h
  have := congrArg (· ^^^ b) h0
  simpa [Nat.xor_assoc] using this
theorem two_left {M i j : Nat} (h : M < 2 ^ 64) (hi : i < 72) (hj : j < 72) (hij : i ≠ j) : left (word M ^^^ 2 ^ i ^^^ 2 ^ j) 72 ≠ 0 := by
  rw [left_xor, one_left h hi, left_pow hj]
  exact xor_ne fun e => hij (place_inj hi hj e)
theorem two_even {M i j : Nat} (h : M < 2 ^ 64) (hi : i < 72) (hj : j < 72) : cnt (word M ^^^ 2 ^ i ^^^ 2 ^ j) 72 % 2 = 0 := by
  have := one_odd h hi
  rw [cnt_xor, cnt_pow hj]; omega
theorem some_bit {D n : Nat} (h : D < 2 ^ n) (h0 : D ≠ 0) : ∃ i, i < n ∧ D.testBit i = true := by
  obtain ⟨i, hi⟩ := Nat.exists_testBit_of_ne_zero h0
  refine ⟨i, ?_, hi⟩
  rcases Nat.lt_or_ge i n with h1 | h1
  · exact h1
  · rw [high_nil h h1] at hi; cases hi
theorem flip_lt {D n i : Nat} (h : D < 2 ^ n) (hi : i < n) : D ^^^ 2 ^ i < 2 ^ n := Nat.xor_lt_two_pow h (Nat.pow_lt_pow_right (by decide) hi)
theorem cnt_zero : ∀ n, cnt 0 n = 0
  | 0 => rfl
  | n + 1 => by simp [cnt, cnt_zero n]
theorem apart {D : Nat} (h : D < 2 ^ 72) (h0 : D ≠ 0) (hl : left D 72 = 0) (he : cnt D 72 % 2 = 0) : 4 ≤ cnt D 72 := by
  obtain ⟨i, hi, bi⟩ := some_bit h h0
  have c1 := cnt_flip bi 72 hi
  have l1 := flip_lt h hi
  have n1 : D ^^^ 2 ^ i ≠ 0 := by
    intro e; rw [e, cnt_zero] at c1; omega
  obtain ⟨j, hj, bj⟩ := some_bit l1 n1
  have c2 := cnt_flip bj 72 hj
  have l2 := flip_lt l1 hj
  have hij : i ≠ j := by
    intro e; subst e
    rw [Nat.testBit_xor, bi, pow_testBit] at bj; simp at bj
  have n2 : D ^^^ 2 ^ i ^^^ 2 ^ j ≠ 0 := by
    intro e
    have h3 := left_xor (D ^^^ 2 ^ i) (2 ^ j) 72
    rw [left_xor D, hl, left_pow hi, left_pow hj, e, Nat.zero_xor, show left 0 72 = 0 by decide +kernel] at h3
    exact xor_ne (fun e2 => hij (place_inj hi hj e2)) h3.symm
  obtain ⟨k, hk, bk⟩ := some_bit l2 n2
  have c3 := cnt_flip bk 72 hk
  omega
theorem words_apart {A B : Nat} (hA : A < 2 ^ 64) (hB : B < 2 ^ 64) (h : A ≠ B) : 4 ≤ cnt (word A ^^^ word B) 72 := by
  refine apart (Nat.xor_lt_two_pow (word_lt hA) (word_lt hB)) (xor_ne fun e => h (word_inj hA hB e)) ?_ ?_
  · rw [left_xor, word_left hA, word_left hB]; rfl
  · rw [cnt_xor]; have := word_even hA; have := word_even hB; omega

/-- the numbers of the bits that are 1 -/
def onesL (M : Nat) : Nat → List Nat
  | 0 => []
  | n + 1 => onesL M n ++ (if M.testBit n then [n] else [])
theorem onesL_length (M : Nat) : ∀ n, (onesL M n).length = cnt M n
  | 0 => rfl
  | n + 1 => by simp only [onesL, cnt, List.length_append, onesL_length M n]; split <;> rfl
theorem onesL_lt (M : Nat) : ∀ n i, i ∈ onesL M n → i < n
  | 0, i, h => by simp [onesL] at h
  | n + 1, i, h => by
    simp only [onesL, List.mem_append] at h
    rcases h with h | h
    · have := onesL_lt M n i h; omega
    · split at h <;> simp at h; omega
def leftL (l : List Nat) : Nat := l.foldl (fun a i => a ^^^ place i) 0
theorem leftL_snoc (l : List Nat) (i : Nat) : leftL (l ++ [i]) = leftL l ^^^ place i := by unfold leftL; rw [List.foldl_append]; rfl
theorem leftL_ones (M : Nat) : ∀ n, leftL (onesL M n) = left M n
  | 0 => rfl
  | n + 1 => by
    have ih := leftL_ones M n
    simp only [onesL, left]
    split
    · rw [leftL_snoc, ih]
    · rw [List.append_nil, ih, Nat.xor_zero]
theorem leftL_lt (l : List Nat) : leftL l < 128 := by
  unfold leftL
  suffices h : ∀ (l : List Nat) (a : Nat), a < 128 → l.foldl (fun a i => a ^^^ place i) a < 128 from h l 0 (by decide)
  intro l
  induction l with
  | nil => intro a h; exact h
  | cons i l ih => intro a h; exact ih _ (Nat.xor_lt_two_pow (n := 7) h (by have := place_le i; omega))
theorem ones_check {M : Nat} (h : M < 2 ^ 64) : onesL M 72 = onesL M 64 := by
  have h2 : ∀ d, d ≤ 8 → onesL M (64 + d) = onesL M 64 := by
    intro d
    induction d with
    | zero => intro _; rfl
    | succ d ih => intro hd; show onesL M (64 + d) ++ (if M.testBit (64 + d) then [64 + d] else []) = _; rw [ih (by omega), high_nil h (by omega)]; simp
  exact h2 8 (by omega)

end Go.Proofs.YtjmoecfgpfdncaaDoor

/- Layer 3 of texts: what the document asks of Encode and Decode, and what follows from it. -/
namespace Go.Proofs.YtjmoecfgpfdncaaDoor
open Go.RowKit

/-- eight bytes and their check -/
def encS (s : ByteArray) : ByteArray := ⟨(bs s ++ [UInt8.ofNat (encN (numN (bs s)))]).toArray⟩
theorem encS_size (s : ByteArray) : (encS s).size = s.size + 1 := by
  show (bs s ++ [UInt8.ofNat (encN (numN (bs s)))]).toArray.size = _
  simp [bs]
theorem num_lt (s : ByteArray) (h : s.size = 8) : numN (bs s) < 2 ^ 64 := by
  have := numN_lt (bs s)
  rwa [bs_length, h] at this
theorem num_lt9 (s : ByteArray) (h : s.size = 9) : numN (bs s) < 2 ^ 72 := by
  have := numN_lt (bs s)
  rwa [bs_length, h] at this
theorem num_enc (s : ByteArray) (h : s.size = 8) : numN (bs (encS s)) = word (numN (bs s)) := by
  show numN (bs s ++ [UInt8.ofNat (encN (numN (bs s)))]) = _
  have hc := encN_lt (numN (bs s))
  have hn : numN [UInt8.ofNat (encN (numN (bs s)))] = encN (numN (bs s)) := by
    show (UInt8.ofNat (encN (numN (bs s)))).toNat + 256 * 0 = _
    simp; omega
  rw [numN_append, bs_length, h, hn]
  exact add_xor _ _ _ (num_lt s h)
theorem enc_cat (s : ByteArray) (c : Int) (h : c = (encN (numN (bs s)) : Nat)) : s ++ strOfNums [c] = encS s := by
  subst h
  rw [strOfNums_eq [((encN (numN (bs s)) : Nat) : Int)] [UInt8.ofNat (encN (numN (bs s)))] (by simp)]
  apply bytes_ext
  rw [ByteArray.data_append, Array.toList_append]
  rfl
theorem take_ext (t : ByteArray) (n : Nat) : bs (t.extract 0 n) = (bs t).take n := by
  unfold bs; rw [ByteArray.data_extract]; simp
theorem enc_ext (s : ByteArray) (h : s.size = 8) : (encS s).extract 0 8 = s := by
  apply bs_inj
  rw [take_ext]
  show (bs s ++ [_]).take 8 = bs s
  rw [← h, ← bs_length, List.take_left]

/-- the eight bytes with the bit of this place turned, if it is theirs -/
def fixS (s : ByteArray) (p : Nat) : ByteArray := if idx p < 64 then (flipS s (idx p / 8) (idx p % 8)).extract 0 8 else s.extract 0 8
/-- what is decoded: the bytes, and what they are -/
def decS (s : ByteArray) : ByteArray × Nat :=
  if cnt (numN (bs s)) 72 % 2 = 0 then (if left (numN (bs s)) 72 = 0 then (s.extract 0 8, 2) else (ByteArray.empty, 4))
  else if 71 < left (numN (bs s)) 72 then (ByteArray.empty, 4) else (fixS s (left (numN (bs s)) 72), 3)
theorem dec_enc (s : ByteArray) (h : s.size = 8) : decS (encS s) = (s, 2) := by
  unfold decS
  rw [num_enc s h, if_pos (word_even (num_lt s h)), if_pos (word_left (num_lt s h)), enc_ext s h]
theorem num_one (s : ByteArray) (h : s.size = 8) (i j : Nat) (hi : i < 9) (hj : j < 8) : numN (bs (flipS (encS s) i j)) = word (numN (bs s)) ^^^ 2 ^ (8 * i + j) := by
  rw [numN_flip _ _ _ (by rw [encS_size]; omega) hj, num_enc s h]
theorem dec_one (s : ByteArray) (h : s.size = 8) (i j : Nat) (hi : i < 9) (hj : j < 8) : decS (flipS (encS s) i j) = (s, 3) := by
  have hz : (encS s).size = 9 := by rw [encS_size]; omega
  have hl := one_left (num_lt s h) (k := 8 * i + j) (by omega)
  unfold decS
  rw [num_one s h i j hi hj, if_neg (by rw [one_odd (num_lt s h) (by omega)]; decide), hl, if_neg (by have := place_le (8 * i + j); omega)]
  congr 1
  unfold fixS
  rw [idx_place (by omega)]
  by_cases h8 : i < 8
  · rw [if_pos (by omega), show (8 * i + j) / 8 = i by omega, show (8 * i + j) % 8 = j by omega, flipS_twice _ _ _ (by omega) hj, enc_ext s h]
  · rw [if_neg (by omega)]
    have e : (flipS (encS s) i j).extract 0 8 = (encS s).extract 0 8 := by
      apply bs_inj
      rw [take_ext, take_ext]
      unfold bs
      rw [flipS_list _ _ _ (by omega)]
      unfold fl
      rw [List.take_set_of_le (by omega)]
    rw [e, enc_ext s h]
theorem dec_two (s : ByteArray) (h : s.size = 8) (i j i' j' : Nat) (hi : i < 9) (hj : j < 8) (hi' : i' < 9) (hj' : j' < 8) (hne : flipS (flipS (encS s) i j) i' j' ≠ encS s) :
    decS (flipS (flipS (encS s) i j) i' j') = (ByteArray.empty, 4) := by
  have hz : (encS s).size = 9 := by rw [encS_size]; omega
  have hz1 : (flipS (encS s) i j).size = 9 := by rw [flipS_size _ _ _ (by omega), hz]
  have hd : 8 * i + j ≠ 8 * i' + j' := by
    intro e
    have h1 : i = i' := by omega
    have h2 : j = j' := by omega
    subst h1; subst h2
    exact hne (flipS_twice _ _ _ (by omega) hj)
  have hn : numN (bs (flipS (flipS (encS s) i j) i' j')) = word (numN (bs s)) ^^^ 2 ^ (8 * i + j) ^^^ 2 ^ (8 * i' + j') := by
    rw [numN_flip _ _ _ (by omega) hj', num_one s h i j hi hj]
  unfold decS
  rw [hn, if_pos (two_even (num_lt s h) (by omega) (by omega)), if_neg (two_left (num_lt s h) (by omega) (by omega) hd)]

/-- the bits that are 1 of a byte -/
def ones8 (n : Nat) : Nat := cnt n 8
theorem enc_apart (a b : ByteArray) (ha : a.size = 8) (hb : b.size = 8) (h : a ≠ b) : 4 ≤ cnt (numN (bs (encS a)) ^^^ numN (bs (encS b))) 72 := by
  rw [num_enc a ha, num_enc b hb]
  refine words_apart (num_lt a ha) (num_lt b hb) fun e => h (bs_inj (numN_inj _ _ (by rw [bs_length, bs_length, ha, hb]) e))

end Go.Proofs.YtjmoecfgpfdncaaDoor

/- The reference of layer 1, as far as later layers lean on it: Put, Get. -/
namespace Go.Proofs.YtjmoecfgpfdncaaDoor
open Go.RowKit

/-- a number's n lowest bytes, the lowest first -/
def le : Int → Nat → List UInt8
  | _, 0 => []
  | v, n + 1 => UInt8.ofNat (v % 256).toNat :: le (v / 256) n
theorem le_length (n : Nat) : ∀ v, (le v n).length = n := by
  induction n with
  | zero => intro v; rfl
  | succ n ih => intro v; simp [le, ih]
def leS (v : Int) (n : Nat) : ByteArray := ⟨(le v n).toArray⟩

/-- what is left of a number when k bytes are taken -/
def rest : Int → Nat → Int
  | v, 0 => v
  | v, k + 1 => rest v k / 256
/-- its k lowest bytes, as numbers -/
def leI : Int → Nat → List Int
  | _, 0 => []
  | v, k + 1 => leI v k ++ [rest v k % 256]
theorem leI_length (v : Int) (k : Nat) : (leI v k).length = k := by
  induction k with
  | zero => rfl
  | succ k ih => simp [leI, ih]
theorem rest_bd (v : Int) (k : Nat) (h0 : 0 ≤ v) (h1 : v < 18446744073709551616) : 0 ≤ rest v k ∧ rest v k < 18446744073709551616 := by
  induction k with
  | zero => exact ⟨h0, h1⟩
  | succ k ih => simp only [rest]; omega
theorem rest_shift (k : Nat) : ∀ v, rest v (k + 1) = rest (v / 256) k := by
  induction k with
  | zero => intro v; rfl
  | succ k ih => intro v; show rest v (k + 1) / 256 = rest (v / 256) k / 256; rw [ih]
theorem leI_shift (k : Nat) : ∀ v, leI v (k + 1) = v % 256 :: leI (v / 256) k := by
  induction k with
  | zero => intro v; rfl
  | succ k ih => intro v; show leI v (k + 1) ++ [rest v (k + 1) % 256] = _; rw [ih, rest_shift]; rfl
theorem leI_le (k : Nat) : ∀ v, (leI v k).map (fun n => UInt8.ofNat n.toNat) = le v k := by
  induction k with
  | zero => intro v; rfl
  | succ k ih => intro v; rw [leI_shift, le, List.map_cons, ih]
theorem bytes_eq {a b : ByteArray} (h : a.data.toList = b.data.toList) : a = b := by
  cases a; cases b
  simp only at h
  congr 1
  exact Array.toList_inj.1 h
theorem rest_p2 (v : Int) (k : Nat) : rest v k = v / p2 (8 * k) := by
  induction k with
  | zero => show v = v / p2 0; rw [p2_zero]; omega
  | succ k ih =>
    show rest v k / 256 = _
    rw [ih, show 8 * (k + 1) = 8 * k + 8 by omega, p2_add, show p2 8 = 256 from rfl, Int.ediv_ediv_of_nonneg (by have := p2_pos (8 * k); omega)]

theorem rel_put {w wr w1 : World} {v v' : Int} {b : Value} {k : Nat} (ho : w1.ownsRow w.heap.size 5 1 b (k + 1) ((leI v k).map (Value.int .u8) ++ [.int .u8 v'])) (hv : v' = rest v k % 256)
    (hb : Below w.heap.size w wr) (hg : Below w.heap.size wr w1) :
    w1.ownsRow w.heap.size 5 1 b (k + 1) ((leI v (k + 1)).map (Value.int .u8)) ∧ Below w.heap.size w w1 := by
  refine ⟨?_, hb.trans hg⟩
  simpa [leI, hv] using ho

/-- the post of the reference's Put: the bytes, or nothing -/
def putRes (v : Int) (n : Nat) : Array Value := if rest v n = 0 then #[.string (leS v n), .int .i64 0] else #[.string ByteArray.empty, .int .i64 1]
def PutPost (v : Int) (n : Nat) (w : World) (e : Ending) (w' : World) : Prop := e = .returned (.tuple (putRes v n)) ∧ Below w.heap.size w w'

theorem Tryd.info5 : (Tryd.prog.info? 5).map (fun i => (i.zero, i.size, i.bytes)) = some (some (.int .u8 0), 1, 1) := by kernel_rfl

/-- the number whose bytes these are, the lowest first -/
def num : List UInt8 → Int
  | [] => 0
  | b :: l => (b.toNat : Int) + 256 * num l
theorem num_bd (l : List UInt8) : 0 ≤ num l ∧ num l < p2 (8 * l.length) := by
  induction l with
  | nil => exact ⟨Int.le_refl 0, by decide⟩
  | cons b l ih =>
    have hb : b.toNat < 256 := b.toNat_lt
    have e : p2 (8 * (b :: l).length) = 256 * p2 (8 * l.length) := by
      rw [List.length_cons, show 8 * (l.length + 1) = 8 + 8 * l.length by omega, p2_add]; rfl
    rw [e]; simp only [num]; omega
theorem num_snoc (b : UInt8) : ∀ l, num (l ++ [b]) = num l + (b.toNat : Int) * p2 (8 * l.length) := by
  intro l
  induction l with
  | nil => simp [num, p2_zero]
  | cons c l ih =>
    have e : p2 (8 * (c :: l).length) = 256 * p2 (8 * l.length) := by
      rw [List.length_cons, show 8 * (l.length + 1) = 8 + 8 * l.length by omega, p2_add]; rfl
    show (c.toNat : Int) + 256 * num (l ++ [b]) = (c.toNat : Int) + 256 * num l + (b.toNat : Int) * p2 (8 * (c :: l).length)
    rw [ih, e, Int.mul_add, Int.mul_left_comm]; omega
theorem take_snoc (s : ByteArray) (k : Nat) (h : k < s.size) : s.data.toList.take (k + 1) = s.data.toList.take k ++ [s[k]] := by
  rw [List.take_succ_eq_append_getElem (by simpa using h)]; rfl
theorem take_len (s : ByteArray) (k : Nat) (h : k ≤ s.size) : (s.data.toList.take k).length = k := by
  rw [List.length_take]; have : s.data.toList.length = s.size := by simp
  omega
def numTo (s : ByteArray) (k : Nat) : Int := num (s.data.toList.take k)
theorem numTo_zero (s : ByteArray) : numTo s 0 = 0 := rfl
theorem numTo_bd (s : ByteArray) (k : Nat) (h : k ≤ s.size) : 0 ≤ numTo s k ∧ numTo s k < p2 (8 * k) := by
  have := num_bd (s.data.toList.take k); rwa [take_len s k h] at this
theorem numTo_succ (s : ByteArray) (k : Nat) (h : k < s.size) : numTo s (k + 1) = numTo s k + (s[k].toNat : Int) * p2 (8 * k) := by
  unfold numTo; rw [take_snoc s k h, num_snoc, take_len s k (by omega)]
theorem byte_room (c : UInt8) (k : Nat) (h : k < 8) : (c.toNat : Int) * p2 (8 * k) < p2 64 ∧ 0 ≤ (c.toNat : Int) * p2 (8 * k) := by
  have hb : c.toNat < 256 := c.toNat_lt
  have hp := p2_pos (8 * k)
  have h1 : (c.toNat : Int) * p2 (8 * k) < 256 * p2 (8 * k) := Int.mul_lt_mul_of_pos_right (by omega) hp
  have h2 : 256 * p2 (8 * k) ≤ p2 64 := by
    have : p2 (8 + 8 * k) ≤ p2 64 := p2_le (by omega)
    rwa [p2_add] at this
  exact ⟨by omega, Int.mul_nonneg (by omega) (by omega)⟩
theorem wrap_byte (c : UInt8) : IntKind.u64.wrap (c.toNat : Int) = c.toNat := by
  have hb : c.toNat < 256 := c.toNat_lt
  rw [IntKind.wrap_u64]; omega
/-- the place's power of 256, as it is kept in 64 bits -/
def pp (k : Nat) : Int := lo (p2 (8 * k)) 64
theorem pp_zero : pp 0 = 1 := by decide
theorem pp_succ (k : Nat) : IntKind.u64.wrap (pp k * 256) = pp (k + 1) := by
  unfold pp; rw [wrap_lo]
  unfold lo
  rw [Int.mul_emod, Int.emod_emod_of_dvd _ (Int.dvd_refl _), ← Int.mul_emod, show 8 * (k + 1) = 8 * k + 8 by omega, p2_add]; rfl
theorem rget_step (s : ByteArray) (k : Nat) (h : k < s.size) (hs : k < 8) :
    IntKind.u64.wrap (numTo s k + IntKind.u64.wrap (IntKind.u64.wrap (s[k].toNat : Int) * pp k)) = numTo s (k + 1) := by
  have hb := numTo_bd s k (by omega)
  have hb2 := numTo_bd s (k + 1) (by omega)
  have hr := byte_room s[k] k hs
  have hp : pp k = p2 (8 * k) := lo_all _ _ (by have := p2_pos (8 * k); omega) (by
    have h1 : p2 (8 * k) < p2 (8 * k) * 2 := by have := p2_pos (8 * k); omega
    rw [← p2_succ] at h1
    have h2 : p2 (8 * k + 1) ≤ p2 64 := p2_le (by omega)
    omega)
  have h64 : p2 (8 * (k + 1)) ≤ p2 64 := p2_le (by omega)
  rw [numTo_succ s k h] at *
  rw [hp, wrap_byte, wrap_lo (_ * _), lo_all _ 64 hr.2 hr.1, wrap_lo, lo_all _ 64 (by omega) (by omega)]
def numS (s : ByteArray) : Int := numTo s s.size

theorem num_le (m : Nat) : ∀ v : Int, num (le v m) + p2 (8 * m) * rest v m = v := by
  induction m with
  | zero => intro v; show (0 : Int) + p2 0 * v = v; rw [p2_zero]; omega
  | succ m ih =>
    intro v
    have h := ih (v / 256)
    have hb : (UInt8.ofNat (v % 256).toNat).toNat = (v % 256).toNat := by
      rw [UInt8.toNat_ofNat']; omega
    show ((UInt8.ofNat (v % 256).toNat).toNat : Int) + 256 * num (le (v / 256) m) + p2 (8 * (m + 1)) * rest v (m + 1) = v
    rw [hb, rest_shift, show 8 * (m + 1) = 8 + 8 * m by omega, p2_add, show p2 8 = 256 from rfl, Int.mul_assoc]
    omega
theorem le_num : ∀ l : List UInt8, le (num l) l.length = l
  | [] => rfl
  | b :: l => by
    have hb : b.toNat < 256 := b.toNat_lt
    have e1 : (num (b :: l) % 256).toNat = b.toNat := by simp only [num]; omega
    have e2 : num (b :: l) / 256 = num l := by simp only [num]; omega
    rw [List.length_cons, le, e1, e2, le_num l, UInt8.ofNat_toNat]
theorem rest_num (l : List UInt8) : num l / p2 (8 * l.length) = 0 := by
  have h := num_bd l
  exact Int.ediv_eq_zero_of_lt h.1 h.2
theorem size_toList (s : ByteArray) : s.data.toList.length = s.size := by simp
theorem numS_eq (s : ByteArray) : numS s = num s.data.toList := by
  unfold numS numTo
  rw [List.take_of_length_le (by rw [size_toList]; omega)]
theorem leS_numS (s : ByteArray) : leS (numS s) s.size = s := by
  unfold leS
  rw [numS_eq, ← size_toList s, le_num]
theorem leS_size (v : Int) (m : Nat) : (leS v m).size = m := by
  show (le v m).toArray.size = m
  rw [List.size_toArray, le_length]
theorem numS_leS (v : Int) (m : Nat) (h : rest v m = 0) : numS (leS v m) = v := by
  have h2 := num_le m v
  rw [h] at h2
  rw [numS_eq]
  show num (le v m) = v
  omega
end Go.Proofs.YtjmoecfgpfdncaaDoor

/- Tags and their bytes: what the document asks of Encode, Decode and May, and what follows from it. -/
namespace Go.Proofs.YtjmoecfgpfdncaaDoor
open Go.RowKit

/-- a tag that may be -/
def MayT (k l q e : Int) : Prop := 1 ≤ k ∧ k ≤ 4 ∧ 0 ≤ l ∧ l ≤ 4096 ∧ 0 ≤ q ∧ q ≤ 281474976710655 ∧ 0 ≤ e ∧ e ≤ 4294967295
instance (k l q e : Int) : Decidable (MayT k l q e) := by unfold MayT; infer_instance
def mayB (k l q e : Int) : Bool := decide (MayT k l q e)
theorem mayB_iff (k l q e : Int) : mayB k l q e = true ↔ MayT k l q e := decide_eq_true_iff
/-- a tag's bytes -/
def tagL (k l q e : Int) : List UInt8 := 27 :: UInt8.ofNat k.toNat :: (le l 2 ++ le q 6 ++ le e 4 ++ [0, 0])
def tagS (k l q e : Int) : ByteArray := ⟨(tagL k l q e).toArray⟩
theorem tagS_size (k l q e : Int) : (tagS k l q e).size = 16 := rfl
def byteT (s : ByteArray) (i : Nat) : Int := ((s.data.toList.getD i 0).toNat : Int)
def lT (s : ByteArray) : Int := numS (s.extract 2 4)
def qT (s : ByteArray) : Int := numS (s.extract 4 10)
def eT (s : ByteArray) : Int := numS (s.extract 10 14)
/-- a text that is a tag's bytes -/
def FormT (s : ByteArray) : Prop := s.size = 16 ∧ byteT s 0 = 27 ∧ byteT s 14 = 0 ∧ byteT s 15 = 0
def OkT (s : ByteArray) : Prop := FormT s ∧ MayT (byteT s 1) (lT s) (qT s) (eT s)
instance (s : ByteArray) : Decidable (FormT s) := by unfold FormT; infer_instance
instance (s : ByteArray) : Decidable (OkT s) := by unfold OkT; infer_instance
theorem list_extract (s : ByteArray) (i j : Nat) : (s.extract i j).data.toList = (s.data.toList.take j).drop i := by
  rw [ByteArray.data_extract, Array.toList_extract, List.extract_eq_take_drop, List.take_drop]
  by_cases h : i ≤ j
  · rw [show i + (j - i) = j by omega]
  · rw [List.drop_eq_nil_of_le (by rw [List.length_take]; omega), List.drop_eq_nil_of_le (by rw [List.length_take]; omega)]
theorem tag_bytes {k l q e : Int} (h : MayT k l q e) : byteT (tagS k l q e) 0 = 27 ∧ byteT (tagS k l q e) 1 = k ∧ byteT (tagS k l q e) 14 = 0 ∧ byteT (tagS k l q e) 15 = 0 := by
  refine ⟨rfl, ?_, rfl, rfl⟩
  obtain ⟨h1, h2, _⟩ := h
  show (((UInt8.ofNat k.toNat).toNat : Nat) : Int) = k
  simp; omega
theorem tag_fields {k l q e : Int} (h : MayT k l q e) : lT (tagS k l q e) = l ∧ qT (tagS k l q e) = q ∧ eT (tagS k l q e) = e := by
  obtain ⟨_, _, h3, h4, h5, h6, h7, h8⟩ := h
  have e1 : (tagS k l q e).extract 2 4 = leS l 2 := by
    apply bytes_eq; rw [list_extract]; rfl
  have e2 : (tagS k l q e).extract 4 10 = leS q 6 := by
    apply bytes_eq; rw [list_extract]; rfl
  have e3 : (tagS k l q e).extract 10 14 = leS e 4 := by
    apply bytes_eq; rw [list_extract]; rfl
  unfold lT qT eT
  rw [e1, e2, e3]
  refine ⟨numS_leS _ _ ?_, numS_leS _ _ ?_, numS_leS _ _ ?_⟩ <;> rw [rest_p2] <;> refine Int.ediv_eq_zero_of_lt (by omega) ?_
  · rw [show p2 (8 * 2) = 65536 by decide]; omega
  · rw [show p2 (8 * 6) = 281474976710656 by decide]; omega
  · rw [show p2 (8 * 4) = 4294967296 by decide]; omega
theorem tag_ok {k l q e : Int} (h : MayT k l q e) : OkT (tagS k l q e) := by
  have hb := tag_bytes h
  have hf := tag_fields h
  refine ⟨⟨rfl, hb.1, hb.2.2.1, hb.2.2.2⟩, ?_⟩
  rw [hb.2.1, hf.1, hf.2.1, hf.2.2]; exact h
theorem tag_inj {k l q e k' l' q' e' : Int} (h : MayT k l q e) (h' : MayT k' l' q' e') (he : tagS k l q e = tagS k' l' q' e') : k = k' ∧ l = l' ∧ q = q' ∧ e = e' := by
  have hb := tag_bytes h; have hf := tag_fields h
  have hb' := tag_bytes h'; have hf' := tag_fields h'
  rw [he] at hb hf
  exact ⟨hb.2.1.symm.trans hb'.2.1, hf.1.symm.trans hf'.1, hf.2.1.symm.trans hf'.2.1, hf.2.2.symm.trans hf'.2.2⟩
theorem tag_again {s : ByteArray} (h : OkT s) : tagS (byteT s 1) (lT s) (qT s) (eT s) = s := by
  obtain ⟨⟨hz, h0, h14, h15⟩, _⟩ := h
  apply bytes_eq
  show tagL _ _ _ _ = s.data.toList
  unfold tagL lT qT eT
  have hl : s.data.toList.length = 16 := by simpa using hz
  have n2 : (s.extract 2 4).size = 2 := by rw [ByteArray.size_extract]; omega
  have n6 : (s.extract 4 10).size = 6 := by rw [ByteArray.size_extract]; omega
  have n4 : (s.extract 10 14).size = 4 := by rw [ByteArray.size_extract]; omega
  have f2 := leS_numS (s.extract 2 4); have f6 := leS_numS (s.extract 4 10); have f4 := leS_numS (s.extract 10 14)
  rw [n2] at f2; rw [n6] at f6; rw [n4] at f4
  have g2 : le (numS (s.extract 2 4)) 2 = (s.data.toList.take 4).drop 2 := (congrArg (fun t : ByteArray => t.data.toList) f2).trans (list_extract s 2 4)
  have g6 : le (numS (s.extract 4 10)) 6 = (s.data.toList.take 10).drop 4 := (congrArg (fun t : ByteArray => t.data.toList) f6).trans (list_extract s 4 10)
  have g4 : le (numS (s.extract 10 14)) 4 = (s.data.toList.take 14).drop 10 := (congrArg (fun t : ByteArray => t.data.toList) f4).trans (list_extract s 10 14)
  rw [g2, g6, g4]
  unfold byteT at *
  generalize s.data.toList = t at *
  match t, hl with
  | [b0, b1, b2, b3, b4, b5, b6, b7, b8, b9, b10, b11, b12, b13, b14, b15], _ =>
    simp only [List.getD_cons_zero, List.getD_cons_succ] at h0 h14 h15 ⊢
    have e0 : b0 = 27 := UInt8.toNat_inj.1 (by rw [show (27 : UInt8).toNat = 27 from rfl]; omega)
    have e14 : b14 = 0 := UInt8.toNat_inj.1 (by rw [show (0 : UInt8).toNat = 0 from rfl]; omega)
    have e15 : b15 = 0 := UInt8.toNat_inj.1 (by rw [show (0 : UInt8).toNat = 0 from rfl]; omega)
    subst e0; subst e14; subst e15
    simp

end Go.Proofs.YtjmoecfgpfdncaaDoor

/- The reference of layer 1, as far as later layers lean on it: Zeros. -/
namespace Go.Proofs.YtjmoecfgpfdncaaDoor
open Go.RowKit

/-- how many bits of a byte are 1 -/
def pop8 (n : Nat) : Nat := n % 2 + n / 2 % 2 + n / 4 % 2 + n / 8 % 2 + n / 16 % 2 + n / 32 % 2 + n / 64 % 2 + n / 128 % 2
/-- how many bits of a text are 0 -/
def zs : List UInt8 → Nat
  | [] => 0
  | b :: l => pop8 (255 - b.toNat) + zs l
theorem zs_snoc (b : UInt8) : ∀ l, zs (l ++ [b]) = zs l + pop8 (255 - b.toNat)
  | [] => by simp [zs]
  | c :: l => by simp only [List.cons_append, zs, zs_snoc b l]; omega
theorem pop8_le (n : Nat) : pop8 n ≤ 8 := by unfold pop8; omega
theorem zs_le : ∀ l, zs l ≤ 8 * l.length
  | [] => by simp [zs]
  | c :: l => by have := zs_le l; have := pop8_le (255 - c.toNat); simp only [zs, List.length_cons]; omega
def zsTo (s : ByteArray) (k : Nat) : Nat := zs (s.data.toList.take k)
theorem zsTo_succ (s : ByteArray) (k : Nat) (h : k < s.size) : zsTo s (k + 1) = zsTo s k + pop8 (255 - s[k].toNat) := by
  unfold zsTo; rw [take_snoc s k h, zs_snoc]
theorem zsTo_le (s : ByteArray) (k : Nat) (h : k ≤ s.size) : zsTo s k ≤ 8 * k := by
  have := zs_le (s.data.toList.take k); rwa [take_len s k h] at this

/-- how many of a byte's k lowest bits are 0 -/
def zb (c : UInt8) : Nat → Nat
  | 0 => 0
  | k + 1 => zb c k + if bt c.toNat k = 0 then 1 else 0
theorem zb_all (c : UInt8) : zb c 8 = pop8 (255 - c.toNat) := by
  have h : ∀ n, n < 256 → zb (UInt8.ofNat n) 8 = pop8 (255 - n) := by decide +kernel
  have := h _ c.toNat_lt
  rwa [UInt8.ofNat_toNat] at this
theorem zb_le (c : UInt8) (k : Nat) : zb c k ≤ k := by
  induction k with
  | zero => exact Nat.le_refl 0
  | succ k ih => simp only [zb]; split <;> omega

end Go.Proofs.YtjmoecfgpfdncaaDoor

/- Layer 5 of texts: what the document asks of a page's bytes. -/
namespace Go.Proofs.YtjmoecfgpfdncaaDoor
open Go.RowKit

/-- so many bytes of data may be -/
def LenOk (n : Nat) : Prop := 8 ≤ n ∧ n ≤ 256 ∧ n % 8 = 0
instance (n : Nat) : Decidable (LenOk n) := by unfold LenOk; infer_instance
/-- a text's k-th piece of so many bytes -/
def piece (s : ByteArray) (m k : Nat) : ByteArray := s.extract (m * k) (m * k + m)
theorem piece_size (s : ByteArray) (m k : Nat) (h : m * k + m ≤ s.size) : (piece s m k).size = m := by
  unfold piece; rw [ByteArray.size_extract]; omega
/-- the first k chunks -/
def chunks (s : ByteArray) : Nat → ByteArray
  | 0 => ByteArray.empty
  | k + 1 => chunks s k ++ encS (piece s 8 k)
theorem chunks_size (s : ByteArray) : ∀ k, 8 * k ≤ s.size → (chunks s k).size = 9 * k
  | 0, _ => rfl
  | k + 1, h => by
    show (chunks s k ++ encS (piece s 8 k)).size = _
    rw [ByteArray.size_append, chunks_size s k (by omega), encS_size, piece_size s 8 k (by omega)]; omega
theorem sealS_size (s : ByteArray) : (sealS s).size = s.size + 4 := by
  rw [← bs_length, bs_sealS]; unfold sealN; rw [List.length_append, bs_length]; rfl
def four0 : ByteArray := ⟨#[0, 0, 0, 0]⟩
/-- what a page holds, ahead of its chunks -/
def inner (k l q e : Int) (data : ByteArray) : ByteArray := sealS (tagS k l q e ++ data) ++ four0
theorem inner_size (k l q e : Int) (data : ByteArray) : (inner k l q e data).size = data.size + 24 := by
  unfold inner
  rw [ByteArray.size_append, sealS_size, ByteArray.size_append, tagS_size, show four0.size = 4 from rfl]; omega
/-- a page's bytes -/
def pageS (k l q e : Int) (data : ByteArray) : ByteArray := chunks (inner k l q e data) ((data.size + 24) / 8)
theorem pageS_size (k l q e : Int) (data : ByteArray) : (pageS k l q e data).size = (data.size + 24) / 8 * 9 := by
  unfold pageS
  rw [chunks_size _ _ (by rw [inner_size]; omega)]; omega
def frT (k l q e : Int) (data : ByteArray) : ByteArray := if LenOk data.size ∧ MayT k l q e then pageS k l q e data else ByteArray.empty
def frE (k l q e : Int) (data : ByteArray) : Int := if LenOk data.size then (if MayT k l q e then 0 else 1) else 2

/-- no chunk ahead of the k-th one has more than one bit that is 0 -/
def blankTo (s : ByteArray) : Nat → Bool
  | 0 => true
  | k + 1 => blankTo s k && decide (zs (piece s 9 k).data.toList ≤ 1)
/-- one of the first k chunks is bad; has been put right; what they hold -/
def badTo (s : ByteArray) : Nat → Bool
  | 0 => false
  | k + 1 => badTo s k || decide ((decS (piece s 9 k)).2 = 4)
def fixTo (s : ByteArray) : Nat → Bool
  | 0 => false
  | k + 1 => fixTo s k || decide ((decS (piece s 9 k)).2 = 3)
def heldTo (s : ByteArray) : Nat → ByteArray
  | 0 => ByteArray.empty
  | k + 1 => heldTo s k ++ (decS (piece s 9 k)).1
/-- what they hold is a page's -/
def HoldsPage (all : ByteArray) : Prop := OkT (all.extract 0 16) ∧ all.extract (all.size - 4) all.size = four0 ∧ wholeB (all.extract 0 (all.size - 4)) = true
def ShapeOk (n : Nat) : Prop := n % 9 = 0 ∧ 36 ≤ n ∧ n ≤ 315
/-- a page's value -/
def pv (what k l q e : Int) (data : ByteArray) : Array Value := #[.int .i64 what, .int .i64 k, .int .i64 l, .int .i64 q, .int .i64 e, .string data]
instance (n : Nat) : Decidable (ShapeOk n) := by unfold ShapeOk; infer_instance
instance (all : ByteArray) : Decidable (HoldsPage all) := by unfold HoldsPage; infer_instance
/-- what has been told of the first k chunks, none of which is bad -/
def toldTo (s : ByteArray) (k : Nat) : Int := if fixTo s k then 3 else 2
def pageOf (s all : ByteArray) (k : Nat) : Array Value := pv (toldTo s k) (byteT (all.extract 0 16) 1) (lT (all.extract 0 16)) (qT (all.extract 0 16)) (eT (all.extract 0 16)) (all.extract 16 (all.size - 8))
def pageV (s : ByteArray) : Array Value :=
  if ShapeOk s.size then
    if blankTo s (s.size / 9) = true then pv 1 0 0 0 0 ByteArray.empty
    else if badTo s (s.size / 9) = true then pv 4 0 0 0 0 ByteArray.empty
    else if HoldsPage (heldTo s (s.size / 9)) then pageOf s (heldTo s (s.size / 9)) (s.size / 9)
    else pv 4 0 0 0 0 ByteArray.empty
  else pv 4 0 0 0 0 ByteArray.empty
theorem pageV_shape {s : ByteArray} (h : ¬ ShapeOk s.size) : pageV s = pv 4 0 0 0 0 ByteArray.empty := if_neg h
theorem pageV_blank {s : ByteArray} (h : ShapeOk s.size) (h2 : blankTo s (s.size / 9) = true) : pageV s = pv 1 0 0 0 0 ByteArray.empty := by unfold pageV; rw [if_pos h, if_pos h2]
theorem pageV_bad {s : ByteArray} (h : ShapeOk s.size) (h2 : blankTo s (s.size / 9) = false) (h3 : badTo s (s.size / 9) = true) : pageV s = pv 4 0 0 0 0 ByteArray.empty := by
  unfold pageV; rw [if_pos h, if_neg (by rw [h2]; decide), if_pos h3]
theorem pageV_none {s : ByteArray} (h : ShapeOk s.size) (h2 : blankTo s (s.size / 9) = false) (h3 : badTo s (s.size / 9) = false) (h4 : ¬ HoldsPage (heldTo s (s.size / 9))) : pageV s = pv 4 0 0 0 0 ByteArray.empty := by
  unfold pageV; rw [if_pos h, if_neg (by rw [h2]; decide), if_neg (by rw [h3]; decide), if_neg h4]
theorem pageV_page {s : ByteArray} (h : ShapeOk s.size) (h2 : blankTo s (s.size / 9) = false) (h3 : badTo s (s.size / 9) = false) (h4 : HoldsPage (heldTo s (s.size / 9))) : pageV s = pageOf s (heldTo s (s.size / 9)) (s.size / 9) := by
  unfold pageV; rw [if_pos h, if_neg (by rw [h2]; decide), if_neg (by rw [h3]; decide), if_pos h4]
theorem bad_later {s : ByteArray} {k c : Nat} (h : badTo s k = true) (hc : k ≤ c) : badTo s c = true := by
  induction c with
  | zero => rw [← Nat.le_zero.1 hc]; exact h
  | succ c ih =>
    by_cases e : k = c + 1
    · rw [← e]; exact h
    · show (badTo s c || _) = true
      rw [ih (by omega)]; rfl
theorem fixS_size (s : ByteArray) (p : Nat) (h : s.size = 9) : (fixS s p).size = 8 := by
  unfold fixS
  split
  · rw [ByteArray.size_extract, flipS_size _ _ _ (by omega)]; omega
  · rw [ByteArray.size_extract]; omega
/-- a chunk is bad, with nothing, or good or put right, with eight bytes -/
theorem decS_cases (s : ByteArray) (h : s.size = 9) : (decS s).2 = 4 ∨ (((decS s).2 = 2 ∨ (decS s).2 = 3) ∧ (decS s).1.size = 8) := by
  unfold decS
  split
  · split
    · exact Or.inr ⟨Or.inl rfl, by show (s.extract 0 8).size = 8; rw [ByteArray.size_extract]; omega⟩
    · exact Or.inl rfl
  · split
    · exact Or.inl rfl
    · exact Or.inr ⟨Or.inr rfl, fixS_size _ _ h⟩
theorem heldTo_size (s : ByteArray) : ∀ k, 9 * k ≤ s.size → badTo s k = false → (heldTo s k).size = 8 * k
  | 0, _, _ => rfl
  | k + 1, h, hb => by
    have hb2 : (badTo s k || decide ((decS (piece s 9 k)).2 = 4)) = false := hb
    rw [Bool.or_eq_false_iff] at hb2
    have h4 := of_decide_eq_false hb2.2
    show (heldTo s k ++ (decS (piece s 9 k)).1).size = _
    rw [ByteArray.size_append, heldTo_size s k (by omega) hb2.1]
    rcases decS_cases (piece s 9 k) (piece_size s 9 k (by omega)) with h5 | ⟨_, h5⟩
    · exact absurd h5 h4
    · rw [h5]; omega

/-- a blank page -/
def blankS (n : Nat) : ByteArray := ⟨(List.replicate ((n + 24) / 8 * 9) 255).toArray⟩
def blankT (n : Int) : ByteArray := if 0 ≤ n ∧ LenOk n.toNat then blankS n.toNat else ByteArray.empty
/-- two bits of the first nine bytes turned -/
def first72 (a : Int) : Nat := (a % 72).toNat
def second72 (a b : Int) : Nat := (first72 a + 1 + (b % 71).toNat) % 72
def hurtT (s : ByteArray) (a b : Int) : ByteArray := if s.size < 9 then s else flipS (flipS s (first72 a / 8) (first72 a % 8)) (second72 a b / 8) (second72 a b % 8)

end Go.Proofs.YtjmoecfgpfdncaaDoor

/- Layer 7: what the document asks of the steps of a block, in lists and numbers; all that follows is tried at each number of lines. -/
namespace Go.Proofs.YtjmoecfgpfdncaaDoor
set_option maxRecDepth 100000
open Go.RowKit

/-- the steps behind k lines, but the last fine one -/
def refTo : Nat → List (Nat × Bool)
  | 0 => []
  | 1 => [(0, false)]
  | k + 2 => refTo (k + 1) ++ [(k + 1, false), (k, true)]
def refL (n : Nat) : List (Nat × Bool) := refTo n ++ [(n - 1, true)]
theorem refTo_length : ∀ k, 1 ≤ k → (refTo k).length = 2 * k - 1
  | 1, _ => rfl
  | k + 2, _ => by
    show (refTo (k + 1) ++ _).length = _
    rw [List.length_append, refTo_length (k + 1) (by omega)]
    simp only [List.length_cons, List.length_nil]; omega
theorem refL_length (n : Nat) (h : 1 ≤ n) : (refL n).length = 2 * n := by
  unfold refL
  rw [List.length_append, refTo_length n h]
  simp only [List.length_cons, List.length_nil]; omega
/-- the k-th step; which step one is; what a line is -/
def stepC (n k : Nat) : Nat × Bool := if k = 0 then (0, false) else if k + 1 = 2 * n then (n - 1, true) else if k % 2 = 1 then ((k + 1) / 2, false) else (k / 2 - 1, true)
def placeC (n l : Nat) (f : Bool) : Nat := if f = true then (if l + 1 = n then 2 * n - 1 else 2 * l + 2) else (if l = 0 then 0 else 2 * l - 1)
def afterC (n k l : Nat) : Nat := if placeC n l true < k then 2 else if placeC n l false < k then 1 else 0
theorem refL_map : ∀ n, n ≤ 64 → 1 ≤ n → refL n = (List.range (2 * n)).map (stepC n) := by decide +kernel
theorem refL_at {n k : Nat} (h1 : 1 ≤ n) (h64 : n ≤ 64) (hk : k < 2 * n) : (refL n).getD k (0, false) = stepC n k := by
  rw [refL_map n h64 h1]
  simp [List.getD, hk]
/-- steps and places go there and back -/
theorem step_place {n l : Nat} (f : Bool) (h : l < n) : stepC n (placeC n l f) = (l, f) ∧ placeC n l f < 2 * n := by
  cases f
  · have hp : placeC n l false = if l = 0 then 0 else 2 * l - 1 := rfl
    rw [hp]
    split
    · rename_i h0
      exact ⟨by rw [h0]; rfl, by omega⟩
    · unfold stepC
      rw [if_neg (by omega), if_neg (by omega), if_pos (by omega)]
      exact ⟨by congr 1; omega, by omega⟩
  · have hp : placeC n l true = if l + 1 = n then 2 * n - 1 else 2 * l + 2 := rfl
    rw [hp]
    unfold stepC
    split
    · rw [if_neg (by omega), if_pos (by omega)]
      exact ⟨by congr 1; omega, by omega⟩
    · rw [if_neg (by omega), if_neg (by omega), if_neg (by omega)]
      exact ⟨by congr 1; omega, by omega⟩
theorem place_step {n k : Nat} (h : k < 2 * n) : placeC n (stepC n k).1 (stepC n k).2 = k ∧ (stepC n k).1 < n := by
  unfold stepC
  split
  · rename_i h0
    exact ⟨by rw [h0]; rfl, by show 0 < n; omega⟩
  · split
    · refine ⟨?_, by show n - 1 < n; omega⟩
      show (if (n - 1) + 1 = n then 2 * n - 1 else 2 * (n - 1) + 2) = k
      rw [if_pos (by omega)]; omega
    · split
      · refine ⟨?_, by show (k + 1) / 2 < n; omega⟩
        show (if (k + 1) / 2 = 0 then 0 else 2 * ((k + 1) / 2) - 1) = k
        rw [if_neg (by omega)]; omega
      · refine ⟨?_, by show k / 2 - 1 < n; omega⟩
        show (if (k / 2 - 1) + 1 = n then 2 * n - 1 else 2 * (k / 2 - 1) + 2) = k
        rw [if_neg (by omega)]; omega
theorem foggy_first (n l : Nat) : placeC n l false < placeC n l true := by
  show (if l = 0 then 0 else 2 * l - 1) < (if l + 1 = n then 2 * n - 1 else 2 * l + 2)
  split <;> split <;> omega
/-- with each step just the line that it is of becomes more, by one -/
theorem after_succ {n k l : Nat} (hk : k < 2 * n) (hl : l < n) : afterC n (k + 1) l = afterC n k l + (if (stepC n k).1 = l then 1 else 0) := by
  have hp := place_step hk
  have hf := foggy_first n l
  have hsf := step_place false hl
  have hst := step_place true hl
  by_cases he : (stepC n k).1 = l
  · rw [if_pos he]
    rw [he] at hp
    unfold afterC
    cases hb : (stepC n k).2 with
    | false =>
      rw [hb] at hp
      rw [if_neg (by omega), if_pos (by omega), if_neg (by omega), if_neg (by omega)]
    | true =>
      rw [hb] at hp
      rw [if_pos (by omega), if_neg (by omega), if_pos (by omega)]
  · rw [if_neg he]
    have h1 : placeC n l false ≠ k := fun h => he (by rw [← h, hsf.1])
    have h2 : placeC n l true ≠ k := fun h => he (by rw [← h, hst.1])
    unfold afterC
    by_cases h3 : placeC n l true < k
    · rw [if_pos (by omega), if_pos h3]
    · rw [if_neg (by omega), if_neg h3]
      by_cases h4 : placeC n l false < k
      · rw [if_pos (by omega), if_pos h4]
      · rw [if_neg (by omega), if_neg h4]
theorem after_none (n l : Nat) : afterC n 0 l = 0 := by
  unfold afterC
  rw [if_neg (by omega), if_neg (by omega)]
theorem after_all {n l : Nat} (h : l < n) : afterC n (2 * n) l = 2 := by
  unfold afterC
  rw [if_pos (step_place true h).2]
/-- the line that a step is of is fine behind it just if the step is -/
theorem after_at {n k : Nat} (hk : k < 2 * n) : ((afterC n (k + 1) (stepC n k).1 : Nat) == 2) = (stepC n k).2 := by
  have hp := place_step hk
  have hf := foggy_first n (stepC n k).1
  unfold afterC
  cases hb : (stepC n k).2 with
  | false =>
    rw [hb] at hp
    rw [if_neg (by omega), if_pos (by omega)]
    rfl
  | true =>
    rw [hb] at hp
    rw [if_pos (by omega)]
    rfl
theorem after_le (n k l : Nat) : afterC n k l ≤ 2 := by unfold afterC; split <;> (try split) <;> omega
/-- a line behind another is no further than it, and is begun where the other is fine -/
theorem after_next {n k l : Nat} (h : l + 1 < n) : afterC n k (l + 1) ≤ afterC n k l ∧ (afterC n k l = 2 → 1 ≤ afterC n k (l + 1)) := by
  have a1 : placeC n (l + 1) false = 2 * l + 1 := by show (if l + 1 = 0 then 0 else 2 * (l + 1) - 1) = _; rw [if_neg (by omega)]; omega
  have a2 : placeC n l true = 2 * l + 2 := by show (if l + 1 = n then 2 * n - 1 else 2 * l + 2) = _; rw [if_neg (by omega)]
  have a3 : placeC n l false ≤ 2 * l := by show (if l = 0 then 0 else 2 * l - 1) ≤ _; split <;> omega
  have a4 : 2 * l + 2 ≤ placeC n (l + 1) true := by show _ ≤ (if l + 1 + 1 = n then 2 * n - 1 else 2 * (l + 1) + 2); split <;> omega
  unfold afterC
  rw [a1, a2]
  constructor
  · split <;> split <;> (try split) <;> (try split) <;> omega
  · intro h2
    split
    · omega
    · split
      · omega
      · exfalso
        split at h2 <;> (try split at h2) <;> omega

/-- so many lines may be -/
def LinesOk (n : Int) : Prop := 1 ≤ n ∧ n ≤ 64
instance (n : Int) : Decidable (LinesOk n) := by unfold LinesOk; infer_instance

/-- the cells of some steps -/
def cellsS (l : List (Nat × Bool)) : List Value := l.flatMap fun s => [.int .i64 (s.1 : Nat), .bool s.2]
theorem cellsS_append (a b : List (Nat × Bool)) : cellsS (a ++ b) = cellsS a ++ cellsS b := by simp [cellsS]
theorem cellsS_length : ∀ l, (cellsS l).length = 2 * l.length
  | [] => rfl
  | x :: l => by
    have := cellsS_length l
    simp only [cellsS, List.flatMap_cons, List.length_append, List.length_cons, List.length_nil] at this ⊢
    omega
theorem cellsS_line : ∀ (l : List (Nat × Bool)) (j : Nat), j < l.length → (cellsS l)[2 * j]? = some (.int .i64 ((l.getD j (0, false)).1 : Nat))
  | [], j, h => absurd h (Nat.not_lt_zero j)
  | x :: l, 0, _ => rfl
  | x :: l, j + 1, h => by
    have := cellsS_line l j (by simpa using h)
    simpa [cellsS, List.flatMap_cons, show 2 * (j + 1) = 2 * j + 1 + 1 by omega] using this
theorem cellsS_fine : ∀ (l : List (Nat × Bool)) (j : Nat), j < l.length → (cellsS l)[2 * j + 1]? = some (.bool (l.getD j (0, false)).2)
  | [], j, h => absurd h (Nat.not_lt_zero j)
  | x :: l, 0, _ => rfl
  | x :: l, j + 1, h => by
    have := cellsS_fine l j (by simpa using h)
    simpa [cellsS, List.flatMap_cons, show 2 * (j + 1) + 1 = 2 * j + 1 + 1 + 1 by omega] using this

/-- so many of the first l lines may be foggy and not fine behind k steps -/
def fogB (k l : Nat) : Nat := (if k / 2 ≤ l then 1 else 0) + (if k / 2 < l then 1 else 0)
theorem fogB_le (k l : Nat) : fogB k l ≤ 2 := by unfold fogB; split <;> split <;> omega
theorem fogB_up (k l : Nat) : fogB k l ≤ fogB k (l + 1) := by unfold fogB; split <;> split <;> split <;> (try split) <;> omega
theorem fogB_next {n k l : Nat} (hl : l < n) (h : afterC n k l = 1) : fogB k l + 1 ≤ fogB k (l + 1) := by
  have a3 : placeC n l false = if l = 0 then 0 else 2 * l - 1 := rfl
  have a2 : placeC n l true = if l + 1 = n then 2 * n - 1 else 2 * l + 2 := rfl
  have h1 : placeC n l false < k ∧ k ≤ placeC n l true := by
    unfold afterC at h
    split at h
    · omega
    · split at h
      · omega
      · omega
  have h2 : l = k / 2 ∨ l + 1 = k / 2 := by
    rw [a3, a2] at h1
    obtain ⟨h1, h2⟩ := h1
    split at h1 <;> split at h2 <;> omega
  unfold fogB
  rcases h2 with h2 | h2
  · rw [if_pos (by omega), if_neg (by omega), if_pos (by omega), if_pos (by omega)]; exact Nat.le_refl _
  · rw [if_neg (by omega), if_neg (by omega), if_pos (by omega), if_neg (by omega)]; exact Nat.le_refl _

/-- a step's cells -/
def sv (l : Int) (f : Bool) : Array Value := #[.int .i64 l, .bool f]
/-- is there such a step, such a line; what is asked of At, Place and After -/
def IsStep (n k : Int) : Prop := LinesOk n ∧ 0 ≤ k ∧ k < 2 * n
def IsLine (n l : Int) : Prop := LinesOk n ∧ 0 ≤ l ∧ l < n
def IsAfter (n k l : Int) : Prop := LinesOk n ∧ 0 ≤ k ∧ k ≤ 2 * n ∧ 0 ≤ l ∧ l < n
instance (n k : Int) : Decidable (IsStep n k) := by unfold IsStep; infer_instance
instance (n l : Int) : Decidable (IsLine n l) := by unfold IsLine; infer_instance
instance (n k l : Int) : Decidable (IsAfter n k l) := by unfold IsAfter; infer_instance
def stL (n k : Int) : Int := if IsStep n k then ((stepC n.toNat k.toNat).1 : Nat) else 0
def stF (n k : Int) : Bool := if IsStep n k then (stepC n.toNat k.toNat).2 else false
def stC (n k : Int) : Int := if IsStep n k then 0 else 1
def plN (n l : Int) (f : Bool) : Int := if IsLine n l then (placeC n.toNat l.toNat f : Nat) else 0
def plC (n l : Int) : Int := if IsLine n l then 0 else 1
def afN (n k l : Int) : Int := if IsAfter n k l then (afterC n.toNat k.toNat l.toNat : Nat) else 0
def afC (n k l : Int) : Int := if IsAfter n k l then 0 else 1
def StepT (n k : Int) (w : World) (e : Ending) (w' : World) : Prop := e = .returned (.tuple #[.agg (sv (stL n k) (stF n k)), .int .i64 (stC n k)]) ∧ Below w.heap.size w w'
def PlaceT (n l : Int) (f : Bool) (w : World) (e : Ending) (w' : World) : Prop := e = .returned (.tuple #[.int .i64 (plN n l f), .int .i64 (plC n l)]) ∧ Below w.heap.size w w'
def AfterT (n k l : Int) (w : World) (e : Ending) (w' : World) : Prop := e = .returned (.tuple #[.int .i64 (afN n k l), .int .i64 (afC n k l)]) ∧ Below w.heap.size w w'

end Go.Proofs.YtjmoecfgpfdncaaDoor

/- A cell: what the document asks of it, as a state and what each act makes of it. -/
namespace Go.Proofs.YtjmoecfgpfdncaaDoor
set_option maxRecDepth 100000
open Go.RowKit

/-- a cell: three pages a line, one line behind the other; no page: the empty text -/
structure St where
  L : Nat
  Y : Nat
  mode : Int
  done : Nat
  bad : Bool
  torn : Bool
  slc : Nat
  tlc : Nat
  ps : List ByteArray
  hs : List Bool

/-- a cell that can be -/
structure WfSt (s : St) : Prop where
  l1 : 1 ≤ s.L
  l64 : s.L ≤ 64
  y : LenOk s.Y
  done : s.done ≤ 2 * s.L
  psl : s.ps.length = 3 * s.L
  hsl : s.hs.length = 3 * s.L
  size : ∀ j, (s.ps.getD j ByteArray.empty).size ≤ 400
  mode : s.mode = 0 ∨ s.mode = 1 ∨ s.mode = 2
  slc : s.slc ≤ 1000000000
  tlc : s.tlc ≤ 1000000000

def hurtsB (k : Int) : Bool := k == 1 || k == 2
def pageT (p : ByteArray) (k a b : Int) : ByteArray := if hurtsB k = true then hurtT p a b else p
def putSt (s : St) (i : Nat) (p : ByteArray) (h : Bool) : St := { s with ps := s.ps.set i p, hs := s.hs.set i h }
def endSt (s : St) (k : Int) : St := if k = 1 then { s with torn := true } else if k = 2 then { s with bad := true } else s
def endC (k : Int) : Int := if k = 1 then 82 else if k = 2 then 81 else 0
/-- so many bytes has a page on the chip -/
def rawOf (y : Nat) : Nat := (y / 8 + 3) * 9
def takesB (s : St) (p : ByteArray) : Bool := p.size == rawOf s.Y
def newSt (l y : Nat) : St := ⟨l, y, 0, 0, false, false, 0, 0, List.replicate (3 * l) ByteArray.empty, List.replicate (3 * l) false⟩
def NewOk (l y : Int) : Prop := LinesOk l ∧ 0 ≤ y ∧ LenOk y.toNat
instance (l y : Int) : Decidable (NewOk l y) := by unfold NewOk LinesOk; infer_instance

def ProgOk (s : St) (line : Int) (p : ByteArray) : Prop := s.bad = false ∧ s.torn = false ∧ s.mode ≠ 2 ∧ line = s.done ∧ line < s.L ∧ takesB s p = true
instance (s : St) (line : Int) (p : ByteArray) : Decidable (ProgOk s line p) := by unfold ProgOk; infer_instance
def stepSt (s : St) (m : Int) : St := { s with mode := m, done := s.done + 1 }
def progSt (s : St) (line : Int) (p : ByteArray) (k a b : Int) : St :=
  if ProgOk s line p then endSt (putSt (stepSt s 1) (3 * line.toNat) (pageT p k a b) (hurtsB k)) k else s
def progC (s : St) (line : Int) (p : ByteArray) (k : Int) : Int := if ProgOk s line p then endC k else 80

def pageAt (s : St) (j : Nat) : ByteArray := s.ps.getD j ByteArray.empty
def TwoOk (s : St) (line : Int) (p q r : ByteArray) (f : Bool) : Prop :=
  s.bad = false ∧ s.torn = false ∧ s.mode ≠ 1 ∧ s.done < 2 * s.L ∧ line = ((stepC s.L s.done).1 : Nat) ∧ f = (stepC s.L s.done).2 ∧ takesB s p = true ∧ takesB s q = true ∧ takesB s r = true
    ∧ (f = true → pageAt s (3 * line.toNat) = p ∧ pageAt s (3 * line.toNat + 1) = q ∧ pageAt s (3 * line.toNat + 2) = r)
instance (s : St) (line : Int) (p q r : ByteArray) (f : Bool) : Decidable (TwoOk s line p q r f) := by unfold TwoOk; infer_instance
def put3 (s : St) (i : Nat) (p q r : ByteArray) (k a b : Int) : Nat → St
  | 0 => s
  | 1 => putSt s i (pageT p k a b) (hurtsB k)
  | 2 => putSt (putSt s i (pageT p k a b) (hurtsB k)) (i + 1) (pageT q k a b) (hurtsB k)
  | _ => putSt (putSt (putSt s i (pageT p k a b) (hurtsB k)) (i + 1) (pageT q k a b) (hurtsB k)) (i + 2) (pageT r k a b) (hurtsB k)
def twoSt (s : St) (line : Int) (p q r : ByteArray) (f : Bool) (k a b : Int) : St :=
  if TwoOk s line p q r f then endSt (put3 (stepSt s 2) (3 * line.toNat) p q r k a b 3) k else s
def twoC (s : St) (line : Int) (p q r : ByteArray) (f : Bool) (k : Int) : Int := if TwoOk s line p q r f then endC k else 80

/-- what page j is read as, and whether it is hurt already -/
def isFog (s : St) (j : Nat) : Bool := s.mode == 2 && afterC s.L s.done (j / 3) == 1
def atT (s : St) (j : Nat) : ByteArray :=
  if pageAt s j = ByteArray.empty then blankS s.Y else if s.hs.getD j false = true then pageAt s j else if isFog s j = true then hurtT (pageAt s j) 0 0 else pageAt s j
def atH (s : St) (j : Nat) : Bool :=
  if pageAt s j = ByteArray.empty then false else if s.hs.getD j false = true then true else isFog s j
def ReadOk (s : St) (line part : Int) : Prop := 0 ≤ line ∧ line < s.L ∧ 0 ≤ part ∧ part ≤ 2 ∧ ¬ (s.mode = 1 ∧ part ≠ 0)
instance (s : St) (line part : Int) : Decidable (ReadOk s line part) := by unfold ReadOk; infer_instance
def readT (s : St) (line part : Int) : ByteArray := if ReadOk s line part then atT s (3 * line.toNat + part.toNat) else ByteArray.empty
def readC (s : St) (line part : Int) : Int := if ReadOk s line part then 0 else 80

/-- the count of its mode is one more -/
def moreSt (s : St) : St := if s.mode = 2 then { s with tlc := s.tlc + 1 } else { s with slc := s.slc + 1 }
def ruinT (s : St) (a b k : Int) (j : Nat) : ByteArray := if atH s j = true then atT s j else pageT (atT s j) k a b
/-- the first n pages of s hurt, in the place of those of t -/
def ruinTo (s t : St) (a b k : Int) : Nat → St
  | 0 => t
  | n + 1 => putSt (ruinTo s t a b k n) n (ruinT s a b k n) true
def slcSt (s : St) : St := if s.mode = 0 then { s with mode := 1 } else s
def eraseSt (s : St) (k a b : Int) : St :=
  if s.bad = true then s
  else if hurtsB k = true then endSt (slcSt (ruinTo (moreSt s) (moreSt s) a b k (3 * s.L))) k
  else { newSt s.L s.Y with slc := (moreSt s).slc, tlc := (moreSt s).tlc }
def eraseC (s : St) (k : Int) : Int := if s.bad = true then 80 else endC k

/-- cells -/
def cv (s : St) (g c h d : Nat) : Array Value := #[.int .i64 s.L, .int .i64 s.Y, .int .i64 s.mode, .int .i64 s.done, .bool s.bad, .bool s.torn, .int .i64 s.slc, .int .i64 s.tlc, .slice (some ⟨g, 0, none⟩) (3 * s.L) c, .slice (some ⟨h, 0, none⟩) (3 * s.L) d]
/-- no cell -/
def zv : Array Value := #[.int .i64 0, .int .i64 0, .int .i64 0, .int .i64 0, .bool false, .bool false, .int .i64 0, .int .i64 0, .slice none 0 0, .slice none 0 0]
def fv (x k a b : Int) : Array Value := #[.int .i64 x, .int .i64 k, .int .i64 a, .int .i64 b]
/-- a slice whose cells lie in block g, from its front on -/
def RdSl (w : World) (g cap : Nat) (cs : List Value) : Prop := cs.length ≤ cap ∧ ∀ j, j < cs.length → w.cell? ⟨g, j, none⟩ = cs[j]?
def strs (l : List ByteArray) : List Value := l.map Value.string
def bls (l : List Bool) : List Value := l.map Value.bool
/-- the reference's value of a cell -/
def RAt (w : World) (s : St) (g c h d : Nat) : Prop := RdSl w g c (strs s.ps) ∧ RdSl w h d (bls s.hs)

theorem RdSl.keep {w w' : World} {g c : Nat} {cs : List Value} (h : RdSl w g c cs) (hg : w'.heap[g]? = w.heap[g]?) : RdSl w' g c cs := by
  obtain ⟨h2, h3⟩ := h
  refine ⟨h2, fun j hj => ?_⟩
  rw [← h3 j hj]
  simp only [World.cell?, hg]
theorem RdSl.lt {w : World} {g c : Nat} {cs : List Value} (h : RdSl w g c cs) (h0 : 0 < cs.length) : g < w.heap.size := by
  obtain ⟨h2, h3⟩ := h
  have h4 := h3 0 h0
  rw [List.getElem?_eq_getElem h0] at h4
  exact cell_lt h4
theorem RdSl.below {w w' : World} {B g c : Nat} {cs : List Value} (h : RdSl w g c cs) (hb : Below B w w') (hg : g < B) : RdSl w' g c cs := h.keep (hb.block g hg)
theorem strs_length (l : List ByteArray) : (strs l).length = l.length := by simp [strs]
theorem bls_length (l : List Bool) : (bls l).length = l.length := by simp [bls]
theorem strs_get (l : List ByteArray) (j : Nat) (h : j < l.length) : (strs l)[j]? = some (.string (l.getD j ByteArray.empty)) := by simp [strs, h]
theorem bls_get (l : List Bool) (j : Nat) (h : j < l.length) : (bls l)[j]? = some (.bool (l.getD j false)) := by simp [bls, h]
theorem RAt.lt {w : World} {s : St} {g c h d : Nat} (hr : RAt w s g c h d) (hw : WfSt s) : g < w.heap.size ∧ h < w.heap.size :=
  ⟨hr.1.lt (by rw [strs_length, hw.psl]; have := hw.l1; omega), hr.2.lt (by rw [bls_length, hw.hsl]; have := hw.l1; omega)⟩
theorem RAt.below {w w' : World} {s : St} {B g c h d : Nat} (hr : RAt w s g c h d) (hb : Below B w w') (hg : g < B) (hh : h < B) : RAt w' s g c h d := ⟨hr.1.below hb hg, hr.2.below hb hh⟩
theorem RAt.after {w w' : World} {s : St} {g c h d : Nat} (hr : RAt w s g c h d) (hw : WfSt s) (hb : Below w.heap.size w w') : RAt w' s g c h d := hr.below hb (hr.lt hw).1 (hr.lt hw).2
theorem RAt.keep {w w' : World} {s : St} {g c h d : Nat} (hr : RAt w s g c h d) (hg : w'.heap[g]? = w.heap[g]?) (hh : w'.heap[h]? = w.heap[h]?) : RAt w' s g c h d := ⟨hr.1.keep hg, hr.2.keep hh⟩
theorem RAt.page {w : World} {s : St} {g c h d : Nat} (hr : RAt w s g c h d) (hw : WfSt s) (j : Nat) (hj : j < 3 * s.L) : w.cell? ⟨g, j, none⟩ = some (.string (pageAt s j)) := by
  rw [hr.1.2 j (by rw [strs_length, hw.psl]; exact hj), strs_get _ _ (by rw [hw.psl]; exact hj)]; rfl
theorem RAt.mark {w : World} {s : St} {g c h d : Nat} (hr : RAt w s g c h d) (hw : WfSt s) (j : Nat) (hj : j < 3 * s.L) : w.cell? ⟨h, j, none⟩ = some (.bool (s.hs.getD j false)) := by
  rw [hr.2.2 j (by rw [bls_length, hw.hsl]; exact hj), bls_get _ _ (by rw [hw.hsl]; exact hj)]
theorem cv_one (s : St) (g c h d : Nat) : (cv s g c h d).all (·.oneCell') = true := by
  rw [Array.all_eq_true_iff_forall_mem]
  intro v hv
  simp [cv] at hv
  rcases hv with rfl | rfl | rfl | rfl | rfl | rfl | rfl | rfl | rfl | rfl <;> rfl
theorem fv_one (x k a b : Int) : (fv x k a b).all (·.oneCell') = true := by
  rw [Array.all_eq_true_iff_forall_mem]
  intro v hv
  simp [fv] at hv
  rcases hv with rfl | rfl | rfl | rfl <;> rfl

/-- what each act leaves can be -/
theorem hurtT_size (p : ByteArray) (a b : Int) : (hurtT p a b).size = p.size := by
  unfold hurtT
  split
  · rfl
  · have h1 : first72 a < 72 := by unfold first72; omega
    have h2 : second72 a b < 72 := by unfold second72; omega
    have h3 : (flipS p (first72 a / 8) (first72 a % 8)).size = p.size := flipS_size _ _ _ (by omega)
    rw [flipS_size _ _ _ (by rw [h3]; omega), h3]
theorem pageT_size (p : ByteArray) (k a b : Int) : (pageT p k a b).size = p.size := by
  unfold pageT
  split
  · exact hurtT_size p a b
  · rfl
theorem getD_set_size {l : List ByteArray} {i j : Nat} {p : ByteArray} {m : Nat} (h : ∀ j, (l.getD j ByteArray.empty).size ≤ m) (hp : p.size ≤ m) : ((l.set i p).getD j ByteArray.empty).size ≤ m := by
  rw [List.getD_eq_getElem?_getD, List.getElem?_set]
  split
  · split
    · simpa using hp
    · simp
  · rw [← List.getD_eq_getElem?_getD]; exact h j
theorem putSt_wf {s : St} (h : WfSt s) (i : Nat) {p : ByteArray} (hb : Bool) (hp : p.size ≤ 400) : WfSt (putSt s i p hb) := by
  obtain ⟨h1, h2, h3, h4, h5, h6, h7, h8, h9, h10⟩ := h
  exact ⟨h1, h2, h3, h4, by simp [putSt, h5], by simp [putSt, h6], fun j => getD_set_size h7 hp, h8, h9, h10⟩
theorem endSt_wf {s : St} (h : WfSt s) (k : Int) : WfSt (endSt s k) := by
  unfold endSt
  split
  · obtain ⟨h1, h2, h3, h4, h5, h6, h7, h8, h9, h10⟩ := h
    exact ⟨h1, h2, h3, h4, h5, h6, h7, h8, h9, h10⟩
  · split
    · obtain ⟨h1, h2, h3, h4, h5, h6, h7, h8, h9, h10⟩ := h
      exact ⟨h1, h2, h3, h4, h5, h6, h7, h8, h9, h10⟩
    · exact h
theorem stepSt_wf {s : St} (h : WfSt s) {m : Int} (hm : m = 1 ∨ m = 2) (hd : s.done < 2 * s.L) : WfSt (stepSt s m) := by
  obtain ⟨h1, h2, h3, h4, h5, h6, h7, h8, h9, h10⟩ := h
  exact ⟨h1, h2, h3, by show s.done + 1 ≤ 2 * s.L; omega, h5, h6, h7, by rcases hm with rfl | rfl <;> simp [stepSt], h9, h10⟩
theorem rawOf_le {y : Nat} (h : LenOk y) : rawOf y ≤ 400 := by
  obtain ⟨h1, h2, h3⟩ := h
  unfold rawOf; omega
theorem takes_size {s : St} (h : WfSt s) {p : ByteArray} (ht : takesB s p = true) : p.size ≤ 400 := by
  have := rawOf_le h.y
  unfold takesB at ht
  simp at ht
  omega

end Go.Proofs.YtjmoecfgpfdncaaDoor

/- The reference of layer 5, walked: May, Rest, Hurt, Blank, Erased. -/
namespace Go.Proofs.YtjmoecfgpfdncaaDoor
set_option maxRecDepth 100000
open Go.RowKit

end Go.Proofs.YtjmoecfgpfdncaaDoor

/- The reference of layer 5, walked: Blank, Erased. -/
namespace Go.Proofs.YtjmoecfgpfdncaaDoor
set_option maxRecDepth 100000
open Go.RowKit

theorem rel_blank {w wr w1 : World} {b : Value} {k : Nat} (ho : w1.ownsRow w.heap.size 5 1 b (k + 1) (List.replicate k (Value.int .u8 255) ++ [.int .u8 255]))
    (hb : Below w.heap.size w wr) (hg : Below w.heap.size wr w1) :
    w1.ownsRow w.heap.size 5 1 b (k + 1) ((List.replicate (k + 1) (255 : Int)).map (Value.int .u8)) ∧ Below w.heap.size w w1 := by
  refine ⟨?_, hb.trans hg⟩
  rw [List.replicate_succ', List.map_append, List.map_replicate]; exact ho
theorem blank_str (m : Nat) : strOfNums (List.replicate m (255 : Int)) = ⟨(List.replicate m 255).toArray⟩ := by
  apply strOfNums_eq
  rw [List.map_replicate]; rfl

theorem zs_piece (s : ByteArray) (k : Nat) : zsTo (piece s 9 k) (piece s 9 k).size = zs (piece s 9 k).data.toList := by
  unfold zsTo
  rw [List.take_of_length_le (by simp)]
theorem blank_no {s : ByteArray} {k c : Nat} (h : blankTo s k = false) (hc : k ≤ c) : blankTo s c = false := by
  induction c with
  | zero => rw [← Nat.le_zero.1 hc]; exact h
  | succ c ih =>
    by_cases e : k = c + 1
    · rw [← e]; exact h
    · show (blankTo s c && _) = false
      rw [ih (by omega)]; rfl
end Go.Proofs.YtjmoecfgpfdncaaDoor
