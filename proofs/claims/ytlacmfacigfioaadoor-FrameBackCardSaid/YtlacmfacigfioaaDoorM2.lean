/- Texts of one claim, merged: Ref1T, HamM, HamT, Ref1P, TagM, Ref1Z, FrM, FrR1, FrR2, TagR. -/
import Derived.Test.YtlacmfacigfioaaDoorM1
import Derived.Handy
import Derived.Laws.BytesArg
import Derived.OwnWalk
import Derived.Deep.RegionHeld3

/- Texts with a bit turned, and a text as one number: what turning a bit does to it. -/
namespace Go.Proofs.YtlacmfacigfioaaDoor
open Go.RowKit

/-- a byte with one bit the other way -/
def fb (c : UInt8) (j : Nat) : UInt8 := UInt8.ofNat (bits .xor .u8 (c.toNat : Int) (2 ^ j % 256)).toNat
theorem fb_fb (c : UInt8) (j : Nat) (hj : j < 8) : fb (fb c j) j = c := by
  have h : ∀ n, n < 256 → ∀ j, j < 8 → fb (fb (UInt8.ofNat n) j) j = UInt8.ofNat n := by decide +kernel
  have := h _ c.toNat_lt j hj
  rwa [UInt8.ofNat_toNat] at this
theorem fb_comm (c : UInt8) (j k : Nat) (hj : j < 8) (hk : k < 8) : fb (fb c j) k = fb (fb c k) j := by
  have h : ∀ n, n < 256 → ∀ j, j < 8 → ∀ k, k < 8 → fb (fb (UInt8.ofNat n) j) k = fb (fb (UInt8.ofNat n) k) j := by decide +kernel
  have := h _ c.toNat_lt j hj k hk
  rwa [UInt8.ofNat_toNat] at this
theorem fb_ne (c : UInt8) (j k : Nat) (hj : j < 8) (hk : k < 8) (h0 : fb (fb c j) k = c) : j = k := by
  have h : ∀ n, n < 256 → ∀ j, j < 8 → ∀ k, k < 8 → fb (fb (UInt8.ofNat n) j) k = UInt8.ofNat n → j = k := by decide +kernel
  have := h _ c.toNat_lt j hj k hk
  rw [UInt8.ofNat_toNat] at this
  exact this h0
theorem fb_self (c : UInt8) (j : Nat) (hj : j < 8) : fb c j ≠ c := by
  have h : ∀ n, n < 256 → ∀ j, j < 8 → fb (UInt8.ofNat n) j ≠ UInt8.ofNat n := by decide +kernel
  have := h _ c.toNat_lt j hj
  rwa [UInt8.ofNat_toNat] at this
/-- the same of a list of bytes -/
def fl (l : List UInt8) (i j : Nat) : List UInt8 := l.set i (fb (l.getD i 0) j)
theorem fl_length (l : List UInt8) (i j : Nat) : (fl l i j).length = l.length := by simp [fl]
theorem fl_get (l : List UInt8) (i j k : Nat) (hk : k < l.length) : (fl l i j).getD k 0 = if i = k then fb (l.getD i 0) j else l.getD k 0 := by
  unfold fl
  by_cases h : i = k
  · subst h; simp [List.getD, hk]
  · simp [List.getD, h]
theorem list_ext {a b : List UInt8} (h : a.length = b.length) (h2 : ∀ k, k < a.length → a.getD k 0 = b.getD k 0) : a = b := by
  apply List.ext_getElem h
  intro k h3 h4
  have := h2 k h3
  simpa [List.getD, h3, h4] using this
theorem fl_fl (l : List UInt8) (i j : Nat) (hi : i < l.length) (hj : j < 8) : fl (fl l i j) i j = l := by
  apply list_ext (by rw [fl_length, fl_length])
  intro k hk
  rw [fl_length, fl_length] at hk
  rw [fl_get _ _ _ _ (by rw [fl_length]; exact hk), fl_get _ _ _ _ hi, if_pos rfl, fl_get _ _ _ _ hk]
  split
  · subst_vars; exact fb_fb _ _ hj
  · rfl
theorem fl_comm (l : List UInt8) (i j i' j' : Nat) (hi : i < l.length) (hi' : i' < l.length) (hj : j < 8) (hj' : j' < 8) : fl (fl l i j) i' j' = fl (fl l i' j') i j := by
  apply list_ext (by simp only [fl_length])
  intro k hk
  simp only [fl_length] at hk
  rw [fl_get (fl l i j) i' j' k (by rw [fl_length]; exact hk), fl_get (fl l i' j') i j k (by rw [fl_length]; exact hk), fl_get l i j i' hi', fl_get l i' j' i hi, fl_get l i j k hk, fl_get l i' j' k hk]
  by_cases h1 : i = i'
  · subst h1
    by_cases h2 : i = k
    · simp only [h2, if_true]; exact fb_comm _ _ _ hj hj'
    · simp only [h2, if_false]
  · by_cases h2 : i' = k
    · subst h2; simp only [if_true, h1, if_false]
    · by_cases h3 : i = k
      · subst h3; simp only [h2, if_true, if_false, h1]
      · simp only [h2, h3, if_false]
theorem fl_ne (l : List UInt8) (i j i' j' : Nat) (hi : i < l.length) (hi' : i' < l.length) (hj : j < 8) (hj' : j' < 8) (h : fl (fl l i j) i' j' = l) : i = i' ∧ j = j' := by
  have h1 : (fl (fl l i j) i' j').getD i 0 = l.getD i 0 := by rw [h]
  rw [fl_get _ _ _ _ (by rw [fl_length]; exact hi), fl_get _ _ _ _ hi', fl_get _ _ _ _ hi] at h1
  by_cases h2 : i = i'
  · subst h2
    simp only [if_true] at h1
    exact ⟨rfl, fb_ne _ _ _ hj hj' h1⟩
  · simp only [if_true, Ne.symm h2, if_false] at h1
    exact absurd h1 (fb_self _ _ hj)
theorem flipS_eq (s : ByteArray) (i j : Nat) (hi : i < s.size) : flipS s i j = ⟨(fl s.data.toList i j).toArray⟩ := by
  unfold flipS
  apply strOfNums_eq
  rw [nums_get s i hi, List.map_set]
  have e : (nums s).map (fun n : Int => UInt8.ofNat n.toNat) = s.data.toList := by
    unfold nums
    rw [List.map_map]
    have e : ((fun n : Int => UInt8.ofNat n.toNat) ∘ fun b : UInt8 => (b.toNat : Int)) = id := by funext b; simp
    rw [e, List.map_id]
  rw [e]
  unfold fl fb
  have hg : s.data.toList.getD i 0 = s[i] := by simp [List.getD, hi]; rfl
  rw [hg]
theorem flipS_list (s : ByteArray) (i j : Nat) (hi : i < s.size) : (flipS s i j).data.toList = fl s.data.toList i j := by rw [flipS_eq s i j hi]
theorem flipS_size (s : ByteArray) (i j : Nat) (hi : i < s.size) : (flipS s i j).size = s.size := by
  have h : (flipS s i j).data.toList.length = s.data.toList.length := by rw [flipS_list s i j hi, fl_length]
  simpa using h
theorem bytes_ext {a b : ByteArray} (h : a.data.toList = b.data.toList) : a = b := by
  cases a; cases b
  simp only at h
  congr 1
  exact Array.toList_inj.1 h
theorem len_list (s : ByteArray) : s.data.toList.length = s.size := by simp
theorem flipS_twice (s : ByteArray) (i j : Nat) (hi : i < s.size) (hj : j < 8) : flipS (flipS s i j) i j = s := by
  apply bytes_ext
  rw [flipS_list _ _ _ (by rw [flipS_size s i j hi]; exact hi), flipS_list s i j hi, fl_fl _ _ _ (by rw [len_list]; exact hi) hj]
theorem flipS_comm (s : ByteArray) (i j i' j' : Nat) (hi : i < s.size) (hi' : i' < s.size) (hj : j < 8) (hj' : j' < 8) : flipS (flipS s i j) i' j' = flipS (flipS s i' j') i j := by
  apply bytes_ext
  rw [flipS_list _ _ _ (by rw [flipS_size s i j hi]; exact hi'), flipS_list s i j hi, flipS_list _ _ _ (by rw [flipS_size s i' j' hi']; exact hi), flipS_list s i' j' hi']
  exact fl_comm _ _ _ _ _ (by rw [len_list]; exact hi) (by rw [len_list]; exact hi') hj hj'
theorem flipS_ne (s : ByteArray) (i j i' j' : Nat) (hi : i < s.size) (hi' : i' < s.size) (hj : j < 8) (hj' : j' < 8) (h : (flipS (flipS s i j) i' j').data.toList = s.data.toList) : i = i' ∧ j = j' := by
  rw [flipS_list _ _ _ (by rw [flipS_size s i j hi]; exact hi'), flipS_list s i j hi] at h
  exact fl_ne _ _ _ _ _ (by rw [len_list]; exact hi) (by rw [len_list]; exact hi') hj hj' h

/-- a text's bytes -/
theorem bs_inj {a b : ByteArray} (h : bs a = bs b) : a = b := bytes_ext h
theorem numN_bit : ∀ (l : List UInt8) (k j : Nat) (c : UInt8), l[k]? = some c → j < 8 → (numN l).testBit (8 * k + j) = c.toNat.testBit j
  | [], k, j, c, h, _ => by simp at h
  | b :: l, 0, j, c, h, hj => by
    simp at h; subst h
    have hb : b.toNat < 2 ^ 8 := b.toNat_lt
    rw [show numN (b :: l) = 2 ^ 8 * numN l + b.toNat by simp only [numN]; omega, Nat.testBit_two_pow_mul_add _ hb, if_pos (by omega), show 8 * 0 + j = j by omega]
  | b :: l, k + 1, j, c, h, hj => by
    have hb : b.toNat < 2 ^ 8 := b.toNat_lt
    rw [show numN (b :: l) = 2 ^ 8 * numN l + b.toNat by simp only [numN]; omega, Nat.testBit_two_pow_mul_add _ hb, if_neg (by omega), show 8 * (k + 1) + j - 8 = 8 * k + j by omega]
    exact numN_bit l k j c (by simpa using h) hj
theorem str_bit (s : ByteArray) (k j : Nat) (hk : k < s.size) (hj : j < 8) : (numN (bs s)).testBit (8 * k + j) = s[k].toNat.testBit j :=
  numN_bit _ k j _ (by simp [bs, hk]; rfl) hj
theorem fb_bit (c : UInt8) (j t : Nat) (hj : j < 8) (ht : t < 8) : (fb c j).toNat.testBit t = (c.toNat.testBit t ^^ decide (j = t)) := by
  have h : ∀ n, n < 256 → ∀ j, j < 8 → ∀ t, t < 8 → (fb (UInt8.ofNat n) j).toNat.testBit t = ((UInt8.ofNat n).toNat.testBit t ^^ decide (j = t)) := by decide +kernel
  have := h _ c.toNat_lt j hj t ht
  rwa [UInt8.ofNat_toNat] at this
/-- a bit turned is a power of two put to the number -/
theorem numN_fl (l : List UInt8) (i j : Nat) (hi : i < l.length) (hj : j < 8) : numN (fl l i j) = numN l ^^^ 2 ^ (8 * i + j) := by
  apply Nat.eq_of_testBit_eq
  intro t
  rw [Nat.testBit_xor, Nat.testBit_two_pow]
  obtain ⟨k, r, rfl, hr⟩ : ∃ k r, t = 8 * k + r ∧ r < 8 := ⟨t / 8, t % 8, by omega, by omega⟩
  by_cases hk : k < l.length
  · have hg := fl_get l i j k hk
    have h1 : (fl l i j)[k]? = some ((fl l i j).getD k 0) := by simp [List.getD, fl_length, hk]
    have h2 : l[k]? = some (l.getD k 0) := by simp [List.getD, hk]
    rw [numN_bit _ k r _ h1 hr, numN_bit _ k r _ h2 hr, hg]
    by_cases e : i = k
    · subst e
      rw [if_pos rfl, fb_bit _ _ _ hj hr]
      congr 1
      exact decide_eq_decide.2 ⟨fun h => by omega, fun h => by omega⟩
    · rw [if_neg e, decide_eq_false (by omega)]; simp
  · have b1 := numN_lt (fl l i j)
    have b2 := numN_lt l
    rw [fl_length] at b1
    have z1 : (numN (fl l i j)).testBit (8 * k + r) = false := Nat.testBit_lt_two_pow (Nat.lt_of_lt_of_le b1 (Nat.pow_le_pow_right (by decide) (by omega)))
    have z2 : (numN l).testBit (8 * k + r) = false := Nat.testBit_lt_two_pow (Nat.lt_of_lt_of_le b2 (Nat.pow_le_pow_right (by decide) (by omega)))
    rw [z1, z2, decide_eq_false (by omega)]; rfl
theorem numN_flip (s : ByteArray) (i j : Nat) (hi : i < s.size) (hj : j < 8) : numN (bs (flipS s i j)) = numN (bs s) ^^^ 2 ^ (8 * i + j) := by
  unfold bs
  rw [flipS_list s i j hi]
  exact numN_fl _ i j (by rw [len_list]; exact hi) hj

end Go.Proofs.YtlacmfacigfioaaDoor

/- Plain arithmetic for layer 3: the places of bits, put together, and how many bits there are. No Go in sight. -/
namespace Go.Proofs.YtlacmfacigfioaaDoor

def pl : List Nat := [3, 5, 6, 7, 9, 10, 11, 12, 13, 14, 15, 17, 18, 19, 20, 21, 22, 23, 24, 25, 26, 27, 28, 29, 30, 31, 33, 34, 35, 36, 37, 38, 39, 40, 41, 42, 43, 44, 45, 46, 47, 48, 49, 50, 51, 52, 53, 54, 55, 56, 57, 58, 59, 60, 61, 62, 63, 65, 66, 67, 68, 69, 70, 71, 1, 2, 4, 8, 16, 32, 64, 0]
def place (i : Nat) : Nat := pl.getD i 0
theorem place_le (i : Nat) : place i ≤ 71 := by
  by_cases h : i < 72
  · have h2 : ∀ i, i < 72 → place i ≤ 71 := by decide +kernel
    exact h2 i h
  · unfold place
    have h3 : pl[i]? = none := List.getElem?_eq_none (by show pl.length ≤ i; rw [show pl.length = 72 from rfl]; omega)
    rw [List.getD_eq_getElem?_getD, h3]; decide
theorem place_inj {i j : Nat} (hi : i < 72) (hj : j < 72) (h : place i = place j) : i = j := by
  have h2 : ∀ i, i < 72 → ∀ j, j < 72 → place i = place j → i = j := by decide +kernel
  exact h2 i hi j hj h
/-- where a place stands among the 72 -/
def idx (p : Nat) : Nat := pl.idxOf p
theorem idx_place {k : Nat} (hk : k < 72) : idx (place k) = k := by
  have h2 : ∀ k, k < 72 → idx (place k) = k := by decide +kernel
  exact h2 k hk
theorem place_idx {p : Nat} (hp : p ≤ 71) : idx p < 72 ∧ place (idx p) = p := by
  have h2 : ∀ p, p < 72 → idx p < 72 ∧ place (idx p) = p := by decide +kernel
  exact h2 p (by omega)

/-- what is left of the places of the bits below n that are 1 -/
def left (M : Nat) : Nat → Nat
  | 0 => 0
  | n + 1 => left M n ^^^ (if M.testBit n then place n else 0)
/-- how many bits below n are 1 -/
def cnt (M : Nat) : Nat → Nat
  | 0 => 0
  | n + 1 => cnt M n + (if M.testBit n then 1 else 0)
theorem left_lt (M : Nat) : ∀ n, left M n < 128
  | 0 => by show (0 : Nat) < 128; decide
  | n + 1 => by
    have h := left_lt M n
    have h2 := place_le n
    unfold left
    refine Nat.xor_lt_two_pow (n := 7) h ?_
    split <;> omega
theorem cnt_le (M : Nat) : ∀ n, cnt M n ≤ n
  | 0 => Nat.le_refl _
  | n + 1 => by
    have h := cnt_le M n
    unfold cnt; split <;> omega
theorem left_xor (A B : Nat) : ∀ n, left (A ^^^ B) n = left A n ^^^ left B n
  | 0 => by show (0 : Nat) = 0 ^^^ 0; rfl
  | n + 1 => by
    have ih := left_xor A B n
    simp only [left, Nat.testBit_xor, ih]
    cases A.testBit n <;> cases B.testBit n <;> simp
    · ac_rfl
    · ac_rfl
    · rw [show left A n ^^^ place n ^^^ (left B n ^^^ place n) = (left A n ^^^ left B n) ^^^ (place n ^^^ place n) by ac_rfl, Nat.xor_self, Nat.xor_zero]
theorem cnt_xor (A B : Nat) : ∀ n, cnt (A ^^^ B) n % 2 = (cnt A n + cnt B n) % 2
  | 0 => rfl
  | n + 1 => by
    have ih := cnt_xor A B n
    simp only [cnt, Nat.testBit_xor]
    cases A.testBit n <;> cases B.testBit n <;> simp <;> omega
theorem cnt_congr {A B : Nat} : ∀ n, (∀ i, i < n → A.testBit i = B.testBit i) → cnt A n = cnt B n
  | 0, _ => rfl
  | n + 1, h => by
    simp only [cnt]
    rw [cnt_congr n (fun i hi => h i (by omega)), h n (by omega)]
theorem pow_testBit (k i : Nat) : (2 ^ k).testBit i = decide (k = i) := Nat.testBit_two_pow ..
theorem cnt_flip {M k : Nat} (hb : M.testBit k = true) : ∀ n, k < n → cnt M n = cnt (M ^^^ 2 ^ k) n + 1
  | 0, h => by omega
  | n + 1, h => by
    simp only [cnt, Nat.testBit_xor, pow_testBit]
    by_cases e : k = n
    · subst e
      rw [cnt_congr (A := M ^^^ 2 ^ k) (B := M) k (fun i hi => by rw [Nat.testBit_xor, pow_testBit, decide_eq_false (by omega)]; simp), hb]
      simp
    · rw [cnt_flip hb n (by omega), decide_eq_false e]
      simp; omega
theorem left_more (M n : Nat) : ∀ d, (∀ i, n ≤ i → i < n + d → M.testBit i = false) → left M (n + d) = left M n
  | 0, _ => rfl
  | d + 1, h => by
    show left M (n + d) ^^^ (if M.testBit (n + d) then place (n + d) else 0) = _
    rw [left_more M n d (fun i h1 h2 => h i h1 (by omega)), h (n + d) (by omega) (by omega)]; simp
theorem cnt_more (M n : Nat) : ∀ d, (∀ i, n ≤ i → i < n + d → M.testBit i = false) → cnt M (n + d) = cnt M n
  | 0, _ => rfl
  | d + 1, h => by
    show cnt M (n + d) + (if M.testBit (n + d) then 1 else 0) = _
    rw [cnt_more M n d (fun i h1 h2 => h i h1 (by omega)), h (n + d) (by omega) (by omega)]; simp
theorem high_nil {M n i : Nat} (h : M < 2 ^ n) (hi : n ≤ i) : M.testBit i = false :=
  Nat.testBit_lt_two_pow (Nat.lt_of_lt_of_le h (Nat.pow_le_pow_right (by decide) hi))
theorem left_64 {M : Nat} (h : M < 2 ^ 64) : left M 72 = left M 64 := left_more M 64 8 fun _ h1 _ => high_nil h h1
theorem cnt_64 {M : Nat} (h : M < 2 ^ 64) : cnt M 72 = cnt M 64 := cnt_more M 64 8 fun _ h1 _ => high_nil h h1
theorem left_pow {k : Nat} (hk : k < 72) : left (2 ^ k) 72 = place k := by
  have h2 : ∀ k, k < 72 → left (2 ^ k) 72 = place k := by decide +kernel
  exact h2 k hk
theorem cnt_pow {k : Nat} (hk : k < 72) : cnt (2 ^ k) 72 = 1 := by
  have h2 : ∀ k, k < 72 → cnt (2 ^ k) 72 = 1 := by decide +kernel
  exact h2 k hk
theorem check_left {c : Nat} (hc : c < 256) : left (2 ^ 64 * c) 72 = c % 128 := by
  have h2 : ∀ c, c < 256 → left (2 ^ 64 * c) 72 = c % 128 := by decide +kernel
  exact h2 c hc
theorem check_cnt {p q : Nat} (hp : p < 128) (hq : q < 2) : cnt (2 ^ 64 * (p + 128 * q)) 72 = cnt p 7 + q := by
  have h2 : ∀ p, p < 128 → ∀ q, q < 2 → cnt (2 ^ 64 * (p + 128 * q)) 72 = cnt p 7 + q := by decide +kernel
  exact h2 p hp q hq

/-- the check -/
def encN (M : Nat) : Nat := left M 64 + 128 * ((cnt M 64 + cnt (left M 64) 7) % 2)
theorem encN_lt (M : Nat) : encN M < 256 := by
  have := left_lt M 64
  unfold encN; omega
/-- eight bytes and their check, as one number -/
def word (M : Nat) : Nat := M ^^^ 2 ^ 64 * encN M
theorem word_left {M : Nat} (h : M < 2 ^ 64) : left (word M) 72 = 0 := by
  have h2 := left_lt M 64
  unfold word
  rw [left_xor, left_64 h, check_left (encN_lt M), show encN M % 128 = left M 64 by unfold encN; omega, Nat.xor_self]
theorem word_even {M : Nat} (h : M < 2 ^ 64) : cnt (word M) 72 % 2 = 0 := by
  unfold word
  rw [cnt_xor, cnt_64 h]
  unfold encN
  rw [check_cnt (left_lt M 64) (Nat.mod_lt _ (by decide))]
  omega
theorem word_lt {M : Nat} (h : M < 2 ^ 64) : word M < 2 ^ 72 := by
  have := encN_lt M
  unfold word
  exact Nat.xor_lt_two_pow (Nat.lt_trans h (by decide)) (by omega)
theorem word_inj {A B : Nat} (hA : A < 2 ^ 64) (hB : B < 2 ^ 64) (h : word A = word B) : A = B := by
  have h1 := congrArg (· % 2 ^ 64) h
  unfold word at h1
  rw [← add_xor _ _ _ hA, ← add_xor _ _ _ hB] at h1
  simp only [Nat.add_mul_mod_self_left, Nat.mod_eq_of_lt hA, Nat.mod_eq_of_lt hB] at h1
  exact h1
theorem one_left {M k : Nat} (h : M < 2 ^ 64) (hk : k < 72) : left (word M ^^^ 2 ^ k) 72 = place k := by
  rw [left_xor, word_left h, left_pow hk, Nat.zero_xor]
theorem one_odd {M k : Nat} (h : M < 2 ^ 64) (hk : k < 72) : cnt (word M ^^^ 2 ^ k) 72 % 2 = 1 := by
  have := word_even h
  rw [cnt_xor, cnt_pow hk]; omega
theorem xor_ne {a b : Nat} (h : a ≠ b) : a ^^^ b ≠ 0 := by
  intro h0
  apply h
  have := congrArg (· ^^^ b) h0
  simpa [Nat.xor_assoc] using this
theorem two_left {M i j : Nat} (h : M < 2 ^ 64) (hi : i < 72) (hj : j < 72) (hij : i ≠ j) : left (word M ^^^ 2 ^ i ^^^ 2 ^ j) 72 ≠ 0 := by
  rw [left_xor, one_left h hi, left_pow hj]
  exact xor_ne fun e => hij (place_inj hi hj e)
theorem two_even {M i j : Nat} (h : M < 2 ^ 64) (hi : i < 72) (hj : j < 72) : cnt (word M ^^^ 2 ^ i ^^^ 2 ^ j) 72 % 2 = 0 := by
  have := one_odd h hi
  rw [cnt_xor, cnt_pow hj]; omega
theorem some_bit {D n : Nat} (h : D < 2 ^ n) (h0 : D ≠ 0) : ∃ i, i < n ∧ D.testBit i = true := by
  obtain ⟨i, hi⟩ := Nat.exists_testBit_of_ne_zero h0
  refine ⟨i, ?_, hi⟩
  rcases Nat.lt_or_ge i n with h1 | h1
  · exact h1
  · rw [high_nil h h1] at hi; cases hi
theorem flip_lt {D n i : Nat} (h : D < 2 ^ n) (hi : i < n) : D ^^^ 2 ^ i < 2 ^ n := Nat.xor_lt_two_pow h (Nat.pow_lt_pow_right (by decide) hi)
theorem cnt_zero : ∀ n, cnt 0 n = 0
  | 0 => rfl
  | n + 1 => by simp [cnt, cnt_zero n]
theorem apart {D : Nat} (h : D < 2 ^ 72) (h0 : D ≠ 0) (hl : left D 72 = 0) (he : cnt D 72 % 2 = 0) : 4 ≤ cnt D 72 := by
  obtain ⟨i, hi, bi⟩ := some_bit h h0
  have c1 := cnt_flip bi 72 hi
  have l1 := flip_lt h hi
  have n1 : D ^^^ 2 ^ i ≠ 0 := by
    intro e; rw [e, cnt_zero] at c1; omega
  obtain ⟨j, hj, bj⟩ := some_bit l1 n1
  have c2 := cnt_flip bj 72 hj
  have l2 := flip_lt l1 hj
  have hij : i ≠ j := by
    intro e; subst e
    rw [Nat.testBit_xor, bi, pow_testBit] at bj; simp at bj
  have n2 : D ^^^ 2 ^ i ^^^ 2 ^ j ≠ 0 := by
    intro e
    have h3 := left_xor (D ^^^ 2 ^ i) (2 ^ j) 72
    rw [left_xor D, hl, left_pow hi, left_pow hj, e, Nat.zero_xor, show left 0 72 = 0 by decide +kernel] at h3
    exact xor_ne (fun e2 => hij (place_inj hi hj e2)) h3.symm
  obtain ⟨k, hk, bk⟩ := some_bit l2 n2
  have c3 := cnt_flip bk 72 hk
  omega
theorem words_apart {A B : Nat} (hA : A < 2 ^ 64) (hB : B < 2 ^ 64) (h : A ≠ B) : 4 ≤ cnt (word A ^^^ word B) 72 := by
  refine apart (Nat.xor_lt_two_pow (word_lt hA) (word_lt hB)) (xor_ne fun e => h (word_inj hA hB e)) ?_ ?_
  · rw [left_xor, word_left hA, word_left hB]; rfl
  · rw [cnt_xor]; have := word_even hA; have := word_even hB; omega

/-- the numbers of the bits that are 1 -/
def onesL (M : Nat) : Nat → List Nat
  | 0 => []
  | n + 1 => onesL M n ++ (if M.testBit n then [n] else [])
theorem onesL_length (M : Nat) : ∀ n, (onesL M n).length = cnt M n
  | 0 => rfl
  | n + 1 => by simp only [onesL, cnt, List.length_append, onesL_length M n]; split <;> rfl
theorem onesL_lt (M : Nat) : ∀ n i, i ∈ onesL M n → i < n
  | 0, i, h => by simp [onesL] at h
  | n + 1, i, h => by
    simp only [onesL, List.mem_append] at h
    rcases h with h | h
    · have := onesL_lt M n i h; omega
    · split at h <;> simp at h; omega
def leftL (l : List Nat) : Nat := l.foldl (fun a i => a ^^^ place i) 0
theorem leftL_snoc (l : List Nat) (i : Nat) : leftL (l ++ [i]) = leftL l ^^^ place i := by unfold leftL; rw [List.foldl_append]; rfl
theorem leftL_ones (M : Nat) : ∀ n, leftL (onesL M n) = left M n
  | 0 => rfl
  | n + 1 => by
    have ih := leftL_ones M n
    simp only [onesL, left]
    split
    · rw [leftL_snoc, ih]
    · rw [List.append_nil, ih, Nat.xor_zero]
theorem leftL_lt (l : List Nat) : leftL l < 128 := by
  unfold leftL
  suffices h : ∀ (l : List Nat) (a : Nat), a < 128 → l.foldl (fun a i => a ^^^ place i) a < 128 from h l 0 (by decide)
  intro l
  induction l with
  | nil => intro a h; exact h
  | cons i l ih => intro a h; exact ih _ (Nat.xor_lt_two_pow (n := 7) h (by have := place_le i; omega))
theorem ones_check {M : Nat} (h : M < 2 ^ 64) : onesL M 72 = onesL M 64 := by
  have h2 : ∀ d, d ≤ 8 → onesL M (64 + d) = onesL M 64 := by
    intro d
    induction d with
    | zero => intro _; rfl
    | succ d ih => intro hd; show onesL M (64 + d) ++ (if M.testBit (64 + d) then [64 + d] else []) = _; rw [ih (by omega), high_nil h (by omega)]; simp
  exact h2 8 (by omega)

end Go.Proofs.YtlacmfacigfioaaDoor

/- Layer 3 of texts: what the document asks of Encode and Decode, and what follows from it. -/
namespace Go.Proofs.YtlacmfacigfioaaDoor
open Go.RowKit

/-- eight bytes and their check -/
def encS (s : ByteArray) : ByteArray := ⟨(bs s ++ [UInt8.ofNat (encN (numN (bs s)))]).toArray⟩
theorem encS_size (s : ByteArray) : (encS s).size = s.size + 1 := by
  show (bs s ++ [UInt8.ofNat (encN (numN (bs s)))]).toArray.size = _
  simp [bs]
theorem num_lt (s : ByteArray) (h : s.size = 8) : numN (bs s) < 2 ^ 64 := by
  have := numN_lt (bs s)
  rwa [bs_length, h] at this
theorem num_lt9 (s : ByteArray) (h : s.size = 9) : numN (bs s) < 2 ^ 72 := by
  have := numN_lt (bs s)
  rwa [bs_length, h] at this
theorem num_enc (s : ByteArray) (h : s.size = 8) : numN (bs (encS s)) = word (numN (bs s)) := by
  show numN (bs s ++ [UInt8.ofNat (encN (numN (bs s)))]) = _
  have hc := encN_lt (numN (bs s))
  have hn : numN [UInt8.ofNat (encN (numN (bs s)))] = encN (numN (bs s)) := by
    show (UInt8.ofNat (encN (numN (bs s)))).toNat + 256 * 0 = _
    simp; omega
  rw [numN_append, bs_length, h, hn]
  exact add_xor _ _ _ (num_lt s h)
theorem enc_cat (s : ByteArray) (c : Int) (h : c = (encN (numN (bs s)) : Nat)) : s ++ strOfNums [c] = encS s := by
  subst h
  rw [strOfNums_eq [((encN (numN (bs s)) : Nat) : Int)] [UInt8.ofNat (encN (numN (bs s)))] (by simp)]
  apply bytes_ext
  rw [ByteArray.data_append, Array.toList_append]
  rfl
theorem take_ext (t : ByteArray) (n : Nat) : bs (t.extract 0 n) = (bs t).take n := by
  unfold bs; rw [ByteArray.data_extract]; simp
theorem enc_ext (s : ByteArray) (h : s.size = 8) : (encS s).extract 0 8 = s := by
  apply bs_inj
  rw [take_ext]
  show (bs s ++ [_]).take 8 = bs s
  rw [← h, ← bs_length, List.take_left]

/-- the eight bytes with the bit of this place turned, if it is theirs -/
def fixS (s : ByteArray) (p : Nat) : ByteArray := if idx p < 64 then (flipS s (idx p / 8) (idx p % 8)).extract 0 8 else s.extract 0 8
/-- what is decoded: the bytes, and what they are -/
def decS (s : ByteArray) : ByteArray × Nat :=
  if cnt (numN (bs s)) 72 % 2 = 0 then (if left (numN (bs s)) 72 = 0 then (s.extract 0 8, 2) else (ByteArray.empty, 4))
  else if 71 < left (numN (bs s)) 72 then (ByteArray.empty, 4) else (fixS s (left (numN (bs s)) 72), 3)
theorem dec_enc (s : ByteArray) (h : s.size = 8) : decS (encS s) = (s, 2) := by
  unfold decS
  rw [num_enc s h, if_pos (word_even (num_lt s h)), if_pos (word_left (num_lt s h)), enc_ext s h]
theorem num_one (s : ByteArray) (h : s.size = 8) (i j : Nat) (hi : i < 9) (hj : j < 8) : numN (bs (flipS (encS s) i j)) = word (numN (bs s)) ^^^ 2 ^ (8 * i + j) := by
  rw [numN_flip _ _ _ (by rw [encS_size]; omega) hj, num_enc s h]
theorem dec_one (s : ByteArray) (h : s.size = 8) (i j : Nat) (hi : i < 9) (hj : j < 8) : decS (flipS (encS s) i j) = (s, 3) := by
  have hz : (encS s).size = 9 := by rw [encS_size]; omega
  have hl := one_left (num_lt s h) (k := 8 * i + j) (by omega)
  unfold decS
  rw [num_one s h i j hi hj, if_neg (by rw [one_odd (num_lt s h) (by omega)]; decide), hl, if_neg (by have := place_le (8 * i + j); omega)]
  congr 1
  unfold fixS
  rw [idx_place (by omega)]
  by_cases h8 : i < 8
  · rw [if_pos (by omega), show (8 * i + j) / 8 = i by omega, show (8 * i + j) % 8 = j by omega, flipS_twice _ _ _ (by omega) hj, enc_ext s h]
  · rw [if_neg (by omega)]
    have e : (flipS (encS s) i j).extract 0 8 = (encS s).extract 0 8 := by
      apply bs_inj
      rw [take_ext, take_ext]
      unfold bs
      rw [flipS_list _ _ _ (by omega)]
      unfold fl
      rw [List.take_set_of_le (by omega)]
    rw [e, enc_ext s h]
theorem dec_two (s : ByteArray) (h : s.size = 8) (i j i' j' : Nat) (hi : i < 9) (hj : j < 8) (hi' : i' < 9) (hj' : j' < 8) (hne : flipS (flipS (encS s) i j) i' j' ≠ encS s) :
    decS (flipS (flipS (encS s) i j) i' j') = (ByteArray.empty, 4) := by
  have hz : (encS s).size = 9 := by rw [encS_size]; omega
  have hz1 : (flipS (encS s) i j).size = 9 := by rw [flipS_size _ _ _ (by omega), hz]
  have hd : 8 * i + j ≠ 8 * i' + j' := by
    intro e
    have h1 : i = i' := by omega
    have h2 : j = j' := by omega
    subst h1; subst h2
    exact hne (flipS_twice _ _ _ (by omega) hj)
  have hn : numN (bs (flipS (flipS (encS s) i j) i' j')) = word (numN (bs s)) ^^^ 2 ^ (8 * i + j) ^^^ 2 ^ (8 * i' + j') := by
    rw [numN_flip _ _ _ (by omega) hj', num_one s h i j hi hj]
  unfold decS
  rw [hn, if_pos (two_even (num_lt s h) (by omega) (by omega)), if_neg (two_left (num_lt s h) (by omega) (by omega) hd)]

/-- the bits that are 1 of a byte -/
def ones8 (n : Nat) : Nat := cnt n 8
theorem enc_apart (a b : ByteArray) (ha : a.size = 8) (hb : b.size = 8) (h : a ≠ b) : 4 ≤ cnt (numN (bs (encS a)) ^^^ numN (bs (encS b))) 72 := by
  rw [num_enc a ha, num_enc b hb]
  refine words_apart (num_lt a ha) (num_lt b hb) fun e => h (bs_inj (numN_inj _ _ (by rw [bs_length, bs_length, ha, hb]) e))

end Go.Proofs.YtlacmfacigfioaaDoor

/- The reference of layer 1, as far as later layers lean on it: Put, Get. -/
namespace Go.Proofs.YtlacmfacigfioaaDoor
open Go.RowKit

/-- a number's n lowest bytes, the lowest first -/
def le : Int → Nat → List UInt8
  | _, 0 => []
  | v, n + 1 => UInt8.ofNat (v % 256).toNat :: le (v / 256) n
theorem le_length (n : Nat) : ∀ v, (le v n).length = n := by
  induction n with
  | zero => intro v; rfl
  | succ n ih => intro v; simp [le, ih]
def leS (v : Int) (n : Nat) : ByteArray := ⟨(le v n).toArray⟩

/-- what is left of a number when k bytes are taken -/
def rest : Int → Nat → Int
  | v, 0 => v
  | v, k + 1 => rest v k / 256
/-- its k lowest bytes, as numbers -/
def leI : Int → Nat → List Int
  | _, 0 => []
  | v, k + 1 => leI v k ++ [rest v k % 256]
theorem leI_length (v : Int) (k : Nat) : (leI v k).length = k := by
  induction k with
  | zero => rfl
  | succ k ih => simp [leI, ih]
theorem rest_bd (v : Int) (k : Nat) (h0 : 0 ≤ v) (h1 : v < 18446744073709551616) : 0 ≤ rest v k ∧ rest v k < 18446744073709551616 := by
  induction k with
  | zero => exact ⟨h0, h1⟩
  | succ k ih => simp only [rest]; omega
theorem rest_shift (k : Nat) : ∀ v, rest v (k + 1) = rest (v / 256) k := by
  induction k with
  | zero => intro v; rfl
  | succ k ih => intro v; show rest v (k + 1) / 256 = rest (v / 256) k / 256; rw [ih]
theorem leI_shift (k : Nat) : ∀ v, leI v (k + 1) = v % 256 :: leI (v / 256) k := by
  induction k with
  | zero => intro v; rfl
  | succ k ih => intro v; show leI v (k + 1) ++ [rest v (k + 1) % 256] = _; rw [ih, rest_shift]; rfl
theorem leI_le (k : Nat) : ∀ v, (leI v k).map (fun n => UInt8.ofNat n.toNat) = le v k := by
  induction k with
  | zero => intro v; rfl
  | succ k ih => intro v; rw [leI_shift, le, List.map_cons, ih]
theorem bytes_eq {a b : ByteArray} (h : a.data.toList = b.data.toList) : a = b := by
  cases a; cases b
  simp only at h
  congr 1
  exact Array.toList_inj.1 h
theorem rest_p2 (v : Int) (k : Nat) : rest v k = v / p2 (8 * k) := by
  induction k with
  | zero => show v = v / p2 0; rw [p2_zero]; omega
  | succ k ih =>
    show rest v k / 256 = _
    rw [ih, show 8 * (k + 1) = 8 * k + 8 by omega, p2_add, show p2 8 = 256 from rfl, Int.ediv_ediv_of_nonneg (by have := p2_pos (8 * k); omega)]

theorem rel_put {w wr w1 : World} {v v' : Int} {b : Value} {k : Nat} (ho : w1.ownsRow w.heap.size 5 1 b (k + 1) ((leI v k).map (Value.int .u8) ++ [.int .u8 v'])) (hv : v' = rest v k % 256)
    (hb : Below w.heap.size w wr) (hg : Below w.heap.size wr w1) :
    w1.ownsRow w.heap.size 5 1 b (k + 1) ((leI v (k + 1)).map (Value.int .u8)) ∧ Below w.heap.size w w1 := by
  refine ⟨?_, hb.trans hg⟩
  simpa [leI, hv] using ho

/-- the post of the reference's Put: the bytes, or nothing -/
def putRes (v : Int) (n : Nat) : Array Value := if rest v n = 0 then #[.string (leS v n), .int .i64 0] else #[.string ByteArray.empty, .int .i64 1]
def PutPost (v : Int) (n : Nat) (w : World) (e : Ending) (w' : World) : Prop := e = .returned (.tuple (putRes v n)) ∧ Below w.heap.size w w'

theorem Tryd.info5 : (Tryd.prog.info? 5).map (fun i => (i.zero, i.size, i.bytes)) = some (some (.int .u8 0), 1, 1) := by kernel_rfl

set_option maxRecDepth 100000 in
theorem rput_any (v : Int) (n : Nat) (w : World) (h1 : 1 ≤ n) (h2 : n ≤ 8) (v0 : 0 ≤ v) (v1 : v < 18446744073709551616) :
    Calls Tryd.prog 81 #[.int .u64 v, .int .i64 n] w (PutPost v n w) := by
  obtain ⟨i0, hi, hz0, hz1, hz2⟩ := info_parts Tryd.info5
  go_enter Tryd.func81, Tryd.ntmps81
  go_wp2
  go_loopw [0, 6, 7] (fun x b i wr => ∃ k : Nat, k ≤ n ∧ i = .int .i64 k ∧ x = .int .u64 (rest v k) ∧ wr.ownsRow w.heap.size 5 1 b k ((leI v k).map (Value.int .u8)) ∧ Below w.heap.size w wr) (fun _ _ i _ => n - (intOf i).toNat)
  case atStart => exact ⟨0, Nat.zero_le _, rfl, rfl, ⟨rfl, Or.inl ⟨rfl, rfl⟩⟩, Below.refl _ _⟩
  case round =>
    obtain ⟨k, hk, rfl, rfl, hown, hb⟩ := hrel
    have hr := rest_bd v k v0 v1
    by_cases hlt : k < n
    · go_wp2_with (at_builtin; refine wpList_append_own _ rfl _ _ 45 rfl w.heap.size 5 i0 (.int .u8 0) 1 1 Tryd.underlying45 hi hz0 hz1 hz2 rfl (by decide) _ _ _ rfl (hown.alloc _) ⟨wr.heap.size, 0, none⟩ 1 1 [.int .u8 (rest v k % 256)] rfl rfl ?c1 ?c2 ?c3 ?c4 ?c5 ?_)
      case c1 => exact cell_one_new _ _ _
      case c2 => intro u hu; simp at hu; subst hu; rfl
      case c3 => unfold maxLen; omega
      case c4 => omega
      case c5 => have := hb.size; simp; omega
      intro v' w1 hown1 hgrow _
      have hbw : Below w.heap.size wr w1 := by
        refine Below.grown (row := u6.ownBlock) ((Below.refl _ _).alloc hb.size _) hgrow (by have := hb.size; simp; omega) ?_
        intro g hg
        exact hown.2.elim (fun h => by rw [h.1] at hg; simp [Value.ownBlock] at hg) (fun ⟨g', _, _, h, hge, _⟩ => by rw [h] at hg; simp [Value.ownBlock] at hg; omega)
      have HR := Lib.hid (rel_put hown1 rfl hb hbw)
      clear hown1 hgrow hbw hown
      go_wp2
      go_roundw
      case rel => exact ⟨k + 1, by omega, by go_num, rfl, HR.out.1, HR.out.2⟩
      case measure => simp [intOf]; omega
    · obtain rfl : k = n := by omega
      have hcv := conv_owned (P := Tryd.prog) (src := 45) (e := 5) (dst := 9) Tryd.underlying45 Tryd.underlying5 Tryd.underlying9 hown
      have HS : Hid (strOfNums (leI v k) = leS v k) := strOfNums_eq _ _ (leI_le k v)
      have hbw := Lib.hid hb
      clear hb hown
      by_cases hz : rest v k = 0
      · have HP : Hid (putRes v k = #[.string (leS v k), .int .i64 0]) := if_pos hz
        go_wp2
        go_ret2
        exact ⟨ret_tup (by rw [HP.out, ← HS.out]; rfl), hbw.out⟩
      · have HP : Hid (putRes v k = #[.string ByteArray.empty, .int .i64 1]) := if_neg hz
        have hpos : 0 < rest v k := by omega
        go_wp2
        go_ret2
        exact ⟨ret_tup (by rw [HP.out]; rfl), hbw.out⟩

/-- the number whose bytes these are, the lowest first -/
def num : List UInt8 → Int
  | [] => 0
  | b :: l => (b.toNat : Int) + 256 * num l
theorem num_bd (l : List UInt8) : 0 ≤ num l ∧ num l < p2 (8 * l.length) := by
  induction l with
  | nil => exact ⟨Int.le_refl 0, by decide⟩
  | cons b l ih =>
    have hb : b.toNat < 256 := b.toNat_lt
    have e : p2 (8 * (b :: l).length) = 256 * p2 (8 * l.length) := by
      rw [List.length_cons, show 8 * (l.length + 1) = 8 + 8 * l.length by omega, p2_add]; rfl
    rw [e]; simp only [num]; omega
theorem num_snoc (b : UInt8) : ∀ l, num (l ++ [b]) = num l + (b.toNat : Int) * p2 (8 * l.length) := by
  intro l
  induction l with
  | nil => simp [num, p2_zero]
  | cons c l ih =>
    have e : p2 (8 * (c :: l).length) = 256 * p2 (8 * l.length) := by
      rw [List.length_cons, show 8 * (l.length + 1) = 8 + 8 * l.length by omega, p2_add]; rfl
    show (c.toNat : Int) + 256 * num (l ++ [b]) = (c.toNat : Int) + 256 * num l + (b.toNat : Int) * p2 (8 * (c :: l).length)
    rw [ih, e, Int.mul_add, Int.mul_left_comm]; omega
theorem take_snoc (s : ByteArray) (k : Nat) (h : k < s.size) : s.data.toList.take (k + 1) = s.data.toList.take k ++ [s[k]] := by
  rw [List.take_succ_eq_append_getElem (by simpa using h)]; rfl
theorem take_len (s : ByteArray) (k : Nat) (h : k ≤ s.size) : (s.data.toList.take k).length = k := by
  rw [List.length_take]; have : s.data.toList.length = s.size := by simp
  omega
def numTo (s : ByteArray) (k : Nat) : Int := num (s.data.toList.take k)
theorem numTo_zero (s : ByteArray) : numTo s 0 = 0 := rfl
theorem numTo_bd (s : ByteArray) (k : Nat) (h : k ≤ s.size) : 0 ≤ numTo s k ∧ numTo s k < p2 (8 * k) := by
  have := num_bd (s.data.toList.take k); rwa [take_len s k h] at this
theorem numTo_succ (s : ByteArray) (k : Nat) (h : k < s.size) : numTo s (k + 1) = numTo s k + (s[k].toNat : Int) * p2 (8 * k) := by
  unfold numTo; rw [take_snoc s k h, num_snoc, take_len s k (by omega)]
theorem byte_room (c : UInt8) (k : Nat) (h : k < 8) : (c.toNat : Int) * p2 (8 * k) < p2 64 ∧ 0 ≤ (c.toNat : Int) * p2 (8 * k) := by
  have hb : c.toNat < 256 := c.toNat_lt
  have hp := p2_pos (8 * k)
  have h1 : (c.toNat : Int) * p2 (8 * k) < 256 * p2 (8 * k) := Int.mul_lt_mul_of_pos_right (by omega) hp
  have h2 : 256 * p2 (8 * k) ≤ p2 64 := by
    have : p2 (8 + 8 * k) ≤ p2 64 := p2_le (by omega)
    rwa [p2_add] at this
  exact ⟨by omega, Int.mul_nonneg (by omega) (by omega)⟩
theorem wrap_byte (c : UInt8) : IntKind.u64.wrap (c.toNat : Int) = c.toNat := by
  have hb : c.toNat < 256 := c.toNat_lt
  rw [IntKind.wrap_u64]; omega
/-- the place's power of 256, as it is kept in 64 bits -/
def pp (k : Nat) : Int := lo (p2 (8 * k)) 64
theorem pp_zero : pp 0 = 1 := by decide
theorem pp_succ (k : Nat) : IntKind.u64.wrap (pp k * 256) = pp (k + 1) := by
  unfold pp; rw [wrap_lo]
  unfold lo
  rw [Int.mul_emod, Int.emod_emod_of_dvd _ (Int.dvd_refl _), ← Int.mul_emod, show 8 * (k + 1) = 8 * k + 8 by omega, p2_add]; rfl
theorem rget_step (s : ByteArray) (k : Nat) (h : k < s.size) (hs : k < 8) :
    IntKind.u64.wrap (numTo s k + IntKind.u64.wrap (IntKind.u64.wrap (s[k].toNat : Int) * pp k)) = numTo s (k + 1) := by
  have hb := numTo_bd s k (by omega)
  have hb2 := numTo_bd s (k + 1) (by omega)
  have hr := byte_room s[k] k hs
  have hp : pp k = p2 (8 * k) := lo_all _ _ (by have := p2_pos (8 * k); omega) (by
    have h1 : p2 (8 * k) < p2 (8 * k) * 2 := by have := p2_pos (8 * k); omega
    rw [← p2_succ] at h1
    have h2 : p2 (8 * k + 1) ≤ p2 64 := p2_le (by omega)
    omega)
  have h64 : p2 (8 * (k + 1)) ≤ p2 64 := p2_le (by omega)
  rw [numTo_succ s k h] at *
  rw [hp, wrap_byte, wrap_lo (_ * _), lo_all _ 64 hr.2 hr.1, wrap_lo, lo_all _ 64 (by omega) (by omega)]
def numS (s : ByteArray) : Int := numTo s s.size

theorem rget_yes (s : ByteArray) (w : World) (h1 : 1 ≤ s.size) (h2 : s.size ≤ 8) :
    Calls Tryd.prog 87 #[.string s] w fun e w' => e = .returned (.tuple #[.int .u64 (numS s), .int .i64 0]) ∧ w = w' := by
  go_enter Tryd.func87, Tryd.ntmps87
  go_wp2
  go_loop [4, 5, 6] (fun t p i => ∃ k : Nat, k ≤ s.size ∧ i = .int .i64 k ∧ t = .int .u64 (numTo s k) ∧ p = .int .u64 (pp k)) (fun _ _ i => s.size - (intOf i).toNat)
  case atStart => exact ⟨0, Nat.zero_le _, rfl, by rw [numTo_zero], by rw [pp_zero]⟩
  case round =>
    obtain ⟨k, hk, rfl, rfl, rfl⟩ := hrel
    by_cases hlt : k < s.size
    · have HG := Lib.hid (rget_step s k hlt (by omega))
      have HP := Lib.hid (pp_succ k)
      go_wp2
      go_round
      case rel => exact ⟨k + 1, by omega, by go_num, by rw [← HG.out], by rw [← HP.out]⟩
      case measure => simp [intOf]; omega
    · obtain rfl : k = s.size := by omega
      go_wp2
      go_ret2
      exact ⟨rfl, rfl⟩

theorem rput_fit (v : Int) (n : Nat) (w : World) (h1 : 1 ≤ n) (h2 : n ≤ 8) (v0 : 0 ≤ v) (v1 : v < p2 (8 * n)) :
    Calls Tryd.prog 81 #[.int .u64 v, .int .i64 n] w fun e w' => e = .returned (.tuple #[.string (leS v n), .int .i64 0]) ∧ Below w.heap.size w w' := by
  have h64 : p2 (8 * n) ≤ p2 64 := p2_le (by omega)
  rw [p2_64] at h64
  have h := rput_any v n w h1 h2 v0 (by omega)
  have hr : rest v n = 0 := by rw [rest_p2]; exact Int.ediv_eq_zero_of_lt v0 v1
  unfold PutPost putRes at h
  rwa [if_pos hr] at h
theorem num_le (m : Nat) : ∀ v : Int, num (le v m) + p2 (8 * m) * rest v m = v := by
  induction m with
  | zero => intro v; show (0 : Int) + p2 0 * v = v; rw [p2_zero]; omega
  | succ m ih =>
    intro v
    have h := ih (v / 256)
    have hb : (UInt8.ofNat (v % 256).toNat).toNat = (v % 256).toNat := by
      rw [UInt8.toNat_ofNat']; omega
    show ((UInt8.ofNat (v % 256).toNat).toNat : Int) + 256 * num (le (v / 256) m) + p2 (8 * (m + 1)) * rest v (m + 1) = v
    rw [hb, rest_shift, show 8 * (m + 1) = 8 + 8 * m by omega, p2_add, show p2 8 = 256 from rfl, Int.mul_assoc]
    omega
theorem le_num : ∀ l : List UInt8, le (num l) l.length = l
  | [] => rfl
  | b :: l => by
    have hb : b.toNat < 256 := b.toNat_lt
    have e1 : (num (b :: l) % 256).toNat = b.toNat := by simp only [num]; omega
    have e2 : num (b :: l) / 256 = num l := by simp only [num]; omega
    rw [List.length_cons, le, e1, e2, le_num l, UInt8.ofNat_toNat]
theorem rest_num (l : List UInt8) : num l / p2 (8 * l.length) = 0 := by
  have h := num_bd l
  exact Int.ediv_eq_zero_of_lt h.1 h.2
theorem size_toList (s : ByteArray) : s.data.toList.length = s.size := by simp
theorem numS_eq (s : ByteArray) : numS s = num s.data.toList := by
  unfold numS numTo
  rw [List.take_of_length_le (by rw [size_toList]; omega)]
theorem leS_numS (s : ByteArray) : leS (numS s) s.size = s := by
  unfold leS
  rw [numS_eq, ← size_toList s, le_num]
theorem leS_size (v : Int) (m : Nat) : (leS v m).size = m := by
  show (le v m).toArray.size = m
  rw [List.size_toArray, le_length]
theorem numS_leS (v : Int) (m : Nat) (h : rest v m = 0) : numS (leS v m) = v := by
  have h2 := num_le m v
  rw [h] at h2
  rw [numS_eq]
  show num (le v m) = v
  omega
end Go.Proofs.YtlacmfacigfioaaDoor

/- Tags and their bytes: what the document asks of Encode, Decode and May, and what follows from it. -/
namespace Go.Proofs.YtlacmfacigfioaaDoor
open Go.RowKit

/-- a tag that may be -/
def MayT (k l q e : Int) : Prop := 1 ≤ k ∧ k ≤ 4 ∧ 0 ≤ l ∧ l ≤ 4096 ∧ 0 ≤ q ∧ q ≤ 281474976710655 ∧ 0 ≤ e ∧ e ≤ 4294967295
instance (k l q e : Int) : Decidable (MayT k l q e) := by unfold MayT; infer_instance
def mayB (k l q e : Int) : Bool := decide (MayT k l q e)
theorem mayB_iff (k l q e : Int) : mayB k l q e = true ↔ MayT k l q e := decide_eq_true_iff
/-- a tag's bytes -/
def tagL (k l q e : Int) : List UInt8 := 27 :: UInt8.ofNat k.toNat :: (le l 2 ++ le q 6 ++ le e 4 ++ [0, 0])
def tagS (k l q e : Int) : ByteArray := ⟨(tagL k l q e).toArray⟩
theorem tagS_size (k l q e : Int) : (tagS k l q e).size = 16 := rfl
def byteT (s : ByteArray) (i : Nat) : Int := ((s.data.toList.getD i 0).toNat : Int)
def lT (s : ByteArray) : Int := numS (s.extract 2 4)
def qT (s : ByteArray) : Int := numS (s.extract 4 10)
def eT (s : ByteArray) : Int := numS (s.extract 10 14)
/-- a text that is a tag's bytes -/
def FormT (s : ByteArray) : Prop := s.size = 16 ∧ byteT s 0 = 27 ∧ byteT s 14 = 0 ∧ byteT s 15 = 0
def OkT (s : ByteArray) : Prop := FormT s ∧ MayT (byteT s 1) (lT s) (qT s) (eT s)
instance (s : ByteArray) : Decidable (FormT s) := by unfold FormT; infer_instance
instance (s : ByteArray) : Decidable (OkT s) := by unfold OkT; infer_instance
theorem list_extract (s : ByteArray) (i j : Nat) : (s.extract i j).data.toList = (s.data.toList.take j).drop i := by
  rw [ByteArray.data_extract, Array.toList_extract, List.extract_eq_take_drop, List.take_drop]
  by_cases h : i ≤ j
  · rw [show i + (j - i) = j by omega]
  · rw [List.drop_eq_nil_of_le (by rw [List.length_take]; omega), List.drop_eq_nil_of_le (by rw [List.length_take]; omega)]
theorem tag_bytes {k l q e : Int} (h : MayT k l q e) : byteT (tagS k l q e) 0 = 27 ∧ byteT (tagS k l q e) 1 = k ∧ byteT (tagS k l q e) 14 = 0 ∧ byteT (tagS k l q e) 15 = 0 := by
  refine ⟨rfl, ?_, rfl, rfl⟩
  obtain ⟨h1, h2, _⟩ := h
  show (((UInt8.ofNat k.toNat).toNat : Nat) : Int) = k
  simp; omega
theorem tag_fields {k l q e : Int} (h : MayT k l q e) : lT (tagS k l q e) = l ∧ qT (tagS k l q e) = q ∧ eT (tagS k l q e) = e := by
  obtain ⟨_, _, h3, h4, h5, h6, h7, h8⟩ := h
  have e1 : (tagS k l q e).extract 2 4 = leS l 2 := by
    apply bytes_eq; rw [list_extract]; rfl
  have e2 : (tagS k l q e).extract 4 10 = leS q 6 := by
    apply bytes_eq; rw [list_extract]; rfl
  have e3 : (tagS k l q e).extract 10 14 = leS e 4 := by
    apply bytes_eq; rw [list_extract]; rfl
  unfold lT qT eT
  rw [e1, e2, e3]
  refine ⟨numS_leS _ _ ?_, numS_leS _ _ ?_, numS_leS _ _ ?_⟩ <;> rw [rest_p2] <;> refine Int.ediv_eq_zero_of_lt (by omega) ?_
  · rw [show p2 (8 * 2) = 65536 by decide]; omega
  · rw [show p2 (8 * 6) = 281474976710656 by decide]; omega
  · rw [show p2 (8 * 4) = 4294967296 by decide]; omega
theorem tag_ok {k l q e : Int} (h : MayT k l q e) : OkT (tagS k l q e) := by
  have hb := tag_bytes h
  have hf := tag_fields h
  refine ⟨⟨rfl, hb.1, hb.2.2.1, hb.2.2.2⟩, ?_⟩
  rw [hb.2.1, hf.1, hf.2.1, hf.2.2]; exact h
theorem tag_inj {k l q e k' l' q' e' : Int} (h : MayT k l q e) (h' : MayT k' l' q' e') (he : tagS k l q e = tagS k' l' q' e') : k = k' ∧ l = l' ∧ q = q' ∧ e = e' := by
  have hb := tag_bytes h; have hf := tag_fields h
  have hb' := tag_bytes h'; have hf' := tag_fields h'
  rw [he] at hb hf
  exact ⟨hb.2.1.symm.trans hb'.2.1, hf.1.symm.trans hf'.1, hf.2.1.symm.trans hf'.2.1, hf.2.2.symm.trans hf'.2.2⟩
theorem tag_again {s : ByteArray} (h : OkT s) : tagS (byteT s 1) (lT s) (qT s) (eT s) = s := by
  obtain ⟨⟨hz, h0, h14, h15⟩, _⟩ := h
  apply bytes_eq
  show tagL _ _ _ _ = s.data.toList
  unfold tagL lT qT eT
  have hl : s.data.toList.length = 16 := by simpa using hz
  have n2 : (s.extract 2 4).size = 2 := by rw [ByteArray.size_extract]; omega
  have n6 : (s.extract 4 10).size = 6 := by rw [ByteArray.size_extract]; omega
  have n4 : (s.extract 10 14).size = 4 := by rw [ByteArray.size_extract]; omega
  have f2 := leS_numS (s.extract 2 4); have f6 := leS_numS (s.extract 4 10); have f4 := leS_numS (s.extract 10 14)
  rw [n2] at f2; rw [n6] at f6; rw [n4] at f4
  have g2 : le (numS (s.extract 2 4)) 2 = (s.data.toList.take 4).drop 2 := (congrArg (fun t : ByteArray => t.data.toList) f2).trans (list_extract s 2 4)
  have g6 : le (numS (s.extract 4 10)) 6 = (s.data.toList.take 10).drop 4 := (congrArg (fun t : ByteArray => t.data.toList) f6).trans (list_extract s 4 10)
  have g4 : le (numS (s.extract 10 14)) 4 = (s.data.toList.take 14).drop 10 := (congrArg (fun t : ByteArray => t.data.toList) f4).trans (list_extract s 10 14)
  rw [g2, g6, g4]
  unfold byteT at *
  generalize s.data.toList = t at *
  match t, hl with
  | [b0, b1, b2, b3, b4, b5, b6, b7, b8, b9, b10, b11, b12, b13, b14, b15], _ =>
    simp only [List.getD_cons_zero, List.getD_cons_succ] at h0 h14 h15 ⊢
    have e0 : b0 = 27 := UInt8.toNat_inj.1 (by rw [show (27 : UInt8).toNat = 27 from rfl]; omega)
    have e14 : b14 = 0 := UInt8.toNat_inj.1 (by rw [show (0 : UInt8).toNat = 0 from rfl]; omega)
    have e15 : b15 = 0 := UInt8.toNat_inj.1 (by rw [show (0 : UInt8).toNat = 0 from rfl]; omega)
    subst e0; subst e14; subst e15
    simp

end Go.Proofs.YtlacmfacigfioaaDoor

/- The reference of layer 1, as far as later layers lean on it: Zeros. -/
namespace Go.Proofs.YtlacmfacigfioaaDoor
open Go.RowKit

/-- how many bits of a byte are 1 -/
def pop8 (n : Nat) : Nat := n % 2 + n / 2 % 2 + n / 4 % 2 + n / 8 % 2 + n / 16 % 2 + n / 32 % 2 + n / 64 % 2 + n / 128 % 2
/-- how many bits of a text are 0 -/
def zs : List UInt8 → Nat
  | [] => 0
  | b :: l => pop8 (255 - b.toNat) + zs l
theorem zs_snoc (b : UInt8) : ∀ l, zs (l ++ [b]) = zs l + pop8 (255 - b.toNat)
  | [] => by simp [zs]
  | c :: l => by simp only [List.cons_append, zs, zs_snoc b l]; omega
theorem pop8_le (n : Nat) : pop8 n ≤ 8 := by unfold pop8; omega
theorem zs_le : ∀ l, zs l ≤ 8 * l.length
  | [] => by simp [zs]
  | c :: l => by have := zs_le l; have := pop8_le (255 - c.toNat); simp only [zs, List.length_cons]; omega
def zsTo (s : ByteArray) (k : Nat) : Nat := zs (s.data.toList.take k)
theorem zsTo_succ (s : ByteArray) (k : Nat) (h : k < s.size) : zsTo s (k + 1) = zsTo s k + pop8 (255 - s[k].toNat) := by
  unfold zsTo; rw [take_snoc s k h, zs_snoc]
theorem zsTo_le (s : ByteArray) (k : Nat) (h : k ≤ s.size) : zsTo s k ≤ 8 * k := by
  have := zs_le (s.data.toList.take k); rwa [take_len s k h] at this

/-- how many of a byte's k lowest bits are 0 -/
def zb (c : UInt8) : Nat → Nat
  | 0 => 0
  | k + 1 => zb c k + if bt c.toNat k = 0 then 1 else 0
theorem zb_all (c : UInt8) : zb c 8 = pop8 (255 - c.toNat) := by
  have h : ∀ n, n < 256 → zb (UInt8.ofNat n) 8 = pop8 (255 - n) := by decide +kernel
  have := h _ c.toNat_lt
  rwa [UInt8.ofNat_toNat] at this
theorem zb_le (c : UInt8) (k : Nat) : zb c k ≤ k := by
  induction k with
  | zero => exact Nat.le_refl 0
  | succ k ih => simp only [zb]; split <;> omega

theorem rzeros_any (s : ByteArray) (w : World) (hm : s.size ≤ 1000) :
    Calls Tryd.prog 65 #[.string s] w fun e w' => e = .returned (.int .i64 (zsTo s s.size)) ∧ w = w' := by
  go_enter Tryd.func65, Tryd.ntmps65
  go_wp2
  go_loop [3, 4] (fun t i => ∃ k : Nat, k ≤ s.size ∧ i = .int .i64 k ∧ t = .int .i64 (zsTo s k)) (fun _ i => s.size - (intOf i).toNat)
  case atStart => exact ⟨0, Nat.zero_le _, rfl, rfl⟩
  case round =>
    obtain ⟨k, hk, rfl, rfl⟩ := hrel
    have hz := zsTo_le s k hk
    by_cases hlt : k < s.size
    · have hb : s[k].toNat ≤ 255 := by have : s[k].toNat < 256 := s[k].toNat_lt; omega
      have HZ : Hid (zsTo s (k + 1) = zsTo s k + zb s[k] 8) := by rw [zb_all]; exact zsTo_succ s k hlt
      go_wp2
      go_loop [3, 5] (fun t i => ∃ j : Nat, j ≤ 8 ∧ i = .int .i64 j ∧ t = .int .i64 ((zsTo s k + zb s[k] j : Nat) : Int)) (fun _ i => 8 - (intOf i).toNat)
      case atStart => exact ⟨0, Nat.zero_le _, rfl, rfl⟩
      case round =>
        obtain ⟨j, hj, rfl, rfl⟩ := hrel
        have hy := zb_le s[k] j
        by_cases hjt : j < 8
        · rcases bt_01 s[k].toNat j with hbb | hbb
          · have HB := Lib.hid hbb
            have HY : Hid (zb s[k] (j + 1) = zb s[k] j + 1) := by show zb s[k] j + (if bt s[k].toNat j = 0 then 1 else 0) = _; rw [if_pos hbb]
            clear hbb
            go_wp2_with fail
            refine (bit_nil _ j _ (by omega) (by omega) (by omega) HB.out).mono ?_
            rintro e w' ⟨rfl, rfl⟩
            go_wp2
            go_round
            case rel => exact ⟨j + 1, by omega, by go_num, by rw [HY.out]; go_num⟩
            case measure => simp [intOf]; omega
          · have HB := Lib.hid hbb
            have HY : Hid (zb s[k] (j + 1) = zb s[k] j) := by show zb s[k] j + (if bt s[k].toNat j = 0 then 1 else 0) = _; rw [if_neg (by rw [hbb]; decide)]; rfl
            clear hbb
            go_wp2_with fail
            refine (bit_one _ j _ (by omega) (by omega) (by omega) HB.out).mono ?_
            rintro e w' ⟨rfl, rfl⟩
            go_wp2
            go_round
            case rel => exact ⟨j + 1, by omega, by go_num, by rw [HY.out]; go_num⟩
            case measure => simp [intOf]; omega
        · obtain rfl : j = 8 := by omega
          go_wp2
          go_round
          case rel => exact ⟨k + 1, by omega, by go_num, by rw [HZ.out]⟩
          case measure => simp [intOf]; omega
    · obtain rfl : k = s.size := by omega
      go_wp2
      go_ret
      exact ⟨rfl, rfl⟩

end Go.Proofs.YtlacmfacigfioaaDoor

/- Layer 5 of texts: what the document asks of a page's bytes. -/
namespace Go.Proofs.YtlacmfacigfioaaDoor
open Go.RowKit

/-- so many bytes of data may be -/
def LenOk (n : Nat) : Prop := 8 ≤ n ∧ n ≤ 256 ∧ n % 8 = 0
instance (n : Nat) : Decidable (LenOk n) := by unfold LenOk; infer_instance
/-- a text's k-th piece of so many bytes -/
def piece (s : ByteArray) (m k : Nat) : ByteArray := s.extract (m * k) (m * k + m)
theorem piece_size (s : ByteArray) (m k : Nat) (h : m * k + m ≤ s.size) : (piece s m k).size = m := by
  unfold piece; rw [ByteArray.size_extract]; omega
/-- the first k chunks -/
def chunks (s : ByteArray) : Nat → ByteArray
  | 0 => ByteArray.empty
  | k + 1 => chunks s k ++ encS (piece s 8 k)
theorem chunks_size (s : ByteArray) : ∀ k, 8 * k ≤ s.size → (chunks s k).size = 9 * k
  | 0, _ => rfl
  | k + 1, h => by
    show (chunks s k ++ encS (piece s 8 k)).size = _
    rw [ByteArray.size_append, chunks_size s k (by omega), encS_size, piece_size s 8 k (by omega)]; omega
theorem sealS_size (s : ByteArray) : (sealS s).size = s.size + 4 := by
  rw [← bs_length, bs_sealS]; unfold sealN; rw [List.length_append, bs_length]; rfl
def four0 : ByteArray := ⟨#[0, 0, 0, 0]⟩
/-- what a page holds, ahead of its chunks -/
def inner (k l q e : Int) (data : ByteArray) : ByteArray := sealS (tagS k l q e ++ data) ++ four0
theorem inner_size (k l q e : Int) (data : ByteArray) : (inner k l q e data).size = data.size + 24 := by
  unfold inner
  rw [ByteArray.size_append, sealS_size, ByteArray.size_append, tagS_size, show four0.size = 4 from rfl]; omega
/-- a page's bytes -/
def pageS (k l q e : Int) (data : ByteArray) : ByteArray := chunks (inner k l q e data) ((data.size + 24) / 8)
theorem pageS_size (k l q e : Int) (data : ByteArray) : (pageS k l q e data).size = (data.size + 24) / 8 * 9 := by
  unfold pageS
  rw [chunks_size _ _ (by rw [inner_size]; omega)]; omega
def frT (k l q e : Int) (data : ByteArray) : ByteArray := if LenOk data.size ∧ MayT k l q e then pageS k l q e data else ByteArray.empty
def frE (k l q e : Int) (data : ByteArray) : Int := if LenOk data.size then (if MayT k l q e then 0 else 1) else 2

/-- no chunk ahead of the k-th one has more than one bit that is 0 -/
def blankTo (s : ByteArray) : Nat → Bool
  | 0 => true
  | k + 1 => blankTo s k && decide (zs (piece s 9 k).data.toList ≤ 1)
/-- one of the first k chunks is bad; has been put right; what they hold -/
def badTo (s : ByteArray) : Nat → Bool
  | 0 => false
  | k + 1 => badTo s k || decide ((decS (piece s 9 k)).2 = 4)
def fixTo (s : ByteArray) : Nat → Bool
  | 0 => false
  | k + 1 => fixTo s k || decide ((decS (piece s 9 k)).2 = 3)
def heldTo (s : ByteArray) : Nat → ByteArray
  | 0 => ByteArray.empty
  | k + 1 => heldTo s k ++ (decS (piece s 9 k)).1
/-- what they hold is a page's -/
def HoldsPage (all : ByteArray) : Prop := OkT (all.extract 0 16) ∧ all.extract (all.size - 4) all.size = four0 ∧ wholeB (all.extract 0 (all.size - 4)) = true
def ShapeOk (n : Nat) : Prop := n % 9 = 0 ∧ 36 ≤ n ∧ n ≤ 315
/-- a page's value -/
def pv (what k l q e : Int) (data : ByteArray) : Array Value := #[.int .i64 what, .int .i64 k, .int .i64 l, .int .i64 q, .int .i64 e, .string data]
instance (n : Nat) : Decidable (ShapeOk n) := by unfold ShapeOk; infer_instance
instance (all : ByteArray) : Decidable (HoldsPage all) := by unfold HoldsPage; infer_instance
/-- what has been told of the first k chunks, none of which is bad -/
def toldTo (s : ByteArray) (k : Nat) : Int := if fixTo s k then 3 else 2
def pageOf (s all : ByteArray) (k : Nat) : Array Value := pv (toldTo s k) (byteT (all.extract 0 16) 1) (lT (all.extract 0 16)) (qT (all.extract 0 16)) (eT (all.extract 0 16)) (all.extract 16 (all.size - 8))
def pageV (s : ByteArray) : Array Value :=
  if ShapeOk s.size then
    if blankTo s (s.size / 9) = true then pv 1 0 0 0 0 ByteArray.empty
    else if badTo s (s.size / 9) = true then pv 4 0 0 0 0 ByteArray.empty
    else if HoldsPage (heldTo s (s.size / 9)) then pageOf s (heldTo s (s.size / 9)) (s.size / 9)
    else pv 4 0 0 0 0 ByteArray.empty
  else pv 4 0 0 0 0 ByteArray.empty
theorem pageV_shape {s : ByteArray} (h : ¬ ShapeOk s.size) : pageV s = pv 4 0 0 0 0 ByteArray.empty := if_neg h
theorem pageV_blank {s : ByteArray} (h : ShapeOk s.size) (h2 : blankTo s (s.size / 9) = true) : pageV s = pv 1 0 0 0 0 ByteArray.empty := by unfold pageV; rw [if_pos h, if_pos h2]
theorem pageV_bad {s : ByteArray} (h : ShapeOk s.size) (h2 : blankTo s (s.size / 9) = false) (h3 : badTo s (s.size / 9) = true) : pageV s = pv 4 0 0 0 0 ByteArray.empty := by
  unfold pageV; rw [if_pos h, if_neg (by rw [h2]; decide), if_pos h3]
theorem pageV_none {s : ByteArray} (h : ShapeOk s.size) (h2 : blankTo s (s.size / 9) = false) (h3 : badTo s (s.size / 9) = false) (h4 : ¬ HoldsPage (heldTo s (s.size / 9))) : pageV s = pv 4 0 0 0 0 ByteArray.empty := by
  unfold pageV; rw [if_pos h, if_neg (by rw [h2]; decide), if_neg (by rw [h3]; decide), if_neg h4]
theorem pageV_page {s : ByteArray} (h : ShapeOk s.size) (h2 : blankTo s (s.size / 9) = false) (h3 : badTo s (s.size / 9) = false) (h4 : HoldsPage (heldTo s (s.size / 9))) : pageV s = pageOf s (heldTo s (s.size / 9)) (s.size / 9) := by
  unfold pageV; rw [if_pos h, if_neg (by rw [h2]; decide), if_neg (by rw [h3]; decide), if_pos h4]
theorem bad_later {s : ByteArray} {k c : Nat} (h : badTo s k = true) (hc : k ≤ c) : badTo s c = true := by
  induction c with
  | zero => rw [← Nat.le_zero.1 hc]; exact h
  | succ c ih =>
    by_cases e : k = c + 1
    · rw [← e]; exact h
    · show (badTo s c || _) = true
      rw [ih (by omega)]; rfl
theorem fixS_size (s : ByteArray) (p : Nat) (h : s.size = 9) : (fixS s p).size = 8 := by
  unfold fixS
  split
  · rw [ByteArray.size_extract, flipS_size _ _ _ (by omega)]; omega
  · rw [ByteArray.size_extract]; omega
/-- a chunk is bad, with nothing, or good or put right, with eight bytes -/
theorem decS_cases (s : ByteArray) (h : s.size = 9) : (decS s).2 = 4 ∨ (((decS s).2 = 2 ∨ (decS s).2 = 3) ∧ (decS s).1.size = 8) := by
  unfold decS
  split
  · split
    · exact Or.inr ⟨Or.inl rfl, by show (s.extract 0 8).size = 8; rw [ByteArray.size_extract]; omega⟩
    · exact Or.inl rfl
  · split
    · exact Or.inl rfl
    · exact Or.inr ⟨Or.inr rfl, fixS_size _ _ h⟩
theorem heldTo_size (s : ByteArray) : ∀ k, 9 * k ≤ s.size → badTo s k = false → (heldTo s k).size = 8 * k
  | 0, _, _ => rfl
  | k + 1, h, hb => by
    have hb2 : (badTo s k || decide ((decS (piece s 9 k)).2 = 4)) = false := hb
    rw [Bool.or_eq_false_iff] at hb2
    have h4 := of_decide_eq_false hb2.2
    show (heldTo s k ++ (decS (piece s 9 k)).1).size = _
    rw [ByteArray.size_append, heldTo_size s k (by omega) hb2.1]
    rcases decS_cases (piece s 9 k) (piece_size s 9 k (by omega)) with h5 | ⟨_, h5⟩
    · exact absurd h5 h4
    · rw [h5]; omega

/-- a blank page -/
def blankS (n : Nat) : ByteArray := ⟨(List.replicate ((n + 24) / 8 * 9) 255).toArray⟩
def blankT (n : Int) : ByteArray := if 0 ≤ n ∧ LenOk n.toNat then blankS n.toNat else ByteArray.empty
/-- two bits of the first nine bytes turned -/
def first72 (a : Int) : Nat := (a % 72).toNat
def second72 (a b : Int) : Nat := (first72 a + 1 + (b % 71).toNat) % 72
def hurtT (s : ByteArray) (a b : Int) : ByteArray := if s.size < 9 then s else flipS (flipS s (first72 a / 8) (first72 a % 8)) (second72 a b / 8) (second72 a b % 8)

end Go.Proofs.YtlacmfacigfioaaDoor

/- The reference of layer 5, walked: May, Rest, Hurt, Blank, Erased. -/
namespace Go.Proofs.YtlacmfacigfioaaDoor
set_option maxRecDepth 100000
open Go.RowKit

theorem rfr_may (n : Int) (w : World) : Calls Tryd.prog 29 #[.int .i64 n] w fun r w' => r = .returned (.bool (decide (0 ≤ n ∧ LenOk n.toNat))) ∧ w = w' := by
  go_enter Tryd.func29, Tryd.ntmps29
  go_wp2
  all_goals go_ret
  all_goals exact ⟨ret_bool (by unfold LenOk; rw [Bool.eq_iff_iff]; simp; try omega), rfl⟩

theorem rfr_rest (n by' : Int) (w : World) (h0 : 0 < by') (h1 : by' ≤ 1000) : Calls Tryd.prog 44 #[.int .i64 n, .int .i64 by'] w fun r w' => r = .returned (.int .i64 (n % by')) ∧ w = w' := by
  have hm := Int.tmod_eq_emod (a := n) (b := by')
  have hlt := Int.emod_lt_of_pos n h0
  have hge := Int.emod_nonneg n (b := by') (by omega)
  have hab : (by'.natAbs : Int) = by' := by omega
  obtain ⟨x, hx⟩ : ∃ x, n.tmod by' = x := ⟨_, rfl⟩
  obtain ⟨y, hy⟩ : ∃ y, n % by' = y := ⟨_, rfl⟩
  rw [hx, hy] at hm
  rw [hy] at hlt hge ⊢
  have hb' : by' ≠ 0 := by omega
  have hxy : (x < 0 → x + by' = y) ∧ (¬ x < 0 → x = y) := by
    by_cases hc : 0 ≤ n ∨ by' ∣ n
    · rw [if_pos hc] at hm; omega
    · rw [if_neg hc, hab] at hm; omega
  by_cases hneg : x < 0
  · have hxy2 := hxy.1 hneg
    have hlo : -1000 ≤ x := by omega
    clear hm hy hxy
    go_enter Tryd.func44, Tryd.ntmps44
    go_wp2
    go_ret
    exact ⟨rfl, rfl⟩
  · have hxy2 := hxy.2 hneg
    clear hm hy hxy
    subst hxy2
    go_enter Tryd.func44, Tryd.ntmps44
    go_wp2
    go_ret
    exact ⟨rfl, rfl⟩

theorem flip_any_ref (s : ByteArray) (k : Nat) (w : World) (hm : s.size ≤ 1000) (hk : k / 8 < s.size) :
    Calls Tryd.prog 45 #[.string s, .int .i64 k] w fun e w' => e = .returned (.tuple #[.string (flipS s (k / 8) (k % 8)), .int .i64 0]) ∧ Below w.heap.size w w' := by
  have h := rflip_yes s (k / 8) (k % 8) w hm hk (by omega)
  rwa [show 8 * ((k / 8 : Nat) : Int) + ((k % 8 : Nat) : Int) = (k : Int) by omega] at h

set_option maxRecDepth 100000 in
theorem rfr_hurt (s : ByteArray) (a b : Int) (w : World) (hs : s.size ≤ 1000) :
    Calls Tryd.prog 17 #[.string s, .int .i64 a, .int .i64 b] w fun r w' => r = .returned (.string (hurtT s a b)) ∧ Below w.heap.size w w' := by
  unfold hurtT
  by_cases h9 : s.size < 9
  · rw [if_pos h9]
    have h9i : (s.size : Int) < 9 := by omega
    go_enter Tryd.func17, Tryd.ntmps17
    go_wp2
    go_ret
    exact ⟨rfl, Below.refl _ _⟩
  · rw [if_neg h9]
    have h9i : ¬ (s.size : Int) < 9 := by omega
    obtain ⟨p, hp⟩ : ∃ p, first72 a = p := ⟨_, rfl⟩
    obtain ⟨q, hq⟩ : ∃ q, second72 a b = q := ⟨_, rfl⟩
    obtain ⟨m, hm⟩ : ∃ m : Nat, (b % 71).toNat = m := ⟨_, rfl⟩
    have hpa : a % 72 = (p : Int) := by rw [← hp]; unfold first72; omega
    have hmb : b % 71 = (m : Int) := by omega
    have hp72 : p < 72 := by omega
    have hm71 : m < 71 := by omega
    have hqe : q = (p + 1 + m) % 72 := by rw [← hq]; unfold second72; rw [hp, hm]
    have hqi : (((p : Int) + 1 + (m : Int)) % 72) = (q : Int) := by omega
    have hq72 : q < 72 := by omega
    rw [hp, hq]
    have HQ := Lib.hid hqi
    have HPA := Lib.hid hpa
    have HMB := Lib.hid hmb
    clear hp hq hm hpa hmb hqe hqi
    go_enter Tryd.func17, Tryd.ntmps17
    go_wp2_with fail
    refine (rfr_rest a 72 _ (by decide) (by decide)).mono ?_
    rintro r w' ⟨rfl, rfl⟩
    rw [HPA.out]
    go_wp2_with fail
    refine (flip_any_ref s p _ hs (by omega)).mono ?_
    rintro r w1 ⟨rfl, hb1⟩
    have HB1 := Lib.hid hb1
    have hz : (flipS s (p / 8) (p % 8)).size = s.size := flipS_size _ _ _ (by omega)
    obtain ⟨t, ht⟩ : ∃ t, flipS s (p / 8) (p % 8) = t := ⟨_, rfl⟩
    have HT := Lib.hid ht
    rw [ht] at hz ⊢
    clear ht hb1
    go_wp2_with fail
    refine (rfr_rest b 71 _ (by decide) (by decide)).mono ?_
    rintro r w' ⟨rfl, rfl⟩
    rw [HMB.out]
    go_wp2_with fail
    refine (rfr_rest ((p : Int) + 1 + (m : Int)) 72 _ (by decide) (by decide)).mono ?_
    rintro r w' ⟨rfl, rfl⟩
    rw [HQ.out]
    go_wp2_with fail
    refine (flip_any_ref t q _ (by omega) (by omega)).mono ?_
    rintro r w2 ⟨rfl, hb2⟩
    have HB2 := Lib.hid (HB1.out.trans (hb2.mono HB1.out.size))
    clear hb2
    go_wp2_with fail
    go_ret
    exact ⟨by rw [HT.out]; rfl, HB2.out⟩

end Go.Proofs.YtlacmfacigfioaaDoor

/- The reference of layer 5, walked: Blank, Erased. -/
namespace Go.Proofs.YtlacmfacigfioaaDoor
set_option maxRecDepth 100000
open Go.RowKit

theorem rel_blank {w wr w1 : World} {b : Value} {k : Nat} (ho : w1.ownsRow w.heap.size 5 1 b (k + 1) (List.replicate k (Value.int .u8 255) ++ [.int .u8 255]))
    (hb : Below w.heap.size w wr) (hg : Below w.heap.size wr w1) :
    w1.ownsRow w.heap.size 5 1 b (k + 1) ((List.replicate (k + 1) (255 : Int)).map (Value.int .u8)) ∧ Below w.heap.size w w1 := by
  refine ⟨?_, hb.trans hg⟩
  rw [List.replicate_succ', List.map_append, List.map_replicate]; exact ho
theorem blank_str (m : Nat) : strOfNums (List.replicate m (255 : Int)) = ⟨(List.replicate m 255).toArray⟩ := by
  apply strOfNums_eq
  rw [List.map_replicate]; rfl

set_option maxRecDepth 100000 in
theorem rfr_blank (n : Int) (w : World) : Calls Tryd.prog 15 #[.int .i64 n] w fun r w' => r = .returned (.string (blankT n)) ∧ Below w.heap.size w w' := by
  unfold blankT
  by_cases hm : 0 ≤ n ∧ LenOk n.toNat
  · rw [if_pos hm]
    have HD : Hid (decide (0 ≤ n ∧ LenOk n.toNat) = true) := decide_eq_true hm
    obtain ⟨h0, h1, h2, h3⟩ := hm
    obtain ⟨c, hc⟩ : ∃ c, (n.toNat + 24) / 8 * 9 = c := ⟨_, rfl⟩
    have hci : (n + 24) / 8 * 9 = (c : Int) := by omega
    have hc400 : c ≤ 400 := by omega
    have HB : Hid (blankS n.toNat = ⟨(List.replicate c 255).toArray⟩) := by unfold blankS; rw [hc]; exact rfl
    have hn256 : n ≤ 256 := by omega
    obtain ⟨i0, hi, hz0, hz1, hz2⟩ := info_parts Tryd.info5
    clear hc h1 h2 h3
    go_enter Tryd.func15, Tryd.ntmps15
    go_wp2_with fail
    refine (rfr_may n _).mono ?_
    rintro r w' ⟨rfl, rfl⟩
    rw [HD.out]
    go_wp2_with fail
    go_loopw [3, 4] (fun b i wr => ∃ k : Nat, k ≤ c ∧ i = .int .i64 k ∧ wr.ownsRow w.heap.size 5 1 b k ((List.replicate k (255 : Int)).map (Value.int .u8)) ∧ Below w.heap.size w wr) (fun _ i _ => c - (intOf i).toNat)
    case atStart => exact ⟨0, Nat.zero_le _, rfl, ⟨rfl, Or.inl ⟨rfl, rfl⟩⟩, Below.refl _ _⟩
    case round =>
      obtain ⟨k, hk, rfl, hown, hb⟩ := hrel
      by_cases hlt : k < c
      · go_wp2_with (at_builtin; refine wpList_append_own _ rfl _ _ 45 rfl w.heap.size 5 i0 (.int .u8 0) 1 1 Tryd.underlying45 hi hz0 hz1 hz2 rfl (by decide) _ _ _ rfl (hown.alloc _) ⟨wr.heap.size, 0, none⟩ 1 1 [.int .u8 255] rfl rfl ?c1 ?c2 ?c3 ?c4 ?c5 ?_)
        case c1 => exact cell_one_new _ _ _
        case c2 => intro u hu; simp at hu; subst hu; rfl
        case c3 => unfold maxLen; omega
        case c4 => omega
        case c5 => have := hb.size; simp; omega
        intro v' w1 hown1 hgrow _
        have HR := Lib.hid (rel_blank hown1 hb (own_below hown hb.size hgrow))
        clear hown1 hgrow hown
        go_wp2
        go_roundw
        case rel => exact ⟨k + 1, by omega, by go_num, HR.out.1, HR.out.2⟩
        case measure => simp [intOf]; omega
      · obtain rfl : k = c := by omega
        have hcv := conv_owned (P := Tryd.prog) (src := 45) (e := 5) (dst := 9) Tryd.underlying45 Tryd.underlying5 Tryd.underlying9 hown
        rw [blank_str] at hcv
        have hbw := Lib.hid hb
        clear hb hown
        go_wp2
        go_ret
        exact ⟨by rw [HB.out]; rfl, hbw.out⟩
  · rw [if_neg hm]
    have HD : Hid (decide (0 ≤ n ∧ LenOk n.toNat) = false) := decide_eq_false hm
    clear hm
    go_enter Tryd.func15, Tryd.ntmps15
    go_wp2_with fail
    refine (rfr_may n _).mono ?_
    rintro r w' ⟨rfl, rfl⟩
    rw [HD.out]
    go_wp2_with fail
    go_ret
    exact ⟨rfl, Below.refl _ _⟩

theorem zs_piece (s : ByteArray) (k : Nat) : zsTo (piece s 9 k) (piece s 9 k).size = zs (piece s 9 k).data.toList := by
  unfold zsTo
  rw [List.take_of_length_le (by simp)]
theorem blank_no {s : ByteArray} {k c : Nat} (h : blankTo s k = false) (hc : k ≤ c) : blankTo s c = false := by
  induction c with
  | zero => rw [← Nat.le_zero.1 hc]; exact h
  | succ c ih =>
    by_cases e : k = c + 1
    · rw [← e]; exact h
    · show (blankTo s c && _) = false
      rw [ih (by omega)]; rfl
set_option maxRecDepth 100000 in
theorem rfr_erased (s : ByteArray) (w : World) (h : s.size ≤ 400) : Calls Tryd.prog 37 #[.string s] w fun r w' => r = .returned (.bool (blankTo s (s.size / 9))) ∧ w = w' := by
  obtain ⟨c, hc⟩ : ∃ c, s.size / 9 = c := ⟨_, rfl⟩
  have HC := Lib.hid hc
  rw [hc]
  clear hc
  go_enter Tryd.func37, Tryd.ntmps37
  go_wp2
  go_loop [3] (fun i => ∃ k : Nat, k ≤ c ∧ i = .int .i64 ((9 * k : Nat) : Int) ∧ blankTo s k = true) (fun i => s.size + 9 - (intOf i).toNat)
  case atStart => exact ⟨0, Nat.zero_le _, rfl, rfl⟩
  case round =>
    obtain ⟨k, hk, rfl, hbl⟩ := hrel
    have HBL := Lib.hid hbl
    clear hbl
    have hc2 := HC.out
    obtain ⟨j, hj⟩ : ∃ j, 9 * k = j := ⟨_, rfl⟩
    rw [hj]
    by_cases hlt : k < c
    · have hjs : j + 9 ≤ s.size := by omega
      have hp : piece s 9 k = s.extract j (j + 9) := by unfold piece; rw [hj]
      have HS : Hid (blankTo s (k + 1) = (blankTo s k && decide (zs (s.extract j (j + 9)).data.toList ≤ 1))) := by show (blankTo s k && decide (zs (piece s 9 k).data.toList ≤ 1)) = _; rw [hp]
      have hz9 := piece_size s 9 k (by omega)
      have hzz := zs_piece s k
      rw [hp] at hz9 hzz
      have HZ9 := Lib.hid hz9
      have HZZ := Lib.hid hzz
      have HJ := Lib.hid hj
      clear hp hz9 hzz hj hc2
      go_wp2_with fail
      refine (rzeros_any (s.extract j (j + 9)) _ (by rw [HZ9.out]; decide)).mono ?_
      rintro r w' ⟨rfl, rfl⟩
      rw [HZZ.out]
      obtain ⟨z, hz⟩ : ∃ z, zs (s.extract j (j + 9)).data.toList = z := ⟨_, rfl⟩
      have HZ := Lib.hid hz
      rw [hz] at HS ⊢
      clear hz
      by_cases hz1 : z ≤ 1
      · have hzi : decide ((1 : Int) < (z : Int)) = false := by simp; omega
        have HT : Hid (blankTo s (k + 1) = true) := by rw [HS.out, HBL.out, decide_eq_true hz1]; rfl
        clear hz1
        go_wp2
        go_round
        case rel => exact ⟨k + 1, by omega, by have := HJ.out; rw [show 9 * (k + 1) = j + 9 by omega]; go_num, HT.out⟩
        case measure => simp [intOf]; omega
      · have hzi : decide ((1 : Int) < (z : Int)) = true := by simp; omega
        have HT : Hid (blankTo s (k + 1) = false) := by rw [HS.out, decide_eq_false hz1, Bool.and_false]; exact rfl
        have HN : Hid (blankTo s c = false) := blank_no HT.out (by omega)
        clear hz1
        go_wp2
        go_ret
        exact ⟨ret_bool (by rw [HN.out]), rfl⟩
    · obtain rfl : k = c := by omega
      have hj4 : j ≤ 400 := by omega
      have hjs : ¬ (j : Int) + 9 ≤ (s.size : Int) := by omega
      have hjb : decide ((j : Int) + 9 ≤ (s.size : Int)) = false := by simp; omega
      clear hc2
      go_wp2
      go_ret
      exact ⟨ret_bool (by rw [HBL.out]), rfl⟩

end Go.Proofs.YtlacmfacigfioaaDoor

/- The reference of layer 4, walked: May, Number, Encode, Of, Decode. -/
namespace Go.Proofs.YtlacmfacigfioaaDoor
open Go.RowKit

/-- a tag's value -/
def tv (k l q e : Int) : Value := .agg #[.int .i64 k, .int .i64 l, .int .i64 q, .int .i64 e]
theorem below_eq {w w' : World} (h : w = w') : Below w.heap.size w w' := by subst h; exact Below.refl _ _

set_option maxRecDepth 100000 in
theorem rtag_may_any (k l q e : Int) (w : World) :
    Calls Tryd.prog 54 #[.agg #[.int .i64 k, .int .i64 l, .int .i64 q, .int .i64 e]] w fun r w' => r = .returned (.bool (mayB k l q e)) ∧ Below w.heap.size w w' := by
  go_enter Tryd.func54, Tryd.ntmps54
  go_wp2
  all_goals go_ret
  all_goals exact ⟨ret_bool (by rw [Bool.eq_iff_iff, mayB_iff]; unfold MayT; simp; try omega), (Below.refl _ _).alloc (Nat.le_refl _) _⟩

def NumPost (v : Int) (n : Nat) (w : World) (r : Ending) (w' : World) : Prop := r = .returned (.string (leS v n)) ∧ Below w.heap.size w w'
theorem rtag_number (v : Int) (n : Nat) (w : World) (h1 : 1 ≤ n) (h2 : n ≤ 8) (v0 : 0 ≤ v) (v1 : v < p2 (8 * n)) (v2 : v ≤ 9223372036854775807) :
    Calls Tryd.prog 55 #[.int .i64 v, .int .i64 n] w (NumPost v n w) := by
  have HV := Lib.hid v1
  clear v1
  go_enter Tryd.func55, Tryd.ntmps55
  go_wp2_with fail
  refine (rput_fit v n _ h1 h2 v0 HV.out).mono ?_
  rintro r w1 ⟨rfl, hb1⟩
  have HB1 := Lib.hid hb1
  clear hb1
  go_wp2_with fail
  go_ret
  exact ⟨rfl, HB1.out⟩

theorem rtag_of (s : ByteArray) (w : World) (h1 : 1 ≤ s.size) (h2 : s.size ≤ 6) :
    Calls Tryd.prog 67 #[.string s] w fun r w' => r = .returned (.int .i64 (numS s)) ∧ w = w' := by
  have hn : 0 ≤ numS s ∧ numS s < 9223372036854775807 := by
    have h := numTo_bd s s.size (Nat.le_refl _)
    have h3 : p2 (8 * s.size) ≤ p2 48 := p2_le (by omega)
    have h4 : p2 48 = 281474976710656 := by decide
    unfold numS; omega
  obtain ⟨x, hx⟩ : ∃ x, numS s = x := ⟨_, rfl⟩
  have HX := Lib.hid hx
  rw [hx] at hn ⊢
  clear hx
  go_enter Tryd.func67, Tryd.ntmps67
  go_wp2_with fail
  refine (rget_yes s _ h1 (by omega)).mono ?_
  rintro r w1 ⟨rfl, rfl⟩
  rw [HX.out]
  go_wp2_with fail
  go_ret
  exact ⟨rfl, rfl⟩

theorem cat_bytes (a b : List UInt8) : (⟨a.toArray⟩ : ByteArray) ++ (⟨b.toArray⟩ : ByteArray) = ⟨(a ++ b).toArray⟩ := by
  rw [ByteArray.mk_append_mk]
theorem tag_cat (k l q e : Int) : (((strOfNums [27, k] ++ leS l 2) ++ leS q 6) ++ leS e 4) ++ strOfNums [0, 0] = tagS k l q e := by
  unfold leS strOfNums
  simp only [cat_bytes]
  rfl
theorem conv2 (c d : Int) (ty : TypeId) (W : World) :
    Sem.run Tryd.prog (convert 45 9 (.slice (some ⟨W.heap.size, 0, none⟩) 2 2)) (W.alloc (.cells #[.int .u8 c, .int .u8 d] ty))
      = .ok (.string (strOfNums [c, d])) (W.alloc (.cells #[.int .u8 c, .int .u8 d] ty)) := by
  refine run_convert_bytes_arg (P := Tryd.prog) _ 45 5 Tryd.underlying45 Tryd.underlying5 W.heap.size 0 2 2 [c, d] rfl ?_ 9 Tryd.underlying9
  intro i hi
  rw [Nat.zero_add, World.cell?_alloc_new]
  rcases i with _ | _ | i
  · rfl
  · rfl
  · omega

/-- the tag's copy lies in this block, and nothing below has turned -/
def KT (k l q e : Int) (w w' : World) : Prop := w'.cell? ⟨w.heap.size, 0, none⟩ = some (.int .i64 k) ∧ w'.cell? ⟨w.heap.size, 1, none⟩ = some (.int .i64 l) ∧ w'.cell? ⟨w.heap.size, 2, none⟩ = some (.int .i64 q) ∧ w'.cell? ⟨w.heap.size, 3, none⟩ = some (.int .i64 e) ∧ Below w.heap.size w w'
theorem KT.first (k l q e : Int) (w : World) (ty : TypeId) : KT k l q e w (w.alloc (.cells #[.int .i64 k, .int .i64 l, .int .i64 q, .int .i64 e] ty)) :=
  ⟨by rw [World.cell?_alloc_new]; rfl, by rw [World.cell?_alloc_new]; rfl, by rw [World.cell?_alloc_new]; rfl, by rw [World.cell?_alloc_new]; rfl, (Below.refl _ _).alloc (Nat.le_refl _) _⟩
theorem KT.drew {k l q e : Int} {w w' : World} (h : KT k l q e w w') : KT k l q e w w'.drew := ⟨h.1, h.2.1, h.2.2.1, h.2.2.2.1, h.2.2.2.2.drew⟩
theorem KT.call {k l q e : Int} {w w1 w2 : World} (h : KT k l q e w w1) (hb : Below w1.heap.size w1 w2) : KT k l q e w w2 :=
  ⟨(hb.cell (cell_lt h.1)).trans h.1, (hb.cell (cell_lt h.2.1)).trans h.2.1, (hb.cell (cell_lt h.2.2.1)).trans h.2.2.1, (hb.cell (cell_lt h.2.2.2.1)).trans h.2.2.2.1, h.2.2.2.2.trans (hb.mono h.2.2.2.2.size)⟩
theorem KT.alloc {k l q e : Int} {w w1 : World} (h : KT k l q e w w1) (o : Obj) : KT k l q e w (w1.alloc o) := h.call ((Below.refl _ _).alloc (Nat.le_refl _) _)

theorem rtag_enc_no (k l q e : Int) (w : World) (hm : ¬ MayT k l q e) : Calls Tryd.prog 30 #[.agg #[.int .i64 k, .int .i64 l, .int .i64 q, .int .i64 e]] w fun r w' => r = .returned (.tuple #[.string ByteArray.empty, .int .i64 1]) ∧ Below w.heap.size w w' := by
  have HB : Hid (mayB k l q e = false) := by rw [← Bool.not_eq_true, mayB_iff]; exact hm
  clear hm
  have hK := KT.first k l q e w 23
  go_enter Tryd.func30, Tryd.ntmps30
  go_wp2_with fail
  refine (rtag_may_any k l q e _).mono ?_
  rintro r w1 ⟨rfl, hb1⟩
  have HK1 := Lib.hid (hK.call hb1)
  rw [HB.out]
  clear hK hb1
  go_wp2_with fail
  go_ret2
  exact ⟨rfl, HK1.out.2.2.2.2⟩

end Go.Proofs.YtlacmfacigfioaaDoor
