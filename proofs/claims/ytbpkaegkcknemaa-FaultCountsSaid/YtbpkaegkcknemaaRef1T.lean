/- Texts with a bit turned, and a text as one number: what turning a bit does to it. -/
import Derived.Test.YtbpkaegkcknemaaRef1
import Derived.Test.YtbpkaegkcknemaaBs
import Derived.Test.YtbpkaegkcknemaaCrcM
namespace Go.Proofs.Ytbpkaegkcknemaa
open Go.RowKit

/-- a byte with one bit the other way -/
def fb (c : UInt8) (j : Nat) : UInt8 := UInt8.ofNat (bits .xor .u8 (c.toNat : Int) (2 ^ j % 256)).toNat
theorem fb_fb (c : UInt8) (j : Nat) (hj : j < 8) : fb (fb c j) j = c := by
  have h : ∀ n, n < 256 → ∀ j, j < 8 → fb (fb (UInt8.ofNat n) j) j = UInt8.ofNat n := by decide +kernel
  have := h _ c.toNat_lt j hj
  rwa [UInt8.ofNat_toNat] at this
theorem fb_comm (c : UInt8) (j k : Nat) (hj : j < 8) (hk : k < 8) : fb (fb c j) k = fb (fb c k) j := by
  have h : ∀ n, n < 256 → ∀ j, j < 8 → ∀ k, k < 8 → fb (fb (UInt8.ofNat n) j) k = fb (fb (UInt8.ofNat n) k) j := by decide +kernel
  have := h _ c.toNat_lt j hj k hk
  rwa [UInt8.ofNat_toNat] at this
theorem fb_ne (c : UInt8) (j k : Nat) (hj : j < 8) (hk : k < 8) (h0 : fb (fb c j) k = c) : j = k := by
  have h : ∀ n, n < 256 → ∀ j, j < 8 → ∀ k, k < 8 → fb (fb (UInt8.ofNat n) j) k = UInt8.ofNat n → j = k := by decide +kernel
  have := h _ c.toNat_lt j hj k hk
  rw [UInt8.ofNat_toNat] at this
  exact this h0
theorem fb_self (c : UInt8) (j : Nat) (hj : j < 8) : fb c j ≠ c := by
  have h : ∀ n, n < 256 → ∀ j, j < 8 → fb (UInt8.ofNat n) j ≠ UInt8.ofNat n := by decide +kernel
  have := h _ c.toNat_lt j hj
  rwa [UInt8.ofNat_toNat] at this
/-- the same of a list of bytes -/
def fl (l : List UInt8) (i j : Nat) : List UInt8 := l.set i (fb (l.getD i 0) j)
theorem fl_length (l : List UInt8) (i j : Nat) : (fl l i j).length = l.length := by simp [fl]
theorem fl_get (l : List UInt8) (i j k : Nat) (hk : k < l.length) : (fl l i j).getD k 0 = if i = k then fb (l.getD i 0) j else l.getD k 0 := by
  unfold fl
  by_cases h : i = k
  · subst h; simp [List.getD, hk]
  · simp [List.getD, h]
theorem list_ext {a b : List UInt8} (h : a.length = b.length) (h2 : ∀ k, k < a.length → a.getD k 0 = b.getD k 0) : a = b := by
  apply List.ext_getElem h
  intro k h3 h4
  have := h2 k h3
  simpa [List.getD, h3, h4] using this
theorem fl_fl (l : List UInt8) (i j : Nat) (hi : i < l.length) (hj : j < 8) : fl (fl l i j) i j = l := by
  apply list_ext (by rw [fl_length, fl_length])
  intro k hk
  rw [fl_length, fl_length] at hk
  rw [fl_get _ _ _ _ (by rw [fl_length]; exact hk), fl_get _ _ _ _ hi, if_pos rfl, fl_get _ _ _ _ hk]
  split
  · subst_vars; exact fb_fb _ _ hj
  · rfl
theorem fl_comm (l : List UInt8) (i j i' j' : Nat) (hi : i < l.length) (hi' : i' < l.length) (hj : j < 8) (hj' : j' < 8) : fl (fl l i j) i' j' = fl (fl l i' j') i j := by
  apply list_ext (by simp only [fl_length])
  intro k hk
  simp only [fl_length] at hk
  rw [fl_get (fl l i j) i' j' k (by rw [fl_length]; exact hk), fl_get (fl l i' j') i j k (by rw [fl_length]; exact hk), fl_get l i j i' hi', fl_get l i' j' i hi, fl_get l i j k hk, fl_get l i' j' k hk]
  by_cases h1 : i = i'
  · subst h1
    by_cases h2 : i = k
    · simp only [h2, if_true]; exact fb_comm _ _ _ hj hj'
    · simp only [h2, if_false]
  · by_cases h2 : i' = k
    · subst h2; simp only [if_true, h1, if_false]
    · by_cases h3 : i = k
      · subst h3; simp only [h2, if_true, if_false, h1]
      · simp only [h2, h3, if_false]
theorem fl_ne (l : List UInt8) (i j i' j' : Nat) (hi : i < l.length) (hi' : i' < l.length) (hj : j < 8) (hj' : j' < 8) (h : fl (fl l i j) i' j' = l) : i = i' ∧ j = j' := by
  have h1 : (fl (fl l i j) i' j').getD i 0 = l.getD i 0 := by rw [h]
  rw [fl_get _ _ _ _ (by rw [fl_length]; exact hi), fl_get _ _ _ _ hi', fl_get _ _ _ _ hi] at h1
  by_cases h2 : i = i'
  · subst h2
    simp only [if_true] at h1
    exact ⟨rfl, fb_ne _ _ _ hj hj' h1⟩
  · simp only [if_true, Ne.symm h2, if_false] at h1
    exact absurd h1 (fb_self _ _ hj)
theorem flipS_eq (s : ByteArray) (i j : Nat) (hi : i < s.size) : flipS s i j = ⟨(fl s.data.toList i j).toArray⟩ := by
  unfold flipS
  apply strOfNums_eq
  rw [nums_get s i hi, List.map_set]
  have e : (nums s).map (fun n : Int => UInt8.ofNat n.toNat) = s.data.toList := by
    unfold nums
    rw [List.map_map]
    have e : ((fun n : Int => UInt8.ofNat n.toNat) ∘ fun b : UInt8 => (b.toNat : Int)) = id := by funext b; simp
    rw [e, List.map_id]
  rw [e]
  unfold fl fb
  have hg : s.data.toList.getD i 0 = s[i] := by simp [List.getD, hi]; rfl
  rw [hg]
theorem flipS_list (s : ByteArray) (i j : Nat) (hi : i < s.size) : (flipS s i j).data.toList = fl s.data.toList i j := by rw [flipS_eq s i j hi]
theorem flipS_size (s : ByteArray) (i j : Nat) (hi : i < s.size) : (flipS s i j).size = s.size := by
  have h : (flipS s i j).data.toList.length = s.data.toList.length := by rw [flipS_list s i j hi, fl_length]
  simpa using h
theorem bytes_ext {a b : ByteArray} (h : a.data.toList = b.data.toList) : a = b := by
  cases a; cases b
  simp only at h
  congr 1
  exact Array.toList_inj.1 h
theorem len_list (s : ByteArray) : s.data.toList.length = s.size := by simp
theorem flipS_twice (s : ByteArray) (i j : Nat) (hi : i < s.size) (hj : j < 8) : flipS (flipS s i j) i j = s := by
  apply bytes_ext
  rw [flipS_list _ _ _ (by rw [flipS_size s i j hi]; exact hi), flipS_list s i j hi, fl_fl _ _ _ (by rw [len_list]; exact hi) hj]
theorem flipS_comm (s : ByteArray) (i j i' j' : Nat) (hi : i < s.size) (hi' : i' < s.size) (hj : j < 8) (hj' : j' < 8) : flipS (flipS s i j) i' j' = flipS (flipS s i' j') i j := by
  apply bytes_ext
  rw [flipS_list _ _ _ (by rw [flipS_size s i j hi]; exact hi'), flipS_list s i j hi, flipS_list _ _ _ (by rw [flipS_size s i' j' hi']; exact hi), flipS_list s i' j' hi']
  exact fl_comm _ _ _ _ _ (by rw [len_list]; exact hi) (by rw [len_list]; exact hi') hj hj'
theorem flipS_ne (s : ByteArray) (i j i' j' : Nat) (hi : i < s.size) (hi' : i' < s.size) (hj : j < 8) (hj' : j' < 8) (h : (flipS (flipS s i j) i' j').data.toList = s.data.toList) : i = i' ∧ j = j' := by
  rw [flipS_list _ _ _ (by rw [flipS_size s i j hi]; exact hi'), flipS_list s i j hi] at h
  exact fl_ne _ _ _ _ _ (by rw [len_list]; exact hi) (by rw [len_list]; exact hi') hj hj' h

/-- a text's bytes -/
theorem bs_inj {a b : ByteArray} (h : bs a = bs b) : a = b := bytes_ext h
theorem numN_bit : ∀ (l : List UInt8) (k j : Nat) (c : UInt8), l[k]? = some c → j < 8 → (numN l).testBit (8 * k + j) = c.toNat.testBit j
  | [], k, j, c, h, _ => by simp at h
  | b :: l, 0, j, c, h, hj => by
    simp at h; subst h
    have hb : b.toNat < 2 ^ 8 := b.toNat_lt
    rw [show numN (b :: l) = 2 ^ 8 * numN l + b.toNat by simp only [numN]; omega, Nat.testBit_two_pow_mul_add _ hb, if_pos (by omega), show 8 * 0 + j = j by omega]
  | b :: l, k + 1, j, c, h, hj => by
    have hb : b.toNat < 2 ^ 8 := b.toNat_lt
    rw [show numN (b :: l) = 2 ^ 8 * numN l + b.toNat by simp only [numN]; omega, Nat.testBit_two_pow_mul_add _ hb, if_neg (by omega), show 8 * (k + 1) + j - 8 = 8 * k + j by omega]
    exact numN_bit l k j c (by simpa using h) hj
theorem str_bit (s : ByteArray) (k j : Nat) (hk : k < s.size) (hj : j < 8) : (numN (bs s)).testBit (8 * k + j) = s[k].toNat.testBit j :=
  numN_bit _ k j _ (by simp [bs, hk]; rfl) hj
theorem fb_bit (c : UInt8) (j t : Nat) (hj : j < 8) (ht : t < 8) : (fb c j).toNat.testBit t = (c.toNat.testBit t ^^ decide (j = t)) := by
  have h : ∀ n, n < 256 → ∀ j, j < 8 → ∀ t, t < 8 → (fb (UInt8.ofNat n) j).toNat.testBit t = ((UInt8.ofNat n).toNat.testBit t ^^ decide (j = t)) := by decide +kernel
  have := h _ c.toNat_lt j hj t ht
  rwa [UInt8.ofNat_toNat] at this
/-- a bit turned is a power of two put to the number -/
theorem numN_fl (l : List UInt8) (i j : Nat) (hi : i < l.length) (hj : j < 8) : numN (fl l i j) = numN l ^^^ 2 ^ (8 * i + j) := by
  apply Nat.eq_of_testBit_eq
  intro t
  rw [Nat.testBit_xor, Nat.testBit_two_pow]
  obtain ⟨k, r, rfl, hr⟩ : ∃ k r, t = 8 * k + r ∧ r < 8 := ⟨t / 8, t % 8, by omega, by omega⟩
  by_cases hk : k < l.length
  · have hg := fl_get l i j k hk
    have h1 : (fl l i j)[k]? = some ((fl l i j).getD k 0) := by simp [List.getD, fl_length, hk]
    have h2 : l[k]? = some (l.getD k 0) := by simp [List.getD, hk]
    rw [numN_bit _ k r _ h1 hr, numN_bit _ k r _ h2 hr, hg]
    by_cases e : i = k
    · subst e
      rw [if_pos rfl, fb_bit _ _ _ hj hr]
      congr 1
      exact decide_eq_decide.2 ⟨fun h => by omega, fun h => by omega⟩
    · rw [if_neg e, decide_eq_false (by omega)]; simp
  · have b1 := numN_lt (fl l i j)
    have b2 := numN_lt l
    rw [fl_length] at b1
    have z1 : (numN (fl l i j)).testBit (8 * k + r) = false := Nat.testBit_lt_two_pow (Nat.lt_of_lt_of_le b1 (Nat.pow_le_pow_right (by decide) (by omega)))
    have z2 : (numN l).testBit (8 * k + r) = false := Nat.testBit_lt_two_pow (Nat.lt_of_lt_of_le b2 (Nat.pow_le_pow_right (by decide) (by omega)))
    rw [z1, z2, decide_eq_false (by omega)]; rfl
theorem numN_flip (s : ByteArray) (i j : Nat) (hi : i < s.size) (hj : j < 8) : numN (bs (flipS s i j)) = numN (bs s) ^^^ 2 ^ (8 * i + j) := by
  unfold bs
  rw [flipS_list s i j hi]
  exact numN_fl _ i j (by rw [len_list]; exact hi) hj

end Go.Proofs.Ytbpkaegkcknemaa
