/- Layer 3 of texts: what the document asks of Encode and Decode, and what follows from it. -/
import Derived.Test.YtcjhojedenpmbaaDoorRef1T
import Derived.Test.YtcjhojedenpmbaaDoorHamM
namespace Go.Proofs.YtcjhojedenpmbaaDoor
open Go.RowKit

/-- eight bytes and their check -/
def encS (s : ByteArray) : ByteArray := ⟨(bs s ++ [UInt8.ofNat (encN (numN (bs s)))]).toArray⟩
theorem encS_size (s : ByteArray) : (encS s).size = s.size + 1 := by
  show (bs s ++ [UInt8.ofNat (encN (numN (bs s)))]).toArray.size = _
  simp [bs]
theorem num_lt (s : ByteArray) (h : s.size = 8) : numN (bs s) < 2 ^ 64 := by
  have := numN_lt (bs s)
  rwa [bs_length, h] at this
theorem num_lt9 (s : ByteArray) (h : s.size = 9) : numN (bs s) < 2 ^ 72 := by
  have := numN_lt (bs s)
  rwa [bs_length, h] at this
theorem num_enc (s : ByteArray) (h : s.size = 8) : numN (bs (encS s)) = word (numN (bs s)) := by
  show numN (bs s ++ [UInt8.ofNat (encN (numN (bs s)))]) = _
  have hc := encN_lt (numN (bs s))
  have hn : numN [UInt8.ofNat (encN (numN (bs s)))] = encN (numN (bs s)) := by
    show (UInt8.ofNat (encN (numN (bs s)))).toNat + 256 * 0 = _
    simp; omega
  rw [numN_append, bs_length, h, hn]
  exact add_xor _ _ _ (num_lt s h)
theorem enc_cat (s : ByteArray) (c : Int) (h : c = (encN (numN (bs s)) : Nat)) : s ++ strOfNums [c] = encS s := by
  subst h
  rw [strOfNums_eq [((encN (numN (bs s)) : Nat) : Int)] [UInt8.ofNat (encN (numN (bs s)))] (by simp)]
  apply bytes_ext
  rw [ByteArray.data_append, Array.toList_append]
  rfl
theorem take_ext (t : ByteArray) (n : Nat) : bs (t.extract 0 n) = (bs t).take n := by
  unfold bs; rw [ByteArray.data_extract]; simp
theorem enc_ext (s : ByteArray) (h : s.size = 8) : (encS s).extract 0 8 = s := by
  apply bs_inj
  rw [take_ext]
  show (bs s ++ [_]).take 8 = bs s
  rw [← h, ← bs_length, List.take_left]

/-- the eight bytes with the bit of this place turned, if it is theirs -/
def fixS (s : ByteArray) (p : Nat) : ByteArray := if idx p < 64 then (flipS s (idx p / 8) (idx p % 8)).extract 0 8 else s.extract 0 8
/-- what is decoded: the bytes, and what they are -/
def decS (s : ByteArray) : ByteArray × Nat :=
  if cnt (numN (bs s)) 72 % 2 = 0 then (if left (numN (bs s)) 72 = 0 then (s.extract 0 8, 2) else (ByteArray.empty, 4))
  else if 71 < left (numN (bs s)) 72 then (ByteArray.empty, 4) else (fixS s (left (numN (bs s)) 72), 3)
theorem dec_enc (s : ByteArray) (h : s.size = 8) : decS (encS s) = (s, 2) := by
  unfold decS
  rw [num_enc s h, if_pos (word_even (num_lt s h)), if_pos (word_left (num_lt s h)), enc_ext s h]
theorem num_one (s : ByteArray) (h : s.size = 8) (i j : Nat) (hi : i < 9) (hj : j < 8) : numN (bs (flipS (encS s) i j)) = word (numN (bs s)) ^^^ 2 ^ (8 * i + j) := by
  rw [numN_flip _ _ _ (by rw [encS_size]; omega) hj, num_enc s h]
theorem dec_one (s : ByteArray) (h : s.size = 8) (i j : Nat) (hi : i < 9) (hj : j < 8) : decS (flipS (encS s) i j) = (s, 3) := by
  have hz : (encS s).size = 9 := by rw [encS_size]; omega
  have hl := one_left (num_lt s h) (k := 8 * i + j) (by omega)
  unfold decS
  rw [num_one s h i j hi hj, if_neg (by rw [one_odd (num_lt s h) (by omega)]; decide), hl, if_neg (by have := place_le (8 * i + j); omega)]
  congr 1
  unfold fixS
  rw [idx_place (by omega)]
  by_cases h8 : i < 8
  · rw [if_pos (by omega), show (8 * i + j) / 8 = i by omega, show (8 * i + j) % 8 = j by omega, flipS_twice _ _ _ (by omega) hj, enc_ext s h]
  · rw [if_neg (by omega)]
    have e : (flipS (encS s) i j).extract 0 8 = (encS s).extract 0 8 := by
      apply bs_inj
      rw [take_ext, take_ext]
      unfold bs
      rw [flipS_list _ _ _ (by omega)]
      unfold fl
      rw [List.take_set_of_le (by omega)]
    rw [e, enc_ext s h]
theorem dec_two (s : ByteArray) (h : s.size = 8) (i j i' j' : Nat) (hi : i < 9) (hj : j < 8) (hi' : i' < 9) (hj' : j' < 8) (hne : flipS (flipS (encS s) i j) i' j' ≠ encS s) :
    decS (flipS (flipS (encS s) i j) i' j') = (ByteArray.empty, 4) := by
  have hz : (encS s).size = 9 := by rw [encS_size]; omega
  have hz1 : (flipS (encS s) i j).size = 9 := by rw [flipS_size _ _ _ (by omega), hz]
  have hd : 8 * i + j ≠ 8 * i' + j' := by
    intro e
    have h1 : i = i' := by omega
    have h2 : j = j' := by omega
    subst h1; subst h2
    exact hne (flipS_twice _ _ _ (by omega) hj)
  have hn : numN (bs (flipS (flipS (encS s) i j) i' j')) = word (numN (bs s)) ^^^ 2 ^ (8 * i + j) ^^^ 2 ^ (8 * i' + j') := by
    rw [numN_flip _ _ _ (by omega) hj', num_one s h i j hi hj]
  unfold decS
  rw [hn, if_pos (two_even (num_lt s h) (by omega) (by omega)), if_neg (two_left (num_lt s h) (by omega) (by omega) hd)]

/-- the bits that are 1 of a byte -/
def ones8 (n : Nat) : Nat := cnt n 8
theorem enc_apart (a b : ByteArray) (ha : a.size = 8) (hb : b.size = 8) (h : a ≠ b) : 4 ≤ cnt (numN (bs (encS a)) ^^^ numN (bs (encS b))) 72 := by
  rw [num_enc a ha, num_enc b hb]
  refine words_apart (num_lt a ha) (num_lt b hb) fun e => h (bs_inj (numN_inj _ _ (by rw [bs_length, bs_length, ha, hb]) e))

end Go.Proofs.YtcjhojedenpmbaaDoor
