/- The walk of the law CrcBursts. -/
import Derived.Test.YtmfonbpdjphikaaDoorCrcL1
namespace Go.Proofs.YtmfonbpdjphikaaDoor
open Go.RowKit

/-- a list of bytes with one bit the other way -/
def fx (l : List UInt8) (p : Nat) : List UInt8 := l.set (p / 8) (UInt8.ofNat ((l.getD (p / 8) 0).toNat ^^^ 2 ^ (p % 8)))
theorem fx_length (l : List UInt8) (p : Nat) : (fx l p).length = l.length := by simp [fx]
theorem mul_xor (n a b : Nat) : 2 ^ n * (a ^^^ b) = 2 ^ n * a ^^^ 2 ^ n * b := by
  apply Nat.eq_of_testBit_eq; intro i
  rw [Nat.testBit_xor, Nat.testBit_two_pow_mul, Nat.testBit_two_pow_mul, Nat.testBit_two_pow_mul, Nat.testBit_xor]
  by_cases h : n ≤ i <;> simp [h]
theorem numN_cons_xor (b : UInt8) (l : List UInt8) : numN (b :: l) = b.toNat ^^^ 2 ^ 8 * numN l := add_xor b.toNat (numN l) 8 b.toNat_lt
theorem xor_lt (c j : Nat) (hc : c < 256) (hj : j < 8) : c ^^^ 2 ^ j < 256 :=
  Nat.xor_lt_two_pow (n := 8) hc (Nat.pow_lt_pow_right (by decide) hj)
theorem numN_fx : ∀ (l : List UInt8) (p : Nat), p < 8 * l.length → numN (fx l p) = numN l ^^^ 2 ^ p
  | [], p, h => by simp at h
  | b :: l, p, h => by
    have hb : b.toNat < 256 := b.toNat_lt
    by_cases hp : p < 8
    · have e : fx (b :: l) p = UInt8.ofNat (b.toNat ^^^ 2 ^ p) :: l := by
        unfold fx
        rw [show p / 8 = 0 by omega, show p % 8 = p by omega]; rfl
      rw [e, numN_cons_xor, numN_cons_xor, UInt8.toNat_ofNat', Nat.mod_eq_of_lt (xor_lt _ _ hb hp)]
      rw [Nat.xor_assoc, Nat.xor_assoc, Nat.xor_comm (2 ^ p)]
    · have e : fx (b :: l) p = b :: fx l (p - 8) := by
        unfold fx
        rw [show p / 8 = (p - 8) / 8 + 1 by omega, show p % 8 = (p - 8) % 8 by omega]; rfl
      have h2 := numN_fx l (p - 8) (by rw [List.length_cons] at h; omega)
      rw [e, numN_cons_xor, numN_cons_xor, h2, mul_xor, ← Nat.pow_add, show 8 + (p - 8) = p by omega, Nat.xor_assoc]
def ints (l : List UInt8) : List Int := l.map fun b => (b.toNat : Int)
theorem ints_length (l : List UInt8) : (ints l).length = l.length := by simp [ints]
theorem ints_get (l : List UInt8) (i : Nat) (h : i < l.length) : (ints l).getD i 0 = ((l.getD i 0).toNat : Int) := by simp [ints, List.getD, h]
theorem xor_u8 (c j : Nat) (hc : c < 256) (hj : j < 8) : bits .xor .u8 (c : Int) (2 ^ j % 256) = ((c ^^^ 2 ^ j : Nat) : Int) := by
  have h : ∀ c, c < 256 → ∀ j, j < 8 → bits .xor .u8 ((c : Nat) : Int) (2 ^ (j : Nat) % 256) = ((c ^^^ 2 ^ j : Nat) : Int) := by decide +kernel
  exact h c hc j hj
theorem ints_fx (l : List UInt8) (p : Nat) (c : Nat) (hc : (l.getD (p / 8) 0).toNat = c) : ints (fx l p) = (ints l).set (p / 8) ((c ^^^ 2 ^ (p % 8) : Nat) : Int) := by
  have hb : c < 256 := by rw [← hc]; exact (l.getD (p / 8) 0).toNat_lt
  unfold ints fx
  rw [List.map_set, hc, UInt8.toNat_ofNat', Nat.mod_eq_of_lt (xor_lt _ _ hb (by omega))]
theorem strOfNums_ints (l : List UInt8) : strOfNums (ints l) = ⟨l.toArray⟩ := by
  apply strOfNums_eq
  unfold ints
  rw [List.map_map]
  have e : ((fun n : Int => UInt8.ofNat n.toNat) ∘ fun b : UInt8 => (b.toNat : Int)) = id := by funext b; simp
  rw [e, List.map_id]
theorem nums_ints (s : ByteArray) : nums s = ints (bs s) := rfl
/-- a burst: the bits so far -/
theorem burst_yes (L p k B : Nat) (h : B.testBit k = true) : L ^^^ 2 ^ p * (B % 2 ^ (k + 1)) = (L ^^^ 2 ^ p * (B % 2 ^ k)) ^^^ 2 ^ (p + k) := by
  rw [mod_succ, h, if_pos rfl, Nat.mul_one, show B % 2 ^ k + 2 ^ k = B % 2 ^ k + 2 ^ k * 1 by omega, add_xor _ _ _ (Nat.mod_lt _ (Nat.two_pow_pos k)), Nat.mul_one, mul_xor, ← Nat.pow_add, Nat.xor_assoc]
theorem burst_no (L p k B : Nat) (h : B.testBit k = false) : L ^^^ 2 ^ p * (B % 2 ^ (k + 1)) = L ^^^ 2 ^ p * (B % 2 ^ k) := by
  rw [mod_succ, h]; simp
theorem and_one (B k : Nat) (hB : B < 4294967296) : bits .and .u32 ((B : Int) / 2 ^ k) 1 = if B.testBit k then 1 else 0 := by
  have hx : B / 2 ^ k < 2 ^ 32 := Nat.lt_of_le_of_lt (Nat.div_le_self _ _) hB
  have h := (bits_nat .u32 32 (by decide) wraps_u32 (B / 2 ^ k) 1 hx (by decide)).1
  have e : ((B : Int) / 2 ^ k) = ((B / 2 ^ k : Nat) : Int) := by rw [Int.natCast_ediv, Int.natCast_pow]; rfl
  rw [e, show (1 : Int) = ((1 : Nat) : Int) from rfl, h, Nat.and_one_is_mod, Nat.testBit_eq_decide_div_mod_eq]
  have h2 : B / 2 ^ k % 2 = 0 ∨ B / 2 ^ k % 2 = 1 := by omega
  rcases h2 with h2 | h2 <;> simp [h2]
theorem whole_burst (s : ByteArray) (l : List UInt8) (p B : Nat) (hl : l.length = s.size + 4) (hB : B < 2 ^ 32) (hB0 : B ≠ 0) (hp : p ≤ 8 * l.length) (h : numN l = numN (bs (sealS s)) ^^^ 2 ^ p * B) : wholeB ⟨l.toArray⟩ = false := by
  rw [← Bool.not_eq_true, wholeB_iff]
  intro h2
  have h3 := more_burst (bs (sealS s)) l ones32 p B (by rw [bs_length, size_seal, hl]) hB hB0 (by rw [bs_length, size_seal, ← hl]; exact hp) h
  rw [bs_sealS, more_seal] at h3
  exact h3 h2.2.symm

/-- block G holds n bytes that are, as one number, L; they may be written -/
def BurstAt (w wr : World) (G n L : Nat) : Prop := ∃ l : List UInt8, l.length = n ∧ numN l = L ∧ BytesAt wr G (ints l) ∧ Below w.heap.size w wr ∧ (∀ i, i < n → wr.frozen? ⟨G, i, none⟩ = false)
theorem BurstAt.step {w wr : World} {G n L p c : Nat} {l : List UInt8} (h1 : l.length = n) (h2 : numN l = L) (h3 : BytesAt wr G (ints l)) (h4 : Below w.heap.size w wr) (h5 : ∀ i, i < n → wr.frozen? ⟨G, i, none⟩ = false)
    (hG : w.heap.size ≤ G) (hp : p < 8 * n) (hc : (l.getD (p / 8) 0).toNat = c) :
    BurstAt w (wr.setCell ⟨G, p / 8, none⟩ (.int .u8 ((c ^^^ 2 ^ (p % 8) : Nat) : Int))) G n (L ^^^ 2 ^ p) := by
  refine ⟨fx l p, by rw [fx_length, h1], by rw [numN_fx l p (by omega), h2], ?_, h4.setCell hG _, fun i hi => by rw [World.frozen?_setCell]; exact h5 i hi⟩
  rw [ints_fx l p c hc]
  exact h3.set (p / 8) _

set_option maxRecDepth 100000 in
theorem bursts_in (s : ByteArray) (p B : Nat) (w : World) (hs : s.size ≤ 1000) (hB : B < 4294967296) (hB0 : ((B : Int) == 0) = false) (hp : (p : Int) ≤ 8 * ((s.size : Int) + 4) - 32) (hT : TabAt w) (hg : 0 < w.heap.size) :
    Calls Tryd.prog 6 #[.string s, .int .i64 p, .int .u32 B] w fun e w' => e = .returned (.bool true) ∧ Below w.heap.size w w' := by
  have HT := Lib.hid hT
  have HSZ := Lib.hid (size_seal s)
  clear hT
  go_enter Tryd.func6, Tryd.ntmps6
  go_wp2_with fail
  refine (works_any _ HT.out hg).mono ?_
  rintro e w1 ⟨rfl, hb1⟩
  have HB1 := Lib.hid hb1
  clear hb1
  go_wp2_with fail
  refine (seal_any _ _ (by omega) (HT.out.below HB1.out hg)).mono ?_
  rintro e w2 ⟨rfl, hb2⟩
  have HB2 := Lib.hid (HB1.out.trans (hb2.mono HB1.out.size))
  clear hb2 HB1
  obtain ⟨cap, W1, hcv, hb3, hcs, hfz, hw1⟩ := bytes_of (P := Tryd.prog) (src := 9) (dst := 31) (e := 5) Tryd.underlying9 Tryd.underlying31 Tryd.underlying5 (sealS s) w2
  rw [HSZ.out] at hcv hfz
  obtain ⟨G, hG⟩ : ∃ G, w2.heap.size = G := ⟨_, rfl⟩
  have hGw : w.heap.size ≤ G := by rw [← hG]; exact HB2.out.size
  rw [hG] at hcv hb3 hcs hfz hw1
  have HB3 := Lib.hid (HB2.out.trans (hb3.mono hGw))
  have HW0 : Hid (BurstAt w W1 G (s.size + 4) (numN (bs (sealS s)) ^^^ 2 ^ p * (B % 2 ^ 0))) := by
    rw [Nat.pow_zero, Nat.mod_one, Nat.mul_zero, Nat.xor_zero]
    exact ⟨bs (sealS s), by rw [bs_length, HSZ.out], rfl, hcs, HB3.out, hfz⟩
  clear hb3 hcs hfz HB2 hG HB3
  go_wp2_with fail
  go_loopw [8] (fun i wr => ∃ k : Nat, k ≤ 32 ∧ i = .int .i64 k ∧ BurstAt w wr G (s.size + 4) (numN (bs (sealS s)) ^^^ 2 ^ p * (B % 2 ^ k))) (fun i _ => 32 - (intOf i).toNat)
  case atStart => exact ⟨0, by omega, rfl, HW0.out⟩
  case round =>
    obtain ⟨k, hk, rfl, hst⟩ := hrel
    have HW := Lib.hid hst
    clear hst HW0
    by_cases hlt : k < 32
    · have h1 := and_one B k hB
      cases hbit : B.testBit k
      · have HN : Hid (_ = _) := burst_no (numN (bs (sealS s))) p k B hbit
        rw [hbit] at h1
        simp only [Bool.false_eq_true, if_false] at h1
        clear hbit
        go_wp2
        go_roundw
        case rel => exact ⟨k + 1, by omega, by go_num, by rw [HN.out]; exact HW.out⟩
        case measure => simp [intOf]; omega
      · have HN : Hid (_ = _) := burst_yes (numN (bs (sealS s))) p k B hbit
        rw [hbit] at h1
        simp only [if_true] at h1
        clear hbit
        obtain ⟨l, hl1, hl2, hl3, hl4, hl5⟩ := HW.out
        have hpk : p + k < 8 * (s.size + 4) := by omega
        obtain ⟨c, hc⟩ : ∃ c, (l.getD ((p + k) / 8) 0).toNat = c := ⟨_, rfl⟩
        have hc256 : c < 256 := by rw [← hc]; exact (l.getD ((p + k) / 8) 0).toNat_lt
        have hcell := hl3 ((p + k) / 8) (by rw [ints_length]; omega)
        rw [ints_get _ _ (by omega), hc] at hcell
        have hf := hl5 ((p + k) / 8) (by omega)
        have HR := Lib.hid (BurstAt.step hl1 hl2 hl3 hl4 hl5 hGw hpk hc)
        have hx := xor_u8 c ((p + k) % 8) hc256 (by omega)
        clear hl1 hl2 hl3 hl4 hl5 hc
        go_wp2
        go_roundw
        case rel => exact ⟨k + 1, by omega, by go_num, by rw [HN.out]; exact HR.out⟩
        case measure => simp [intOf]; omega
    · obtain rfl : k = 32 := by omega
      obtain ⟨l, hl1, hl2, hl3, hl4, hl5⟩ := HW.out
      rw [Nat.mod_eq_of_lt (show B < 2 ^ 32 from hB)] at hl2
      have hcv2 := hl3.conv (P := Tryd.prog) (src := 31) (e := 5) (dst := 9) Tryd.underlying31 Tryd.underlying5 Tryd.underlying9 (s.size + 4) cap (by rw [ints_length, hl1])
      rw [strOfNums_ints] at hcv2
      have hB1 : B ≠ 0 := by intro h; subst h; simp at hB0
      have HF := Lib.hid (whole_burst s l p B hl1 hB hB1 (by omega) hl2)
      have HBel := Lib.hid hl4
      obtain ⟨t, ht⟩ : ∃ t : ByteArray, (⟨l.toArray⟩ : ByteArray) = t := ⟨_, rfl⟩
      have htz : t.size ≤ 100000 := by
        rw [← ht]; show l.toArray.size ≤ 100000; rw [List.size_toArray, hl1]; omega
      rw [ht] at hcv2 HF
      clear hl1 hl2 hl3 hl4 hl5 ht hcv
      go_wp2_with fail
      refine (whole_any _ _ htz (HT.out.below HBel.out hg)).mono ?_
      rintro e w5 ⟨rfl, hb5⟩
      rw [HF.out]
      have HB5 := Lib.hid (HBel.out.trans (hb5.mono HBel.out.size))
      clear hb5
      go_wp2_with fail
      go_ret
      exact ⟨rfl, HB5.out⟩

set_option maxRecDepth 100000 in
theorem bursts_none (s : ByteArray) (p B : Int) (w : World) (hm : (s.size : Int) ≤ 9223372036854775807) (h : (1000 < s.size) ∨ (s.size ≤ 1000 ∧ (B == 0) = true)) (hT : TabAt w) (hg : 0 < w.heap.size) :
    Calls Tryd.prog 6 #[.string s, .int .i64 p, .int .u32 B] w fun e w' => e = .returned (.bool true) ∧ Below w.heap.size w w' := by
  have HT := Lib.hid hT
  clear hT
  rcases h with h | ⟨h, hB⟩
  all_goals
    go_enter Tryd.func6, Tryd.ntmps6
    go_wp2_with fail
    refine (works_any _ HT.out hg).mono ?_
    rintro e w1 ⟨rfl, hb1⟩
    have HB1 := Lib.hid hb1
    clear hb1
    go_wp2_with fail
    go_ret
    exact ⟨rfl, HB1.out⟩

set_option maxRecDepth 100000 in
theorem bursts_out (s : ByteArray) (p B : Int) (w : World) (hs : s.size ≤ 1000) (hB0 : (B == 0) = false) (hp : p < 0 ∨ (0 ≤ p ∧ 8 * ((s.size : Int) + 4) - 32 < p)) (hT : TabAt w) (hg : 0 < w.heap.size) :
    Calls Tryd.prog 6 #[.string s, .int .i64 p, .int .u32 B] w fun e w' => e = .returned (.bool true) ∧ Below w.heap.size w w' := by
  have HT := Lib.hid hT
  have HSZ := Lib.hid (size_seal s)
  clear hT
  rcases hp with hp | ⟨hp0, hp⟩
  all_goals
    go_enter Tryd.func6, Tryd.ntmps6
    go_wp2_with fail
    refine (works_any _ HT.out hg).mono ?_
    rintro e w1 ⟨rfl, hb1⟩
    have HB1 := Lib.hid hb1
    clear hb1
    go_wp2_with fail
    refine (seal_any _ _ (by omega) (HT.out.below HB1.out hg)).mono ?_
    rintro e w2 ⟨rfl, hb2⟩
    have HB2 := Lib.hid (HB1.out.trans (hb2.mono HB1.out.size))
    clear hb2 HB1
    obtain ⟨cap, W1, hcv, hb3, _, _, _⟩ := bytes_of (P := Tryd.prog) (src := 9) (dst := 31) (e := 5) Tryd.underlying9 Tryd.underlying31 Tryd.underlying5 (sealS s) w2
    rw [HSZ.out] at hcv
    have HB3 := Lib.hid (HB2.out.trans (hb3.mono HB2.out.size))
    clear hb3 HB2
    go_wp2_with fail
    go_ret
    exact ⟨rfl, HB3.out⟩

theorem walk_CrcBursts (s : ByteArray) (p B : Int) (hs : s.size ≤ maxLen) (_wp : (Lit.int .i64 p).wf = true) (wB : (Lit.int .u32 B).wf = true) (w : World) (hT : TabAt w) (hg : 0 < w.heap.size) :
    Calls Tryd.prog 6 #[.string s, .int .i64 p, .int .u32 B] w fun e w' => e = .returned (.bool true) ∧ Below w.heap.size w w' := by
  have bB := bounds_u32 wB
  have hm : (s.size : Int) ≤ 9223372036854775807 := by unfold maxLen at hs; omega
  by_cases h1 : 1000 < s.size
  · exact bursts_none s p B w hm (Or.inl h1) hT hg
  · by_cases h2 : B = 0
    · exact bursts_none s p B w hm (Or.inr ⟨by omega, by simpa using h2⟩) hT hg
    · have h3 : (B == 0) = false := by simpa using h2
      by_cases h4 : 0 ≤ p ∧ p ≤ 8 * ((s.size : Int) + 4) - 32
      · obtain ⟨p, rfl⟩ := Int.eq_ofNat_of_zero_le h4.1
        obtain ⟨B, rfl⟩ := Int.eq_ofNat_of_zero_le bB.1
        exact bursts_in s p B w (by omega) (by omega) h3 h4.2 hT hg
      · exact bursts_out s p B w (by omega) h3 (by omega) hT hg

end Go.Proofs.YtmfonbpdjphikaaDoor
