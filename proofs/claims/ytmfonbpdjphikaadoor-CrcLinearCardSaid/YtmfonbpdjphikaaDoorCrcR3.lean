/- The reference's More, Sum, Tail, Seal and Whole. -/
import Derived.Test.YtmfonbpdjphikaaDoorCrcR2
namespace Go.Proofs.YtmfonbpdjphikaaDoor
open Go.RowKit

/-- a text's bytes -/
def bs (s : ByteArray) : List UInt8 := s.data.toList
theorem bs_length (s : ByteArray) : (bs s).length = s.size := by simp [bs]

theorem left_of {M n B : Nat} {v : Value} {w w1 : World} (ho : w.ownsRow B 4 1 v n (bl M n)) (hb : Below w.heap.size w w1) :
    ∃ a ca, v = .slice a n ca ∧ ∀ i, i < n → ∃ b, a = some ⟨b, 0, none⟩ ∧ b < w1.heap.size ∧ BitsAt w1 b 0 n M := by
  rcases owned_bits ho with ⟨rfl, rfl⟩ | ⟨g, cap, rfl, _, hg, hbits⟩
  · exact ⟨none, 0, rfl, fun i hi => by omega⟩
  · exact ⟨_, cap, rfl, fun i _ => ⟨g, rfl, Nat.lt_of_lt_of_le hg hb.size, hbits.below hb hg⟩⟩

def MoreR (X : Int) (w : World) (e : Ending) (w' : World) : Prop := e = .returned (.int .u32 X) ∧ Below w.heap.size w w'

set_option maxRecDepth 100000 in
theorem rmore_any (st : Nat) (s : ByteArray) (w : World) (hs : st < 4294967296) (hm : s.size ≤ 1000) :
    Calls Tryd.prog 11 #[.int .u32 st, .string s] w (MoreR (more st (bs s) : Nat) w) := by
  have HML := Lib.hid (more_lt st (bs s) hs)
  go_enter Tryd.func11, Tryd.ntmps11
  go_wp2_with fail
  refine (bits_any s _ hm).mono ?_
  rintro e w1 ⟨v, rfl, hown, hb1⟩
  have HO := Lib.hid hown
  have HB1 := Lib.hid hb1
  clear hown hb1
  go_wp2_with fail
  refine (of_any st _ hs).mono ?_
  rintro e w2 ⟨u, rfl, hown2, hb2⟩
  obtain ⟨a, ca, rfl, hL⟩ := left_of HO.out hb2
  rcases owned_bits hown2 with ⟨_, h⟩ | ⟨g, cap, rfl, hg1, hg, hbits⟩
  · omega
  have HL := Lib.hid hL
  have HF := Lib.hid hbits
  have HB2 := Lib.hid (HB1.out.trans (hb2.mono HB1.out.size))
  clear hL hbits hown2 hb2 HO HB1
  go_wp2_with fail
  have hnum : numN (bs s) < 2 ^ (8 * s.size) := by have := numN_lt (bs s); rwa [bs_length] at this
  refine (left_any a (8 * s.size) ca (numN (bs s)) g cap st w2 (by omega) HL.out hnum hg HF.out hs).mono ?_
  rintro e w3 ⟨g3, cap3, rfl, hbits3, hb3⟩
  have e3 : sN (8 * s.size) (numN (bs s) ^^^ st) = more st (bs s) := by unfold more; rw [bs_length, Nat.xor_comm]
  rw [e3] at hbits3
  have HB3 := Lib.hid (HB2.out.trans (hb3.mono HB2.out.size))
  have H3 := Lib.hid hbits3
  clear hbits3 hb3 e3 hnum
  go_wp2_with fail
  refine (number_any g3 _ _ cap3 _ HML.out H3.out).mono ?_
  rintro e w' ⟨rfl, rfl⟩
  go_wp2_with fail
  go_ret
  exact ⟨rfl, HB3.out⟩

theorem sumN_sub (l : List UInt8) : (4294967295 : Int) - (more ones32 l : Nat) = (sumN l : Nat) := by
  have h := more_lt ones32 l (by decide)
  have h2 := compl_xor _ h
  unfold sumN
  rw [← h2]; unfold ones32 at *; omega
theorem rsum_any (s : ByteArray) (w : World) (hm : s.size ≤ 1000) :
    Calls Tryd.prog 9 #[.string s] w (MoreR (sumN (bs s) : Nat) w) := by
  have HS := Lib.hid (sumN_sub (bs s))
  have hlt := more_lt ones32 (bs s) (by decide)
  go_enter Tryd.func9, Tryd.ntmps9
  go_wp2_with fail
  refine (rmore_any 4294967295 s _ (by decide) hm).mono ?_
  rintro e w1 ⟨rfl, hb1⟩
  have HB1 := Lib.hid hb1
  clear hb1
  rw [show more 4294967295 (bs s) = more ones32 (bs s) from rfl]
  go_wp2_with fail
  go_ret
  exact ⟨ret_int (by rw [← HS.out]), HB1.out⟩

/-- the k lowest bytes of a number, as numbers -/
def tlI (N : Nat) : Nat → List Int
  | 0 => []
  | k + 1 => tlI N k ++ [((N / 256 ^ k % 256 : Nat) : Int)]
theorem tlI_four (N : Nat) : strOfNums (tlI N 4) = ⟨(tail4 N).toArray⟩ := by
  apply strOfNums_eq
  show [UInt8.ofNat (((N / 256 ^ 0 % 256 : Nat) : Int)).toNat, UInt8.ofNat (((N / 256 ^ 1 % 256 : Nat) : Int)).toNat, UInt8.ofNat (((N / 256 ^ 2 % 256 : Nat) : Int)).toNat, UInt8.ofNat (((N / 256 ^ 3 % 256 : Nat) : Int)).toNat] = tail4 N
  simp only [Int.toNat_natCast]
  rw [Nat.pow_zero, Nat.div_one]; rfl
theorem Tryd.infoU8 : (Tryd.prog.info? 5).map (fun i => (i.zero, i.size, i.bytes)) = some (some (.int .u8 0), 1, 1) := by kernel_rfl
theorem rel_tail {w wr w1 : World} {B N k : Nat} {v' : Value} {x : Int} (ho : w1.ownsRow B 5 1 v' (k + 1) ((tlI N k).map (Value.int .u8) ++ [.int .u8 x])) (hv : x = ((N / 256 ^ k % 256 : Nat) : Int)) (hb : Below B w wr) (hg : Below B wr w1) :
    w1.ownsRow B 5 1 v' (k + 1) ((tlI N (k + 1)).map (Value.int .u8)) ∧ Below B w w1 := by
  subst hv; exact ⟨by simpa [tlI] using ho, hb.trans hg⟩

set_option maxRecDepth 100000 in
theorem rtail_any (N : Nat) (w : World) (hN : N < 4294967296) :
    Calls Tryd.prog 22 #[.int .u32 N] w fun e w' => e = .returned (.string ⟨(tail4 N).toArray⟩) ∧ Below w.heap.size w w' := by
  obtain ⟨i0, hi, hz0, hz1, hz2⟩ := info_parts Tryd.infoU8
  have HT := Lib.hid (tlI_four N)
  go_enter Tryd.func22, Tryd.ntmps22
  go_wp2
  go_loopw [0, 3, 4] (fun x b i wr => ∃ k : Nat, k ≤ 4 ∧ i = .int .i64 k ∧ x = .int .u32 ((N / 256 ^ k : Nat) : Int) ∧ wr.ownsRow w.heap.size 5 1 b k ((tlI N k).map (Value.int .u8)) ∧ Below w.heap.size w wr) (fun _ _ i _ => 4 - (intOf i).toNat)
  case atStart => exact ⟨0, by omega, rfl, by simp, ⟨rfl, Or.inl ⟨rfl, rfl⟩⟩, Below.refl _ _⟩
  case round =>
    obtain ⟨k, hk, rfl, rfl, hown, hb⟩ := hrel
    by_cases hlt : k < 4
    · obtain ⟨x, hx⟩ : ∃ x, N / 256 ^ k = x := ⟨_, rfl⟩
      have hxb : x < 4294967296 := by rw [← hx]; exact Nat.lt_of_le_of_lt (Nat.div_le_self _ _) hN
      have HX : Hid (N / 256 ^ (k + 1) = x / 256) := by rw [Nat.pow_succ, ← Nat.div_div_eq_div_mul, hx]; rfl
      have HY : Hid ((x : Int) % 256 = ((N / 256 ^ k % 256 : Nat) : Int)) := by rw [hx]; unfold Hid; omega
      rw [hx]
      clear hx
      go_wp2_with (at_builtin; refine wpList_append_own _ rfl _ _ 31 rfl w.heap.size 5 i0 (.int .u8 0) 1 1 Tryd.underlying31 hi hz0 hz1 hz2 rfl (by decide) _ _ _ rfl (hown.alloc _) ⟨wr.heap.size, 0, none⟩ 1 1 [.int .u8 ((x : Int) % 256)] rfl rfl ?c1 ?c2 ?c3 ?c4 ?c5 ?_)
      case c1 => exact cell_one_new _ _ _
      case c2 => intro u hu; simp at hu; subst hu; rfl
      case c3 => unfold maxLen; omega
      case c4 => omega
      case c5 => have := hb.size; simp; omega
      intro v' w1 hown1 hgrow _
      have HR := Lib.hid (rel_tail hown1 HY.out hb (own_below hown hb.size hgrow))
      clear hown1 hgrow hown
      go_wp2
      go_roundw
      case rel => exact ⟨k + 1, by omega, by go_num, by rw [HX.out]; go_num, HR.out.1, HR.out.2⟩
      case measure => simp [intOf]; omega
    · obtain rfl : k = 4 := by omega
      have hcv := conv_owned (P := Tryd.prog) (src := 31) (e := 5) (dst := 9) Tryd.underlying31 Tryd.underlying5 Tryd.underlying9 hown
      have HB := Lib.hid hb
      clear hown hb
      go_wp2
      go_ret
      exact ⟨by rw [← HT.out]; rfl, HB.out⟩

/-- a text, sealed -/
def sealS (s : ByteArray) : ByteArray := ⟨(sealN (bs s)).toArray⟩
theorem bs_sealS (s : ByteArray) : bs (sealS s) = sealN (bs s) := rfl
theorem seal_cat (s : ByteArray) : s ++ (⟨(tail4 (sumN (bs s))).toArray⟩ : ByteArray) = sealS s := by
  cases s with
  | mk d =>
    rw [ByteArray.mk_append_mk]
    unfold sealS sealN bs
    congr 1
theorem tail_str (N : Nat) : ∃ t : ByteArray, (⟨(tail4 N).toArray⟩ : ByteArray) = t ∧ t.size ≤ 4 := ⟨_, rfl, by show (tail4 N).toArray.size ≤ 4; simp [tail4]⟩

set_option maxRecDepth 100000 in
theorem rseal_any (s : ByteArray) (w : World) (hm : s.size ≤ 1000) :
    Calls Tryd.prog 13 #[.string s] w fun e w' => e = .returned (.string (sealS s)) ∧ Below w.heap.size w w' := by
  have HL := Lib.hid (sumN_lt (bs s))
  go_enter Tryd.func13, Tryd.ntmps13
  go_wp2_with fail
  refine (rsum_any s _ hm).mono ?_
  rintro e w1 ⟨rfl, hb1⟩
  have HB1 := Lib.hid hb1
  clear hb1
  go_wp2_with fail
  obtain ⟨t, ht, htz⟩ := tail_str (sumN (bs s))
  refine (rtail_any _ _ HL.out).mono ?_
  rintro e w2 ⟨rfl, hb2⟩
  rw [ht]
  have HB2 := Lib.hid (HB1.out.trans (hb2.mono HB1.out.size))
  have HT : Hid (s ++ t = sealS s) := by rw [← ht]; exact seal_cat s
  clear hb2 ht
  go_wp2_with fail
  go_ret
  exact ⟨by rw [← HT.out]; rfl, HB2.out⟩

/-- is it sealed? -/
def wholeB (s : ByteArray) : Bool := decide (4 ≤ s.size) && ((sealS (s.extract 0 (s.size - 4))).toList == s.toList)
theorem whole_short (s : ByteArray) (h : ¬ 4 ≤ s.size) : wholeB s = false := by unfold wholeB; rw [decide_eq_false h]; rfl
theorem whole_long (s : ByteArray) (h : 4 ≤ s.size) : wholeB s = ((sealS (s.extract 0 (s.size - 4))).toList == s.toList) := by unfold wholeB; rw [decide_eq_true h]; rfl
theorem bs_extract (s : ByteArray) (n : Nat) : bs (s.extract 0 n) = (bs s).take n := by
  unfold bs; rw [ByteArray.data_extract]; simp
theorem wholeB_iff (s : ByteArray) : wholeB s = true ↔ 4 ≤ s.size ∧ more ones32 (bs s) = good := by
  by_cases h : 4 ≤ s.size
  · rw [whole_long s h, beq_iff_eq, ByteArray.toList_eq, ByteArray.toList_eq]
    have h2 := whole_iff (bs s) (by rw [bs_length]; exact h)
    rw [bs_length] at h2
    rw [show (sealS (s.extract 0 (s.size - 4))).data.toList = sealN (bs (s.extract 0 (s.size - 4))) from rfl, bs_extract, show s.data.toList = bs s from rfl, h2]
    exact ⟨fun h3 => ⟨h, h3⟩, fun h3 => h3.2⟩
  · rw [whole_short s h]
    exact ⟨fun h2 => (by cases h2), fun h2 => absurd h2.1 h⟩

set_option maxRecDepth 100000 in
theorem rwhole_any (s : ByteArray) (w : World) (hm : s.size ≤ 1000) :
    Calls Tryd.prog 15 #[.string s] w fun e w' => e = .returned (.bool (wholeB s)) ∧ Below w.heap.size w w' := by
  by_cases h : 4 ≤ s.size
  · have HW := Lib.hid (whole_long s h)
    have hx : (s.extract 0 (s.size - 4)).size ≤ 1000 := by rw [ByteArray.size_extract]; omega
    go_enter Tryd.func15, Tryd.ntmps15
    go_wp2_with fail
    refine (rseal_any _ _ hx).mono ?_
    rintro e w1 ⟨rfl, hb1⟩
    have HB1 := Lib.hid hb1
    clear hb1
    go_wp2_with fail
    go_ret
    exact ⟨ret_bool HW.out.symm, HB1.out⟩
  · have HW := Lib.hid (whole_short s h)
    go_enter Tryd.func15, Tryd.ntmps15
    go_wp2
    go_ret
    exact ⟨ret_bool HW.out.symm, Below.refl _ _⟩

end Go.Proofs.YtmfonbpdjphikaaDoor
