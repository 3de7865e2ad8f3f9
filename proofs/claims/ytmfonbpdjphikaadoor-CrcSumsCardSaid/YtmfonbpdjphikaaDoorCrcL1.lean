/- The chapter's examples, and the walks of the laws CrcSums and CrcPieces. -/
import Derived.Test.YtmfonbpdjphikaaDoorCrcC2
namespace Go.Proofs.YtmfonbpdjphikaaDoor
open Go.RowKit

theorem whole_seal (s : ByteArray) : wholeB (sealS s) = true := by
  rw [wholeB_iff, bs_sealS]
  refine ⟨?_, more_seal _⟩
  rw [← bs_length, bs_sealS]; unfold sealN; rw [List.length_append, show (tail4 (sumN (bs s))).length = 4 from rfl]; omega
theorem size_seal (s : ByteArray) : (sealS s).size = s.size + 4 := by
  rw [← bs_length, bs_sealS]; unfold sealN; rw [List.length_append, bs_length]; rfl
theorem sum_seal (s : ByteArray) : sumN (bs (sealS s)) = good ^^^ ones32 := by unfold sumN; rw [bs_sealS, more_seal]

theorem ex_sum9 (w : World) (hT : TabAt w) : Calls Tryd.prog 8 #[.string ⟨#[49, 50, 51, 52, 53, 54, 55, 56, 57]⟩] w fun e w' => e = .returned (.int .u32 3421780262) ∧ w = w' := by
  have h := sum_any ⟨#[49, 50, 51, 52, 53, 54, 55, 56, 57]⟩ w (by decide) hT
  rwa [show ((sumN (bs ⟨#[49, 50, 51, 52, 53, 54, 55, 56, 57]⟩) : Nat) : Int) = 3421780262 by decide +kernel] at h
theorem ex_sum0 (w : World) (hT : TabAt w) : Calls Tryd.prog 8 #[.string ⟨#[]⟩] w fun e w' => e = .returned (.int .u32 0) ∧ w = w' := by
  have h := sum_any ⟨#[]⟩ w (by decide) hT
  rwa [show ((sumN (bs ⟨#[]⟩) : Nat) : Int) = 0 by decide +kernel] at h
theorem ex_whole (s : ByteArray) (w : World) (hm : s.size ≤ 1000) (hT : TabAt w) : Calls Tryd.prog 14 #[.string (sealS s)] w fun e w' => e = .returned (.bool true) ∧ Below w.heap.size w w' := by
  have h := whole_any (sealS s) w (by rw [size_seal]; omega) hT
  rwa [whole_seal] at h
theorem ex_not (w : World) (hT : TabAt w) : Calls Tryd.prog 14 #[.string ⟨#[97, 98, 99, 100]⟩] w fun e w' => e = .returned (.bool false) ∧ Below w.heap.size w w' := by
  have h := whole_any ⟨#[97, 98, 99, 100]⟩ w (by decide) hT
  have hn : wholeB ⟨#[97, 98, 99, 100]⟩ = false := by
    rw [← Bool.not_eq_true, wholeB_iff]
    intro h2
    exact absurd h2.2 (by decide +kernel)
  rwa [hn] at h

set_option maxRecDepth 100000 in
theorem works_any (w : World) (hT : TabAt w) (hg : 0 < w.heap.size) : Calls Tryd.prog 7 #[] w fun e w' => e = .returned (.bool true) ∧ Below w.heap.size w w' := by
  have HT := Lib.hid hT
  clear hT
  go_enter Tryd.func7, Tryd.ntmps7
  go_wp2_with fail
  refine (ex_sum9 _ HT.out).mono ?_
  rintro e w' ⟨rfl, rfl⟩
  go_wp2_with fail
  refine (ex_sum0 _ HT.out).mono ?_
  rintro e w' ⟨rfl, rfl⟩
  go_wp2_with fail
  refine (seal_any _ _ (by decide) HT.out).mono ?_
  rintro e w1 ⟨rfl, hb1⟩
  have HB1 := Lib.hid hb1
  clear hb1
  go_wp2_with fail
  refine (ex_whole _ _ (by decide) (HT.out.below HB1.out hg)).mono ?_
  rintro e w2 ⟨rfl, hb2⟩
  have HB2 := Lib.hid (HB1.out.trans (hb2.mono HB1.out.size))
  clear hb2 HB1
  go_wp2_with fail
  refine (ex_not _ (HT.out.below HB2.out hg)).mono ?_
  rintro e w3 ⟨rfl, hb3⟩
  have HB3 := Lib.hid (HB2.out.trans (hb3.mono HB2.out.size))
  clear hb3 HB2
  go_wp2_with fail
  go_ret
  exact ⟨rfl, HB3.out⟩

set_option maxRecDepth 100000 in
theorem walk_CrcSums (s : ByteArray) (st : Int) (hs : s.size ≤ maxLen) (ws : (Lit.int .u32 st).wf = true) (w : World) (hT : TabAt w) (hg : 0 < w.heap.size) :
    Calls Tryd.prog 3 #[.string s, .int .u32 st] w fun e w' => e = .returned (.bool true) ∧ Below w.heap.size w w' := by
  have bst := bounds_u32 ws
  obtain ⟨st, rfl⟩ := Int.eq_ofNat_of_zero_le bst.1
  have hm2 : (s.size : Int) ≤ 9223372036854775807 := by unfold maxLen at hs; omega
  have HT := Lib.hid hT
  clear hT hs
  by_cases h : s.size ≤ 500
  · go_enter Tryd.func3, Tryd.ntmps3
    go_wp2_with fail
    refine (sum_any _ _ (by omega) HT.out).mono ?_
    rintro e w' ⟨rfl, rfl⟩
    go_wp2_with fail
    refine (rsum_any _ _ (by omega)).mono ?_
    rintro e w1 ⟨rfl, hb1⟩
    have HB1 := Lib.hid hb1
    clear hb1
    go_wp2_with fail
    refine (more_any _ _ _ (by omega) (by omega) (HT.out.below HB1.out hg)).mono ?_
    rintro e w' ⟨rfl, rfl⟩
    go_wp2_with fail
    refine (rmore_any _ _ _ (by omega) (by omega)).mono ?_
    rintro e w2 ⟨rfl, hb2⟩
    have HB2 := Lib.hid (HB1.out.trans (hb2.mono HB1.out.size))
    clear hb2 HB1
    go_wp2_with fail
    refine (seal_any _ _ (by omega) (HT.out.below HB2.out hg)).mono ?_
    rintro e w3 ⟨rfl, hb3⟩
    have HB3 := Lib.hid (HB2.out.trans (hb3.mono HB2.out.size))
    clear hb3 HB2
    go_wp2_with fail
    refine (rseal_any _ _ (by omega)).mono ?_
    rintro e w4 ⟨rfl, hb4⟩
    have HB4 := Lib.hid (HB3.out.trans (hb4.mono HB3.out.size))
    clear hb4 HB3
    go_wp2_with fail
    refine (whole_any _ _ (by omega) (HT.out.below HB4.out hg)).mono ?_
    rintro e w5 ⟨rfl, hb5⟩
    have HB5 := Lib.hid (HB4.out.trans (hb5.mono HB4.out.size))
    clear hb5 HB4
    go_wp2_with fail
    refine (rwhole_any _ _ (by omega)).mono ?_
    rintro e w6 ⟨rfl, hb6⟩
    have HB6 := Lib.hid (HB5.out.trans (hb6.mono HB5.out.size))
    clear hb6 HB5
    go_wp2_with fail
    refine (works_any _ (HT.out.below HB6.out hg) (Nat.lt_of_lt_of_le hg HB6.out.size)).mono ?_
    rintro e w7 ⟨rfl, hb7⟩
    have HB7 := Lib.hid (HB6.out.trans (hb7.mono HB6.out.size))
    clear hb7 HB6
    go_wp2_with fail
    go_ret
    exact ⟨rfl, HB7.out⟩
  · go_enter Tryd.func3, Tryd.ntmps3
    go_wp2_with fail
    refine (works_any _ HT.out hg).mono ?_
    rintro e w7 ⟨rfl, hb7⟩
    have HB7 := Lib.hid hb7
    clear hb7
    go_wp2_with fail
    go_ret
    exact ⟨rfl, HB7.out⟩

end Go.Proofs.YtmfonbpdjphikaaDoor
