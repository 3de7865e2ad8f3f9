/- The walk of the law CrcPieces. -/
import Derived.Test.YtmfonbpdjphikaaDoorCrcL1
namespace Go.Proofs.YtmfonbpdjphikaaDoor
open Go.RowKit

theorem bs_append (a b : ByteArray) : bs (a ++ b) = bs a ++ bs b := by
  cases a; cases b
  unfold bs
  rw [ByteArray.mk_append_mk]
theorem more_u32 (st : Nat) (l : List UInt8) (h : st < 4294967296) : more st l < 4294967296 := more_lt st l h

set_option maxRecDepth 100000 in
theorem pieces_in (a b : ByteArray) (st : Nat) (w : World) (ha : a.size ≤ 1000) (hb : b.size ≤ 1000) (hst : st < 4294967296) (hT : TabAt w) (hg : 0 < w.heap.size) :
    Calls Tryd.prog 4 #[.string a, .string b, .int .u32 st] w fun e w' => e = .returned (.bool true) ∧ Below w.heap.size w w' := by
  have HT := Lib.hid hT
  have hsz : (a ++ b).size ≤ 2000 := by rw [ByteArray.size_append]; omega
  have HM : Hid (more st (bs (a ++ b)) = more (more st (bs a)) (bs b)) := by rw [bs_append]; exact more_append _ _ _
  have HA := Lib.hid (more_u32 st (bs a) hst)
  have HC := Lib.hid (sum_xor (bs a))
  have HZ := Lib.hid (sum_seal a)
  have HZ0 := Lib.hid (sum_seal ⟨#[]⟩)
  have hsa := size_seal a
  have hs0 := size_seal ⟨#[]⟩
  have HSA := Lib.hid hsa
  clear hT hsa hs0
  go_enter Tryd.func4, Tryd.ntmps4
  go_wp2_with fail
  refine (works_any _ HT.out hg).mono ?_
  rintro e w1 ⟨rfl, hb1⟩
  have HB1 := Lib.hid hb1
  clear hb1
  go_wp2_with fail
  refine (more_any _ _ _ hst (by omega) (HT.out.below HB1.out hg)).mono ?_
  rintro e w' ⟨rfl, rfl⟩
  rw [HM.out]
  go_wp2_with fail
  refine (more_any _ _ _ hst (by omega) (HT.out.below HB1.out hg)).mono ?_
  rintro e w' ⟨rfl, rfl⟩
  go_wp2_with fail
  refine (more_any _ _ _ HA.out (by omega) (HT.out.below HB1.out hg)).mono ?_
  rintro e w' ⟨rfl, rfl⟩
  go_wp2_with fail
  refine (more_any 4294967295 _ _ (by decide) (by omega) (HT.out.below HB1.out hg)).mono ?_
  rintro e w' ⟨rfl, rfl⟩
  rw [show more 4294967295 (bs a) = more ones32 (bs a) from rfl]
  go_wp2_with fail
  rw [HC.out]
  refine (sum_any _ _ (by omega) (HT.out.below HB1.out hg)).mono ?_
  rintro e w' ⟨rfl, rfl⟩
  go_wp2_with fail
  refine (seal_any _ _ (by omega) (HT.out.below HB1.out hg)).mono ?_
  rintro e w2 ⟨rfl, hb2⟩
  have HB2 := Lib.hid (HB1.out.trans (hb2.mono HB1.out.size))
  clear hb2 HB1
  go_wp2_with fail
  refine (ex_whole _ _ (by omega) (HT.out.below HB2.out hg)).mono ?_
  rintro e w3 ⟨rfl, hb3⟩
  have HB3 := Lib.hid (HB2.out.trans (hb3.mono HB2.out.size))
  clear hb3 HB2
  go_wp2_with fail
  refine (seal_any _ _ (by omega) (HT.out.below HB3.out hg)).mono ?_
  rintro e w4 ⟨rfl, hb4⟩
  have HB4 := Lib.hid (HB3.out.trans (hb4.mono HB3.out.size))
  clear hb4 HB3
  go_wp2_with fail
  refine (sum_any _ _ (by rw [HSA.out]; omega) (HT.out.below HB4.out hg)).mono ?_
  rintro e w' ⟨rfl, rfl⟩
  rw [HZ.out]
  go_wp2_with fail
  refine (seal_any ⟨#[]⟩ _ (by decide) (HT.out.below HB4.out hg)).mono ?_
  rintro e w5 ⟨rfl, hb5⟩
  have HB5 := Lib.hid (HB4.out.trans (hb5.mono HB4.out.size))
  clear hb5 HB4
  go_wp2_with fail
  refine (sum_any (sealS ⟨#[]⟩) _ (by rw [size_seal]; decide) (HT.out.below HB5.out hg)).mono ?_
  rintro e w' ⟨rfl, rfl⟩
  rw [HZ0.out]
  go_wp2_with fail
  go_ret
  exact ⟨rfl, HB5.out⟩

theorem pieces_out (a b : ByteArray) (st : Nat) (w : World) (hm : (a.size : Int) ≤ 9223372036854775807) (hm2 : (b.size : Int) ≤ 9223372036854775807) (h : 1000 < a.size ∨ 1000 < b.size) (hT : TabAt w) (hg : 0 < w.heap.size) :
    Calls Tryd.prog 4 #[.string a, .string b, .int .u32 st] w fun e w' => e = .returned (.bool true) ∧ Below w.heap.size w w' := by
  have HT := Lib.hid hT
  clear hT
  by_cases ha : 1000 < a.size
  · go_enter Tryd.func4, Tryd.ntmps4
    go_wp2_with fail
    refine (works_any _ HT.out hg).mono ?_
    rintro e w1 ⟨rfl, hb1⟩
    have HB1 := Lib.hid hb1
    clear hb1
    go_wp2_with fail
    go_ret
    exact ⟨rfl, HB1.out⟩
  · have hb : 1000 < b.size := by omega
    have ha2 : a.size ≤ 1000 := by omega
    clear h ha
    go_enter Tryd.func4, Tryd.ntmps4
    go_wp2_with fail
    refine (works_any _ HT.out hg).mono ?_
    rintro e w1 ⟨rfl, hb1⟩
    have HB1 := Lib.hid hb1
    clear hb1
    go_wp2_with fail
    go_ret
    exact ⟨rfl, HB1.out⟩

theorem walk_CrcPieces (a b : ByteArray) (st : Int) (ha : a.size ≤ maxLen) (hb : b.size ≤ maxLen) (ws : (Lit.int .u32 st).wf = true) (w : World) (hT : TabAt w) (hg : 0 < w.heap.size) :
    Calls Tryd.prog 4 #[.string a, .string b, .int .u32 st] w fun e w' => e = .returned (.bool true) ∧ Below w.heap.size w w' := by
  have bst := bounds_u32 ws
  obtain ⟨st, rfl⟩ := Int.eq_ofNat_of_zero_le bst.1
  unfold maxLen at ha hb
  by_cases h : a.size ≤ 1000 ∧ b.size ≤ 1000
  · exact pieces_in a b st w h.1 h.2 (by omega) hT hg
  · exact pieces_out a b st w (by omega) (by omega) (by omega) hT hg

end Go.Proofs.YtmfonbpdjphikaaDoor
