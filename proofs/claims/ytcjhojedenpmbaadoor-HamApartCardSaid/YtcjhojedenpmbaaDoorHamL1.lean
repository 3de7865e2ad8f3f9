/- The chapter's examples, and the walks of the laws HamEncodes and HamDecodes. -/
import Derived.Test.YtcjhojedenpmbaaDoorHamC5
namespace Go.Proofs.YtcjhojedenpmbaaDoor
open Go.RowKit

theorem ex_enc0 (w : World) (hT : TabAt w) : Calls Tryd.prog 10 #[.string ⟨#[0, 0, 0, 0, 0, 0, 0, 0]⟩] w fun e w' => e = .returned (.tuple #[.string ⟨#[0, 0, 0, 0, 0, 0, 0, 0, 0]⟩, .int .i64 0]) ∧ Below w.heap.size w w' := by
  have h := enc_yes ⟨#[0, 0, 0, 0, 0, 0, 0, 0]⟩ w rfl hT
  unfold EncPost at h
  rwa [show encS ⟨#[0, 0, 0, 0, 0, 0, 0, 0]⟩ = ⟨#[0, 0, 0, 0, 0, 0, 0, 0, 0]⟩ from bytes_ext (by decide +kernel)] at h
theorem ex_enc1 (w : World) (hT : TabAt w) : Calls Tryd.prog 10 #[.string ⟨#[1, 0, 0, 0, 0, 0, 0, 0]⟩] w fun e w' => e = .returned (.tuple #[.string ⟨#[1, 0, 0, 0, 0, 0, 0, 0, 131]⟩, .int .i64 0]) ∧ Below w.heap.size w w' := by
  have h := enc_yes ⟨#[1, 0, 0, 0, 0, 0, 0, 0]⟩ w rfl hT
  unfold EncPost at h
  rwa [show encS ⟨#[1, 0, 0, 0, 0, 0, 0, 0]⟩ = ⟨#[1, 0, 0, 0, 0, 0, 0, 0, 131]⟩ from bytes_ext (by decide +kernel)] at h
theorem ex_dec1 (w : World) (hT : TabAt w) : Calls Tryd.prog 12 #[.string ⟨#[1, 0, 0, 0, 0, 0, 0, 0, 131]⟩] w fun e w' => e = .returned (.tuple #[.string ⟨#[1, 0, 0, 0, 0, 0, 0, 0]⟩, .int .i64 2, .int .i64 0]) ∧ Below w.heap.size w w' := by
  have h := dec_yes ⟨#[1, 0, 0, 0, 0, 0, 0, 0, 131]⟩ w rfl hT
  unfold DecPost at h
  have e : decS ⟨#[1, 0, 0, 0, 0, 0, 0, 0, 131]⟩ = (⟨#[1, 0, 0, 0, 0, 0, 0, 0]⟩, 2) := by
    rw [dec_good (by decide +kernel) (by decide +kernel)]
    congr 1
  rwa [e] at h

set_option maxRecDepth 100000 in
theorem works_any (w : World) (hT : TabAt w) (hg : 0 < w.heap.size) : Calls Tryd.prog 9 #[] w fun e w' => e = .returned (.bool true) ∧ Below w.heap.size w w' := by
  have HT := Lib.hid hT
  clear hT
  go_enter Tryd.func9, Tryd.ntmps9
  go_wp2_with fail
  refine (ex_enc0 _ HT.out).mono ?_
  rintro e w1 ⟨rfl, hb1⟩
  have HB1 := Lib.hid hb1
  clear hb1
  go_wp2_with fail
  refine (ex_enc1 _ (HT.out.below HB1.out hg)).mono ?_
  rintro e w2 ⟨rfl, hb2⟩
  have HB2 := Lib.hid (HB1.out.trans (hb2.mono HB1.out.size))
  clear hb2 HB1
  go_wp2_with fail
  refine (ex_dec1 _ (HT.out.below HB2.out hg)).mono ?_
  rintro e w3 ⟨rfl, hb3⟩
  have HB3 := Lib.hid (HB2.out.trans (hb3.mono HB2.out.size))
  clear hb3 HB2
  go_wp2_with fail
  go_ret
  exact ⟨ret_bool (by decide +kernel), HB3.out⟩

theorem works_then {w w1 : World} (hT : TabAt w) (hg : 0 < w.heap.size) (hb : Below w.heap.size w w1) : Calls Tryd.prog 9 #[] w1 fun e w' => e = .returned (.bool true) ∧ Below w.heap.size w w' :=
  (works_any w1 (hT.below hb hg) (Nat.lt_of_lt_of_le hg hb.size)).mono fun _ _ h => ⟨h.1, hb.trans (h.2.mono hb.size)⟩

set_option maxRecDepth 100000 in
theorem walk_HamEncodes (s : ByteArray) (hs : s.size ≤ maxLen) (w : World) (hT : TabAt w) (hg : 0 < w.heap.size) :
    Calls Tryd.prog 3 #[.string s] w fun e w' => e = .returned (.bool true) ∧ Below w.heap.size w w' := by
  have hm2 : (s.size : Int) ≤ 9223372036854775807 := by unfold maxLen at hs; omega
  have HT := Lib.hid hT
  clear hT
  by_cases h : s.size ≤ 100
  · by_cases h8 : s.size = 8
    · go_enter Tryd.func3, Tryd.ntmps3
      go_wp2_with fail
      refine (enc_yes s _ h8 HT.out).mono ?_
      rintro e w1 ⟨rfl, hb1⟩
      have HB1 := Lib.hid hb1
      clear hb1
      go_wp2_with fail
      refine (renc_yes s _ h8).mono ?_
      rintro e w2 ⟨rfl, hb2⟩
      have HB2 := Lib.hid (HB1.out.trans (hb2.mono HB1.out.size))
      clear hb2 HB1
      go_wp2_with fail
      refine (works_then HT.out hg HB2.out).mono ?_
      rintro e w3 ⟨rfl, hb3⟩
      have HB3 := Lib.hid hb3
      clear hb3 HB2
      go_wp2_with fail
      go_ret
      exact ⟨rfl, HB3.out⟩
    · go_enter Tryd.func3, Tryd.ntmps3
      go_wp2_with fail
      refine (enc_no s _ h8 hs).mono ?_
      rintro e w1 ⟨rfl, hb1⟩
      have HB1 := Lib.hid hb1
      clear hb1
      go_wp2_with fail
      refine (renc_no s _ h8 hs).mono ?_
      rintro e w' ⟨rfl, rfl⟩
      go_wp2_with fail
      refine (works_then HT.out hg HB1.out).mono ?_
      rintro e w3 ⟨rfl, hb3⟩
      have HB3 := Lib.hid hb3
      clear hb3
      go_wp2_with fail
      go_ret
      exact ⟨rfl, HB3.out⟩
  · go_enter Tryd.func3, Tryd.ntmps3
    go_wp2_with fail
    refine (works_any _ HT.out hg).mono ?_
    rintro e w3 ⟨rfl, hb3⟩
    have HB3 := Lib.hid hb3
    clear hb3
    go_wp2_with fail
    go_ret
    exact ⟨rfl, HB3.out⟩

set_option maxRecDepth 100000 in
theorem walk_HamDecodes (s : ByteArray) (hs : s.size ≤ maxLen) (w : World) (hT : TabAt w) (hg : 0 < w.heap.size) :
    Calls Tryd.prog 4 #[.string s] w fun e w' => e = .returned (.bool true) ∧ Below w.heap.size w w' := by
  have hm2 : (s.size : Int) ≤ 9223372036854775807 := by unfold maxLen at hs; omega
  have HT := Lib.hid hT
  clear hT
  by_cases h : s.size ≤ 100
  · by_cases h9 : s.size = 9
    · go_enter Tryd.func4, Tryd.ntmps4
      go_wp2_with fail
      refine (dec_yes s _ h9 HT.out).mono ?_
      rintro e w1 ⟨rfl, hb1⟩
      have HB1 := Lib.hid hb1
      clear hb1
      go_wp2_with fail
      refine (rdec_yes s _ h9).mono ?_
      rintro e w2 ⟨rfl, hb2⟩
      have HB2 := Lib.hid (HB1.out.trans (hb2.mono HB1.out.size))
      clear hb2 HB1
      go_wp2_with fail
      refine (works_then HT.out hg HB2.out).mono ?_
      rintro e w3 ⟨rfl, hb3⟩
      have HB3 := Lib.hid hb3
      clear hb3 HB2
      go_wp2_with fail
      go_ret
      exact ⟨rfl, HB3.out⟩
    · go_enter Tryd.func4, Tryd.ntmps4
      go_wp2_with fail
      refine (dec_no s _ h9 hs).mono ?_
      rintro e w1 ⟨rfl, hb1⟩
      have HB1 := Lib.hid hb1
      clear hb1
      go_wp2_with fail
      refine (rdec_no s _ h9 hs).mono ?_
      rintro e w' ⟨rfl, rfl⟩
      go_wp2_with fail
      refine (works_then HT.out hg HB1.out).mono ?_
      rintro e w3 ⟨rfl, hb3⟩
      have HB3 := Lib.hid hb3
      clear hb3
      go_wp2_with fail
      go_ret
      exact ⟨rfl, HB3.out⟩
  · go_enter Tryd.func4, Tryd.ntmps4
    go_wp2_with fail
    refine (works_any _ HT.out hg).mono ?_
    rintro e w3 ⟨rfl, hb3⟩
    have HB3 := Lib.hid hb3
    clear hb3
    go_wp2_with fail
    go_ret
    exact ⟨rfl, HB3.out⟩

end Go.Proofs.YtcjhojedenpmbaaDoor
