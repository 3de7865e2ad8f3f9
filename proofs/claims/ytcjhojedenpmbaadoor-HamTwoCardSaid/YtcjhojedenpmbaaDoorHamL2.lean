/- Eight bytes of a text, a text with a bit turned; the walks of the laws HamBack, HamOne and HamTwo. -/
import Derived.Test.YtcjhojedenpmbaaDoorHamL1
import Derived.OwnWalk
namespace Go.Proofs.YtcjhojedenpmbaaDoor
open Go.RowKit

/-- eight bytes of a text -/
def eightS (s : ByteArray) : ByteArray := (s ++ ⟨#[0, 0, 0, 0, 0, 0, 0, 0]⟩).extract 0 8
theorem eightS_size (s : ByteArray) : (eightS s).size = 8 := by
  unfold eightS
  rw [ByteArray.size_extract, ByteArray.size_append]
  show min 8 (s.size + 8) - 0 = 8
  omega
theorem eight_any (s : ByteArray) (w : World) (hm : s.size ≤ 140737488351232) :
    Calls Tryd.prog 14 #[.string s] w fun e w' => e = .returned (.string (eightS s)) ∧ w = w' := by
  obtain ⟨t, ht⟩ : ∃ t, s ++ ⟨#[0, 0, 0, 0, 0, 0, 0, 0]⟩ = t := ⟨_, rfl⟩
  have htz : t.size = s.size + 8 := by rw [← ht, ByteArray.size_append]; rfl
  have HE : Hid (eightS s = t.extract 0 8) := by unfold eightS; rw [ht]; rfl
  go_enter Tryd.func14, Tryd.ntmps14
  go_wp2
  go_ret
  exact ⟨by rw [HE.out]; rfl, rfl⟩

/-- where a number of any size points at, among the 72 bits -/
def spot (k : Int) : Nat := (k % 72).toNat
theorem spot_lt (k : Int) : spot k < 72 := by unfold spot; omega
theorem tmod_neg (k : Int) (h : k.tmod 72 < 0) : k.tmod 72 + 72 = (spot k : Int) := by
  unfold spot
  have h2 := Int.tmod_eq_emod (a := k) (b := 72)
  split at h2
  · omega
  · simp at h2; omega
theorem tmod_pos (k : Int) (h : ¬ k.tmod 72 < 0) : k.tmod 72 = (spot k : Int) := by
  unfold spot
  have h2 := Int.tmod_eq_emod (a := k) (b := 72)
  split at h2
  · omega
  · simp at h2; omega
set_option maxHeartbeats 1000000 in
set_option maxRecDepth 100000 in
theorem flipped_any (s : ByteArray) (k : Int) (w : World) (h9 : s.size = 9) (hk : (Lit.int .i64 k).wf = true) :
    Calls Tryd.prog 15 #[.string s, .int .i64 k] w fun e w' => e = .returned (.string (flipS s (spot k / 8) (spot k % 8))) ∧ Below w.heap.size w w' := by
  have hN := tmod_neg k
  have hP := tmod_pos k
  have hlt := spot_lt k
  obtain ⟨m, hm⟩ : ∃ m, spot k = m := ⟨_, rfl⟩
  rw [hm] at hN hP hlt ⊢
  obtain ⟨q, hq⟩ : ∃ q, m / 8 = q := ⟨_, rfl⟩
  obtain ⟨r, hr⟩ : ∃ r, m % 8 = r := ⟨_, rfl⟩
  have hq9 : q < s.size := by omega
  have hr8 : r < 8 := by omega
  have hqi : (m : Int) / 8 = q := by omega
  have hri : (m : Int) % 8 = r := by omega
  have bk := bounds_i64 hk
  obtain ⟨cap, W1, hcv, hb1, hcs, hfz, _⟩ := bytes_of (P := Tryd.prog) (src := 9) (dst := 37) (e := 5) Tryd.underlying9 Tryd.underlying37 Tryd.underlying5 s w
  obtain ⟨c, hcc⟩ : ∃ c, (nums s).getD q 0 = c := ⟨_, rfl⟩
  have hc := hcs q (by rw [nums_length]; exact hq9)
  rw [hcc] at hc
  have hf := hfz q hq9
  have hcb := fun x : Int => (hcs.set q x).conv (P := Tryd.prog) (src := 37) (e := 5) (dst := 9) Tryd.underlying37 Tryd.underlying5 Tryd.underlying9 s.size cap (len_set _ _ _ _ (nums_length s))
  have HC := Lib.hid hcc
  have HB := Lib.hid hb1
  have hs9 : (s.size : Int) = 9 := by omega
  have hq9i : (q : Int) < 9 := by omega
  rw [hq, hr]
  rw [h9] at hcv hcb
  clear hcs hfz hcc hb1 hm hk
  by_cases hneg : k.tmod 72 < 0
  · have e1 := hN hneg
    clear hN hP
    go_enter Tryd.func15, Tryd.ntmps15
    go_wp2
    go_ret
    exact ⟨by unfold flipS; rw [HC.out]; rfl, HB.out.setCell (Nat.le_refl _) _⟩
  · have e1 := hP hneg
    clear hN hP hneg
    go_enter Tryd.func15, Tryd.ntmps15
    go_wp2
    go_ret
    exact ⟨by unfold flipS; rw [HC.out]; rfl, HB.out.setCell (Nat.le_refl _) _⟩


theorem dec_back (e8 : ByteArray) (w : World) (h : e8.size = 8) (hT : TabAt w) : Calls Tryd.prog 12 #[.string (encS e8)] w fun e w' => e = .returned (.tuple #[.string e8, .int .i64 2, .int .i64 0]) ∧ Below w.heap.size w w' := by
  have h2 := dec_yes (encS e8) w (by rw [encS_size, h]) hT
  unfold DecPost at h2
  rwa [dec_enc e8 h] at h2
theorem dec_one_any (e8 : ByteArray) (i j : Nat) (w : World) (h : e8.size = 8) (hi : i < 9) (hj : j < 8) (hT : TabAt w) : Calls Tryd.prog 12 #[.string (flipS (encS e8) i j)] w fun e w' => e = .returned (.tuple #[.string e8, .int .i64 3, .int .i64 0]) ∧ Below w.heap.size w w' := by
  have hz : (encS e8).size = 9 := by rw [encS_size, h]
  have h2 := dec_yes (flipS (encS e8) i j) w (by rw [flipS_size _ _ _ (by omega), hz]) hT
  unfold DecPost at h2
  rwa [dec_one e8 h i j hi hj] at h2
theorem dec_two_any (e8 : ByteArray) (i j i' j' : Nat) (w : World) (h : e8.size = 8) (hi : i < 9) (hj : j < 8) (hi' : i' < 9) (hj' : j' < 8) (hne : flipS (flipS (encS e8) i j) i' j' ≠ encS e8) (hT : TabAt w) :
    Calls Tryd.prog 12 #[.string (flipS (flipS (encS e8) i j) i' j')] w fun e w' => e = .returned (.tuple #[.string ByteArray.empty, .int .i64 4, .int .i64 0]) ∧ Below w.heap.size w w' := by
  have hz : (encS e8).size = 9 := by rw [encS_size, h]
  have hz1 : (flipS (encS e8) i j).size = 9 := by rw [flipS_size _ _ _ (by omega), hz]
  have h2 := dec_yes (flipS (flipS (encS e8) i j) i' j') w (by rw [flipS_size _ _ _ (by omega), hz1]) hT
  unfold DecPost at h2
  rwa [dec_two e8 h i j i' j' hi hj hi' hj' hne] at h2

set_option maxRecDepth 100000 in
theorem walk_HamBack (s : ByteArray) (hs : s.size ≤ 140737488351232) (w : World) (hT : TabAt w) (hg : 0 < w.heap.size) :
    Calls Tryd.prog 5 #[.string s] w fun e w' => e = .returned (.bool true) ∧ Below w.heap.size w w' := by
  have HT := Lib.hid hT
  clear hT
  go_enter Tryd.func5, Tryd.ntmps5
  go_wp2_with fail
  refine (works_any _ HT.out hg).mono ?_
  rintro e w1 ⟨rfl, hb1⟩
  have HB1 := Lib.hid hb1
  clear hb1
  go_wp2_with fail
  refine (eight_any s _ hs).mono ?_
  rintro e w' ⟨rfl, rfl⟩
  obtain ⟨e8, h8⟩ : ∃ e8, eightS s = e8 := ⟨_, rfl⟩
  have hz8 : e8.size = 8 := by rw [← h8, eightS_size]
  rw [h8]
  clear h8
  go_wp2_with fail
  refine (enc_yes e8 _ hz8 (HT.out.below HB1.out hg)).mono ?_
  rintro e w2 ⟨rfl, hb2⟩
  have HB2 := Lib.hid (HB1.out.trans (hb2.mono HB1.out.size))
  clear hb2 HB1
  have hz9 : (encS e8).size = 9 := by rw [encS_size, hz8]
  go_wp2_with fail
  refine (dec_back e8 _ hz8 (HT.out.below HB2.out hg)).mono ?_
  rintro e w3 ⟨rfl, hb3⟩
  have HB3 := Lib.hid (HB2.out.trans (hb3.mono HB2.out.size))
  clear hb3 HB2
  go_wp2_with fail
  go_ret
  exact ⟨rfl, HB3.out⟩

set_option maxRecDepth 100000 in
theorem walk_HamOne (s : ByteArray) (k : Int) (hs : s.size ≤ 140737488351232) (hk : (Lit.int .i64 k).wf = true) (w : World) (hT : TabAt w) (hg : 0 < w.heap.size) :
    Calls Tryd.prog 6 #[.string s, .int .i64 k] w fun e w' => e = .returned (.bool true) ∧ Below w.heap.size w w' := by
  have HT := Lib.hid hT
  have HK := Lib.hid hk
  clear hT hk
  have hlt := spot_lt k
  obtain ⟨q, hq⟩ : ∃ q, spot k / 8 = q := ⟨_, rfl⟩
  obtain ⟨r, hr⟩ : ∃ r, spot k % 8 = r := ⟨_, rfl⟩
  have hq9 : q < 9 := by omega
  have hr8 : r < 8 := by omega
  have HQ := Lib.hid hq
  have HR := Lib.hid hr
  clear hlt hq hr
  go_enter Tryd.func6, Tryd.ntmps6
  go_wp2_with fail
  refine (works_any _ HT.out hg).mono ?_
  rintro e w1 ⟨rfl, hb1⟩
  have HB1 := Lib.hid hb1
  clear hb1
  go_wp2_with fail
  refine (eight_any s _ hs).mono ?_
  rintro e w' ⟨rfl, rfl⟩
  obtain ⟨e8, h8⟩ : ∃ e8, eightS s = e8 := ⟨_, rfl⟩
  have hz8 : e8.size = 8 := by rw [← h8, eightS_size]
  rw [h8]
  clear h8
  go_wp2_with fail
  refine (enc_yes e8 _ hz8 (HT.out.below HB1.out hg)).mono ?_
  rintro e w2 ⟨rfl, hb2⟩
  have HB2 := Lib.hid (HB1.out.trans (hb2.mono HB1.out.size))
  clear hb2 HB1
  have hz9 : (encS e8).size = 9 := by rw [encS_size, hz8]
  go_wp2_with fail
  refine (flipped_any (encS e8) k _ hz9 HK.out).mono ?_
  rintro e w3 ⟨rfl, hb3⟩
  rw [HQ.out, HR.out]
  have HB3 := Lib.hid (HB2.out.trans (hb3.mono HB2.out.size))
  clear hb3 HB2
  go_wp2_with fail
  refine (dec_one_any e8 q r _ hz8 hq9 hr8 (HT.out.below HB3.out hg)).mono ?_
  rintro e w4 ⟨rfl, hb4⟩
  have HB4 := Lib.hid (HB3.out.trans (hb4.mono HB3.out.size))
  clear hb4 HB3
  go_wp2_with fail
  go_ret
  exact ⟨rfl, HB4.out⟩

end Go.Proofs.YtcjhojedenpmbaaDoor
