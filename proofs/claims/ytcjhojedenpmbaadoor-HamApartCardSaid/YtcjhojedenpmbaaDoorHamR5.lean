/- The reference of layer 3, walked: Decode. -/
import Derived.Test.YtcjhojedenpmbaaDoorHamR4
import Derived.OwnWalk
namespace Go.Proofs.YtcjhojedenpmbaaDoor
open Go.RowKit

theorem rflip_at (s : ByteArray) (k : Nat) (w : World) (hm : s.size ≤ 1000) (hk : k < 8 * s.size) :
    Calls Tryd.prog 23 #[.string s, .int .i64 k] w fun e w' => e = .returned (.tuple #[.string (flipS s (k / 8) (k % 8)), .int .i64 0]) ∧ Below w.heap.size w w' := by
  have h := rflip_yes s (k / 8) (k % 8) w hm (by omega) (by omega)
  rwa [show 8 * ((k / 8 : Nat) : Int) + ((k % 8 : Nat) : Int) = (k : Int) by omega] at h
def DecPost (s : ByteArray) (w : World) (e : Ending) (w' : World) : Prop := e = .returned (.tuple #[.string (decS s).1, .int .i64 (((decS s).2 : Nat) : Int), .int .i64 0]) ∧ Below w.heap.size w w'
theorem ret_dec {a b : ByteArray} {x y : Int} {v : Value} (h1 : a = b) (h2 : x = y) : Ending.returned (.tuple #[.string a, .int .i64 x, v]) = .returned (.tuple #[.string b, .int .i64 y, v]) := by rw [h1, h2]
theorem dec_good {s : ByteArray} (h1 : cnt (numN (bs s)) 72 % 2 = 0) (h2 : left (numN (bs s)) 72 = 0) : decS s = (s.extract 0 8, 2) := by unfold decS; rw [if_pos h1, if_pos h2]
theorem dec_bad {s : ByteArray} (h1 : cnt (numN (bs s)) 72 % 2 = 0) (h2 : left (numN (bs s)) 72 ≠ 0) : decS s = (ByteArray.empty, 4) := by unfold decS; rw [if_pos h1, if_neg h2]
theorem dec_far {s : ByteArray} (h1 : ¬ cnt (numN (bs s)) 72 % 2 = 0) (h2 : 71 < left (numN (bs s)) 72) : decS s = (ByteArray.empty, 4) := by unfold decS; rw [if_neg h1, if_pos h2]
theorem dec_fix {s : ByteArray} (h1 : ¬ cnt (numN (bs s)) 72 % 2 = 0) (h2 : ¬ 71 < left (numN (bs s)) 72) : decS s = (fixS s (left (numN (bs s)) 72), 3) := by unfold decS; rw [if_neg h1, if_neg h2]
theorem fix_at {s : ByteArray} {k p : Nat} (hk : k < 64) (h : place k = p) : fixS s p = (flipS s (k / 8) (k % 8)).extract 0 8 := by
  subst h
  unfold fixS
  rw [idx_place (by omega), if_pos hk]
theorem fix_none {s : ByteArray} {p : Nat} (hp : p ≤ 71) (h : ∀ j, j < 64 → place j ≠ p) : fixS s p = s.extract 0 8 := by
  unfold fixS
  rw [if_neg]
  intro h2
  exact h _ h2 (place_idx hp).2

/-- the places lie in this block -/
def PlAt (w : World) (g : Nat) : Prop := ∀ i, i < 72 → w.cell? ⟨g, i, none⟩ = some (.int .i64 ((place i : Nat) : Int))
theorem PlAt.of {w : World} {g : Nat} (h : IntsAt w g pl) : PlAt w g := fun i hi => place_cell h i hi
theorem PlAt.at {w : World} {g i : Nat} (h : PlAt w g) (hi : i < 72) : w.cell? ⟨g, i, none⟩ = some (.int .i64 ((place i : Nat) : Int)) := h i hi
/-- no place below k is p -/
def NoTo (p k : Nat) : Prop := ∀ j, j < k → place j ≠ p
theorem NoTo.zero (p : Nat) : NoTo p 0 := fun j hj => by omega
theorem NoTo.succ {p k x : Nat} (h : NoTo p k) (hx : place k = x) (hb : ((x : Int) == (p : Int)) = false) : NoTo p (k + 1) := by
  have hxp : x ≠ p := by simp at hb; omega
  intro j hj
  rcases Nat.lt_or_ge j k with h2 | h2
  · exact h j h2
  · obtain rfl : j = k := by omega
    rw [hx]; exact hxp

theorem rdec_no (s : ByteArray) (w : World) (h : s.size ≠ 9) (hm : s.size ≤ maxLen) :
    Calls Tryd.prog 13 #[.string s] w fun e w' => e = .returned (.tuple #[.string ByteArray.empty, .int .i64 0, .int .i64 4]) ∧ w = w' := by
  have hm2 : (s.size : Int) ≤ 9223372036854775807 := by unfold maxLen at hm; omega
  have h2 : (s.size : Int) ≠ 9 := by omega
  clear hm
  go_enter Tryd.func13, Tryd.ntmps13
  go_wp2
  go_ret3
  exact ⟨rfl, rfl⟩

set_option maxHeartbeats 1000000 in
set_option maxRecDepth 100000 in
theorem rdec_yes (s : ByteArray) (w : World) (h : s.size = 9) : Calls Tryd.prog 13 #[.string s] w (DecPost s w) := by
  have h9 : (s.size : Int) = 9 := by omega
  have HG := Lib.hid (@dec_good s)
  have HBd := Lib.hid (@dec_bad s)
  have HF := Lib.hid (@dec_far s)
  have HX := Lib.hid (@dec_fix s)
  obtain ⟨M, hMe⟩ : ∃ M, numN (bs s) = M := ⟨_, rfl⟩
  have HMe := Lib.hid hMe
  rw [hMe] at HG HBd HF HX
  obtain ⟨c, hce⟩ : ∃ c, cnt M 72 = c := ⟨_, rfl⟩
  obtain ⟨p, hpe⟩ : ∃ p, left M 72 = p := ⟨_, rfl⟩
  have HC := Lib.hid hce
  have HP := Lib.hid hpe
  have hc72 : c ≤ 72 := by rw [← hce]; exact cnt_le M 72
  have hp7 : p < 128 := by rw [← hpe]; exact left_lt M 72
  rw [hce, hpe] at HG HBd HF HX
  clear hMe hce hpe
  go_enter Tryd.func13, Tryd.ntmps13
  go_wp2_with fail
  refine (rbits_any s _ (by omega)).mono ?_
  rintro e w1 ⟨v, rfl, hown, hb1⟩
  rw [HMe.out, h, show 8 * 9 = 72 from rfl] at hown
  have hI := owned_ints hown (by rw [onesL_length])
  rw [HC.out] at hown
  obtain ⟨hx0, a, ca, rfl⟩ := own_len hown
  clear hx0
  have HB1 := Lib.hid hb1
  have HI := Lib.hid hI
  clear hb1 hown hI
  go_wp2_with fail
  refine (rleft_any _ (onesL M 72) w1 HI.out (fun i hi => onesL_lt M 72 i hi) (by rw [onesL_length, HC.out]; omega)).mono ?_
  rintro e w2 ⟨rfl, hb2⟩
  rw [leftL_ones, HP.out]
  have hB2 : Below w.heap.size w w2 := HB1.out.trans (hb2.mono HB1.out.size)
  have HB2 := Lib.hid hB2
  clear hb2 hB2 HI
  by_cases hev : c % 2 = 0
  · have hev2 : (c : Int) % 2 = 0 := by omega
    by_cases hp0 : p = 0
    · have HE := Lib.hid (HG.out hev hp0)
      clear HG HBd HF HX HMe HC HP
      subst hp0
      go_wp2
      go_ret3
      exact ⟨ret_dec (by rw [HE.out]) (by rw [HE.out]; rfl), HB2.out⟩
    · have HE := Lib.hid (HBd.out hev hp0)
      have hp0b : ((p : Int) == 0) = false := by simp; omega
      clear HG HBd HF HX HMe HC HP hp0
      go_wp2
      go_ret3
      exact ⟨ret_dec (by rw [HE.out]; rfl) (by rw [HE.out]; rfl), HB2.out⟩
  · have hev2 : ((c : Int) % 2 == 0) = false := by simp; omega
    by_cases hp71 : 71 < p
    · have HE := Lib.hid (HF.out hev hp71)
      have hp71b : decide ((71 : Int) < (p : Int)) = true := by simp; omega
      have hp0b : ((p : Int) == 0) = false := by simp; omega
      clear HG HBd HF HX HMe HC HP hev hp71
      go_wp2
      go_ret3
      exact ⟨ret_dec (by rw [HE.out]; rfl) (by rw [HE.out]; rfl), HB2.out⟩
    · have HE := Lib.hid (HX.out hev hp71)
      have hp71b : decide ((71 : Int) < (p : Int)) = false := by simp; omega
      clear HG HBd HF HX HMe HC HP hev
      go_wp2_with fail
      refine (places_any _).mono ?_
      rintro e w3 ⟨v, rfl, hown3, hb3⟩
      rcases owned_cells hown3 rfl with ⟨_, h0⟩ | ⟨g, cap, rfl, _, hg, hpl⟩
      · exact absurd h0 (by decide)
      have HPl := Lib.hid (PlAt.of hpl)
      have HB3 := Lib.hid (HB2.out.trans (hb3.mono HB2.out.size))
      clear hown3 hpl hb3
      go_wp2_with fail
      go_loop [8] (fun i => ∃ k : Nat, k ≤ 64 ∧ i = .int .i64 k ∧ NoTo p k) (fun i => 64 - (intOf i).toNat)
      case atStart => exact ⟨0, by omega, rfl, NoTo.zero p⟩
      case round =>
        obtain ⟨k, hk, rfl, hno⟩ := hrel
        have HNo := Lib.hid hno
        clear hno
        by_cases hlt : k < 64
        · have hcell := HPl.out.at (i := k) (by omega)
          obtain ⟨x, hx⟩ : ∃ x, place k = x := ⟨_, rfl⟩
          have HXk := Lib.hid hx
          rw [hx] at hcell
          clear hx
          by_cases hxp : x = p
          · subst hxp
            have HFix := Lib.hid (fix_at (s := s) hlt HXk.out)
            obtain ⟨t, ht⟩ : ∃ t, flipS s (k / 8) (k % 8) = t := ⟨_, rfl⟩
            have ht9 : t.size = 9 := by rw [← ht, flipS_size _ _ _ (by omega), h]
            have HT := Lib.hid ht
            rw [ht] at HFix
            clear ht hp71
            go_wp2_with fail
            refine (rflip_at s k _ (by omega) (by omega)).mono ?_
            rintro e w4 ⟨rfl, hb4⟩
            rw [HT.out]
            have HB4 := Lib.hid (HB3.out.trans (hb4.mono HB3.out.size))
            clear hb4 HT
            go_wp2
            go_ret3
            exact ⟨ret_dec (by rw [HE.out]; exact HFix.out.symm) (by rw [HE.out]; rfl), HB4.out⟩
          · have hxp2 : ((x : Int) == (p : Int)) = false := by simp; omega
            clear hxp
            go_wp2
            go_round
            case rel => exact ⟨k + 1, by omega, by go_num, HNo.out.succ HXk.out hxp2⟩
            case measure => simp [intOf]; omega
        · obtain rfl : k = 64 := by omega
          have HFix := Lib.hid (fix_none (s := s) (by omega) HNo.out)
          clear HNo
          go_wp2
          go_ret3
          exact ⟨ret_dec (by rw [HE.out]; exact HFix.out.symm) (by rw [HE.out]; rfl), HB3.out⟩

end Go.Proofs.YtcjhojedenpmbaaDoor
