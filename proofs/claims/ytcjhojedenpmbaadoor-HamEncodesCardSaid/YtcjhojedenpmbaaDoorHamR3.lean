/- The reference of layer 3, walked: Bits, Encode, Decode. -/
import Derived.Test.YtcjhojedenpmbaaDoorHamR2
namespace Go.Proofs.YtcjhojedenpmbaaDoor
open Go.RowKit

theorem bt_bit (c r : Nat) (hc : c < 256) (hr : r < 8) : bt (c : Int) r = if c.testBit r then 1 else 0 := by
  have h : ∀ c, c < 256 → ∀ r, r < 8 → bt ((c : Nat) : Int) r = if c.testBit r then 1 else 0 := by decide +kernel
  exact h c hc r hr
def Ones3 (M n B : Nat) (w : World) (e : Ending) (w' : World) : Prop := ∃ v, e = .returned v ∧ w'.ownsRow B 3 1 v (cnt M n) ((onesL M n).map V) ∧ Below B w w'
theorem rel_ones {w wr w1 : World} {B M k m : Nat} {v' : Value} {x : Int} (hp : M.testBit k = true) (hm : m = cnt M k) (ho : w1.ownsRow B 3 1 v' (m + 1) ((onesL M k).map V ++ [.int .i64 x])) (hv : x = (k : Nat)) (hb : Below B w wr) (hg : Below B wr w1) :
    w1.ownsRow B 3 1 v' (cnt M (k + 1)) ((onesL M (k + 1)).map V) ∧ Below B w w1 := by
  subst hv; subst hm
  simp only [cnt, onesL, hp, if_true]
  exact ⟨by simpa [V] using ho, hb.trans hg⟩

set_option maxRecDepth 100000 in
theorem rbits_any (s : ByteArray) (w : World) (hm : s.size ≤ 101) :
    Calls Tryd.prog 18 #[.string s] w (Ones3 (numN (bs s)) (8 * s.size) w.heap.size w) := by
  obtain ⟨i0, hi, hz0, hz1, hz2⟩ := info_parts Tryd.infoInt
  obtain ⟨M, hM⟩ : ∃ M, numN (bs s) = M := ⟨_, rfl⟩
  have HM := Lib.hid hM
  rw [hM]; clear hM
  go_enter Tryd.func18, Tryd.ntmps18
  go_wp2
  go_loopw [3, 4] (fun b i wr => ∃ k : Nat, k ≤ 8 * s.size ∧ i = .int .i64 k ∧ wr.ownsRow w.heap.size 3 1 b (cnt M k) ((onesL M k).map V) ∧ Below w.heap.size w wr) (fun _ i _ => 8 * s.size - (intOf i).toNat)
  case atStart => exact ⟨0, by omega, rfl, ⟨rfl, Or.inl ⟨rfl, rfl⟩⟩, Below.refl _ _⟩
  case round =>
    obtain ⟨k, hk, rfl, hown, hb⟩ := hrel
    obtain ⟨wo, rfl⟩ : ∃ wo : World, wo = wr := ⟨_, rfl⟩
    obtain ⟨m, hm2⟩ : ∃ m, cnt M k = m := ⟨_, rfl⟩
    have HC := Lib.hid hm2
    have hmk : m ≤ k := by rw [← hm2]; exact cnt_le M k
    rw [hm2] at hown
    clear hm2
    by_cases hlt : k < 8 * s.size
    · obtain ⟨q, hq⟩ : ∃ q, k / 8 = q := ⟨_, rfl⟩
      obtain ⟨r, hr⟩ : ∃ r, k % 8 = r := ⟨_, rfl⟩
      have hq2 : (k : Int) / 8 = q := by omega
      have hr2 : (k : Int) % 8 = r := by omega
      have hqs : q < s.size := by omega
      have hr8 : r < 8 := by omega
      have hkq : 8 * q + r = k := by omega
      obtain ⟨c, hc⟩ : ∃ c : Nat, s[q].toNat = c := ⟨_, rfl⟩
      have hc2 : c < 256 := by rw [← hc]; exact s[q].toNat_lt
      have hbit := str_bit s q r hqs hr8
      rw [HM.out, hc, hkq] at hbit
      have hbt := bt_bit c r hc2 hr8
      rw [← hbit] at hbt
      have HQ := Lib.hid (And.intro hq2 hr2)
      clear hkq hq hr
      cases hp : M.testBit k with
      | true =>
        have HP := Lib.hid hp
        rw [hp] at hbt
        have HB := Lib.hid (show bt (c : Int) r = 1 from hbt)
        clear hp hbt hbit
        go_wp2_with (first | (go_at_call 20; refine (bit_one _ r _ (by omega) (by omega) (by omega) HB.out).mono ?_; rintro e w' ⟨rfl, rfl⟩) | (at_builtin; refine wpList_append_own _ rfl _ _ 40 rfl w.heap.size 3 i0 (.int .i64 0) 1 8 Tryd.underlying40 hi hz0 hz1 hz2 rfl (by decide) _ _ _ rfl (hown.alloc _) ⟨wo.heap.size, 0, none⟩ 1 1 [.int .i64 (k : Int)] rfl rfl ?c1 ?c2 ?c3 ?c4 ?c5 ?_))
        case c1 => exact cell_one_new _ _ _
        case c2 => intro u hu; simp at hu; subst hu; rfl
        case c3 => unfold maxLen; omega
        case c4 => omega
        case c5 => have := hb.size; simp; omega
        intro v' w1 hown1 hgrow _
        have HR := Lib.hid (rel_ones HP.out HC.out.symm hown1 rfl hb (own_below hown hb.size hgrow))
        clear hown1 hgrow hown
        go_wp2
        go_roundw
        case rel => exact ⟨k + 1, by omega, by go_num, HR.out.1, HR.out.2⟩
        case measure => simp [intOf]; omega
      | false =>
        have HP := Lib.hid hp
        have HO := Lib.hid hown
        rw [hp] at hbt
        have HB := Lib.hid (show bt (c : Int) r = 0 from hbt)
        clear hp hbt hbit hown
        go_wp2_with (go_at_call 20; refine (bit_nil _ r _ (by omega) (by omega) (by omega) HB.out).mono ?_; rintro e w' ⟨rfl, rfl⟩)
        go_roundw
        case rel => exact ⟨k + 1, by omega, by go_num, by simp only [cnt, onesL, HP.out]; simpa [HC.out] using HO.out, hb⟩
        case measure => simp [intOf]; omega
    · obtain rfl : k = 8 * s.size := by omega
      have HO := Lib.hid hown
      clear hown
      go_wp2
      go_ret
      exact ⟨_, rfl, by rw [HC.out]; exact HO.out, hb⟩

end Go.Proofs.YtcjhojedenpmbaaDoor
