/- The walk of the law HamApart. -/
import Derived.Test.YtcjhojedenpmbaaDoorHamL2
namespace Go.Proofs.YtcjhojedenpmbaaDoor
open Go.RowKit

theorem cnt_byte (D i c : Nat) (h : ∀ j, j < 8 → D.testBit (8 * i + j) = c.testBit j) : ∀ m, m ≤ 8 → cnt D (8 * i + m) = cnt D (8 * i) + cnt c m
  | 0, _ => rfl
  | m + 1, hm => by
    show cnt D (8 * i + m) + (if D.testBit (8 * i + m) then 1 else 0) = cnt D (8 * i) + (cnt c m + (if c.testBit m then 1 else 0))
    rw [cnt_byte D i c h m (by omega), h m (by omega)]; omega
theorem low_and (c : Nat) (hc : c < 256) (h0 : c ≠ 0) : bits .and .u8 (c : Int) ((c : Int) - 1) = ((c &&& (c - 1) : Nat) : Int) ∧ c &&& (c - 1) < c ∧ cnt c 8 = cnt (c &&& (c - 1)) 8 + 1 := by
  have h : ∀ c, c < 256 → c ≠ 0 → bits .and .u8 ((c : Nat) : Int) ((c : Nat) - 1 : Int) = ((c &&& (c - 1) : Nat) : Int) ∧ c &&& (c - 1) < c ∧ cnt c 8 = cnt (c &&& (c - 1)) 8 + 1 := by decide +kernel
  exact h c hc h0

/-- counted so far, and still to count -/
def Pops (m g t : Nat) : Prop := m + cnt g 8 = t
theorem Pops.done {m g t : Nat} (h : Pops m g t) (hg : g = 0) : m = t := by
  subst hg
  unfold Pops at h
  rw [cnt_zero] at h; exact h
theorem Pops.step {m g g2 t : Nat} (h : Pops m g t) (h2 : cnt g 8 = cnt g2 8 + 1) : Pops (m + 1) g2 t := by unfold Pops at *; omega
theorem Pops.le {m g t : Nat} (h : Pops m g t) {u : Nat} (hu : t ≤ u) : m ≤ u := by unfold Pops at h; omega

set_option maxHeartbeats 2000000 in
set_option maxRecDepth 100000 in
theorem walk_HamApart (a b : ByteArray) (ha : a.size ≤ 140737488351232) (hb : b.size ≤ 140737488351232) (w : World) (hT : TabAt w) (hg : 0 < w.heap.size) :
    Calls Tryd.prog 8 #[.string a, .string b] w fun e w' => e = .returned (.bool true) ∧ Below w.heap.size w w' := by
  have HT := Lib.hid hT
  clear hT
  obtain ⟨p, hp⟩ : ∃ p, eightS a = p := ⟨_, rfl⟩
  obtain ⟨q, hq⟩ : ∃ q, eightS b = q := ⟨_, rfl⟩
  have hzp : p.size = 8 := by rw [← hp, eightS_size]
  have hzq : q.size = 8 := by rw [← hq, eightS_size]
  have HP := Lib.hid hp
  have HQ := Lib.hid hq
  clear hp hq
  go_enter Tryd.func8, Tryd.ntmps8
  go_wp2_with fail
  refine (works_any _ HT.out hg).mono ?_
  rintro e w1 ⟨rfl, hb1⟩
  have HB1 := Lib.hid hb1
  clear hb1
  go_wp2_with fail
  refine (eight_any a _ ha).mono ?_
  rintro e w' ⟨rfl, rfl⟩
  rw [HP.out]
  go_wp2_with fail
  refine (eight_any b _ hb).mono ?_
  rintro e w' ⟨rfl, rfl⟩
  rw [HQ.out]
  by_cases hpq : p = q
  · have he : (p.toList == q.toList) = true := by rw [hpq]; simp
    clear hpq
    go_wp2_with fail
    go_ret
    exact ⟨rfl, HB1.out⟩
  · have he : (p.toList == q.toList) = false := by
      rw [← Bool.not_eq_true, beq_iff_eq]
      intro h
      apply hpq
      rw [ByteArray.toList_eq, ByteArray.toList_eq] at h
      exact bytes_ext h
    have HA := Lib.hid (enc_apart p q hzp hzq hpq)
    clear hpq
    go_wp2_with fail
    refine (enc_yes p _ hzp (HT.out.below HB1.out hg)).mono ?_
    rintro e w2 ⟨rfl, hb2⟩
    have HB2 := Lib.hid (HB1.out.trans (hb2.mono HB1.out.size))
    clear hb2 HB1
    go_wp2_with fail
    refine (enc_yes q _ hzq (HT.out.below HB2.out hg)).mono ?_
    rintro e w3 ⟨rfl, hb3⟩
    have HB3 := Lib.hid (HB2.out.trans (hb3.mono HB2.out.size))
    clear hb3 HB2
    obtain ⟨x, hx⟩ : ∃ x, encS p = x := ⟨_, rfl⟩
    obtain ⟨y, hy⟩ : ∃ y, encS q = y := ⟨_, rfl⟩
    have hx9 : x.size = 9 := by rw [← hx, encS_size, hzp]
    have hy9 : y.size = 9 := by rw [← hy, encS_size, hzq]
    rw [hx, hy] at HA
    rw [hx, hy]
    clear hx hy
    obtain ⟨D, hD⟩ : ∃ D, numN (bs x) ^^^ numN (bs y) = D := ⟨_, rfl⟩
    have HDe := Lib.hid hD
    rw [hD] at HA
    clear hD
    go_wp2_with fail
    go_loopw [9, 39] (fun n i wr => ∃ k : Nat, k ≤ 9 ∧ i = .int .i64 k ∧ n = .int .i64 ((cnt D (8 * k) : Nat) : Int) ∧ Below w.heap.size w wr) (fun _ i _ => 9 - (intOf i).toNat)
    case atStart => exact ⟨0, by omega, rfl, rfl, HB3.out⟩
    case round =>
      obtain ⟨k, hk, rfl, rfl, hbr⟩ := hrel
      by_cases hlt : k < 9
      · obtain ⟨c, hc⟩ : ∃ c : Nat, x[k].toNat = c := ⟨_, rfl⟩
        obtain ⟨d, hd⟩ : ∃ d : Nat, y[k].toNat = d := ⟨_, rfl⟩
        have hc8 : c < 256 := by rw [← hc]; exact x[k].toNat_lt
        have hd8 : d < 256 := by rw [← hd]; exact y[k].toNat_lt
        have hxor := xor_u8 c d hc8 hd8
        obtain ⟨f, hf⟩ : ∃ f, c ^^^ d = f := ⟨_, rfl⟩
        have hf8 : f < 256 := by rw [← hf]; exact Nat.xor_lt_two_pow (n := 8) hc8 hd8
        have HN : Hid (cnt D (8 * (k + 1)) = cnt D (8 * k) + cnt f 8) := by
          have h := cnt_byte D k f (fun j hj => by
            rw [← HDe.out, ← hf, Nat.testBit_xor, Nat.testBit_xor, str_bit x k j (by omega) hj, str_bit y k j (by omega) hj, hc, hd]) 8 (Nat.le_refl _)
          rw [← h]; rfl
        rw [hf] at hxor
        obtain ⟨n0, hn0⟩ : ∃ n0, cnt D (8 * k) = n0 := ⟨_, rfl⟩
        have hn72 : n0 ≤ 72 := by rw [← hn0]; have := cnt_le D (8 * k); omega
        rw [hn0] at HN ⊢
        obtain ⟨t, ht⟩ : ∃ t, cnt D (8 * (k + 1)) = t := ⟨_, rfl⟩
        have hkx : (k : Int) < (x.size : Int) := by omega
        have hky : (k : Int) < (y.size : Int) := by omega
        have HTt := Lib.hid ht
        have HTle : t ≤ 72 := by rw [← ht]; have := cnt_le D (8 * (k + 1)); omega
        rw [ht] at HN
        have HBr := Lib.hid hbr
        clear hf hn0 ht hbr
        go_wp2
        go_region
        go_wp2
        go_loop [9, 11] (fun n c => ∃ g m : Nat, g ≤ 255 ∧ m ≤ 72 ∧ c = .int .u8 g ∧ n = .int .i64 m ∧ Pops m g t) (fun _ c => (intOf c).toNat)
        case atStart => exact ⟨f, n0, by omega, hn72, rfl, rfl, HN.out.symm⟩
        case round =>
          obtain ⟨g, m, hg8, hm72, rfl, rfl, hpop⟩ := hrel
          have HPo := Lib.hid hpop
          by_cases hg0 : g = 0
          · have HE := Lib.hid (hpop.done hg0)
            subst hg0
            clear hpop HPo
            go_wp2
            go_roundw
            case rel => exact ⟨k + 1, by omega, by go_num, by rw [HTt.out, ← HE.out], HBr.out.drew⟩
            case measure => simp [intOf]; omega
          · have hl := low_and g (by omega) hg0
            have hst := hpop.step hl.2.2
            obtain ⟨g2, hg2⟩ : ∃ g2, g &&& (g - 1) = g2 := ⟨_, rfl⟩
            rw [hg2] at hl hst
            have hand := hl.1
            have hlt2 := hl.2.1
            have hne0 : ((g : Int) == 0) = false := by simp; omega
            have HS := Lib.hid hst
            have hmt : m + 1 ≤ 72 := by have := hst.le HTle; omega
            clear hl hg2 hst hpop HPo hg0
            go_wp2
            go_round
            case rel => exact ⟨g2, m + 1, by omega, hmt, rfl, by go_num, HS.out⟩
            case measure => simp [intOf]; omega
      · obtain rfl : k = 9 := by omega
        obtain ⟨n0, hn0⟩ : ∃ n0, cnt D (8 * 9) = n0 := ⟨_, rfl⟩
        have hn4 : 4 ≤ n0 := by rw [← hn0]; exact HA.out
        rw [hn0]
        clear hn0 HA HDe
        go_wp2
        go_ret
        exact ⟨ret_bool (by simp; omega), hbr⟩

end Go.Proofs.YtcjhojedenpmbaaDoor
