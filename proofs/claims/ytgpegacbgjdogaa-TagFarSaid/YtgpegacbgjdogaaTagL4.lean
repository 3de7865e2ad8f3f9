/- The walk of the law TagFar. -/
import Derived.Test.YtgpegacbgjdogaaTagL2
namespace Go.Proofs.Ytgpegacbgjdogaa
open Go.RowKit

/-- how many bits of a byte are 1 -/
def pc (n : Nat) : Nat := n % 2 + n / 2 % 2 + n / 4 % 2 + n / 8 % 2 + n / 16 % 2 + n / 32 % 2 + n / 64 % 2 + n / 128 % 2
theorem pc_le (n : Nat) : pc n ≤ 8 := by unfold pc; omega
theorem low_step : ∀ c : Nat, c < 256 → 0 < c → bits .and .u8 (c : Int) ((c : Int) - 1) = ((c &&& (c - 1) : Nat) : Int) ∧ c &&& (c - 1) < c ∧ pc c = pc (c &&& (c - 1)) + 1 := by decide +kernel
theorem not_byte : ∀ c : Nat, c < 256 → bits .xor .u8 IntKind.u8.max (c : Int) = ((255 - c : Nat) : Int) := by decide +kernel
/-- so many bits counted of the first i bytes, the first one's among them -/
def Far (i m : Nat) : Prop := m ≤ 8 * i ∧ (1 ≤ i → 4 ≤ m)
theorem Far.zero : Far 0 0 := ⟨by omega, fun h => by omega⟩
theorem Far.step {i m n : Nat} (h : Far i m) (hn : n ≤ 8) (h4 : i = 0 → 4 ≤ n) : Far (i + 1) (m + n) := ⟨by have := h.1; omega, fun _ => by
  by_cases e : i = 0
  · have := h4 e; omega
  · have := h.2 (by omega); omega⟩

set_option maxHeartbeats 2000000 in
set_option maxRecDepth 100000 in
theorem walk_TagFar (k l q e : Int) (w : World) :
    Calls Try.prog 6 #[.agg (ta k l q e)] w fun r w' => r = .returned (.bool true) ∧ Below w.heap.size w w' := by
  go_enter Try.func6, Try.ntmps6
  go_wp2_with fail
  refine (works_any _).mono ?_
  rintro r w0 ⟨rfl, hb0⟩
  have HA0 := Lib.hid ((Blk.new w (ta k l q e) 23).after hb0)
  have HB0 := Lib.hid (((Below.refl _ _).alloc (Nat.le_refl _) _).trans (hb0.mono (by simp)))
  clear hb0
  go_wp2_with (refine wpList_load_row rfl 23 (.tmp 1) rfl w.heap.size rfl 23 (ta k l q e) (0, 0) _ HA0.out Try.underlying23 rfl size_tag ?_)
  by_cases hm : MayT k l q e
  · refine (tag_enc_may k l q e _ hm).mono ?_
    rintro r w1 ⟨rfl, hb1⟩
    have HB1 := Lib.hid (HB0.out.trans (hb1.mono HB0.out.size))
    clear hb1 HA0 HB0
    have hz : (tagS k l q e).size = 16 := tagS_size k l q e
    have h0 : (tagS k l q e).data.toList.getD 0 0 = 27 := rfl
    obtain ⟨u, hu⟩ : ∃ u, tagS k l q e = u := ⟨_, rfl⟩
    rw [hu] at hz h0 ⊢
    clear hu hm
    have hz2 : (u.size : Int) = 16 := by omega
    have H0 : Hid (∀ h : 0 < u.size, u[0].toNat = 27) := by
      intro h
      have e1 : u.data.toList.getD 0 0 = u[0] := by simp [List.getD, h]; rfl
      rw [← e1, h0]; rfl
    have HZ := Lib.hid hz
    clear hz h0
    go_wp2_with fail
    go_loop [5, 19] (fun n i => ∃ k m : Nat, k ≤ 8 ∧ Far k m ∧ i = .int .i64 k ∧ n = .int .i64 m) (fun _ i => 8 - (intOf i).toNat)
    case atStart => exact ⟨0, 0, by omega, Far.zero, rfl, rfl⟩
    case round =>
      obtain ⟨k, m, hk, hf, rfl, rfl⟩ := hrel
      have hm8 : m ≤ 64 := by have := hf.1; omega
      have HF := Lib.hid hf
      clear hf
      by_cases hlt : k < 8
      · have hku : k < u.size := by rw [HZ.out]; omega
        obtain ⟨b, hb⟩ : ∃ b : Nat, u[k].toNat = b := ⟨_, rfl⟩
        have hb256 : b < 256 := by rw [← hb]; exact u[k].toNat_lt
        have HN : Hid (k = 0 → 4 ≤ pc (255 - b)) := by
          intro hk0
          subst hk0
          rw [H0.out hku] at hb
          subst hb; decide
        have hnb := not_byte b hb256
        obtain ⟨c0, hc0⟩ : ∃ c, 255 - b = c := ⟨_, rfl⟩
        have hc256 : c0 < 256 := by omega
        rw [hc0] at hnb HN
        clear hc0
        go_wp2
        go_loop [5, 7] (fun n c => ∃ m' c' : Nat, c' < 256 ∧ m' ≤ 80 ∧ m' + pc c' = m + pc c0 ∧ n = .int .i64 m' ∧ c = .int .u8 c') (fun _ c => (intOf c).toNat)
        case atStart => exact ⟨m, c0, hc256, by omega, rfl, rfl, rfl⟩
        case round =>
          obtain ⟨m', c, hc, hm', hs, rfl, rfl⟩ := hrel
          have hp0 := pc_le c0
          have HS := Lib.hid hs
          by_cases hc0 : 0 < c
          · obtain ⟨hl1, hl2, hl3⟩ := low_step c hc hc0
            have hm2 : m' < 80 := by omega
            have hcn : ((c : Int) != 0) = true := by simp; omega
            have HL := Lib.hid hl3
            obtain ⟨d, hd⟩ : ∃ d, c &&& (c - 1) = d := ⟨_, rfl⟩
            rw [hd] at hl1 hl2 HL
            clear hd hl3 hs
            go_wp2
            go_round
            case rel => exact ⟨m' + 1, d, by omega, by omega, by have h1 := HS.out; have h2 := HL.out; omega, by go_num, rfl⟩
            case measure => simp [intOf]; omega
          · obtain rfl : c = 0 := by omega
            have hf2 := HF.out.step (pc_le c0) HN.out
            have he : m' = m + pc c0 := by simpa [pc] using hs
            have HF2 : Hid (Far (k + 1) m') := by rw [he]; exact hf2
            clear hs hf2 he
            go_wp2
            go_round
            case rel => exact ⟨k + 1, m', by omega, HF2.out, by go_num, rfl⟩
            case measure => simp [intOf]; omega
      · obtain rfl : k = 8 := by omega
        have h4 : (4 : Int) ≤ (m : Int) := by have := HF.out.2 (by omega); omega
        go_wp2
        go_ret
        exact ⟨rfl, HB1.out⟩
  · refine (tag_enc_not k l q e _ hm).mono ?_
    rintro r w1 ⟨rfl, hb1⟩
    have HB1 := Lib.hid (HB0.out.trans (hb1.mono HB0.out.size))
    clear hb1 HA0 HB0 hm
    go_wp2_with fail
    go_ret
    exact ⟨rfl, HB1.out⟩

end Go.Proofs.Ytgpegacbgjdogaa
