/- Contracts of package ham: left, isOdd, turned. -/
import Derived.Test.YtcjhojedenpmbaaDoorHamC1
import Derived.Test.YtcjhojedenpmbaaDoorHamR5
namespace Go.Proofs.YtcjhojedenpmbaaDoor
open Go.RowKit

set_option maxRecDepth 1000000 in
theorem tz_any (b : Nat) (w : World) (h0 : 0 < b) (h1 : b < 256) :
    Calls Tryd.prog 24 #[.int .u8 b] w fun e w' => e = .returned (.int .i64 (tz b : Nat)) ∧ w = w' := by
  go_enter Tryd.func24, Tryd.ntmps24
  go_wp2
  go_ret
  refine ⟨ret_int ?_, rfl⟩
  rw [← getElem!_pos]
  revert h0
  revert b
  decide +kernel

set_option maxRecDepth 1000000 in
theorem ones_any (b : Nat) (w : World) (h1 : b < 256) :
    Calls Tryd.prog 25 #[.int .u8 b] w fun e w' => e = .returned (.int .i64 (cnt b 8 : Nat)) ∧ w = w' := by
  go_enter Tryd.func25, Tryd.ntmps25
  go_wp2
  go_ret
  refine ⟨ret_int ?_, rfl⟩
  rw [← getElem!_pos]
  revert b
  decide +kernel

theorem Tryd.infoU8 : (Tryd.prog.info? 5).map (fun i => (i.zero, i.size, i.bytes)) = some (some (.int .u8 0), 1, 1) := by kernel_rfl
theorem size_ca (l : List UInt8) (hl : l.length = 9) : (Tryd.prog.info? 36).map (·.size) = some (ca l).size := by rw [ca_size, hl]; kernel_rfl
theorem index_ca (l : List UInt8) (hl : l.length = 9) (k : Nat) (hk : k < 9) (w : World) : (Instr.index 36 (.agg (ca l)) (.int .i64 (k : Int))).run Tryd.prog w = .ok (.int .u8 (by_ l k : Int)) w := by
  obtain ⟨i0, hi, hz0, hz1, hz2⟩ := info_parts Tryd.infoU8
  have h := ca_by l k (by omega)
  have h2 : k < (ca l).size := by rw [ca_size]; omega
  have hu := Tryd.underlying36
  simp [Instr.index, asIntOf, run_underlying hu, hk, part, sizeOf, typeInfo, hi, hz1, isAgg, run_underlying Tryd.underlying5, h, go_sem]

theorem odd_eq (l : List UInt8) (hl : l.length = 9) (n : Nat) (h : cnt (xa l 9) 8 = n) : ((n : Int) % 2 == 1) = oddB l := by
  have h1 := xa_cnt l 9 (by omega)
  rw [h, show 8 * 9 = 72 from rfl] at h1
  unfold oddB
  rw [← h1]
  by_cases h2 : n % 2 = 1
  · rw [decide_eq_true h2]; simp; omega
  · rw [decide_eq_false h2]; simp; omega

theorem odd_any (l : List UInt8) (w : World) (hl : l.length = 9) :
    Calls Tryd.prog 17 #[.agg (ca l)] w fun e w' => e = .returned (.bool (oddB l)) ∧ Below w.heap.size w w' := by
  have hs := size_ca l hl
  have HI := Lib.hid (fun k hk w => index_ca l hl k hk w)
  have HL := Lib.hid hl
  clear hl
  go_enter Tryd.func17, Tryd.ntmps17
  go_wp2_with (refine wpList_load_row rfl 36 (.tmp 1) rfl w.heap.size rfl 36 (ca l) (0, 0) _ (heap_alloc_new _ _) Tryd.underlying36 rfl hs ?_)
  go_loop [3, 7] (fun x i => ∃ k : Nat, k ≤ 9 ∧ i = .int .i64 k ∧ x = .int .u8 (xa l k : Nat)) (fun _ i => 9 - (intOf i).toNat)
  case atStart => exact ⟨0, by omega, rfl, rfl⟩
  case round =>
    obtain ⟨k, hk, rfl, rfl⟩ := hrel
    by_cases hlt : k < 9
    · have hi := HI.out k hlt
      have hx := xor_u8 (xa l k) (by_ l k) (xa_lt l k) (by_lt l k)
      have HX : Hid (xa l (k + 1) = xa l k ^^^ by_ l k) := rfl
      obtain ⟨x, hxe⟩ : ∃ x, xa l k = x := ⟨_, rfl⟩
      obtain ⟨b, hbe⟩ : ∃ b, by_ l k = b := ⟨_, rfl⟩
      rw [hxe, hbe] at HX hx
      rw [hbe] at hi
      rw [hxe]
      clear hxe hbe
      go_wp2
      go_round
      case rel => exact ⟨k + 1, by omega, by go_num, by rw [HX.out]⟩
      case measure => simp [intOf]; omega
    · obtain rfl : k = 9 := by omega
      obtain ⟨x, hxe⟩ : ∃ x, xa l 9 = x := ⟨_, rfl⟩
      have hx256 : x < 256 := by rw [← hxe]; exact xa_lt l 9
      have HO := Lib.hid (odd_eq l HL.out)
      rw [hxe] at HO ⊢
      clear hxe
      go_wp2_with fail
      refine (ones_any x _ hx256).mono ?_
      rintro e w' ⟨rfl, rfl⟩
      obtain ⟨n, hn⟩ : ∃ n, cnt x 8 = n := ⟨_, rfl⟩
      have hn8 : n ≤ 8 := by rw [← hn]; exact cnt_le x 8
      have HN := Lib.hid hn
      rw [hn]
      clear hn
      go_wp2
      go_ret
      exact ⟨ret_bool (HO.out n HN.out), (Below.refl _ _).alloc (Nat.le_refl _) _⟩

set_option maxRecDepth 100000 in
theorem left_any (l : List UInt8) (w : World) (hl : l.length = 9) (hT : ∀ i, i < 64 → w.cell? ⟨0, i, none⟩ = some (.int .u8 ((place i : Nat) : Int))) (hg : 0 < w.heap.size) :
    Calls Tryd.prog 16 #[.agg (ca l)] w fun e w' => e = .returned (.int .u8 (left (numN l) 72 : Nat)) ∧ Below w.heap.size w w' := by
  have HC := Lib.hid (fun k (hk : k < 9) => show (w.alloc (.cells (ca l) 36)).cell? ⟨w.heap.size, k, none⟩ = some (.int .u8 (by_ l k : Int)) by rw [World.cell?_alloc_new]; exact ca_by l k (by omega))
  have HT := Lib.hid (fun k (hk : k < 64) => show (w.alloc (.cells (ca l) 36)).cell? ⟨0, k, none⟩ = some (.int .u8 ((place k : Nat) : Int)) by
    rw [((Below.refl w.heap.size w).alloc (Nat.le_refl _) _).cell (p := ⟨0, k, none⟩) hg]; exact hT k hk)
  have HL := Lib.hid hl
  clear hl hT
  have h8 := HC.out 8 (by omega)
  have hnt := not_top (by_ l 8) (by_lt l 8)
  rw [← lp_zero] at hnt
  obtain ⟨c8, hc8⟩ : ∃ c8, by_ l 8 = c8 := ⟨_, rfl⟩
  have hc256 : c8 < 256 := by rw [← hc8]; exact by_lt l 8
  rw [hc8] at h8 hnt
  clear hc8
  go_enter Tryd.func16, Tryd.ntmps16
  go_wp2
  clear hnt h8 hc256
  go_loop [3, 9] (fun x i => ∃ k : Nat, k ≤ 8 ∧ i = .int .i64 k ∧ x = .int .u8 (lp l k : Nat)) (fun _ i => 8 - (intOf i).toNat)
  case atStart => exact ⟨0, by omega, rfl, rfl⟩
  case round =>
    obtain ⟨k, hk, rfl, rfl⟩ := hrel
    by_cases hlt : k < 8
    · have hck := HC.out k (by omega)
      have HS := Lib.hid (lp_succ l k (by rw [HL.out]; omega))
      have HZ := Lib.hid (leftB_zero k (by omega))
      obtain ⟨b0, hb0⟩ : ∃ b, by_ l k = b := ⟨_, rfl⟩
      have hb256 : b0 < 256 := by rw [← hb0]; exact by_lt l k
      obtain ⟨x0, hx0⟩ : ∃ x, lp l k = x := ⟨_, rfl⟩
      have hx128 : x0 < 128 := by rw [← hx0]; exact lp_lt l k
      rw [hb0, hx0] at HS
      rw [hb0] at hck
      rw [hx0]
      clear hb0 hx0
      go_wp2
      go_loop [3, 5] (fun p b => ∃ x c : Nat, x < 128 ∧ c < 256 ∧ x ^^^ leftB k c 8 = x0 ^^^ leftB k b0 8 ∧ p = .int .u8 x ∧ b = .int .u8 c) (fun _ b => (intOf b).toNat)
      case atStart => exact ⟨x0, b0, hx128, hb256, rfl, rfl, rfl⟩
      case round =>
        obtain ⟨x, c, hx, hc, hxc, rfl, rfl⟩ := hrel
        have HXC := Lib.hid hxc
        clear hxc
        by_cases hc0 : 0 < c
        · have hcn : ((c : Int) != 0) = true := by simp; omega
          have hlow := low_bits c hc hc0
          have hlt2 := low_lt c hc hc0
          have HB := Lib.hid (leftB_low k hlt c hc hc0)
          have ht8 := tz_lt c
          obtain ⟨d, hd⟩ : ∃ d, c &&& (c - 1) = d := ⟨_, rfl⟩
          rw [hd] at hlow hlt2 HB
          clear hd
          go_wp2_with fail
          refine (tz_any c _ hc0 hc).mono ?_
          rintro e w' ⟨rfl, rfl⟩
          obtain ⟨t, ht⟩ : ∃ t, tz c = t := ⟨_, rfl⟩
          rw [ht] at ht8 HB ⊢
          clear ht
          have htk := HT.out (8 * k + t) (by omega)
          have hpl := place_le (8 * k + t)
          obtain ⟨y, hy⟩ : ∃ y, place (8 * k + t) = y := ⟨_, rfl⟩
          rw [hy] at htk hpl HB
          clear hy
          have hxy := xor_u8 x y (by omega) (by omega)
          have hxy7 : x ^^^ y < 128 := Nat.xor_lt_two_pow (n := 7) hx (by omega)
          go_wp2
          go_round
          case rel => exact ⟨x ^^^ y, d, hxy7, by omega, by rw [← HXC.out, HB.out, Nat.xor_assoc], rfl, rfl⟩
          case measure => simp [intOf]; omega
        · obtain rfl : c = 0 := by omega
          go_wp2
          go_round
          case rel => exact ⟨k + 1, by omega, by go_num, by have h := HXC.out; rw [HZ.out, Nat.xor_zero] at h; rw [HS.out, ← h]⟩
          case measure => simp [intOf]; omega
    · obtain rfl : k = 8 := by omega
      have HA := Lib.hid (lp_all l HL.out)
      go_wp2
      go_ret
      exact ⟨ret_int (by rw [HA.out]), (Below.refl _ _).alloc (Nat.le_refl _) _⟩

end Go.Proofs.YtcjhojedenpmbaaDoor
