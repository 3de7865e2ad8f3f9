/- Texts of one claim, merged: HamC1, HamC2, HamC3, HamC4, HamC5, CrcC1, CrcC2, FrT, BitsP, TagC0, TagC2. -/
import Derived.Test.YtjmoecfgpfdncaaGreatDoorM2
import Derived.Lib.BufferWrite
import Derived.Test.YtjmoecfgpfdncaaGreatDoorM11
import Derived.Deep.RegionWith
import Derived.Deep.WholeRow
import Derived.Test.YtjmoecfgpfdncaaGreatDoorM3
import Derived.Test.YtjmoecfgpfdncaaGreatDoorM1
import Derived.Laws.DeepBits32
import Derived.BigQuiet
import Derived.Deep.QuietTactic
import Derived.StillTailTactics

/- Plain facts for the code of package ham: what is left of the places, byte by byte, and how many bits are 1, taken together. -/
namespace Go.Proofs.YtjmoecfgpfdncaaGreatDoor
set_option maxRecDepth 100000
open Go.RowKit

/-- the places of a byte's bits, put together -/
def leftB (k b : Nat) : Nat → Nat
  | 0 => 0
  | j + 1 => leftB k b j ^^^ (if b.testBit j then place (8 * k + j) else 0)
theorem left_seg (M k b : Nat) : ∀ j, (∀ i, i < j → M.testBit (8 * k + i) = b.testBit i) → left M (8 * k + j) = left M (8 * k) ^^^ leftB k b j
  | 0, _ => by show _ = left M (8 * k) ^^^ 0; rw [Nat.xor_zero]; rfl
  | j + 1, h => by
    show left M (8 * k + j) ^^^ (if M.testBit (8 * k + j) then place (8 * k + j) else 0) = left M (8 * k) ^^^ (leftB k b j ^^^ (if b.testBit j then place (8 * k + j) else 0))
    rw [left_seg M k b j (fun i hi => h i (by omega)), h j (by omega), Nat.xor_assoc]
theorem cnt_seg (M k b : Nat) : ∀ j, (∀ i, i < j → M.testBit (8 * k + i) = b.testBit i) → cnt M (8 * k + j) = cnt M (8 * k) + cnt b j
  | 0, _ => rfl
  | j + 1, h => by
    show cnt M (8 * k + j) + (if M.testBit (8 * k + j) then 1 else 0) = cnt M (8 * k) + (cnt b j + (if b.testBit j then 1 else 0))
    rw [cnt_seg M k b j (fun i hi => h i (by omega)), h j (by omega), Nat.add_assoc]
/-- the lowest bit that is 1 -/
def tz (b : Nat) : Nat := if b % 2 = 1 then 0 else if b / 2 % 2 = 1 then 1 else if b / 4 % 2 = 1 then 2 else if b / 8 % 2 = 1 then 3 else if b / 16 % 2 = 1 then 4 else if b / 32 % 2 = 1 then 5 else if b / 64 % 2 = 1 then 6 else 7
theorem tz_lt (b : Nat) : tz b < 8 := by
  unfold tz
  repeat' split
  all_goals decide
theorem low_lt : ∀ b, b < 256 → 0 < b → (b &&& (b - 1)) < b := by decide +kernel
theorem low_bits : ∀ b : Nat, b < 256 → 0 < b → bits .and .u8 (b : Int) ((b : Int) - 1) = ((b &&& (b - 1) : Nat) : Int) := by decide +kernel
theorem leftB_low : ∀ k, k < 8 → ∀ b, b < 256 → 0 < b → leftB k b 8 = place (8 * k + tz b) ^^^ leftB k (b &&& (b - 1)) 8 := by decide +kernel
theorem leftB_zero : ∀ k, k < 9 → leftB k 0 8 = 0 := by decide +kernel
theorem leftB_check : ∀ b, b < 256 → leftB 8 b 8 = b % 128 := by decide +kernel
theorem xor_u8 (a b : Nat) (ha : a < 256) (hb : b < 256) : bits .xor .u8 (a : Int) (b : Int) = ((a ^^^ b : Nat) : Int) := by
  have hx : a ^^^ b < 2 ^ 8 := Nat.xor_lt_two_pow (by omega) (by omega)
  have h1 : (BitVec.ofInt 8 (a : Int)).toNat = a := by
    rw [BitVec.ofInt_natCast, BitVec.toNat_ofNat]; exact Nat.mod_eq_of_lt (by omega)
  have h2 : (BitVec.ofInt 8 (b : Int)).toNat = b := by
    rw [BitVec.ofInt_natCast, BitVec.toNat_ofNat]; exact Nat.mod_eq_of_lt (by omega)
  show IntKind.u8.wrap ((BitVec.ofInt 8 (a : Int) ^^^ BitVec.ofInt 8 (b : Int)).toNat : Int) = _
  rw [BitVec.toNat_xor, h1, h2, IntKind.wrap_u8]
  omega
theorem not_top : ∀ b : Nat, b < 256 → bits .andNot .u8 (b : Int) 128 = ((b % 128 : Nat) : Int) := by decide +kernel
theorem or_top : ∀ b : Nat, b < 128 → bits .or .u8 (b : Int) 128 = ((b + 128 : Nat) : Int) := by decide +kernel

/-- a chunk's bytes as cells -/
def ca (l : List UInt8) : Array Value := (Lib.byteCells l).toArray
theorem ca_size (l : List UInt8) : (ca l).size = l.length := by simp [ca, Lib.byteCells]
theorem ca_at (l : List UInt8) (i : Nat) (h : i < l.length) : (ca l)[i]? = some (.int .u8 ((l.getD i 0).toNat : Int)) := by
  simp [ca, Lib.byteCells, h, List.getD]
theorem ca_set (l : List UInt8) (i n : Nat) (hn : n < 256) : (ca l).setIfInBounds i (.int .u8 (n : Int)) = ca (l.set i (UInt8.ofNat n)) := by
  have e : (Value.int .u8 (n : Int)) = .int .u8 ((UInt8.ofNat n).toNat : Int) := by
    congr 1
    simp
    omega
  simp [ca, Lib.byteCells, List.map_set, e]
/-- a byte of a chunk -/
def by_ (l : List UInt8) (i : Nat) : Nat := (l.getD i 0).toNat
theorem by_lt (l : List UInt8) (i : Nat) : by_ l i < 256 := (l.getD i 0).toNat_lt
theorem ca_by (l : List UInt8) (i : Nat) (h : i < l.length) : (ca l)[i]? = some (.int .u8 (by_ l i : Int)) := ca_at l i h
theorem by_bit (l : List UInt8) (k i : Nat) (hk : k < l.length) (hi : i < 8) : (numN l).testBit (8 * k + i) = (by_ l k).testBit i :=
  numN_bit l k i _ (by simp [List.getD, hk]) hi
theorem left_by (l : List UInt8) (k : Nat) (hk : k < l.length) : left (numN l) (8 * (k + 1)) = left (numN l) (8 * k) ^^^ leftB k (by_ l k) 8 :=
  left_seg _ _ _ 8 fun i hi => by_bit l k i hk hi
theorem cnt_by (l : List UInt8) (k : Nat) (hk : k < l.length) : cnt (numN l) (8 * (k + 1)) = cnt (numN l) (8 * k) + cnt (by_ l k) 8 :=
  cnt_seg _ _ _ 8 fun i hi => by_bit l k i hk hi

/-- the state of the loop over the bytes: the check's places, and those of the first k bytes -/
def lp (l : List UInt8) (k : Nat) : Nat := by_ l 8 % 128 ^^^ left (numN l) (8 * k)
theorem lp_zero (l : List UInt8) : lp l 0 = by_ l 8 % 128 := by unfold lp; show _ ^^^ 0 = _; rw [Nat.xor_zero]
theorem lp_lt (l : List UInt8) (k : Nat) : lp l k < 128 := Nat.xor_lt_two_pow (n := 7) (Nat.mod_lt _ (by decide)) (left_lt _ _)
theorem lp_succ (l : List UInt8) (k : Nat) (hk : k < l.length) : lp l (k + 1) = lp l k ^^^ leftB k (by_ l k) 8 := by
  unfold lp; rw [left_by l k hk, Nat.xor_assoc]
theorem lp_all (l : List UInt8) (h : l.length = 9) : lp l 8 = left (numN l) 72 := by
  have h1 := left_by l 8 (by omega)
  have h2 : left (numN l) 72 = left (numN l) 64 ^^^ leftB 8 (by_ l 8) 8 := h1
  unfold lp
  rw [h2, leftB_check _ (by_lt l 8), Nat.xor_comm]

/-- the first k bytes put together -/
def xa (l : List UInt8) : Nat → Nat
  | 0 => 0
  | k + 1 => xa l k ^^^ by_ l k
theorem xa_lt (l : List UInt8) : ∀ k, xa l k < 256
  | 0 => by show (0 : Nat) < 256; decide
  | k + 1 => Nat.xor_lt_two_pow (n := 8) (xa_lt l k) (by_lt l k)
theorem xa_cnt (l : List UInt8) : ∀ k, k ≤ l.length → cnt (xa l k) 8 % 2 = cnt (numN l) (8 * k) % 2
  | 0, _ => by show cnt 0 8 % 2 = _; rw [cnt_zero]; rfl
  | k + 1, h => by
    show cnt (xa l k ^^^ by_ l k) 8 % 2 = _
    rw [cnt_xor, cnt_by l k (by omega)]
    have := xa_cnt l k (by omega)
    omega
/-- is the number of its bits that are 1 odd? -/
def oddB (l : List UInt8) : Bool := decide (cnt (numN l) 72 % 2 = 1)

/-- the place p's bit turned, if it is among the eight bytes -/
def turnL (l : List UInt8) (p k : Nat) : List UInt8 := if idx p < k then fl l (idx p / 8) (idx p % 8) else l
theorem turnL_length (l : List UInt8) (p k : Nat) : (turnL l p k).length = l.length := by unfold turnL; split; exact fl_length _ _ _; rfl
theorem turnL_zero (l : List UInt8) (p : Nat) : turnL l p 0 = l := rfl
theorem idx_eq {p k x : Nat} (hp : p ≤ 71) (hk : k < 72) (hx : place k = x) (h : x = p) : idx p = k := by
  subst h; subst hx; exact idx_place hk
theorem turnL_hit (l : List UInt8) (p k x : Nat) (hp : p ≤ 71) (hk : k < 64) (hx : place k = x) (h : x = p) : turnL l p k = l ∧ turnL l p (k + 1) = fl l (k / 8) (k % 8) := by
  have e := idx_eq hp (by omega) hx h
  unfold turnL
  rw [e]
  exact ⟨if_neg (by omega), if_pos (by omega)⟩
theorem turnL_miss (l : List UInt8) (p k x : Nat) (hp : p ≤ 71) (hx : place k = x) (h : x ≠ p) : turnL l p (k + 1) = turnL l p k := by
  have e : idx p ≠ k := by
    intro e
    have := (place_idx hp).2
    rw [e] at this
    omega
  unfold turnL
  by_cases h2 : idx p < k
  · rw [if_pos (by omega), if_pos h2]
  · rw [if_neg (by omega), if_neg h2]
theorem fb_nat (c : UInt8) (j : Nat) (hj : j < 8) : (fb c j).toNat = c.toNat ^^^ 2 ^ j := by
  have h : ∀ n, n < 256 → ∀ j, j < 8 → (fb (UInt8.ofNat n) j).toNat = n ^^^ 2 ^ j := by decide +kernel
  have := h _ c.toNat_lt j hj
  rwa [UInt8.ofNat_toNat] at this
theorem ca_flip (l : List UInt8) (q r : Nat) (hr : r < 8) : (ca l).setIfInBounds q (.int .u8 ((by_ l q ^^^ 2 ^ r : Nat) : Int)) = ca (fl l q r) := by
  have hx : by_ l q ^^^ 2 ^ r < 256 := Nat.xor_lt_two_pow (n := 8) (by_lt l q) (Nat.pow_lt_pow_right (by decide) hr)
  rw [ca_set _ _ _ hx]
  unfold fl
  congr 2
  apply UInt8.toNat_inj.1
  rw [fb_nat _ _ hr]
  show _ % 256 = _
  exact Nat.mod_eq_of_lt hx

/-- the places of the 64 bits, as the program's table has them -/
def plA : Array Value := ((List.range 64).map fun i => Value.int .u8 ((place i : Nat) : Int)).toArray
theorem plA_at (k : Nat) (hk : k < 64) : plA[k]? = some (.int .u8 ((place k : Nat) : Int)) := by
  simp [plA, hk]

end Go.Proofs.YtjmoecfgpfdncaaGreatDoor

/- Contracts of package ham: left, isOdd, turned. -/
namespace Go.Proofs.YtjmoecfgpfdncaaGreatDoor
set_option maxRecDepth 100000
open Go.RowKit

set_option maxRecDepth 1000000 in
theorem tz_any (b : Nat) (w : World) (h0 : 0 < b) (h1 : b < 256) :
    Calls Tryz.prog 101 #[.int .u8 b] w fun e w' => e = .returned (.int .i64 (tz b : Nat)) ∧ w = w' := by
  go_enter Tryz.func101, Tryz.ntmps101
  go_wp2
  go_ret
  refine ⟨ret_int ?_, rfl⟩
  rw [← getElem!_pos]
  revert h0
  revert b
  decide +kernel

set_option maxRecDepth 1000000 in
theorem ones_any (b : Nat) (w : World) (h1 : b < 256) :
    Calls Tryz.prog 102 #[.int .u8 b] w fun e w' => e = .returned (.int .i64 (cnt b 8 : Nat)) ∧ w = w' := by
  go_enter Tryz.func102, Tryz.ntmps102
  go_wp2
  go_ret
  refine ⟨ret_int ?_, rfl⟩
  rw [← getElem!_pos]
  revert b
  decide +kernel

theorem size_ca (l : List UInt8) (hl : l.length = 9) : (Tryz.prog.info? 134).map (·.size) = some (ca l).size := by rw [ca_size, hl]; kernel_rfl
theorem index_ca (l : List UInt8) (hl : l.length = 9) (k : Nat) (hk : k < 9) (w : World) : (Instr.index 134 (.agg (ca l)) (.int .i64 (k : Int))).run Tryz.prog w = .ok (.int .u8 (by_ l k : Int)) w := by
  obtain ⟨i0, hi, hz0, hz1, hz2⟩ := info_parts Tryz.infoU8
  have h := ca_by l k (by omega)
  have h2 : k < (ca l).size := by rw [ca_size]; omega
  have hu := Tryz.underlying134
  simp [Instr.index, asIntOf, run_underlying hu, hk, part, sizeOf, typeInfo, hi, hz1, isAgg, run_underlying Tryz.underlying5, h, go_sem]

theorem odd_eq (l : List UInt8) (hl : l.length = 9) (n : Nat) (h : cnt (xa l 9) 8 = n) : ((n : Int) % 2 == 1) = oddB l := by
  have h1 := xa_cnt l 9 (by omega)
  rw [h, show 8 * 9 = 72 from rfl] at h1
  unfold oddB
  rw [← h1]
  by_cases h2 : n % 2 = 1
  · rw [decide_eq_true h2]; simp; omega
  · rw [decide_eq_false h2]; simp; omega

theorem ham_odd (l : List UInt8) (w : World) (hl : l.length = 9) :
    Calls Tryz.prog 90 #[.agg (ca l)] w fun e w' => e = .returned (.bool (oddB l)) ∧ Below w.heap.size w w' := by
  have hs := size_ca l hl
  have HI := Lib.hid (fun k hk w => index_ca l hl k hk w)
  have HL := Lib.hid hl
  clear hl
  go_enter Tryz.func90, Tryz.ntmps90
  go_wp2_with (refine wpList_load_row rfl 134 (.tmp 1) rfl w.heap.size rfl 134 (ca l) (0, 0) _ (heap_alloc_new _ _) Tryz.underlying134 rfl hs ?_)
  go_loop [3, 7] (fun x i => ∃ k : Nat, k ≤ 9 ∧ i = .int .i64 k ∧ x = .int .u8 (xa l k : Nat)) (fun _ i => 9 - (intOf i).toNat)
  case atStart => exact ⟨0, by omega, rfl, rfl⟩
  case round =>
    obtain ⟨k, hk, rfl, rfl⟩ := hrel
    by_cases hlt : k < 9
    · have hi := HI.out k hlt
      have hx := xor_u8 (xa l k) (by_ l k) (xa_lt l k) (by_lt l k)
      have HX : Hid (xa l (k + 1) = xa l k ^^^ by_ l k) := rfl
      obtain ⟨x, hxe⟩ : ∃ x, xa l k = x := ⟨_, rfl⟩
      obtain ⟨b, hbe⟩ : ∃ b, by_ l k = b := ⟨_, rfl⟩
      rw [hxe, hbe] at HX hx
      rw [hbe] at hi
      rw [hxe]
      clear hxe hbe
      go_wp2
      go_round
      case rel => exact ⟨k + 1, by omega, by go_num, by rw [HX.out]⟩
      case measure => simp [intOf]; omega
    · obtain rfl : k = 9 := by omega
      obtain ⟨x, hxe⟩ : ∃ x, xa l 9 = x := ⟨_, rfl⟩
      have hx256 : x < 256 := by rw [← hxe]; exact xa_lt l 9
      have HO := Lib.hid (odd_eq l HL.out)
      rw [hxe] at HO ⊢
      clear hxe
      go_wp2_with fail
      refine (ones_any x _ hx256).mono ?_
      rintro e w' ⟨rfl, rfl⟩
      obtain ⟨n, hn⟩ : ∃ n, cnt x 8 = n := ⟨_, rfl⟩
      have hn8 : n ≤ 8 := by rw [← hn]; exact cnt_le x 8
      have HN := Lib.hid hn
      rw [hn]
      clear hn
      go_wp2
      go_ret
      exact ⟨ret_bool (HO.out n HN.out), (Below.refl _ _).alloc (Nat.le_refl _) _⟩

set_option maxRecDepth 100000 in
theorem ham_left (l : List UInt8) (w : World) (hl : l.length = 9) (hT : ∀ i, i < 64 → w.cell? ⟨0, i, none⟩ = some (.int .u8 ((place i : Nat) : Int))) (hg : 0 < w.heap.size) :
    Calls Tryz.prog 89 #[.agg (ca l)] w fun e w' => e = .returned (.int .u8 (left (numN l) 72 : Nat)) ∧ Below w.heap.size w w' := by
  have HC := Lib.hid (fun k (hk : k < 9) => show (w.alloc (.cells (ca l) 134)).cell? ⟨w.heap.size, k, none⟩ = some (.int .u8 (by_ l k : Int)) by rw [World.cell?_alloc_new]; exact ca_by l k (by omega))
  have HT := Lib.hid (fun k (hk : k < 64) => show (w.alloc (.cells (ca l) 134)).cell? ⟨0, k, none⟩ = some (.int .u8 ((place k : Nat) : Int)) by
    rw [((Below.refl w.heap.size w).alloc (Nat.le_refl _) _).cell (p := ⟨0, k, none⟩) hg]; exact hT k hk)
  have HL := Lib.hid hl
  clear hl hT
  have h8 := HC.out 8 (by omega)
  have hnt := not_top (by_ l 8) (by_lt l 8)
  rw [← lp_zero] at hnt
  obtain ⟨c8, hc8⟩ : ∃ c8, by_ l 8 = c8 := ⟨_, rfl⟩
  have hc256 : c8 < 256 := by rw [← hc8]; exact by_lt l 8
  rw [hc8] at h8 hnt
  clear hc8
  go_enter Tryz.func89, Tryz.ntmps89
  go_wp2
  clear hnt h8 hc256
  go_loop [3, 9] (fun x i => ∃ k : Nat, k ≤ 8 ∧ i = .int .i64 k ∧ x = .int .u8 (lp l k : Nat)) (fun _ i => 8 - (intOf i).toNat)
  case atStart => exact ⟨0, by omega, rfl, rfl⟩
  case round =>
    obtain ⟨k, hk, rfl, rfl⟩ := hrel
    by_cases hlt : k < 8
    · have hck := HC.out k (by omega)
      have HS := Lib.hid (lp_succ l k (by rw [HL.out]; omega))
      have HZ := Lib.hid (leftB_zero k (by omega))
      obtain ⟨b0, hb0⟩ : ∃ b, by_ l k = b := ⟨_, rfl⟩
      have hb256 : b0 < 256 := by rw [← hb0]; exact by_lt l k
      obtain ⟨x0, hx0⟩ : ∃ x, lp l k = x := ⟨_, rfl⟩
      have hx128 : x0 < 128 := by rw [← hx0]; exact lp_lt l k
      rw [hb0, hx0] at HS
      rw [hb0] at hck
      rw [hx0]
      clear hb0 hx0
      go_wp2
      go_loop [3, 5] (fun p b => ∃ x c : Nat, x < 128 ∧ c < 256 ∧ x ^^^ leftB k c 8 = x0 ^^^ leftB k b0 8 ∧ p = .int .u8 x ∧ b = .int .u8 c) (fun _ b => (intOf b).toNat)
      case atStart => exact ⟨x0, b0, hx128, hb256, rfl, rfl, rfl⟩
      case round =>
        obtain ⟨x, c, hx, hc, hxc, rfl, rfl⟩ := hrel
        have HXC := Lib.hid hxc
        clear hxc
        by_cases hc0 : 0 < c
        · have hcn : ((c : Int) != 0) = true := by simp; omega
          have hlow := low_bits c hc hc0
          have hlt2 := low_lt c hc hc0
          have HB := Lib.hid (leftB_low k hlt c hc hc0)
          have ht8 := tz_lt c
          obtain ⟨d, hd⟩ : ∃ d, c &&& (c - 1) = d := ⟨_, rfl⟩
          rw [hd] at hlow hlt2 HB
          clear hd
          go_wp2_with fail
          refine (tz_any c _ hc0 hc).mono ?_
          rintro e w' ⟨rfl, rfl⟩
          obtain ⟨t, ht⟩ : ∃ t, tz c = t := ⟨_, rfl⟩
          rw [ht] at ht8 HB ⊢
          clear ht
          have htk := HT.out (8 * k + t) (by omega)
          have hpl := place_le (8 * k + t)
          obtain ⟨y, hy⟩ : ∃ y, place (8 * k + t) = y := ⟨_, rfl⟩
          rw [hy] at htk hpl HB
          clear hy
          have hxy := xor_u8 x y (by omega) (by omega)
          have hxy7 : x ^^^ y < 128 := Nat.xor_lt_two_pow (n := 7) hx (by omega)
          go_wp2
          go_round
          case rel => exact ⟨x ^^^ y, d, hxy7, by omega, by rw [← HXC.out, HB.out, Nat.xor_assoc], rfl, rfl⟩
          case measure => simp [intOf]; omega
        · obtain rfl : c = 0 := by omega
          go_wp2
          go_round
          case rel => exact ⟨k + 1, by omega, by go_num, by have h := HXC.out; rw [HZ.out, Nat.xor_zero] at h; rw [HS.out, ← h]⟩
          case measure => simp [intOf]; omega
    · obtain rfl : k = 8 := by omega
      have HA := Lib.hid (lp_all l HL.out)
      go_wp2
      go_ret
      exact ⟨ret_int (by rw [HA.out]), (Below.refl _ _).alloc (Nat.le_refl _) _⟩

end Go.Proofs.YtjmoecfgpfdncaaGreatDoor

/- Contracts of package ham: turned. -/
namespace Go.Proofs.YtjmoecfgpfdncaaGreatDoor
set_option maxRecDepth 100000
open Go.RowKit

/-- a whole array out of a variable whose cells are known one by one -/
theorem wpList_load_cells {P : Program} {ops : Array Oper} {rest : List Oper} {o : Oper} {a : Act} {w : World} {Q : Exit → Act → World → Prop} (hgd : o.guard = none) (ty : TypeId) (x : Operand) (ho : o.op = .load ty x)
    (g : Nat) (hx : a.eval x = .pointer (some ⟨g, 0, none⟩)) (cs : List Value) (d : TypeDesc) (hc : ∀ j v, cs[j]? = some v → w.cell? ⟨g, j, none⟩ = some v)
    (hu : P.underlying ty = some d) (hd : (match d with | .struct _ | .array _ _ => true | _ => false) = true) (hi : (P.info? ty).map (·.size) = some cs.length)
    (h : wpList P ops Q rest (a.put o.dst (.agg cs.toArray)) w) : wpList P ops Q (o :: rest) a w := by
  refine wpList_plain hgd fun K hK => ?_
  have hl : (loadCells ⟨g, 0, none⟩ cs.length).run P w = .ok cs.toArray w :=
    run_loadCells_list (P := P) w ⟨g, 0, none⟩ cs (fun j v hv => by
      have hadd : (⟨g, 0, none⟩ : Addr).add j = ⟨g, j, none⟩ := by unfold Addr.add; split <;> simp_all
      rw [hadd]; exact hc j v hv)
  have hrun : (loadVar ty ⟨g, 0, none⟩).run P w = .ok (.agg cs.toArray) w := by
    cases hq : P.info? ty with
    | none => simp [hq] at hi
    | some i =>
      have hs : i.size = cs.length := by simpa [hq] using hi
      have hagg : (isAgg ty).run P w = .ok true w := by
        unfold isAgg
        rw [Sem.run_bind, run_underlying hu w]
        cases d <;> simp_all
      simp [loadVar, Sem.run_bind, hagg, sizeOf, typeInfo, hq, hs, hl]
  unfold Oper.wp execOp
  simp only [ho, hx, Instr.loadAt, Instr.sureAddr, Sem.run_bind, Sem.run_pure, Result.andThen_ok, hrun]
  exact hK _ _ h

def plL : List Value := (List.range 64).map fun i => Value.int .u8 ((place i : Nat) : Int)
theorem plL_length : plL.length = 64 := by simp [plL]
theorem plL_at {j : Nat} {v : Value} (h : plL[j]? = some v) : j < 64 ∧ v = .int .u8 ((place j : Nat) : Int) := by
  have hj : j < plL.length := (List.getElem?_eq_some_iff.1 h).1
  rw [plL_length] at hj
  refine ⟨hj, ?_⟩
  simp [plL, hj] at h
  exact h.symm
theorem size_pl : (Tryz.prog.info? 146).map (·.size) = some plL.length := by rw [plL_length]; kernel_rfl
theorem index_pl (k : Nat) (hk : k < 64) (w : World) : (Instr.index 146 (.agg plL.toArray) (.int .i64 (k : Int))).run Tryz.prog w = .ok (.int .u8 ((place k : Nat) : Int)) w := by
  obtain ⟨i0, hi, hz0, hz1, hz2⟩ := info_parts Tryz.infoU8
  have h : plL.toArray[k]? = some (.int .u8 ((place k : Nat) : Int)) := by simp [plL, hk]
  have hu := Tryz.underlying146
  have hk2 : k < plL.length := by rw [plL_length]; exact hk
  have h' : plL[k]? = some (.int .u8 ((place k : Nat) : Int)) := by simp [plL, hk]
  simp [Instr.index, asIntOf, run_underlying hu, hk, part, sizeOf, typeInfo, hi, hz1, isAgg, run_underlying Tryz.underlying5, h', go_sem]

theorem xor_pow (b r : Nat) (hb : b < 256) (hr : r < 8) : bits .xor .u8 (b : Int) (2 ^ r % 256) = ((b ^^^ 2 ^ r : Nat) : Int) := by
  have h : ∀ b : Nat, b < 256 → ∀ r : Nat, r < 8 → bits .xor .u8 (b : Int) (2 ^ r % 256) = ((b ^^^ 2 ^ r : Nat) : Int) := by decide +kernel
  exact h b hb r hr

/-- a block of nine cells -/
def ChunkAt (w : World) (b : Nat) (l : List UInt8) : Prop := w.heap[b]? = some (.cells (ca l) 134 (0, 0))
theorem ChunkAt.cell {w : World} {b : Nat} {l : List UInt8} (h : ChunkAt w b l) (i : Nat) (hi : i < l.length) : w.cell? ⟨b, i, none⟩ = some (.int .u8 (by_ l i : Int)) := by
  have h2 : w.cell? ⟨b, i, none⟩ = (ca l)[i]? := by unfold ChunkAt at h; simp [World.cell?, h]
  rw [h2]; exact ca_by l i hi
theorem ChunkAt.free {w : World} {b : Nat} {l : List UInt8} (h : ChunkAt w b l) (i : Nat) : w.frozen? ⟨b, i, none⟩ = false := by
  unfold ChunkAt at h; simp [World.frozen?, h]
theorem ChunkAt.alloc {w : World} {b : Nat} {l : List UInt8} (h : ChunkAt w b l) (o : Obj) : ChunkAt (w.alloc o) b l := by
  have hb : b < w.heap.size := (Array.getElem?_eq_some_iff.1 h).1
  unfold ChunkAt at *
  rw [heap_alloc_old _ _ hb]; exact h
theorem ChunkAt.new (w : World) (l : List UInt8) : ChunkAt (w.alloc (.cells (ca l) 134)) w.heap.size l := heap_alloc_new _ _
theorem ChunkAt.drew {w : World} {b : Nat} {l : List UInt8} (h : ChunkAt w b l) : ChunkAt w.drew b l := h
theorem ChunkAt.set {w : World} {b : Nat} {l : List UInt8} (h : ChunkAt w b l) (i : Nat) (v : Value) (m : List UInt8) (he : (ca l).setIfInBounds i v = ca m) : ChunkAt (w.setCell ⟨b, i, none⟩ v) b m := by
  unfold ChunkAt at *
  rw [heap_setCell_same _ _ _ _ _ _ h, he]
theorem ChunkAt.set_other {w : World} {b c : Nat} {l : List UInt8} (h : ChunkAt w b l) (hne : c ≠ b) (i : Nat) (v : Value) : ChunkAt (w.setCell ⟨c, i, none⟩ v) b l := by
  unfold ChunkAt at *
  rw [Below.heap_setCell _ _ _ _ (Ne.symm hne)]; exact h
theorem ChunkAt.put {w : World} {b : Nat} {l m : List UInt8} (h : ChunkAt w b l) : ChunkAt (w.setRow b (ca m)) b m := by
  unfold ChunkAt at *
  exact setRow_heap w b (ca l) (ca m) _ _ h
theorem ca_one (l : List UInt8) : (ca l).all (·.oneCell') = true := by
  rw [Array.all_eq_true_iff_forall_mem]
  intro v hv
  simp [ca, Lib.byteCells] at hv
  obtain ⟨b, _, rfl⟩ := hv
  rfl
theorem below_setRow {B g : Nat} {a w : World} (hB : B ≤ g) (cs : Array Value) (h : Below B a w) : Below B a (w.setRow g cs) := by
  have hk : ∀ k, k < B → (w.setRow g cs).heap[k]? = w.heap[k]? := by
    intro k hk
    simp only [World.setRow, Array.getElem?_modify]
    rw [if_neg (by omega)]
  obtain ⟨h1, h2, h3, h4, h5⟩ := h
  exact ⟨h1, h2, h3, by rw [size_setRow]; exact h4, fun k hk2 => by rw [hk k hk2]; exact h5 k hk2⟩
theorem zero_ca : (#[.int .u8 0, .int .u8 0, .int .u8 0, .int .u8 0, .int .u8 0, .int .u8 0, .int .u8 0, .int .u8 0, .int .u8 0] : Array Value) = ca (List.replicate 9 0) := rfl

end Go.Proofs.YtjmoecfgpfdncaaGreatDoor

/- Contracts of package ham: Encode, Decode. -/
namespace Go.Proofs.YtjmoecfgpfdncaaGreatDoor
set_option maxRecDepth 100000
open Go.RowKit

/-- the table of places, as the program's text lays it -/
def HamTab (w : World) : Prop := ∀ i, i < 64 → w.cell? ⟨0, i, none⟩ = some (.int .u8 ((place i : Nat) : Int))
theorem HamTab.below {w w' : World} {B : Nat} (h : HamTab w) (hb : Below B w w') (hB : 0 < B) : HamTab w' := by
  intro i hi
  rw [hb.cell (p := ⟨0, i, none⟩) hB]; exact h i hi
theorem tab_place : ∀ i, i < 64 → ([3, 5, 6, 7, 9, 10, 11, 12, 13, 14, 15, 17, 18, 19, 20, 21, 22, 23, 24, 25, 26, 27, 28, 29, 30, 31, 33, 34, 35, 36, 37, 38, 39, 40, 41, 42, 43, 44, 45, 46, 47, 48, 49, 50, 51, 52, 53, 54, 55, 56, 57, 58, 59, 60, 61, 62, 63, 65, 66, 67, 68, 69, 70, 71] : List Int).getD i 0 = ((place i : Nat) : Int) := by decide +kernel
theorem hamTab_of {w : World} (h : ∀ i, i < 64 → w.cell? ⟨0, i, none⟩ = some (.int .u8 (([3, 5, 6, 7, 9, 10, 11, 12, 13, 14, 15, 17, 18, 19, 20, 21, 22, 23, 24, 25, 26, 27, 28, 29, 30, 31, 33, 34, 35, 36, 37, 38, 39, 40, 41, 42, 43, 44, 45, 46, 47, 48, 49, 50, 51, 52, 53, 54, 55, 56, 57, 58, 59, 60, 61, 62, 63, 65, 66, 67, 68, 69, 70, 71] : List Int).getD i 0))) : HamTab w := by
  intro i hi
  rw [h i hi, tab_place i hi]

theorem ChunkAt.below {w w' : World} {b B : Nat} {l : List UInt8} (h : ChunkAt w b l) (hb : Below B w w') (hB : b < B) : ChunkAt w' b l := by
  unfold ChunkAt at *
  rw [hb.block b hB]; exact h
theorem ChunkAt.lt {w : World} {b : Nat} {l : List UInt8} (h : ChunkAt w b l) : b < w.heap.size := (Array.getElem?_eq_some_iff.1 h).1
theorem ChunkAt.after {w w' : World} {b : Nat} {l : List UInt8} (h : ChunkAt w b l) (hb : Below w.heap.size w w') : ChunkAt w' b l := h.below hb h.lt
/-- the first bytes of a chunk, as a text -/
theorem ChunkAt.conv {w : World} {b : Nat} {l : List UInt8} (h : ChunkAt w b l) (n cap : Nat) (hn : n ≤ l.length) :
    Sem.run Tryz.prog (convert 87 9 (.slice (some ⟨b, 0, none⟩) n cap)) w = .ok (.string ⟨(l.take n).toArray⟩) w := by
  have hr := run_convert_bytes_arg (P := Tryz.prog) w 87 5 Tryz.underlying87 Tryz.underlying5 b 0 n cap ((l.take n).map fun c => (c.toNat : Int)) (by simp; omega) (by
    intro i hi
    rw [Nat.zero_add, h.cell i (by omega)]
    have h3 : i < l.length := by omega
    simp [List.getD, by_, h3, List.getElem?_take_of_lt hi]) 9 Tryz.underlying9
  rw [hr]
  congr 2
  apply strOfNums_eq
  rw [List.map_map]
  have e : ((fun n : Int => UInt8.ofNat n.toNat) ∘ fun b : UInt8 => (b.toNat : Int)) = id := by funext b; simp
  rw [e, List.map_id]

/-- copy(c[:], s) into a new chunk of zeros -/
theorem copy_chunk (s : ByteArray) (w : World) (hs : s.size ≤ 9) (ty : TypeId) :
    Sem.run Tryz.prog (Builtin.copy_ #[87, 9] ty #[.slice (some ⟨w.heap.size, 0, none⟩) 9 9, .string s]) (w.alloc (.cells #[.int .u8 0, .int .u8 0, .int .u8 0, .int .u8 0, .int .u8 0, .int .u8 0, .int .u8 0, .int .u8 0, .int .u8 0] 134))
      = .ok (goInt s.size) (w.alloc (.cells (ca (bs s ++ List.replicate (9 - s.size) 0)) 134)) := by
  obtain ⟨i0, hi, hz0, hz1, hz2⟩ := info_parts Tryz.infoU8
  have h := Lib.run_copy_row_string (P := Tryz.prog) (w.alloc (.cells (ca (List.replicate 9 0)) 134)) 87 9 ty 5 w.heap.size 0 9 9 s (ca (List.replicate 9 0)) 134 Tryz.underlying87 (by rw [hi]; simp [hz1]) (heap_alloc_new _ _) hs (by rw [ca_size]; simp; omega)
  rw [zero_ca, h, World.setRow_alloc_new]
  congr 3
  have e : (ca (List.replicate 9 0)).toList = Lib.byteCells (List.replicate 9 0) := rfl
  rw [e]
  unfold ca
  congr 1
  rw [List.take_zero, List.nil_append]
  unfold Lib.byteCells bs
  rw [List.map_append, ← List.map_drop, List.drop_replicate, Nat.zero_add]

theorem num_zeros (l : List UInt8) : ∀ n, numN (l ++ List.replicate n 0) = numN l := by
  intro n
  rw [numN_append]
  have h : numN (List.replicate n 0) = 0 := by
    induction n with
    | zero => rfl
    | succ n ih => simp only [List.replicate_succ, numN, ih]; rfl
  rw [h, Nat.mul_zero, Nat.add_zero]

/-- the state of Encode: the bytes, and the check with its last bit or without -/
def encL (s : ByteArray) (x : Nat) : List UInt8 := bs s ++ [UInt8.ofNat x]
theorem encL_length (s : ByteArray) (x : Nat) (h : s.size = 8) : (encL s x).length = 9 := by simp [encL, bs_length, h]
theorem encL_by (s : ByteArray) (x : Nat) (h : s.size = 8) (hx : x < 256) : by_ (encL s x) 8 = x := by
  have e : (encL s x).getD 8 0 = UInt8.ofNat x := by
    have h8 : (bs s).length = 8 := by rw [bs_length, h]
    simp [encL, List.getD, h8]
  unfold by_
  rw [e]
  simp; omega
theorem encL_set (s : ByteArray) (x y : Nat) (h : s.size = 8) (hy : y < 256) : (ca (encL s x)).setIfInBounds 8 (.int .u8 (y : Int)) = ca (encL s y) := by
  rw [ca_set _ _ _ hy]
  congr 1
  unfold encL
  have h8 : (bs s).length = 8 := by rw [bs_length, h]
  rw [show 8 = (bs s).length + 0 by omega, List.set_append_right _ _ (by omega)]
  simp
theorem encL_num (s : ByteArray) (x : Nat) (h : s.size = 8) (hx : x < 256) : numN (encL s x) = numN (bs s) ^^^ 2 ^ 64 * x := by
  unfold encL
  have hn : numN [UInt8.ofNat x] = x := by
    show (UInt8.ofNat x).toNat + 256 * 0 = _
    simp; omega
  rw [numN_append, bs_length, h, hn]
  exact add_xor _ _ _ (num_lt s h)
theorem encL_left (s : ByteArray) (h : s.size = 8) : left (numN (encL s 0)) 72 = left (numN (bs s)) 64 := by
  rw [encL_num s 0 h (by decide), Nat.mul_zero, Nat.xor_zero, left_64 (num_lt s h)]
theorem encL_odd (s : ByteArray) (h : s.size = 8) : oddB (encL s (left (numN (bs s)) 64)) = decide ((cnt (numN (bs s)) 64 + cnt (left (numN (bs s)) 64) 7) % 2 = 1) := by
  have hl := left_lt (numN (bs s)) 64
  unfold oddB
  rw [encL_num s _ h (by omega)]
  have h1 := check_cnt (p := left (numN (bs s)) 64) (q := 0) hl (by decide)
  rw [cnt_xor, cnt_64 (num_lt s h)]
  rw [Nat.mul_zero, Nat.add_zero] at h1
  rw [h1, Nat.add_zero]
theorem encS_eq (s : ByteArray) (x : Nat) (h : s.size = 8) (he : encN (numN (bs s)) = x) : (⟨((encL s x).take 9).toArray⟩ : ByteArray) = encS s := by
  rw [List.take_of_length_le (by rw [encL_length s x h]; omega), ← he]; rfl
theorem encL_start (s : ByteArray) (h : s.size = 8) : bs s ++ List.replicate (9 - s.size) 0 = encL s 0 := by rw [h]; rfl

set_option maxRecDepth 100000 in
theorem ham_enc_no (s : ByteArray) (w : World) (h : s.size ≠ 8) (hm : s.size ≤ maxLen) :
    Calls Tryz.prog 71 #[.string s] w fun e w' => e = .returned (.tuple #[.string ByteArray.empty, .int .i64 4]) ∧ Below w.heap.size w w' := by
  have hm2 : (s.size : Int) ≤ 9223372036854775807 := by unfold maxLen at hm; omega
  have h2 : (s.size : Int) ≠ 8 := by omega
  clear hm
  go_enter Tryz.func71, Tryz.ntmps71
  go_wp2
  go_ret2
  exact ⟨rfl, (Below.refl _ _).alloc (Nat.le_refl _) _⟩

set_option maxRecDepth 100000 in
theorem ham_enc_at (s : ByteArray) (w : World) (h : s.size = 8) (hT : HamTab w) (hg : 0 < w.heap.size) : Calls Tryz.prog 71 #[.string s] w (EncPost s w) := by
  have hcp := fun ty => copy_chunk s w (by omega) ty
  rw [encL_start s h] at hcp
  have h8 : (s.size : Int) = 8 := by omega
  have hl0 := encL_length s 0 h
  have hs0 := size_ca (encL s 0) hl0
  have HLL := Lib.hid (encL_left s h)
  have HLO := Lib.hid (encL_odd s h)
  have HLS := Lib.hid (fun x he => encS_eq s x h he)
  have HLen := Lib.hid (fun x => encL_length s x h)
  have HSet := Lib.hid (fun x y hy => encL_set s x y h hy)
  have HBy := Lib.hid (fun x hx => encL_by s x h hx)
  have HEN : Hid (encN (numN (bs s)) = left (numN (bs s)) 64 + 128 * ((cnt (numN (bs s)) 64 + cnt (left (numN (bs s)) 64) 7) % 2)) := rfl
  have hL := left_lt (numN (bs s)) 64
  obtain ⟨L, hLe⟩ : ∃ L, left (numN (bs s)) 64 = L := ⟨_, rfl⟩
  obtain ⟨C, hCe⟩ : ∃ C, cnt (numN (bs s)) 64 + cnt L 7 = C := ⟨_, rfl⟩
  rw [hLe] at HLL HLO hL HEN
  rw [hCe] at HLO HEN
  clear hLe hCe
  have HT := Lib.hid hT
  clear hT
  go_enter Tryz.func71, Tryz.ntmps71
  go_wp2_with (refine wpList_load_row rfl 134 (.tmp 4) rfl w.heap.size rfl 134 (ca (encL s 0)) (0, 0) _ (heap_alloc_new _ _) Tryz.underlying134 rfl hs0 ?_)
  refine (ham_left (encL s 0) _ hl0 (HT.out.below ((Below.refl _ _).alloc (Nat.le_refl _) _) hg) (by simp <;> omega)).mono ?_
  rintro e w1 ⟨rfl, hb1⟩
  rw [HLL.out]
  have hC1 : ChunkAt w1 w.heap.size (encL s 0) := (ChunkAt.new w (encL s 0)).after hb1
  have HB1 : Hid (Below w.heap.size w w1) := ((Below.refl _ _).alloc (Nat.le_refl _) _).trans (hb1.mono (by simp))
  have hcell := hC1.cell 8 (by rw [hl0]; omega)
  have hfree := hC1.free 8
  have HS := Lib.hid (HSet.out 0 L (by omega))
  have HC1 := Lib.hid hC1
  have hsL := size_ca (encL s L) (HLen.out L)
  clear hb1 hC1 hs0 hl0 hcp
  go_wp2_with (refine wpList_load_row rfl 134 (.tmp 4) rfl w.heap.size rfl 134 (ca (encL s L)) (0, 0) _ (HC1.out.set 8 _ _ HS.out) Tryz.underlying134 rfl hsL ?_)
  refine (ham_odd (encL s L) _ (HLen.out L)).mono ?_
  rintro e w2 ⟨rfl, hb2⟩
  rw [HLO.out]
  have hC2 : ChunkAt w2 w.heap.size (encL s L) := (HC1.out.set 8 _ _ HS.out).after hb2
  have HB2 : Hid (Below w.heap.size w w2) := (HB1.out.setCell (Nat.le_refl _) _).trans (hb2.mono (by simpa using HB1.out.size))
  clear hb2 hcell hfree hsL
  by_cases hC : C % 2 = 1
  · obtain ⟨y, hy⟩ : ∃ y, L + 128 = y := ⟨_, rfl⟩
    rw [decide_eq_true hC]
    have hcell := hC2.cell 8 (by rw [HLen.out]; omega)
    rw [HBy.out L (by omega)] at hcell
    have hfree := hC2.free 8
    have hor := or_top L hL
    rw [hy] at hor
    have hC3 := hC2.set 8 _ _ (HSet.out L y (by omega))
    have hcv := hC3.conv 9 9 (by rw [HLen.out]; omega)
    have HE : Hid ((⟨((encL s y).take 9).toArray⟩ : ByteArray) = encS s) := HLS.out y (by rw [HEN.out, ← hy, hC])
    clear hC3 hC2 hy hC
    go_wp2
    go_ret2
    exact ⟨ret_str HE.out, HB2.out.setCell (Nat.le_refl _) _⟩
  · rw [decide_eq_false hC]
    have hcv := hC2.conv 9 9 (by rw [HLen.out]; omega)
    have HE : Hid ((⟨((encL s L).take 9).toArray⟩ : ByteArray) = encS s) := HLS.out L (by rw [HEN.out]; omega)
    clear hC2 hC
    go_wp2
    go_ret2
    exact ⟨ret_str HE.out, HB2.out⟩

theorem ham_enc_yes (s : ByteArray) (w : World) (h : s.size = 8) (hT : HamTab w) : Calls Tryz.prog 71 #[.string s] w (EncPost s w) := ham_enc_at s w h hT (cell_lt (hT 0 (by decide)))

end Go.Proofs.YtjmoecfgpfdncaaGreatDoor

/- Contracts of package ham: Decode. -/
namespace Go.Proofs.YtjmoecfgpfdncaaGreatDoor
set_option maxRecDepth 100000
open Go.RowKit

/-- what each operation of Decode's two calls leaves -/
def RD (l : List UInt8) (p : Nat) (o : Bool) : Nat → Value → World → Prop
  | 0, v, _ => v = .agg (ca l)
  | 1, v, _ => v = .int .u8 p
  | 2, v, _ => v = .agg (ca l)
  | 3, v, _ => v = .bool o
  | 4, v, _ => v = .int .u8 p
  | _, v, _ => v = .bool o
def CD (w0 : World) (l : List UInt8) (w : World) : Prop := ChunkAt w w0.heap.size l ∧ HamTab w ∧ Below w0.heap.size w0 w
def HamT_ (_ _ : World) : Prop := True
theorem RD.mono {l : List UInt8} {p : Nat} {o : Bool} : ∀ (i : Nat) (v : Value) (w w' : World), RD l p o i v w → HamT_ w w' → RD l p o i v w' := by
  intro i v w w' h _
  unfold RD at *
  split at h <;> exact h

/-- the frame while Decode's two calls are made -/
def BaseD (s : ByteArray) (B : Nat) (a : Act) : Prop := ∃ u6 u7 u14 u15 u16 u17 : Value, a = ⟨#[.string s, undef, .string ⟨#[]⟩, .int .i64 0, .int .i64 0, .pointer (some ⟨B, 0, none⟩), u6, u7, .string s, .int .i64 9, .bool false, .slice (some ⟨B, 0, none⟩) 9 9, .string s, .int .i64 9, u14, u15, u16, u17, undef, undef, undef, undef, undef, undef, undef, undef, undef, undef, undef, undef, undef, undef, undef, undef, undef, undef, undef, undef, undef], []⟩
theorem BaseD.size {s : ByteArray} {B : Nat} {a : Act} (h : BaseD s B a) : a.tmps.size = 39 := by
  obtain ⟨u6, u7, u14, u15, u16, u17, rfl⟩ := h
  rfl
theorem BaseD.put {s : ByteArray} {B : Nat} {a : Act} {v : Value} (h : BaseD s B a) : BaseD s B (a.put (some 14) v) ∧ BaseD s B (a.put (some 15) v) ∧ BaseD s B (a.put (some 16) v) ∧ BaseD s B (a.put (some 17) v) ∧ BaseD s B (a.put (some 6) v) ∧ BaseD s B (a.put (some 7) v) := by
  obtain ⟨u6, u7, u14, u15, u16, u17, rfl⟩ := h
  exact ⟨⟨u6, u7, v, u15, u16, u17, rfl⟩, ⟨u6, u7, u14, v, u16, u17, rfl⟩, ⟨u6, u7, u14, u15, v, u17, rfl⟩, ⟨u6, u7, u14, u15, u16, v, rfl⟩, ⟨v, u7, u14, u15, u16, u17, rfl⟩, ⟨u6, v, u14, u15, u16, u17, rfl⟩⟩

theorem take9 (s : ByteArray) (h : s.size = 9) : bs s ++ List.replicate (9 - s.size) 0 = bs s := by rw [h]; simp
theorem bs9 (s : ByteArray) (h : s.size = 9) : (bs s).length = 9 := by rw [bs_length, h]

theorem ext8 (s : ByteArray) : (⟨((bs s).take 8).toArray⟩ : ByteArray) = s.extract 0 8 := by
  apply bs_inj
  rw [take_ext]; rfl
theorem fix8 (s : ByteArray) (h : s.size = 9) (p : Nat) : (⟨((turnL (bs s) p 64).take 8).toArray⟩ : ByteArray) = fixS s p := by
  apply bs_inj
  unfold turnL fixS
  by_cases h2 : idx p < 64
  · rw [if_pos h2, if_pos h2, take_ext]
    show (fl (bs s) (idx p / 8) (idx p % 8)).take 8 = ((flipS s (idx p / 8) (idx p % 8)).data.toList).take 8
    rw [flipS_list _ _ _ (by omega)]; rfl
  · rw [if_neg h2, if_neg h2, take_ext]; rfl
theorem ham_odd_no {s : ByteArray} (h : oddB (bs s) = false) : cnt (numN (bs s)) 72 % 2 = 0 := by
  unfold oddB at h
  have := of_decide_eq_false h
  omega
theorem ham_odd_yes {s : ByteArray} (h : oddB (bs s) = true) : ¬ cnt (numN (bs s)) 72 % 2 = 0 := by
  unfold oddB at h
  have := of_decide_eq_true h
  omega
theorem CD.call {w0 w w' : World} {l : List UInt8} (h : CD w0 l w) (hg : 0 < w0.heap.size) (hb : Below w.heap.size w w') : CD w0 l w' :=
  ⟨h.1.after hb, h.2.1.below hb (by have := h.2.2.size; omega), h.2.2.trans (hb.mono h.2.2.size)⟩

end Go.Proofs.YtjmoecfgpfdncaaGreatDoor

/- Contracts of package crc: More, Sum, Seal, Whole. The table of half bytes lies in a package variable: its cells are a premise. -/
namespace Go.Proofs.YtjmoecfgpfdncaaGreatDoor
open Go.RowKit

/-- the table of half bytes, as the program's text lays it -/
def CrcTab (w : World) : Prop := ∀ i, i < 16 → w.cell? ⟨2, i, none⟩ = some (.int .u32 ((half i : Nat) : Int))
theorem CrcTab.below {w w' : World} {B : Nat} (h : CrcTab w) (hb : Below B w w') (hB : 2 < B) : CrcTab w' := by
  intro i hi
  rw [hb.cell (p := ⟨2, i, none⟩) hB]; exact h i hi

theorem tab_half : ∀ i, i < 16 → ([0, 498536548, 997073096, 651767980, 1994146192, 1802195444, 1303535960, 1342533948, 3988292384, 4027552580, 3604390888, 3412177804, 2607071920, 2262029012, 2685067896, 3183342108] : List Int).getD i 0 = ((half i : Nat) : Int) := by decide +kernel
theorem crcTab_of {w : World} (h : ∀ i, i < 16 → w.cell? ⟨2, i, none⟩ = some (.int .u32 (([0, 498536548, 997073096, 651767980, 1994146192, 1802195444, 1303535960, 1342533948, 3988292384, 4027552580, 3604390888, 3412177804, 2607071920, 2262029012, 2685067896, 3183342108] : List Int).getD i 0))) : CrcTab w := by
  intro i hi
  rw [h i hi, tab_half i hi]

/-- the state behind so many bytes -/
def moreTo (st : Nat) (s : ByteArray) (k : Nat) : Nat := more st ((bs s).take k)
theorem moreTo_zero (st : Nat) (s : ByteArray) : moreTo st s 0 = st := by unfold moreTo; rw [List.take_zero, more_nil]
theorem moreTo_all (st : Nat) (s : ByteArray) : moreTo st s s.size = more st (bs s) := by
  unfold moreTo; rw [List.take_of_length_le (by rw [bs_length]; omega)]
theorem moreTo_lt (st : Nat) (s : ByteArray) (k : Nat) (h : st < 2 ^ 32) : moreTo st s k < 2 ^ 32 := more_lt _ _ h
theorem moreTo_succ (st : Nat) (s : ByteArray) (k : Nat) (h : k < s.size) : moreTo st s (k + 1) = sN 4 (sN 4 (moreTo st s k ^^^ s[k].toNat)) := by
  unfold moreTo
  rw [List.take_succ_eq_append_getElem (by rw [bs_length]; exact h), more_snoc, ← sN_add]
  rfl
theorem wraps_u32 (n : Int) (h0 : 0 ≤ n) (h1 : n < 2 ^ 32) : IntKind.u32.wrap n = n := by rw [IntKind.wrap_u32]; omega
theorem xor_u32 (a b : Nat) (ha : a < 4294967296) (hb : b < 4294967296) : bits .xor .u32 (a : Int) (b : Int) = ((a ^^^ b : Nat) : Int) := by
  have hx : a ^^^ b < 2 ^ 32 := Nat.xor_lt_two_pow (by omega) (by omega)
  have h1 : (BitVec.ofInt 32 (a : Int)).toNat = a := by
    rw [BitVec.ofInt_natCast, BitVec.toNat_ofNat]; exact Nat.mod_eq_of_lt (by omega)
  have h2 : (BitVec.ofInt 32 (b : Int)).toNat = b := by
    rw [BitVec.ofInt_natCast, BitVec.toNat_ofNat]; exact Nat.mod_eq_of_lt (by omega)
  show IntKind.u32.wrap ((BitVec.ofInt 32 (a : Int) ^^^ BitVec.ofInt 32 (b : Int)).toNat : Int) = _
  rw [BitVec.toNat_xor, h1, h2, IntKind.wrap_u32]
  omega
theorem and_u32_15 (y : Nat) (hy : y < 4294967296) : bits .and .u32 (y : Int) 15 = ((y % 16 : Nat) : Int) := by
  have h := (bits_nat .u32 32 (by decide) wraps_u32 y 15 (by omega) (by decide)).1
  rw [show (15 : Int) = ((15 : Nat) : Int) from rfl, h, show 15 = 2 ^ 4 - 1 from rfl, Nat.and_two_pow_sub_one_eq_mod]
/-- a half byte's step, as the code takes it -/
theorem half_step (y q : Nat) (hy : y < 4294967296) (hq : y % 16 = q) : bits .xor .u32 ((y : Int) / 16) ((half q : Nat) : Int) = ((sN 4 y : Nat) : Int) := by
  subst hq
  have h := xor_u32 (y / 16) (half (y % 16)) (by omega) (sN_lt 4 _ (by omega))
  rw [sN_half, ← h]; rfl

theorem mod_u32 (y : Nat) : (y : Int) % 16 = ((y % 16 : Nat) : Int) := by omega
/-- one half byte's step -/
theorem half_any (y : Nat) (w : World) (hy : y < 4294967296) (hT : CrcTab w) :
    Calls Tryz.prog 104 #[.int .u32 y] w fun e w' => e = .returned (.int .u32 (sN 4 y : Nat)) ∧ w = w' := by
  obtain ⟨q, hq⟩ : ∃ q, y % 16 = q := ⟨_, rfl⟩
  have hq16 : q < 16 := by omega
  have e3 := half_step y q hy hq
  have hcell := hT q hq16
  obtain ⟨u, hu⟩ : ∃ u, half q = u := ⟨_, rfl⟩
  rw [hu] at e3 hcell
  have hq2 : (y : Int) % 16 = (q : Int) := by omega
  have HE := Lib.hid e3
  clear hu hq hT e3
  go_enter Tryz.func104, Tryz.ntmps104
  go_wp2
  go_ret
  exact ⟨ret_int HE.out, rfl⟩

set_option maxRecDepth 100000 in
theorem more_any (st : Nat) (s : ByteArray) (w : World) (hs : st < 4294967296) (hm : s.size ≤ 100000) (hT : CrcTab w) :
    Calls Tryz.prog 103 #[.int .u32 st, .string s] w fun e w' => e = .returned (.int .u32 (more st (bs s) : Nat)) ∧ w = w' := by
  have HT := Lib.hid hT
  have HA := Lib.hid (moreTo_all st s)
  have HL := Lib.hid (fun k => moreTo_lt st s k hs)
  clear hT
  go_enter Tryz.func103, Tryz.ntmps103
  go_wp2
  go_loop [0, 8] (fun x i => ∃ k : Nat, k ≤ s.size ∧ i = .int .i64 k ∧ x = .int .u32 (moreTo st s k : Nat)) (fun _ i => s.size - (intOf i).toNat)
  case atStart => exact ⟨0, Nat.zero_le _, rfl, by rw [moreTo_zero]⟩
  case round =>
    obtain ⟨k, hk, rfl, rfl⟩ := hrel
    by_cases hlt : k < s.size
    · have HS := Lib.hid (moreTo_succ st s k hlt)
      obtain ⟨x, hx⟩ : ∃ x, moreTo st s k = x := ⟨_, rfl⟩
      have hx32 : x < 4294967296 := by rw [← hx]; exact HL.out k
      rw [hx] at HS ⊢
      clear hx
      obtain ⟨c, hc⟩ : ∃ c : Nat, s[k].toNat = c := ⟨_, rfl⟩
      have hc2 : c ≤ 255 := by have : s[k].toNat < 256 := s[k].toNat_lt; omega
      rw [hc] at HS
      obtain ⟨y, hy⟩ : ∃ y, x ^^^ c = y := ⟨_, rfl⟩
      have hy32 : y < 4294967296 := by rw [← hy]; exact Nat.xor_lt_two_pow (n := 32) hx32 (by omega)
      have e1 := xor_u32 x c hx32 (by omega)
      rw [hy] at e1 HS
      clear hy hx32
      go_wp2_with fail
      refine (half_any y _ hy32 HT.out).mono ?_
      rintro e w' ⟨rfl, rfl⟩
      obtain ⟨z, hz⟩ : ∃ z, sN 4 y = z := ⟨_, rfl⟩
      have hz32 : z < 4294967296 := by rw [← hz]; exact sN_lt 4 y hy32
      rw [hz] at HS ⊢
      clear hz
      go_wp2_with fail
      refine (half_any z _ hz32 HT.out).mono ?_
      rintro e w' ⟨rfl, rfl⟩
      rw [← HS.out]
      go_wp2_with fail
      go_round
      case rel => exact ⟨k + 1, by omega, by go_num, rfl⟩
      case measure => simp [intOf]; omega
    · obtain rfl : k = s.size := by omega
      go_wp2
      go_ret
      exact ⟨ret_int (by rw [HA.out]), rfl⟩

theorem sum_xor (l : List UInt8) : bits .xor .u32 IntKind.u32.max ((more ones32 l : Nat) : Int) = ((sumN l : Nat) : Int) := by
  have h := more_lt ones32 l (by decide)
  rw [show IntKind.u32.max = ((ones32 : Nat) : Int) from rfl, xor_u32 _ _ (by decide) h, Nat.xor_comm]; rfl
theorem sum_xor_right (l : List UInt8) : bits .xor .u32 ((more ones32 l : Nat) : Int) 4294967295 = ((sumN l : Nat) : Int) := by
  rw [show (4294967295 : Int) = ((ones32 : Nat) : Int) from rfl, xor_u32 _ _ (more_lt ones32 l (by decide)) (by decide)]; rfl
theorem sum_any (s : ByteArray) (w : World) (hm : s.size ≤ 100000) (hT : CrcTab w) :
    Calls Tryz.prog 100 #[.string s] w fun e w' => e = .returned (.int .u32 (sumN (bs s) : Nat)) ∧ w = w' := by
  have HT := Lib.hid hT
  have HS := Lib.hid (sum_xor_right (bs s))
  clear hT
  go_enter Tryz.func100, Tryz.ntmps100
  go_wp2_with fail
  refine (more_any 4294967295 s _ (by decide) hm HT.out).mono ?_
  rintro e w' ⟨rfl, rfl⟩
  rw [show more 4294967295 (bs s) = more ones32 (bs s) from rfl]
  go_wp2_with fail
  go_ret
  exact ⟨ret_int (by rw [← HS.out]), rfl⟩

theorem conv4 (c0 c1 c2 c3 : Int) (W : World) :
    Sem.run Tryz.prog (convert 87 9 (.slice (some ⟨W.heap.size, 0, none⟩) 4 4)) (W.alloc (.cells #[.int .u8 c0, .int .u8 c1, .int .u8 c2, .int .u8 c3] 145))
      = .ok (.string (strOfNums [c0, c1, c2, c3])) (W.alloc (.cells #[.int .u8 c0, .int .u8 c1, .int .u8 c2, .int .u8 c3] 145)) := by
  refine run_convert_bytes_arg (P := Tryz.prog) _ 87 5 Tryz.underlying87 Tryz.underlying5 W.heap.size 0 4 4 [c0, c1, c2, c3] rfl ?_ 9 Tryz.underlying9
  intro i hi
  rw [Nat.zero_add, World.cell?_alloc_new]
  rcases i with _ | _ | _ | _ | i
  all_goals first | omega | rfl

theorem four_str (N : Nat) (h : N < 2 ^ 32) : strOfNums [(N : Int) % 256, (N : Int) / 256 % 256, (N : Int) / 65536 % 256, (N : Int) / 16777216] = ⟨(tail4 N).toArray⟩ := by
  apply strOfNums_eq
  have e0 : ((N : Int) % 256).toNat = N % 256 := by omega
  have e1 : ((N : Int) / 256 % 256).toNat = N / 256 % 256 := by omega
  have e2 : ((N : Int) / 65536 % 256).toNat = N / 65536 % 256 := by omega
  have e3 : ((N : Int) / 16777216).toNat = N / 16777216 % 256 := by omega
  simp only [List.map, e0, e1, e2, e3, tail4]

set_option maxRecDepth 100000 in
theorem tail_any (s : ByteArray) (w : World) (hm : s.size ≤ 100000) (hT : CrcTab w) :
    Calls Tryz.prog 88 #[.string s] w fun e w' => e = .returned (.string ⟨(tail4 (sumN (bs s))).toArray⟩) ∧ Below w.heap.size w w' := by
  have HT := Lib.hid hT
  have hL := sumN_lt (bs s)
  clear hT
  have hc := fun (c0 c1 c2 c3 : Int) => conv4 c0 c1 c2 c3 w
  go_enter Tryz.func88, Tryz.ntmps88
  go_wp2_with fail
  refine (sum_any s _ hm HT.out).mono ?_
  rintro e w' ⟨rfl, rfl⟩
  obtain ⟨N, hN⟩ : ∃ N, sumN (bs s) = N := ⟨_, rfl⟩
  rw [hN] at hL ⊢
  have estr := four_str N hL
  have HN := Lib.hid hN
  clear hN
  go_wp2_with fail
  go_rounds 5
  go_ret
  exact ⟨by rw [HN.out]; rfl, (Below.refl _ _).alloc (Nat.le_refl _) _⟩

set_option maxRecDepth 100000 in
theorem seal_any (s : ByteArray) (w : World) (hm : s.size ≤ 100000) (hT : CrcTab w) :
    Calls Tryz.prog 70 #[.string s] w fun e w' => e = .returned (.string (sealS s)) ∧ Below w.heap.size w w' := by
  have HT := Lib.hid hT
  clear hT
  go_enter Tryz.func70, Tryz.ntmps70
  go_wp2_with fail
  obtain ⟨t, ht, htz⟩ := tail_str (sumN (bs s))
  refine (tail_any s _ hm HT.out).mono ?_
  rintro e w1 ⟨rfl, hb1⟩
  have HS : Hid (s ++ t = sealS s) := by rw [← ht]; exact seal_cat s
  have HB1 := Lib.hid hb1
  rw [ht]
  clear hb1 ht
  go_wp2_with fail
  go_ret
  exact ⟨by rw [← HS.out]; rfl, HB1.out⟩

end Go.Proofs.YtjmoecfgpfdncaaGreatDoor

/- The contract of crc's Whole. -/
namespace Go.Proofs.YtjmoecfgpfdncaaGreatDoor
open Go.RowKit

theorem CrcTab.drew {w : World} (h : CrcTab w) : CrcTab w.drew := h

theorem below_drewN (w : World) (n : Nat) : Below w.heap.size w (w.drewN n) := ⟨rfl, rfl, rfl, Nat.le_refl _, fun _ _ => rfl⟩

/-- a text ends with its own sum's bytes just if it is the sealed text of what is ahead of them -/
theorem whole_tail (s : ByteArray) (h : 4 ≤ s.size) : wholeB s = ((s.extract (s.size - 4) s.size).toList == tail4 (sumN (bs (s.extract 0 (s.size - 4))))) := by
  rw [show tail4 (sumN (bs (s.extract 0 (s.size - 4)))) = (⟨(tail4 (sumN (bs (s.extract 0 (s.size - 4))))).toArray⟩ : ByteArray).toList from by rw [ByteArray.toList_eq]]
  rw [whole_long s h]
  have e : s.toList = (s.extract 0 (s.size - 4)).toList ++ (s.extract (s.size - 4) s.size).toList := by
    rw [ByteArray.toList_eq, ByteArray.toList_eq, ByteArray.toList_eq, ByteArray.data_extract, ByteArray.data_extract]
    have h2 : s.data.size = s.size := rfl
    simp only [Array.toList_extract, List.extract_eq_take_drop, List.drop_zero, Nat.sub_zero]
    rw [show s.size - (s.size - 4) = 4 by omega]
    have h4 : (List.drop (s.size - 4) s.data.toList).take 4 = List.drop (s.size - 4) s.data.toList := List.take_of_length_le (by rw [List.length_drop, Array.length_toList]; omega)
    rw [h4, List.take_append_drop]
  have e2 : (sealS (s.extract 0 (s.size - 4))).toList = (s.extract 0 (s.size - 4)).toList ++ (⟨(tail4 (sumN (bs (s.extract 0 (s.size - 4))))).toArray⟩ : ByteArray).toList := by
    rw [ByteArray.toList_eq, ByteArray.toList_eq, ByteArray.toList_eq]
    rfl
  rw [e, e2]
  generalize (s.extract 0 (s.size - 4)).toList = x
  generalize (s.extract (s.size - 4) s.size).toList = y
  generalize (⟨(tail4 (sumN (bs (s.extract 0 (s.size - 4))))).toArray⟩ : ByteArray).toList = z
  rw [Bool.eq_iff_iff, beq_iff_eq, beq_iff_eq, List.append_cancel_left_eq]
  exact eq_comm

end Go.Proofs.YtjmoecfgpfdncaaGreatDoor

/- Both package tables of layer 5's laws. -/
namespace Go.Proofs.YtjmoecfgpfdncaaGreatDoor
set_option maxRecDepth 100000
open Go.RowKit

/-- both tables -/
def Tabs (w : World) : Prop := HamTab w ∧ CrcTab w
theorem Tabs.after {w w' : World} (h : Tabs w) (hb : Below w.heap.size w w') : Tabs w' :=
  ⟨h.1.below hb (cell_lt (h.1 0 (by decide))), h.2.below hb (cell_lt (h.2 0 (by decide)))⟩

end Go.Proofs.YtjmoecfgpfdncaaGreatDoor

/- Contracts of package bits, as far as later layers lean on them: Put of a number that fits, Get. -/
namespace Go.Proofs.YtjmoecfgpfdncaaGreatDoor
open Go.RowKit

theorem conv8 (c0 c1 c2 c3 c4 c5 c6 c7 : Int) (W : World) (n : Nat) (hn : n ≤ 8) :
    Sem.run Tryz.prog (convert 87 9 (.slice (some ⟨W.heap.size, 0, none⟩) n 8)) (W.alloc (.cells #[.int .u8 c0, .int .u8 c1, .int .u8 c2, .int .u8 c3, .int .u8 c4, .int .u8 c5, .int .u8 c6, .int .u8 c7] 148))
      = .ok (.string (strOfNums ([c0, c1, c2, c3, c4, c5, c6, c7].take n))) (W.alloc (.cells #[.int .u8 c0, .int .u8 c1, .int .u8 c2, .int .u8 c3, .int .u8 c4, .int .u8 c5, .int .u8 c6, .int .u8 c7] 148)) := by
  refine run_convert_bytes_arg (P := Tryz.prog) _ 87 5 Tryz.underlying87 Tryz.underlying5 W.heap.size 0 n 8 ([c0, c1, c2, c3, c4, c5, c6, c7].take n) (by simp; omega) ?_ 9 Tryz.underlying9
  intro i hi
  rw [Nat.zero_add, World.cell?_alloc_new]
  have h8 : i < 8 := by omega
  rcases i with _ | _ | _ | _ | _ | _ | _ | _ | i
  all_goals first | omega | simp [List.getD, hi]

theorem str_1 (v : Int) (v0 : 0 ≤ v) (v1 : v < 256) : strOfNums [v] = leS v 1 := by
  have l : v % 256 = v := by omega
  unfold strOfNums leS
  simp only [le, List.map, l]

theorem str_2 (v : Int) (v0 : 0 ≤ v) (v1 : v < 65536) : strOfNums [v % 256, v / 256] = leS v 2 := by
  have l : v / 256 % 256 = v / 256 := by omega
  unfold strOfNums leS
  simp only [le, List.map, l]

theorem str_3 (v : Int) (v0 : 0 ≤ v) (v1 : v < 16777216) : strOfNums [v % 256, v / 256 % 256, v / 65536] = leS v 3 := by
  have e2 : v / 256 / 256 = v / 65536 := by omega
  have l : v / 65536 % 256 = v / 65536 := by omega
  unfold strOfNums leS
  simp only [le, List.map, e2, l]

theorem str_4 (v : Int) (v0 : 0 ≤ v) (v1 : v < 4294967296) : strOfNums [v % 256, v / 256 % 256, v / 65536 % 256, v / 16777216] = leS v 4 := by
  have e2 : v / 256 / 256 = v / 65536 := by omega
  have e3 : v / 65536 / 256 = v / 16777216 := by omega
  have l : v / 16777216 % 256 = v / 16777216 := by omega
  unfold strOfNums leS
  simp only [le, List.map, e2, e3, l]

theorem str_5 (v : Int) (v0 : 0 ≤ v) (v1 : v < 1099511627776) : strOfNums [v % 256, v / 256 % 256, v / 65536 % 256, v / 16777216 % 256, v / 4294967296] = leS v 5 := by
  have e2 : v / 256 / 256 = v / 65536 := by omega
  have e3 : v / 65536 / 256 = v / 16777216 := by omega
  have e4 : v / 16777216 / 256 = v / 4294967296 := by omega
  have l : v / 4294967296 % 256 = v / 4294967296 := by omega
  unfold strOfNums leS
  simp only [le, List.map, e2, e3, e4, l]

theorem str_6 (v : Int) (v0 : 0 ≤ v) (v1 : v < 281474976710656) : strOfNums [v % 256, v / 256 % 256, v / 65536 % 256, v / 16777216 % 256, v / 4294967296 % 256, v / 1099511627776] = leS v 6 := by
  have e2 : v / 256 / 256 = v / 65536 := by omega
  have e3 : v / 65536 / 256 = v / 16777216 := by omega
  have e4 : v / 16777216 / 256 = v / 4294967296 := by omega
  have e5 : v / 4294967296 / 256 = v / 1099511627776 := by omega
  have l : v / 1099511627776 % 256 = v / 1099511627776 := by omega
  unfold strOfNums leS
  simp only [le, List.map, e2, e3, e4, e5, l]

theorem str_7 (v : Int) (v0 : 0 ≤ v) (v1 : v < 72057594037927936) : strOfNums [v % 256, v / 256 % 256, v / 65536 % 256, v / 16777216 % 256, v / 4294967296 % 256, v / 1099511627776 % 256, v / 281474976710656] = leS v 7 := by
  have e2 : v / 256 / 256 = v / 65536 := by omega
  have e3 : v / 65536 / 256 = v / 16777216 := by omega
  have e4 : v / 16777216 / 256 = v / 4294967296 := by omega
  have e5 : v / 4294967296 / 256 = v / 1099511627776 := by omega
  have e6 : v / 1099511627776 / 256 = v / 281474976710656 := by omega
  have l : v / 281474976710656 % 256 = v / 281474976710656 := by omega
  unfold strOfNums leS
  simp only [le, List.map, e2, e3, e4, e5, e6, l]

theorem str_8 (v : Int) (v0 : 0 ≤ v) (v1 : v < 18446744073709551616) : strOfNums [v % 256, v / 256 % 256, v / 65536 % 256, v / 16777216 % 256, v / 4294967296 % 256, v / 1099511627776 % 256, v / 281474976710656 % 256, v / 72057594037927936] = leS v 8 := by
  have e2 : v / 256 / 256 = v / 65536 := by omega
  have e3 : v / 65536 / 256 = v / 16777216 := by omega
  have e4 : v / 16777216 / 256 = v / 4294967296 := by omega
  have e5 : v / 4294967296 / 256 = v / 1099511627776 := by omega
  have e6 : v / 1099511627776 / 256 = v / 281474976710656 := by omega
  have e7 : v / 281474976710656 / 256 = v / 72057594037927936 := by omega
  have l : v / 72057594037927936 % 256 = v / 72057594037927936 := by omega
  unfold strOfNums leS
  simp only [le, List.map, e2, e3, e4, e5, e6, e7, l]

set_option maxRecDepth 100000 in
theorem put_1 (v : Int) (w : World) (v0 : 0 ≤ v) (v1 : v < 256) :
    Calls Tryz.prog 99 #[.int .u64 v, .int .i64 1] w fun e w' => e = .returned (.tuple #[.string (leS v 1), .int .i64 0]) ∧ Below w.heap.size w w' := by
  have hc := fun (c0 c1 c2 c3 c4 c5 c6 c7 : Int) => conv8 c0 c1 c2 c3 c4 c5 c6 c7 w 1 (by decide)
  go_enter Tryz.func99, Tryz.ntmps99
  go_wp2
  go_rounds 2
  go_ret2
  exact ⟨ret_str (str_1 v v0 v1), (Below.refl _ _).alloc (Nat.le_refl _) _⟩

set_option maxRecDepth 100000 in
theorem put_2 (v : Int) (w : World) (v0 : 0 ≤ v) (v1 : v < 65536) :
    Calls Tryz.prog 99 #[.int .u64 v, .int .i64 2] w fun e w' => e = .returned (.tuple #[.string (leS v 2), .int .i64 0]) ∧ Below w.heap.size w w' := by
  have hc := fun (c0 c1 c2 c3 c4 c5 c6 c7 : Int) => conv8 c0 c1 c2 c3 c4 c5 c6 c7 w 2 (by decide)
  go_enter Tryz.func99, Tryz.ntmps99
  go_wp2
  go_rounds 3
  go_ret2
  exact ⟨ret_str (str_2 v v0 v1), (Below.refl _ _).alloc (Nat.le_refl _) _⟩

set_option maxRecDepth 100000 in
theorem put_3 (v : Int) (w : World) (v0 : 0 ≤ v) (v1 : v < 16777216) :
    Calls Tryz.prog 99 #[.int .u64 v, .int .i64 3] w fun e w' => e = .returned (.tuple #[.string (leS v 3), .int .i64 0]) ∧ Below w.heap.size w w' := by
  have hc := fun (c0 c1 c2 c3 c4 c5 c6 c7 : Int) => conv8 c0 c1 c2 c3 c4 c5 c6 c7 w 3 (by decide)
  go_enter Tryz.func99, Tryz.ntmps99
  go_wp2
  go_rounds 4
  go_ret2
  exact ⟨ret_str (str_3 v v0 v1), (Below.refl _ _).alloc (Nat.le_refl _) _⟩

set_option maxRecDepth 100000 in
theorem put_4 (v : Int) (w : World) (v0 : 0 ≤ v) (v1 : v < 4294967296) :
    Calls Tryz.prog 99 #[.int .u64 v, .int .i64 4] w fun e w' => e = .returned (.tuple #[.string (leS v 4), .int .i64 0]) ∧ Below w.heap.size w w' := by
  have hc := fun (c0 c1 c2 c3 c4 c5 c6 c7 : Int) => conv8 c0 c1 c2 c3 c4 c5 c6 c7 w 4 (by decide)
  go_enter Tryz.func99, Tryz.ntmps99
  go_wp2
  go_rounds 5
  go_ret2
  exact ⟨ret_str (str_4 v v0 v1), (Below.refl _ _).alloc (Nat.le_refl _) _⟩

set_option maxRecDepth 100000 in
theorem put_5 (v : Int) (w : World) (v0 : 0 ≤ v) (v1 : v < 1099511627776) :
    Calls Tryz.prog 99 #[.int .u64 v, .int .i64 5] w fun e w' => e = .returned (.tuple #[.string (leS v 5), .int .i64 0]) ∧ Below w.heap.size w w' := by
  have hc := fun (c0 c1 c2 c3 c4 c5 c6 c7 : Int) => conv8 c0 c1 c2 c3 c4 c5 c6 c7 w 5 (by decide)
  go_enter Tryz.func99, Tryz.ntmps99
  go_wp2
  go_rounds 6
  go_ret2
  exact ⟨ret_str (str_5 v v0 v1), (Below.refl _ _).alloc (Nat.le_refl _) _⟩

set_option maxRecDepth 100000 in
theorem put_6 (v : Int) (w : World) (v0 : 0 ≤ v) (v1 : v < 281474976710656) :
    Calls Tryz.prog 99 #[.int .u64 v, .int .i64 6] w fun e w' => e = .returned (.tuple #[.string (leS v 6), .int .i64 0]) ∧ Below w.heap.size w w' := by
  have hc := fun (c0 c1 c2 c3 c4 c5 c6 c7 : Int) => conv8 c0 c1 c2 c3 c4 c5 c6 c7 w 6 (by decide)
  go_enter Tryz.func99, Tryz.ntmps99
  go_wp2
  go_rounds 7
  go_ret2
  exact ⟨ret_str (str_6 v v0 v1), (Below.refl _ _).alloc (Nat.le_refl _) _⟩

set_option maxRecDepth 100000 in
theorem put_7 (v : Int) (w : World) (v0 : 0 ≤ v) (v1 : v < 72057594037927936) :
    Calls Tryz.prog 99 #[.int .u64 v, .int .i64 7] w fun e w' => e = .returned (.tuple #[.string (leS v 7), .int .i64 0]) ∧ Below w.heap.size w w' := by
  have hc := fun (c0 c1 c2 c3 c4 c5 c6 c7 : Int) => conv8 c0 c1 c2 c3 c4 c5 c6 c7 w 7 (by decide)
  go_enter Tryz.func99, Tryz.ntmps99
  go_wp2
  go_rounds 8
  go_ret2
  exact ⟨ret_str (str_7 v v0 v1), (Below.refl _ _).alloc (Nat.le_refl _) _⟩

set_option maxRecDepth 100000 in
theorem put_8 (v : Int) (w : World) (v0 : 0 ≤ v) (v1 : v < 18446744073709551616) :
    Calls Tryz.prog 99 #[.int .u64 v, .int .i64 8] w fun e w' => e = .returned (.tuple #[.string (leS v 8), .int .i64 0]) ∧ Below w.heap.size w w' := by
  have hc := fun (c0 c1 c2 c3 c4 c5 c6 c7 : Int) => conv8 c0 c1 c2 c3 c4 c5 c6 c7 w 8 (by decide)
  go_enter Tryz.func99, Tryz.ntmps99
  go_wp2
  go_rounds 9
  go_ret2
  exact ⟨ret_str (str_8 v v0 v1), (Below.refl _ _).alloc (Nat.le_refl _) _⟩

theorem or_addr (x y : Int) (a : Nat) (ha : a ≤ 64) (hy : y % p2 a = 0) (hy0 : 0 ≤ y) (hy1 : y < p2 64) (hx0 : 0 ≤ x) (hx1 : x < p2 a) : bits .or .u64 x y = x + y := by
  have hle := p2_le ha
  have h := or_add y x a ha hy hy0 hy1 hx0 hx1
  have h64 := p2_64
  obtain ⟨x, rfl⟩ := Int.eq_ofNat_of_zero_le hx0
  obtain ⟨y, rfl⟩ := Int.eq_ofNat_of_zero_le hy0
  rw [bits_or_u64_nat y x (by omega) (by omega)] at h
  rw [bits_or_u64_nat x y (by omega) (by omega), Nat.or_comm, h]; omega
theorem get_step (s : ByteArray) (k : Nat) (h : k < s.size) (hs : k < 8) :
    bits .or .u64 (numTo s k) (IntKind.u64.wrap (IntKind.u64.wrap (s[k].toNat : Int) * p2 (8 * k))) = numTo s (k + 1) := by
  have hb := numTo_bd s k (by omega)
  have hr := byte_room s[k] k hs
  rw [wrap_byte, wrap_lo, lo_all _ 64 hr.2 hr.1, or_addr _ _ (8 * k) (by omega) (Int.mul_emod_left _ _) hr.2 hr.1 hb.1 hb.2, numTo_succ s k h]

theorem put_fit (v : Int) (n : Nat) (w : World) (h1 : 1 ≤ n) (h2 : n ≤ 8) (v0 : 0 ≤ v) (hv : v < p2 (8 * n)) :
    Calls Tryz.prog 99 #[.int .u64 v, .int .i64 n] w fun e w' => e = .returned (.tuple #[.string (leS v n), .int .i64 0]) ∧ Below w.heap.size w w' := by
  obtain rfl | rfl | rfl | rfl | rfl | rfl | rfl | rfl : n = 1 ∨ n = 2 ∨ n = 3 ∨ n = 4 ∨ n = 5 ∨ n = 6 ∨ n = 7 ∨ n = 8 := by omega
  · exact put_1 v w v0 (by rw [show p2 (8 * 1) = 256 by decide] at hv; exact hv)
  · exact put_2 v w v0 (by rw [show p2 (8 * 2) = 65536 by decide] at hv; exact hv)
  · exact put_3 v w v0 (by rw [show p2 (8 * 3) = 16777216 by decide] at hv; exact hv)
  · exact put_4 v w v0 (by rw [show p2 (8 * 4) = 4294967296 by decide] at hv; exact hv)
  · exact put_5 v w v0 (by rw [show p2 (8 * 5) = 1099511627776 by decide] at hv; exact hv)
  · exact put_6 v w v0 (by rw [show p2 (8 * 6) = 281474976710656 by decide] at hv; exact hv)
  · exact put_7 v w v0 (by rw [show p2 (8 * 7) = 72057594037927936 by decide] at hv; exact hv)
  · exact put_8 v w v0 (by rw [show p2 (8 * 8) = 18446744073709551616 by decide] at hv; exact hv)

end Go.Proofs.YtjmoecfgpfdncaaGreatDoor

/- Package tag, walked: May, get, put; what put leaves in the block that it fills. -/
namespace Go.Proofs.YtjmoecfgpfdncaaGreatDoor
open Go.RowKit

/-- bytes as cells -/
def tca (l : List UInt8) : Array Value := (Lib.byteCells l).toArray
theorem tca_size (l : List UInt8) : (tca l).size = l.length := by simp [tca, Lib.byteCells]
/-- bytes laid over others, from a place on -/
def layL (l : List UInt8) (o : Nat) (m : List UInt8) : List UInt8 := l.take o ++ m ++ l.drop (o + m.length)
theorem tca_lay (l : List UInt8) (o : Nat) (m : List UInt8) : ((tca l).toList.take o ++ Lib.byteCells m ++ (tca l).toList.drop (o + m.length)).toArray = tca (layL l o m) := by
  simp [tca, layL, Lib.byteCells, List.map_append, List.map_take, List.map_drop]
theorem layL_length (l : List UInt8) (o : Nat) (m : List UInt8) (h : o + m.length ≤ l.length) : (layL l o m).length = l.length := by
  simp [layL]; omega

/-- copy of a text over a piece of a block of bytes -/
theorem copy_lay (g o n cap : Nat) (l : List UInt8) (t : TypeId) (w : World) (s : ByteArray) (ty : TypeId) (h : Blk w g (tca l) t) (hs : s.size ≤ n) (hf : o + s.size ≤ l.length) :
    Sem.run Tryz.prog (Builtin.copy_ #[87, 9] ty #[.slice (some ⟨g, o, none⟩) n cap, .string s]) w = .ok (goInt s.size) (w.setRow g (tca (layL l o (bs s)))) := by
  obtain ⟨i0, hi, hz0, hz1, hz2⟩ := info_parts Tryz.infoU8
  have e := Lib.run_copy_row_string (P := Tryz.prog) w 87 9 ty 5 g o n cap s (tca l) t Tryz.underlying87 (by rw [hi]; simp [hz1]) h hs (by rw [tca_size]; exact hf)
  have hl := tca_lay l o (bs s)
  rw [bs_length] at hl
  rw [e]
  unfold bs at hl ⊢
  rw [hl]

theorem tag_kind (k : Int) (w : World) : Calls Tryz.prog 97 #[.int .i64 k] w fun r w' => r = .returned (.bool (decide (1 ≤ k ∧ k ≤ 4))) ∧ w = w' := by
  go_enter Tryz.func97, Tryz.ntmps97
  go_wp2
  all_goals go_ret
  all_goals exact ⟨ret_bool (by rw [Bool.eq_iff_iff]; simp only [beq_iff_eq, beq_eq_false_iff_ne, ne_eq, decide_eq_true_eq, true_iff, false_iff, Bool.false_eq_true] at *; omega), rfl⟩
theorem tag_upto (v m : Int) (w : World) : Calls Tryz.prog 98 #[.int .i64 v, .int .i64 m] w fun r w' => r = .returned (.bool (decide (0 ≤ v ∧ v ≤ m))) ∧ w = w' := by
  go_enter Tryz.func98, Tryz.ntmps98
  go_wp2
  all_goals go_ret
  all_goals exact ⟨ret_bool (by rw [Bool.eq_iff_iff]; simp; try omega), rfl⟩

/-- what put leaves: the block filled anew, nothing else -/
def PutT (g : Nat) (cs : Array Value) (w : World) (r : Ending) (w' : World) : Prop := r = .returned (.tuple #[]) ∧ ∃ w1, Below w.heap.size w w1 ∧ w' = w1.setRow g cs
theorem tag_put (g o n cap : Nat) (v : Int) (l : List UInt8) (t : TypeId) (w : World) (h : Blk w g (tca l) t) (h1 : 1 ≤ n) (h2 : n ≤ 8) (v0 : 0 ≤ v) (v1 : v ≤ 9223372036854775807) (v2 : v < p2 (8 * n)) (hf : o + n ≤ l.length) :
    Calls Tryz.prog 86 #[.slice (some ⟨g, o, none⟩) n cap, .int .i64 v] w (PutT g (tca (layL l o (bs (leS v n)))) w) := by
  have hw : IntKind.u64.wrap v = v := by rw [IntKind.wrap_u64]; omega
  have HV := Lib.hid v2
  have HB := Lib.hid h
  clear v2 h
  go_enter Tryz.func86, Tryz.ntmps86
  go_wp2_with fail
  refine (put_fit v n _ h1 h2 v0 HV.out).mono ?_
  rintro r w1 ⟨rfl, hb1⟩
  have hz := leS_size v n
  have hcp := fun ty => copy_lay g o n cap l t w1 (leS v n) ty (HB.out.after hb1) (by omega) (by omega)
  have HB1 := Lib.hid hb1
  clear hb1 HB
  obtain ⟨S, hS⟩ : ∃ S, leS v n = S := ⟨_, rfl⟩
  rw [hS] at hcp hz ⊢
  have HS := Lib.hid hS
  clear hS
  go_wp2_with fail
  go_end0
  exact ⟨rfl, _, HB1.out, by rw [HS.out]⟩

theorem may_split (k l q e : Int) : mayB k l q e = (decide (1 ≤ k ∧ k ≤ 4) && decide (0 ≤ l ∧ l ≤ 4096) && decide (0 ≤ q ∧ q ≤ 281474976710655) && decide (0 ≤ e ∧ e ≤ 4294967295)) := by
  rw [Bool.eq_iff_iff, mayB_iff]
  unfold MayT
  simp [and_assoc]

set_option maxRecDepth 100000 in
theorem tag_may (k l q e : Int) (w : World) : Calls Tryz.prog 85 #[.agg (ta k l q e)] w (MayPost k l q e w) := by
  unfold MayPost
  rw [may_split]
  obtain ⟨b1, e1⟩ : ∃ b, decide (1 ≤ k ∧ k ≤ 4) = b := ⟨_, rfl⟩
  obtain ⟨b2, e2⟩ : ∃ b, decide (0 ≤ l ∧ l ≤ 4096) = b := ⟨_, rfl⟩
  obtain ⟨b3, e3⟩ : ∃ b, decide (0 ≤ q ∧ q ≤ 281474976710655) = b := ⟨_, rfl⟩
  obtain ⟨b4, e4⟩ : ∃ b, decide (0 ≤ e ∧ e ≤ 4294967295) = b := ⟨_, rfl⟩
  rw [e1, e2, e3, e4]
  have H1 := Lib.hid e1; have H2 := Lib.hid e2; have H3 := Lib.hid e3; have H4 := Lib.hid e4
  clear e1 e2 e3 e4
  unfold ta
  go_enter Tryz.func85, Tryz.ntmps85
  go_wp2_with fail
  refine (tag_kind k _).mono ?_
  rintro r w1 ⟨rfl, rfl⟩
  rw [H1.out]
  cases b1
  · go_wp2_with fail
    go_ret
    exact ⟨rfl, (Below.refl _ _).alloc (Nat.le_refl _) _⟩
  go_wp2_with fail
  refine (tag_upto l 4096 _).mono ?_
  rintro r w1 ⟨rfl, rfl⟩
  rw [H2.out]
  cases b2
  · go_wp2_with fail
    go_ret
    exact ⟨rfl, (Below.refl _ _).alloc (Nat.le_refl _) _⟩
  go_wp2_with fail
  refine (tag_upto q 281474976710655 _).mono ?_
  rintro r w1 ⟨rfl, rfl⟩
  rw [H3.out]
  cases b3
  · go_wp2_with fail
    go_ret
    exact ⟨rfl, (Below.refl _ _).alloc (Nat.le_refl _) _⟩
  go_wp2_with fail
  refine (tag_upto e 4294967295 _).mono ?_
  rintro r w1 ⟨rfl, rfl⟩
  rw [H4.out]
  go_wp2_with fail
  go_ret
  exact ⟨by cases b4 <;> rfl, (Below.refl _ _).alloc (Nat.le_refl _) _⟩

end Go.Proofs.YtjmoecfgpfdncaaGreatDoor

/- Package tag, walked: Encode. -/
namespace Go.Proofs.YtjmoecfgpfdncaaGreatDoor
set_option maxRecDepth 100000
open Go.RowKit

theorem size_a16 : (Tryz.prog.info? 131).map (·.size) = some 16 := by kernel_rfl
/-- the array's block, whole, and the tag's copy -/
def EncW (k l q e : Int) (g : Nat) (L : List UInt8) (w0 w : World) : Prop := Blk w g (tca L) 131 ∧ KT k l q e w0 w ∧ w0.heap.size < g
theorem EncW.drew {k l q e : Int} {g : Nat} {L : List UInt8} {w0 w : World} (h : EncW k l q e g L w0 w) : EncW k l q e g L w0 w.drew := ⟨h.1.drew, h.2.1.drew, h.2.2⟩
theorem KT.put {k l q e : Int} {w0 w : World} (h : KT k l q e w0 w) {g : Nat} (hg : w0.heap.size < g) (cs : Array Value) : KT k l q e w0 (w.setRow g cs) := by
  have hc : ∀ i, (w.setRow g cs).cell? ⟨w0.heap.size, i, none⟩ = w.cell? ⟨w0.heap.size, i, none⟩ := by
    intro i
    simp only [World.cell?, World.setRow, Array.getElem?_modify]
    rw [if_neg (by omega)]
  exact ⟨(hc 0).trans h.1, (hc 1).trans h.2.1, (hc 2).trans h.2.2.1, (hc 3).trans h.2.2.2.1, below_put (by omega) _ h.2.2.2.2⟩
theorem EncW.put {k l q e : Int} {g : Nat} {L L' : List UInt8} {w0 w w1 : World} (h : EncW k l q e g L w0 w) (hb : Below w.heap.size w w1) : EncW k l q e g L' w0 (w1.setRow g (tca L')) :=
  ⟨(h.1.after hb).put _, (h.2.1.call hb).put h.2.2 _, h.2.2⟩

/-- a block of bytes, as a text -/
theorem conv_tca {w : World} {g : Nat} {L : List UInt8} {t : TypeId} (h : Blk w g (tca L) t) (n cap : Nat) (hn : L.length = n) :
    Sem.run Tryz.prog (convert 87 9 (.slice (some ⟨g, 0, none⟩) n cap)) w = .ok (.string ⟨L.toArray⟩) w := by
  have hr := run_convert_bytes_arg (P := Tryz.prog) w 87 5 Tryz.underlying87 Tryz.underlying5 g 0 n cap (L.map fun c => (c.toNat : Int)) (by simp; omega) (by
    intro i hi
    have h3 : i < L.length := by omega
    rw [Nat.zero_add, h.cell i]
    simp [List.getD, h3, tca, Lib.byteCells]) 9 Tryz.underlying9
  rw [hr]
  congr 2
  apply strOfNums_eq
  rw [List.map_map]
  have e : ((fun n : Int => UInt8.ofNat n.toNat) ∘ fun b : UInt8 => (b.toNat : Int)) = id := by funext b; simp
  rw [e, List.map_id]

def encL0 : List UInt8 := [27, 0, 0, 0, 0, 0, 0, 0, 0, 0, 0, 0, 0, 0, 0, 0]
theorem enc_start (w : World) : Blk ((w.alloc (.cells #[.int .u8 0, .int .u8 0, .int .u8 0, .int .u8 0, .int .u8 0, .int .u8 0, .int .u8 0, .int .u8 0, .int .u8 0, .int .u8 0, .int .u8 0, .int .u8 0, .int .u8 0, .int .u8 0, .int .u8 0, .int .u8 0] 131)).setCell ⟨w.heap.size, 0, none⟩ (.int .u8 27)) w.heap.size (tca encL0) 131 :=
  (Blk.new w _ _).set 0 _ rfl
theorem enc_end (k l q e : Int) (h : MayT k l q e) : (⟨(layL (layL (layL (layL (layL encL0 1 (bs (leS k 1))) 2 (bs (leS l 2))) 4 (bs (leS q 6))) 10 (bs (leS e 4))) 14 (bs ⟨#[0, 0]⟩)).toArray⟩ : ByteArray) = tagS k l q e := by
  have e1 : bs (leS k 1) = [UInt8.ofNat k.toNat] := by
    obtain ⟨h1, h2, _⟩ := h
    have : k % 256 = k := by omega
    show [UInt8.ofNat (k % 256).toNat] = _
    rw [this]
  rw [e1]
  rfl

set_option maxRecDepth 100000 in
theorem tag_enc_yes (k l q e : Int) (w : World) (hm : MayT k l q e) : Calls Tryz.prog 68 #[.agg (ta k l q e)] w fun r w' => r = .returned (.tuple #[.string (tagS k l q e), .int .i64 0]) ∧ Below w.heap.size w w' := by
  have HB : Hid (mayB k l q e = true) := (mayB_iff k l q e).2 hm
  have HE := Lib.hid (enc_end k l q e hm)
  obtain ⟨h1, h2, h3, h4, h5, h6, h7, h8⟩ := hm
  have b1 : k < p2 (8 * 1) := by rw [show p2 (8 * 1) = 256 by decide]; omega
  have b2 : l < p2 (8 * 2) := by rw [show p2 (8 * 2) = 65536 by decide]; omega
  have b6 : q < p2 (8 * 6) := by rw [show p2 (8 * 6) = 281474976710656 by decide]; omega
  have b4 : e < p2 (8 * 4) := by rw [show p2 (8 * 4) = 4294967296 by decide]; omega
  have HN := Lib.hid (And.intro b1 (And.intro b2 (And.intro b6 b4)))
  clear b1 b2 b6 b4
  have hK := KT.first k l q e w 86
  go_enter Tryz.func68, Tryz.ntmps68
  go_wp2_with (refine wpList_load_row rfl 86 (.tmp 1) rfl w.heap.size rfl 86 (ta k l q e) (0, 0) _ (Blk.new w (ta k l q e) 86) Tryz.underlying86 rfl size_tag ?_)
  refine (tag_may k l q e _).mono ?_
  rintro r w1 ⟨rfl, hb1⟩
  have hK1 := hK.call hb1
  rw [HB.out]
  clear hK
  go_wp2_with fail
  have hE : EncW k l q e w1.heap.size encL0 w (w1.alloc (.cells (tca encL0) 131)) := ⟨Blk.new _ _ _, hK1.alloc _, cell_lt hK1.1⟩
  change Code.wp _ _ _ _ (w1.alloc (.cells (tca encL0) 131))
  generalize (w1.alloc (.cells (tca encL0) 131)) = w2 at hE ⊢
  generalize w1.heap.size = g at hE ⊢
  clear hb1 hK1
  obtain ⟨c0, c1, c2, c3, _⟩ := hE.2.1
  have HE0 := Lib.hid hE
  clear hE
  go_still_tail 3, (by kernel_rfl)
  change wpList _ _ _ _ _ w2.drew
  clear c0 c1 c2 c3
  go_wp2_with fail
  refine (tag_put g 1 1 15 k encL0 131 _ HE0.out.1.drew (by decide) (by decide) (by omega) (by omega) HN.out.1 (Nat.le_of_ble_eq_true rfl)).mono ?_
  rintro r w2d ⟨rfl, w2e, hb, rfl⟩
  have hE := EncW.put (L' := layL encL0 1 (bs (leS k 1))) HE0.out.drew hb
  generalize w2e.setRow g _ = w3 at hE ⊢
  clear hb HE0
  go_wp2_with fail
  obtain ⟨c0, c1, c2, c3, _⟩ := hE.2.1
  have HE1 := Lib.hid hE
  clear hE
  go_still_tail 3, (by kernel_rfl)
  change wpList _ _ _ _ _ w3.drew
  clear c0 c1 c2 c3
  go_wp2_with fail
  refine (tag_put g 2 2 14 l (layL encL0 1 (bs (leS k 1))) 131 _ HE1.out.1.drew (by decide) (by decide) (by omega) (by omega) HN.out.2.1 (Nat.le_of_ble_eq_true rfl)).mono ?_
  rintro r w3d ⟨rfl, w3e, hb, rfl⟩
  have hE := EncW.put (L' := layL (layL encL0 1 (bs (leS k 1))) 2 (bs (leS l 2))) HE1.out.drew hb
  generalize w3e.setRow g _ = w4 at hE ⊢
  clear hb HE1
  go_wp2_with fail
  obtain ⟨c0, c1, c2, c3, _⟩ := hE.2.1
  have HE2 := Lib.hid hE
  clear hE
  go_still_tail 3, (by kernel_rfl)
  change wpList _ _ _ _ _ w4.drew
  clear c0 c1 c2 c3
  go_wp2_with fail
  refine (tag_put g 4 6 12 q (layL (layL encL0 1 (bs (leS k 1))) 2 (bs (leS l 2))) 131 _ HE2.out.1.drew (by decide) (by decide) (by omega) (by omega) HN.out.2.2.1 (Nat.le_of_ble_eq_true rfl)).mono ?_
  rintro r w4d ⟨rfl, w4e, hb, rfl⟩
  have hE := EncW.put (L' := layL (layL (layL encL0 1 (bs (leS k 1))) 2 (bs (leS l 2))) 4 (bs (leS q 6))) HE2.out.drew hb
  generalize w4e.setRow g _ = w5 at hE ⊢
  clear hb HE2
  go_wp2_with fail
  obtain ⟨c0, c1, c2, c3, _⟩ := hE.2.1
  have HE3 := Lib.hid hE
  clear hE
  go_still_tail 3, (by kernel_rfl)
  change wpList _ _ _ _ _ w5.drew
  clear c0 c1 c2 c3
  go_wp2_with fail
  refine (tag_put g 10 4 6 e (layL (layL (layL encL0 1 (bs (leS k 1))) 2 (bs (leS l 2))) 4 (bs (leS q 6))) 131 _ HE3.out.1.drew (by decide) (by decide) (by omega) (by omega) HN.out.2.2.2 (Nat.le_of_ble_eq_true rfl)).mono ?_
  rintro r w5d ⟨rfl, w5e, hb, rfl⟩
  have hE := EncW.put (L' := layL (layL (layL (layL encL0 1 (bs (leS k 1))) 2 (bs (leS l 2))) 4 (bs (leS q 6))) 10 (bs (leS e 4))) HE3.out.drew hb
  generalize w5e.setRow g _ = w6 at hE ⊢
  clear hb HE3
  have hcp := fun ty => copy_lay g 14 2 2 (layL (layL (layL (layL encL0 1 (bs (leS k 1))) 2 (bs (leS l 2))) 4 (bs (leS q 6))) 10 (bs (leS e 4))) 131 w6 ⟨#[0, 0]⟩ ty hE.1 (by decide) (Nat.le_of_ble_eq_true rfl)
  have hcv := conv_tca (hE.1.put (tca (layL (layL (layL (layL (layL encL0 1 (bs (leS k 1))) 2 (bs (leS l 2))) 4 (bs (leS q 6))) 10 (bs (leS e 4))) 14 (bs ⟨#[0, 0]⟩)))) 16 16 rfl
  have HF := Lib.hid (below_put (Nat.le_of_lt hE.2.2) (tca (layL (layL (layL (layL (layL encL0 1 (bs (leS k 1))) 2 (bs (leS l 2))) 4 (bs (leS q 6))) 10 (bs (leS e 4))) 14 (bs ⟨#[0, 0]⟩))) hE.2.1.2.2.2.2)
  rw [HE.out] at hcv
  clear hE HN HE HB
  go_wp2_with fail
  go_ret2
  exact ⟨rfl, HF.out⟩

set_option maxRecDepth 100000 in
theorem tag_enc_no (k l q e : Int) (w : World) (hm : ¬ MayT k l q e) : Calls Tryz.prog 68 #[.agg (ta k l q e)] w fun r w' => r = .returned (.tuple #[.string ByteArray.empty, .int .i64 1]) ∧ Below w.heap.size w w' := by
  have HB : Hid (mayB k l q e = false) := by rw [← Bool.not_eq_true, mayB_iff]; exact hm
  clear hm
  have hK := KT.first k l q e w 86
  go_enter Tryz.func68, Tryz.ntmps68
  go_wp2_with (refine wpList_load_row rfl 86 (.tmp 1) rfl w.heap.size rfl 86 (ta k l q e) (0, 0) _ (Blk.new w (ta k l q e) 86) Tryz.underlying86 rfl size_tag ?_)
  refine (tag_may k l q e _).mono ?_
  rintro r w1 ⟨rfl, hb1⟩
  have HK1 := Lib.hid (hK.call hb1)
  rw [HB.out]
  clear hK hb1
  go_wp2_with fail
  go_ret2
  exact ⟨rfl, HK1.out.2.2.2.2⟩

theorem tag_enc (k l q e : Int) (w : World) : Calls Tryz.prog 68 #[.agg (ta k l q e)] w (EncT k l q e w) := by
  unfold EncT encT encE
  by_cases h : MayT k l q e
  · rw [if_pos h, if_pos h]; exact tag_enc_yes k l q e w h
  · rw [if_neg h, if_neg h]; exact tag_enc_no k l q e w h

end Go.Proofs.YtjmoecfgpfdncaaGreatDoor
