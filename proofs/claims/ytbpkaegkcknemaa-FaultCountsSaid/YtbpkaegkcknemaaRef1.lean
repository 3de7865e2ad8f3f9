/- The reference of layer 1, as far as later layers lean on it: Power, Bit, Flip; and a text with a bit turned. -/
import Derived.Test.YtbpkaegkcknemaaKit
import Derived.Test.YtbpkaegkcknemaaBitsM
import Derived.Lib.ConvBytes
namespace Go.Proofs.Ytbpkaegkcknemaa
open Go.RowKit

theorem power_any (k : Nat) (w : World) (hk : k ≤ 63) :
    Calls Try.prog 34 #[.int .i64 k] w fun e w' => e = .returned (.int .u64 (p2 k)) ∧ w = w' := by
  go_enter Try.func34, Try.ntmps34
  go_wp2
  go_loop [3, 4] (fun t i => ∃ j : Nat, j ≤ k ∧ i = .int .i64 j ∧ t = .int .u64 (p2 j)) (fun _ i => k - (intOf i).toNat)
  case atStart => exact ⟨0, Nat.zero_le _, rfl, rfl⟩
  case round =>
    obtain ⟨j, hj, rfl, rfl⟩ := hrel
    by_cases hlt : j < k
    · have hp := p2_pos j
      have hp2 : p2 j * 2 < 18446744073709551616 := by
        rw [← p2_succ]; exact p2_lt (by omega)
      go_wp2
      go_round
      case rel => exact ⟨j + 1, by omega, by go_num, by rw [p2_succ]⟩
      case measure => simp [intOf]; omega
    · obtain rfl : j = k := by omega
      go_wp2
      go_ret
      exact ⟨rfl, rfl⟩

theorem bit_math (v : Int) (k : Nat) (v0 : 0 ≤ v) (v1 : v < 18446744073709551616) : (IntKind.u64.wrap (v.tdiv (p2 k))).tmod 2 = bt v k := by
  have hp := p2_pos k
  have hd : 0 ≤ v / p2 k := Int.ediv_nonneg v0 (by omega)
  have hl : v / p2 k ≤ v := Int.ediv_le_self _ v0
  rw [Int.tdiv_eq_ediv_of_nonneg v0, IntKind.wrap_u64, Int.emod_eq_of_lt hd (by omega), Int.tmod_eq_emod_of_nonneg hd]
  rfl

theorem bit_any (v : Int) (k : Nat) (w : World) (hk : k ≤ 63) (v0 : 0 ≤ v) (v1 : v < 18446744073709551616) :
    Calls Try.prog 35 #[.int .u64 v, .int .i64 k] w fun e w' => e = .returned (.int .u64 (bt v k)) ∧ w = w' := by
  have HB := Lib.hid (bit_math v k v0 v1)
  have hp := p2_pos k
  go_enter Try.func35, Try.ntmps35
  clear v0 v1
  go_wp2_with (go_at_call 34; refine (power_any k _ hk).mono ?_; rintro e w' ⟨rfl, rfl⟩)
  go_ret
  exact ⟨ret_int HB.out, rfl⟩

theorem bit_one (v : Int) (k : Nat) (w : World) (hk : k ≤ 63) (v0 : 0 ≤ v) (v1 : v < 18446744073709551616) (h : bt v k = 1) :
    Calls Try.prog 35 #[.int .u64 v, .int .i64 k] w fun e w' => e = .returned (.int .u64 1) ∧ w = w' := by
  have := bit_any v k w hk v0 v1; rwa [h] at this
theorem bit_nil (v : Int) (k : Nat) (w : World) (hk : k ≤ 63) (v0 : 0 ≤ v) (v1 : v < 18446744073709551616) (h : bt v k = 0) :
    Calls Try.prog 35 #[.int .u64 v, .int .i64 k] w fun e w' => e = .returned (.int .u64 0) ∧ w = w' := by
  have := bit_any v k w hk v0 v1; rwa [h] at this

theorem rflip_no (s : ByteArray) (k : Int) (w : World) (hm : s.size ≤ maxLen) (hk : k ≤ 9223372036854775807) (h : k < 0 ∨ (s.size : Int) ≤ k / 8) :
    Calls Try.prog 25 #[.string s, .int .i64 k] w fun e w' => e = .returned (.tuple #[.string ByteArray.empty, .int .i64 1]) ∧ w = w' := by
  have hm2 : (s.size : Int) ≤ 9223372036854775807 := by unfold maxLen at hm; omega
  clear hm
  rcases h with h | h
  · go_enter Try.func25, Try.ntmps25
    go_wp2
    go_ret2
    exact ⟨rfl, rfl⟩
  · have h' : 0 ≤ k := by omega
    go_enter Try.func25, Try.ntmps25
    go_wp2
    go_ret2
    exact ⟨rfl, rfl⟩

/-- a text with the bit j of its byte i the other way -/
def flipS (s : ByteArray) (i j : Nat) : ByteArray := strOfNums ((nums s).set i (bits .xor .u8 ((nums s).getD i 0) (2 ^ j % 256)))
theorem len_set (l : List Int) (i : Nat) (x : Int) (n : Nat) (h : l.length = n) : (l.set i x).length = n := by rw [List.length_set, h]

theorem xor_nil (c j : Nat) (hc : c < 256) (hj : j < 8) (hb : bt c j = 0) : bits .xor .u8 (c : Int) (2 ^ j % 256) = (c + p2 j) % 256 := by
  have h : ∀ c, c < 256 → ∀ j, j < 8 → bt ((c : Nat) : Int) j = 0 → bits .xor .u8 ((c : Nat) : Int) (2 ^ (j : Nat) % 256) = (c + p2 j) % 256 := by decide +kernel
  exact h c hc j hj hb
theorem xor_one (c j : Nat) (hc : c < 256) (hj : j < 8) (hb : bt c j = 1) : bits .xor .u8 (c : Int) (2 ^ j % 256) = (c - p2 j) % 256 := by
  have h : ∀ c, c < 256 → ∀ j, j < 8 → bt ((c : Nat) : Int) j = 1 → bits .xor .u8 ((c : Nat) : Int) (2 ^ (j : Nat) % 256) = (c - p2 j) % 256 := by decide +kernel
  exact h c hc j hj hb

set_option maxRecDepth 100000 in
theorem rflip_yes (s : ByteArray) (i j : Nat) (w : World) (hm : s.size ≤ 1000) (hi : i < s.size) (hj : j < 8) :
    Calls Try.prog 25 #[.string s, .int .i64 (8 * (i : Int) + j)] w fun e w' => e = .returned (.tuple #[.string (flipS s i j), .int .i64 0]) ∧ Below w.heap.size w w' := by
  have hq : (8 * (i : Int) + j) / 8 = i := by omega
  have hr : (8 * (i : Int) + j) % 8 = j := by omega
  obtain ⟨cap, W1, hcv, hb1, hcs, hfz, _⟩ := bytes_of (P := Try.prog) (src := 9) (dst := 50) (e := 5) Try.underlying9 Try.underlying50 Try.underlying5 s w
  obtain ⟨c, hcc⟩ : ∃ c : Nat, s[i].toNat = c := ⟨_, rfl⟩
  have hc256 : c < 256 := by rw [← hcc]; exact s[i].toNat_lt
  have hn := nums_get s i hi
  rw [hcc] at hn
  have hc := hcs i (by rw [nums_length]; exact hi)
  rw [hn] at hc
  have hf := hfz i hi
  have hcb := fun x : Int => (hcs.set i x).conv (P := Try.prog) (src := 50) (e := 5) (dst := 9) Try.underlying50 Try.underlying5 Try.underlying9 s.size cap (len_set _ _ _ _ (nums_length s))
  have HB := Lib.hid hb1
  clear hcs hfz hcc hb1
  rcases bt_01 c j with hbb | hbb
  all_goals
    first | have hx := xor_nil c j hc256 hj hbb | have hx := xor_one c j hc256 hj hbb
    have HX : Hid (flipS s i j = strOfNums ((nums s).set i (bits .xor .u8 (c : Int) (2 ^ j % 256)))) := by unfold flipS; rw [hn]; exact rfl
    rw [hx] at HX
    have HBB := Lib.hid hbb
    clear hx hbb hn
    go_enter Try.func25, Try.ntmps25
    go_wp2_with fail
    try rw [hr]
    refine (power_any j _ (by omega)).mono ?_
    rintro e w' ⟨rfl, rfl⟩
    go_wp2_with fail
    first | refine (bit_nil _ j _ (by omega) (by omega) (by omega) HBB.out).mono ?_ | refine (bit_one _ j _ (by omega) (by omega) (by omega) HBB.out).mono ?_
    rintro e w' ⟨rfl, rfl⟩
    go_wp2
    go_ret2
    exact ⟨ret_str HX.out.symm, HB.out.setCell (Nat.le_refl _) _⟩

end Go.Proofs.Ytbpkaegkcknemaa
