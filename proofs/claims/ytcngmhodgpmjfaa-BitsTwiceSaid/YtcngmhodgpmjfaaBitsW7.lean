/- Flip, and the reference's: one bit of a text the other way. -/
import Derived.Test.YtcngmhodgpmjfaaBitsW6
import Derived.Lib.ConvBytes
namespace Go.Proofs.Ytcngmhodgpmjfaa
open Go.RowKit

theorem flip_no (s : ByteArray) (k : Int) (w : World) (hm : s.size ≤ maxLen) (hk : k ≤ 9223372036854775807) (h : k < 0 ∨ (s.size : Int) ≤ k / 8) :
    Calls Try.prog 21 #[.string s, .int .i64 k] w fun e w' => e = .returned (.tuple #[.string ByteArray.empty, .int .i64 1]) ∧ w = w' := by
  have hm2 : (s.size : Int) ≤ 9223372036854775807 := by unfold maxLen at hm; omega
  clear hm
  rcases h with h | h
  · go_enter Try.func21, Try.ntmps21
    go_wp2
    go_ret2
    exact ⟨rfl, rfl⟩
  · have h' : 0 ≤ k := by omega
    go_enter Try.func21, Try.ntmps21
    go_wp2
    go_ret2
    exact ⟨rfl, rfl⟩

theorem rflip_no (s : ByteArray) (k : Int) (w : World) (hm : s.size ≤ maxLen) (hk : k ≤ 9223372036854775807) (h : k < 0 ∨ (s.size : Int) ≤ k / 8) :
    Calls Try.prog 22 #[.string s, .int .i64 k] w fun e w' => e = .returned (.tuple #[.string ByteArray.empty, .int .i64 1]) ∧ w = w' := by
  have hm2 : (s.size : Int) ≤ 9223372036854775807 := by unfold maxLen at hm; omega
  clear hm
  rcases h with h | h
  · go_enter Try.func22, Try.ntmps22
    go_wp2
    go_ret2
    exact ⟨rfl, rfl⟩
  · have h' : 0 ≤ k := by omega
    go_enter Try.func22, Try.ntmps22
    go_wp2
    go_ret2
    exact ⟨rfl, rfl⟩

/-- a text with the bit j of its byte i the other way -/
def flipS (s : ByteArray) (i j : Nat) : ByteArray := strOfNums ((nums s).set i (bits .xor .u8 ((nums s).getD i 0) (2 ^ j % 256)))
theorem len_set (l : List Int) (i : Nat) (x : Int) (n : Nat) (h : l.length = n) : (l.set i x).length = n := by rw [List.length_set, h]

theorem flip_yes (s : ByteArray) (i j : Nat) (w : World) (hm : s.size ≤ 1000) (hi : i < s.size) (hj : j < 8) :
    Calls Try.prog 21 #[.string s, .int .i64 (8 * (i : Int) + j)] w fun e w' => e = .returned (.tuple #[.string (flipS s i j), .int .i64 0]) ∧ Below w.heap.size w w' := by
  have hq : (8 * (i : Int) + j) / 8 = i := by omega
  have hr : (8 * (i : Int) + j) % 8 = j := by omega
  obtain ⟨cap, W1, hcv, hb1, hcs, hfz, _⟩ := bytes_of (P := Try.prog) (src := 9) (dst := 45) (e := 5) Try.underlying9 Try.underlying45 Try.underlying5 s w
  obtain ⟨c, hcc⟩ : ∃ c, (nums s).getD i 0 = c := ⟨_, rfl⟩
  have hc := hcs i (by rw [nums_length]; exact hi)
  rw [hcc] at hc
  have hf := hfz i hi
  have hcb := fun x : Int => (BytesAt.drew (hcs.set i x)).conv (P := Try.prog) (src := 45) (e := 5) (dst := 9) Try.underlying45 Try.underlying5 Try.underlying9 s.size cap (len_set _ _ _ _ (nums_length s))
  have HC := Lib.hid hcc
  have HB := Lib.hid hb1
  clear hcs hfz hcc hb1
  go_enter Try.func21, Try.ntmps21
  go_wp2
  go_region
  go_wp2
  go_ret2
  exact ⟨ret_str (by unfold flipS; rw [HC.out]), (HB.out.setCell (Nat.le_refl _) _).drew⟩

theorem xor_nil (c j : Nat) (hc : c < 256) (hj : j < 8) (hb : bt c j = 0) : bits .xor .u8 (c : Int) (2 ^ j % 256) = (c + p2 j) % 256 := by
  have h : ∀ c, c < 256 → ∀ j, j < 8 → bt ((c : Nat) : Int) j = 0 → bits .xor .u8 ((c : Nat) : Int) (2 ^ (j : Nat) % 256) = (c + p2 j) % 256 := by decide +kernel
  exact h c hc j hj hb
theorem xor_one (c j : Nat) (hc : c < 256) (hj : j < 8) (hb : bt c j = 1) : bits .xor .u8 (c : Int) (2 ^ j % 256) = (c - p2 j) % 256 := by
  have h : ∀ c, c < 256 → ∀ j, j < 8 → bt ((c : Nat) : Int) j = 1 → bits .xor .u8 ((c : Nat) : Int) (2 ^ (j : Nat) % 256) = (c - p2 j) % 256 := by decide +kernel
  exact h c hc j hj hb

theorem rflip_yes (s : ByteArray) (i j : Nat) (w : World) (hm : s.size ≤ 1000) (hi : i < s.size) (hj : j < 8) :
    Calls Try.prog 22 #[.string s, .int .i64 (8 * (i : Int) + j)] w fun e w' => e = .returned (.tuple #[.string (flipS s i j), .int .i64 0]) ∧ Below w.heap.size w w' := by
  have hq : (8 * (i : Int) + j) / 8 = i := by omega
  have hr : (8 * (i : Int) + j) % 8 = j := by omega
  obtain ⟨cap, W1, hcv, hb1, hcs, hfz, _⟩ := bytes_of (P := Try.prog) (src := 9) (dst := 45) (e := 5) Try.underlying9 Try.underlying45 Try.underlying5 s w
  obtain ⟨c, hcc⟩ : ∃ c : Nat, s[i].toNat = c := ⟨_, rfl⟩
  have hc256 : c < 256 := by rw [← hcc]; exact s[i].toNat_lt
  have hn := nums_get s i hi
  rw [hcc] at hn
  have hc := hcs i (by rw [nums_length]; exact hi)
  rw [hn] at hc
  have hf := hfz i hi
  have hcb := fun x : Int => (hcs.set i x).conv (P := Try.prog) (src := 45) (e := 5) (dst := 9) Try.underlying45 Try.underlying5 Try.underlying9 s.size cap (len_set _ _ _ _ (nums_length s))
  have HB := Lib.hid hb1
  clear hcs hfz hcc hb1
  rcases bt_01 c j with hbb | hbb
  all_goals
    first | have hx := xor_nil c j hc256 hj hbb | have hx := xor_one c j hc256 hj hbb
    have HX : Hid (flipS s i j = strOfNums ((nums s).set i (bits .xor .u8 (c : Int) (2 ^ j % 256)))) := by unfold flipS; rw [hn]; exact rfl
    rw [hx] at HX
    have HBB := Lib.hid hbb
    clear hx hbb hn
    go_enter Try.func22, Try.ntmps22
    go_wp2_with fail
    try rw [hr]
    refine (power_any j _ (by omega)).mono ?_
    rintro e w' ⟨rfl, rfl⟩
    go_wp2_with fail
    first | refine (bit_nil _ j _ (by omega) (by omega) (by omega) HBB.out).mono ?_ | refine (bit_one _ j _ (by omega) (by omega) (by omega) HBB.out).mono ?_
    rintro e w' ⟨rfl, rfl⟩
    go_wp2
    go_ret2
    exact ⟨ret_str HX.out.symm, HB.out.setCell (Nat.le_refl _) _⟩

end Go.Proofs.Ytcngmhodgpmjfaa
