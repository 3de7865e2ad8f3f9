/- Contracts of package bits, as far as later layers lean on them: Zeros, Flip. -/
import Derived.Test.YtbpkaegkcknemaaRef1Z
import Derived.Lib.ConvBytes
namespace Go.Proofs.Ytbpkaegkcknemaa
set_option maxRecDepth 100000
open Go.RowKit

def ZOnesPost (n : Nat) (w : World) (e : Ending) (w' : World) : Prop := e = .returned (.int .i64 (pop8 n)) ∧ w = w'

theorem zxor_not (c : UInt8) : bits .xor .u8 IntKind.u8.max (c.toNat : Int) = 255 - (c.toNat : Int) := by
  have h : ∀ n : Nat, n < 256 → bits .xor .u8 IntKind.u8.max (n : Int) = 255 - (n : Int) := by decide +kernel
  exact h _ c.toNat_lt

theorem flip_no (s : ByteArray) (k : Int) (w : World) (hm : s.size ≤ maxLen) (hk : k ≤ 9223372036854775807) (h : k < 0 ∨ (s.size : Int) ≤ k / 8) :
    Calls Try.prog 23 #[.string s, .int .i64 k] w fun e w' => e = .returned (.tuple #[.string ByteArray.empty, .int .i64 1]) ∧ w = w' := by
  have hm2 : (s.size : Int) ≤ 9223372036854775807 := by unfold maxLen at hm; omega
  clear hm
  rcases h with h | h
  · go_enter Try.func23, Try.ntmps23
    go_wp2
    go_ret2
    exact ⟨rfl, rfl⟩
  · have h' : 0 ≤ k := by omega
    go_enter Try.func23, Try.ntmps23
    go_wp2
    go_ret2
    exact ⟨rfl, rfl⟩


theorem flip_yes (s : ByteArray) (i j : Nat) (w : World) (hm : s.size ≤ 1000) (hi : i < s.size) (hj : j < 8) :
    Calls Try.prog 23 #[.string s, .int .i64 (8 * (i : Int) + j)] w fun e w' => e = .returned (.tuple #[.string (flipS s i j), .int .i64 0]) ∧ Below w.heap.size w w' := by
  have hq : (8 * (i : Int) + j) / 8 = i := by omega
  have hr : (8 * (i : Int) + j) % 8 = j := by omega
  obtain ⟨cap, W1, hcv, hb1, hcs, hfz, _⟩ := bytes_of (P := Try.prog) (src := 9) (dst := 50) (e := 5) Try.underlying9 Try.underlying50 Try.underlying5 s w
  obtain ⟨c, hcc⟩ : ∃ c, (nums s).getD i 0 = c := ⟨_, rfl⟩
  have hc := hcs i (by rw [nums_length]; exact hi)
  rw [hcc] at hc
  have hf := hfz i hi
  have hcb := fun x : Int => (BytesAt.drew (hcs.set i x)).conv (P := Try.prog) (src := 50) (e := 5) (dst := 9) Try.underlying50 Try.underlying5 Try.underlying9 s.size cap (len_set _ _ _ _ (nums_length s))
  have HC := Lib.hid hcc
  have HB := Lib.hid hb1
  clear hcs hfz hcc hb1
  go_enter Try.func23, Try.ntmps23
  go_wp2
  go_region
  go_wp2
  go_ret2
  exact ⟨ret_str (by unfold flipS; rw [HC.out]), (HB.out.setCell (Nat.le_refl _) _).drew⟩


end Go.Proofs.Ytbpkaegkcknemaa
