/- The reference of layer 6, walked: Check, whole; Raw, Spread. -/
import Derived.Test.YtejgdaekomdhlaaGeR5
namespace Go.Proofs.Ytejgdaekomdhlaa
set_option maxRecDepth 100000
open Go.RowKit

theorem rge_check (b l y n s r : Int) (w : World) : Calls Try.prog 9 #[.agg (gv b l y n s r)] w (ChkT b l y n s r w) := by
  by_cases h : FirstG b l y
  · by_cases h1 : s < 0
    · exact rge_check_1 b l y n s r w h h1
    by_cases h2 : 16 < s
    · exact rge_check_2 b l y n s r w h ⟨by omega, h2⟩
    by_cases h3 : b - 8 < s
    · exact rge_check_3 b l y n s r w h ⟨by omega, by omega, h3⟩
    by_cases h4 : r < 2
    · exact rge_check_4 b l y n s r w h ⟨by omega, by omega, by omega, h4⟩
    by_cases h5 : 1000 < r
    · exact rge_check_5 b l y n s r w h ⟨by omega, by omega, by omega, by omega, h5⟩
    by_cases h6 : n < 1
    · exact rge_check_6 b l y n s r w h ⟨by omega, by omega, by omega, by omega, by omega, h6⟩
    by_cases h7 : 4096 < n
    · exact rge_check_7 b l y n s r w h ⟨by omega, by omega, by omega, by omega, by omega, by omega, h7⟩
    by_cases h8 : mostG b l s < n
    · exact rge_check_8 b l y n s r w h ⟨by omega, by omega, by omega, by omega, by omega, by omega, by omega, h8⟩
    by_cases h9 : l - 4 < snapsG b y n
    · exact rge_check_9 b l y n s r w h ⟨by omega, by omega, by omega, by omega, by omega, by omega, by omega, by omega, h9⟩
    · exact rge_check_0 b l y n s r w h ⟨by omega, by omega, by omega, by omega, by omega, by omega, by omega, by omega, by omega⟩
  · exact rge_check_first b l y n s r w h

theorem rge_raw (b l y n s r : Int) (w : World) (h : PreG b l y n s r) :
    Calls Try.prog 16 #[.agg (gv b l y n s r)] w fun e w' => e = .returned (.int .i64 (rawG y)) ∧ Below w.heap.size w w' := by
  obtain ⟨h1, h2, h3, h4, h5, h6, h7, h8, h9, h10, h11, h12, h13, h14⟩ := h
  have HB := Lib.hid ((Below.refl w.heap.size w).alloc (Nat.le_refl _) (.cells (gv b l y n s r) 23))
  unfold gv at *
  go_enter Try.func16, Try.ntmps16
  go_wp2_with fail
  go_ret
  exact ⟨ret_int (by unfold rawG; omega), HB.out⟩
theorem rge_spread (b l y n s r : Int) (w : World) (h : PreG b l y n s r) :
    Calls Try.prog 20 #[.agg (gv b l y n s r)] w fun e w' => e = .returned (.int .i64 (spreadG b r)) ∧ Below w.heap.size w w' := by
  obtain ⟨h1, h2, h3, h4, h5, h6, h7, h8, h9, h10, h11, h12, h13, h14⟩ := h
  have HB := Lib.hid ((Below.refl w.heap.size w).alloc (Nat.le_refl _) (.cells (gv b l y n s r) 23))
  unfold gv at *
  go_enter Try.func20, Try.ntmps20
  go_wp2_with fail
  go_ret
  exact ⟨ret_int (by unfold spreadG; omega), HB.out⟩

end Go.Proofs.Ytejgdaekomdhlaa
