/- The reference of layer 6, walked: Check. -/
import Derived.Test.YtejgdaekomdhlaaGeR1
namespace Go.Proofs.Ytejgdaekomdhlaa
set_option maxRecDepth 100000
open Go.RowKit

def FirstG (b l y : Int) : Prop := 8 ≤ b ∧ b ≤ 64 ∧ 6 ≤ l ∧ l ≤ 64 ∧ 16 ≤ y ∧ y ≤ 256 ∧ y % 8 = 0
def ChkT (b l y n s r : Int) (w : World) (e : Ending) (w' : World) : Prop := e = .returned (.int .i64 (chkG b l y n s r)) ∧ Below w.heap.size w w'
theorem chk_no {b l y n s r : Int} (h : ¬ OkG b l y n s r) : chkG b l y n s r = 60 := if_neg h
theorem chk_ok {b l y n s r : Int} (h : OkG b l y n s r) : chkG b l y n s r = 0 := if_pos h

set_option maxRecDepth 100000 in
theorem rge_check_first (b l y n s r : Int) (w : World) (h : ¬ FirstG b l y) : Calls Try.prog 9 #[.agg (gv b l y n s r)] w (ChkT b l y n s r w) := by
  have hno : ¬ OkG b l y n s r := fun ⟨⟨h1, h2, h3, h4, h5, h6, h7, _⟩, _⟩ => h ⟨h1, h2, h3, h4, h5, h6, h7⟩
  unfold ChkT
  rw [chk_no hno]
  have H := Lib.hid h
  clear h hno
  have HB := Lib.hid ((Below.refl w.heap.size w).alloc (Nat.le_refl _) (.cells (gv b l y n s r) 23))
  unfold gv at *
  go_enter Try.func9, Try.ntmps9
  go_wp2_with fail
  all_goals first
    | (go_ret; exact ⟨rfl, HB.out⟩)
    | (exfalso; apply H.out; have hc := ‹_ ∧ (y % 8 != 0) = false›; simp only [bne_eq_false_iff_eq] at hc; unfold FirstG; omega)

end Go.Proofs.Ytejgdaekomdhlaa
