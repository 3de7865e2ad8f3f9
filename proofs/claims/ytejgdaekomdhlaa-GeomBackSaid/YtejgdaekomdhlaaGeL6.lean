/- The walks of layer 6's laws, as the laws take them. -/
import Derived.Test.YtejgdaekomdhlaaGeL3
import Derived.Test.YtejgdaekomdhlaaGeL4
import Derived.Test.YtejgdaekomdhlaaGeL5
namespace Go.Proofs.Ytejgdaekomdhlaa
set_option maxRecDepth 100000
open Go.RowKit

theorem wf_bd {t : Int} (h : (Lit.int .i64 t).wf = true) : -9223372036854775808 ≤ t ∧ t ≤ 9223372036854775807 := by
  have h2 : decide (IntKind.i64.min ≤ t) && decide (t ≤ IntKind.i64.max) := h
  simp only [Bool.and_eq_true, decide_eq_true_eq, show IntKind.i64.min = -9223372036854775808 by decide, show IntKind.i64.max = 9223372036854775807 by decide] at h2
  exact h2
theorem walk_GeomNumbers (b l y n s r x z p t : Int) (ht : (Lit.int .i64 t).wf = true) (w : World) :
    Calls Try.prog 4 #[.agg (gv b l y n s r), .agg (av x z p), .int .i64 t] w fun e w' => e = .returned (.bool true) ∧ Below w.heap.size w w' := walkb_GeomNumbers b l y n s r x z p t (wf_bd ht) w
theorem walk_GeomBack (b l y n s r x z p t : Int) (ht : (Lit.int .i64 t).wf = true) (w : World) :
    Calls Try.prog 5 #[.agg (gv b l y n s r), .agg (av x z p), .int .i64 t] w fun e w' => e = .returned (.bool true) ∧ Below w.heap.size w w' := walkb_GeomBack b l y n s r x z p t (wf_bd ht) w

end Go.Proofs.Ytejgdaekomdhlaa
