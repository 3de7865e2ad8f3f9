/- The walks of layer 7's laws, as the laws take them. -/
import Derived.Test.YtnodnhmlbcafgaaOrL4
import Derived.Test.YtnodnhmlbcafgaaOrL5
namespace Go.Proofs.Ytnodnhmlbcafgaa
set_option maxRecDepth 100000
open Go.RowKit

theorem or_wf {t : Int} (h : (Lit.int .i64 t).wf = true) : -9223372036854775808 ≤ t ∧ t ≤ 9223372036854775807 := by
  have h2 : decide (IntKind.i64.min ≤ t) && decide (t ≤ IntKind.i64.max) := h
  simp only [Bool.and_eq_true, decide_eq_true_eq, show IntKind.i64.min = -9223372036854775808 by decide, show IntKind.i64.max = 9223372036854775807 by decide] at h2
  exact h2
theorem walk_OrderGoes (n k : Int) (hn : (Lit.int .i64 n).wf = true) (hk : (Lit.int .i64 k).wf = true) (w : World) :
    Calls Try.prog 6 #[.int .i64 n, .int .i64 k] w fun e w' => e = .returned (.bool true) ∧ Below w.heap.size w w' := walkb_OrderGoes n k w (or_wf hn) (or_wf hk)
theorem walk_OrderStaggers (n k : Int) (hn : (Lit.int .i64 n).wf = true) (hk : (Lit.int .i64 k).wf = true) (w : World) :
    Calls Try.prog 5 #[.int .i64 n, .int .i64 k] w fun e w' => e = .returned (.bool true) ∧ Below w.heap.size w w' := walkb_OrderStaggers n k w (or_wf hn) (or_wf hk)
theorem walk_OrderOnce (n : Int) (hn : (Lit.int .i64 n).wf = true) (w : World) :
    Calls Try.prog 4 #[.int .i64 n] w fun e w' => e = .returned (.bool true) ∧ Below w.heap.size w w' := walkb_OrderOnce n w (or_wf hn)
theorem walk_OrderSteps (n k l : Int) (f : Bool) (_ : (Lit.int .i64 n).wf = true) (_ : (Lit.int .i64 k).wf = true) (_ : (Lit.int .i64 l).wf = true) (w : World) :
    Calls Try.prog 3 #[.int .i64 n, .int .i64 k, .agg #[.int .i64 l, .bool f]] w fun e w' => e = .returned (.bool true) ∧ Below w.heap.size w w' := walkb_OrderSteps n k l f w

end Go.Proofs.Ytnodnhmlbcafgaa
