/- Are two faults the same: the model's comparison of them. -/
import Derived.Test.YtbpkaegkcknemaaFaC3
import Derived.Laws.StructEq
import Derived.Test.YtbpkaegkcknemaaReg
namespace Go.Proofs.Ytbpkaegkcknemaa
set_option maxRecDepth 100000
open Go.RowKit Go.Shelf Go.Proofs

def eqF (x y : Fa) : Bool := x.1 == y.1 && x.2.1 == y.2.1 && x.2.2.1 == y.2.2.1 && x.2.2.2 == y.2.2.2
theorem eqF_self (x : Fa) : eqF x x = true := by simp [eqF]
theorem eqF_iff (x y : Fa) : eqF x y = true ↔ x = y := by
  obtain ⟨a, b, c, d⟩ := x
  obtain ⟨a', b', c', d'⟩ := y
  simp [eqF, and_assoc]
theorem eqF_no {x y : Fa} (h : x ≠ y) : eqF x y = false := by
  rw [← Bool.not_eq_true, eqF_iff]; exact h
theorem fields_fault (x y : Fa) (w : World) : Sem.run Try.prog (Op.eqFields 9999 (encF x).toArray (encF y).toArray (Try.prog.fieldsOf 26).toList) w = .ok (eqF x y) w := by
  obtain ⟨a, b, c, d⟩ := x
  obtain ⟨a', b', c', d'⟩ := y
  simp only [Program.fieldsOf, Try.underlying26]
  simp [Op.eqFields, encF, part, isAgg, run_underlying Try.underlying3, run_equalIn_int _ _ _ _ _ _ _ Try.underlying3, eqF]
  by_cases h1 : a = a' <;> by_cases h2 : b = b' <;> by_cases h3 : c = c' <;> by_cases h4 : d = d' <;> simp [h1, h2, h3, h4]
theorem eq_fault (x y : Fa) (w : World) : Sem.run Try.prog (binOp .eql 26 (.agg (encF x).toArray) (.agg (encF y).toArray)) w = .ok (.bool (eqF x y)) w := by
  rw [run_eql_struct, run_equalIn_agg _ _ _ _ _ (by kernel_rfl) (by kernel_rfl), fields_fault]
  rfl
theorem ne_fault (x y : Fa) (w : World) : Sem.run Try.prog (binOp .neq 26 (.agg (encF x).toArray) (.agg (encF y).toArray)) w = .ok (.bool (!eqF x y)) w := by
  rw [run_neq_struct, run_equalIn_agg _ _ _ _ _ (by kernel_rfl) (by kernel_rfl), fields_fault]
  rfl
theorem wp_eql_fault {o : Oper} {a : Act} {w : World} {K : Act → World → Prop} {Q : Exit → Act → World → Prop} (p q : Operand) (ho : o.op = .binOp .eql 26 p q 26)
    (x y : Fa) (hx : a.eval p = .agg (encF x).toArray) (hy : a.eval q = .agg (encF y).toArray) (h : K (a.put o.dst (.bool (eqF x y))) w) : o.wp Try.prog a w K Q := by
  unfold Oper.wp execOp
  simp only [ho, hx, hy, Sem.run_bind, run_eqGuard_agg (P := Try.prog) w .eql 26 p q _ _ (by kernel_rfl), Result.andThen_ok, eq_fault]
  exact h
theorem wp_neq_fault {o : Oper} {a : Act} {w : World} {K : Act → World → Prop} {Q : Exit → Act → World → Prop} (p q : Operand) (ho : o.op = .binOp .neq 26 p q 26)
    (x y : Fa) (hx : a.eval p = .agg (encF x).toArray) (hy : a.eval q = .agg (encF y).toArray) (h : K (a.put o.dst (.bool (!eqF x y))) w) : o.wp Try.prog a w K Q := by
  unfold Oper.wp execOp
  simp only [ho, hx, hy, Sem.run_bind, run_eqGuard_agg (P := Try.prog) w .neq 26 p q _ _ (by kernel_rfl), Result.andThen_ok, ne_fault]
  exact h
theorem wpList_eql_fault {ops : Array Oper} {rest : List Oper} {o : Oper} {a : Act} {w : World} {Q : Exit → Act → World → Prop} (hgd : o.guard = none) (p q : Operand) (ho : o.op = .binOp .eql 26 p q 26)
    (x y : Fa) (hx : a.eval p = .agg (encF x).toArray) (hy : a.eval q = .agg (encF y).toArray) (h : wpList Try.prog ops Q rest (a.put o.dst (.bool (eqF x y))) w) : wpList Try.prog ops Q (o :: rest) a w :=
  wpList_plain hgd fun _ hK => wp_eql_fault p q ho x y hx hy (hK _ _ h)
theorem wpList_neq_fault {ops : Array Oper} {rest : List Oper} {o : Oper} {a : Act} {w : World} {Q : Exit → Act → World → Prop} (hgd : o.guard = none) (p q : Operand) (ho : o.op = .binOp .neq 26 p q 26)
    (x y : Fa) (hx : a.eval p = .agg (encF x).toArray) (hy : a.eval q = .agg (encF y).toArray) (h : wpList Try.prog ops Q rest (a.put o.dst (.bool (!eqF x y))) w) : wpList Try.prog ops Q (o :: rest) a w :=
  wpList_plain hgd fun _ hK => wp_neq_fault p q ho x y hx hy (hK _ _ h)
theorem wpList_eql_fault_if {ops : Array Oper} {rest : List Oper} {o : Oper} {a : Act} {w : World} {Q : Exit → Act → World → Prop} (hw : Region.wanted o (yielded ops a.tmps) = true) (p q : Operand) (ho : o.op = .binOp .eql 26 p q 26)
    (x y : Fa) (hx : a.eval p = .agg (encF x).toArray) (hy : a.eval q = .agg (encF y).toArray) (h : wpList Try.prog ops Q rest (a.put o.dst (.bool (eqF x y))) w) : wpList Try.prog ops Q (o :: rest) a w := by
  unfold wpList
  rw [if_pos hw]
  exact Or.inl (wp_eql_fault p q ho x y hx hy h)

/-- a row of one fault, and what a world keeps besides -/
def CM (w0 : World) (b o : Nat) (x : Fa) (w : World) : Prop := w.rangeAt b o (encF x) ∧ b < w.heap.size ∧ Below w0.heap.size w0 w
theorem CM.call {w0 w w' : World} {b o : Nat} {x : Fa} (h : CM w0 b o x w) (hb : Below w.heap.size w w') : CM w0 b o x w' :=
  ⟨fun j v hj => by rw [World.cell?_of_block (w := w) (hb.block b h.2.1)]; exact h.1 j v hj, Nat.lt_of_lt_of_le h.2.1 hb.size, h.2.2.trans (hb.mono h.2.2.size)⟩
theorem no_specialF {T : World → World → Prop} : ∀ (j : Nat) (a a' : Act) (w w' : World), (fun (_ : Nat) (_ : Act) (_ : World) => False) j a w → (∀ d ∈ ([] : List Tmp), a'.tmps.getD d undef = a.tmps.getD d undef) → T w w' → (fun (_ : Nat) (_ : Act) (_ : World) => False) j a' w' := fun _ _ _ _ _ h _ _ => h

end Go.Proofs.Ytbpkaegkcknemaa
