/- Tags: what Encode, Decode and May answer, as plain functions of their arguments; the reference's, whole; two tags compared. -/
import Derived.Test.YtgpegacbgjdogaaTagR4
import Derived.Laws.StructEq
namespace Go.Proofs.Ytgpegacbgjdogaa
open Go.RowKit

def encT (k l q e : Int) : ByteArray := if MayT k l q e then tagS k l q e else ByteArray.empty
def encE (k l q e : Int) : Int := if MayT k l q e then 0 else 1
def decA (s : ByteArray) : Array Value := if OkT s then ta (byteT s 1) (lT s) (qT s) (eT s) else ta 0 0 0 0
def decE (s : ByteArray) : Int := if OkT s then 0 else 3
theorem decA_ok {s : ByteArray} (h : OkT s) : decA s = ta (byteT s 1) (lT s) (qT s) (eT s) := if_pos h
theorem decA_no {s : ByteArray} (h : ¬ OkT s) : decA s = ta 0 0 0 0 := if_neg h
def EncT (k l q e : Int) (w : World) (r : Ending) (w' : World) : Prop := r = .returned (.tuple #[.string (encT k l q e), .int .i64 (encE k l q e)]) ∧ Below w.heap.size w w'
def DecT (s : ByteArray) (w : World) (r : Ending) (w' : World) : Prop := r = .returned (.tuple #[.agg (decA s), .int .i64 (decE s)]) ∧ Below w.heap.size w w'
def MayPost (k l q e : Int) (w : World) (r : Ending) (w' : World) : Prop := r = .returned (.bool (mayB k l q e)) ∧ Below w.heap.size w w'

theorem rtag_enc (k l q e : Int) (w : World) : Calls Try.prog 8 #[.agg (ta k l q e)] w (EncT k l q e w) := by
  unfold EncT encT encE
  by_cases h : MayT k l q e
  · rw [if_pos h, if_pos h]; exact rtag_enc_yes k l q e w h
  · rw [if_neg h, if_neg h]; exact rtag_enc_no k l q e w h
theorem rtag_may (k l q e : Int) (w : World) : Calls Try.prog 12 #[.agg (ta k l q e)] w (MayPost k l q e w) := rtag_may_any k l q e w
theorem rtag_dec (s : ByteArray) (w : World) (hm : s.size ≤ maxLen) : Calls Try.prog 10 #[.string s] w (DecT s w) := by
  unfold DecT decA decE
  by_cases hf : FormT s
  · have h := rtag_dec_yes s w hf
    by_cases hm2 : MayT (byteT s 1) (lT s) (qT s) (eT s)
    · rw [if_pos ⟨hf, hm2⟩, if_pos ⟨hf, hm2⟩]
      rwa [if_pos ((mayB_iff _ _ _ _).2 hm2)] at h
    · rw [if_neg (fun h => hm2 h.2), if_neg (fun h => hm2 h.2)]
      rwa [if_neg (fun h => hm2 ((mayB_iff _ _ _ _).1 h))] at h
  · rw [if_neg (fun h => hf h.1), if_neg (fun h => hf h.1)]
    by_cases hz : s.size = 16
    · exact rtag_dec_form s w hz hf
    · exact rtag_dec_size s w hz hm
/-- are two tags the same? -/
def sameT (k l q e k' l' q' e' : Int) : Bool := k == k' && l == l' && q == q' && e == e'
theorem sameT_self (k l q e : Int) : sameT k l q e k l q e = true := by simp [sameT]
theorem sameT_iff (k l q e k' l' q' e' : Int) : sameT k l q e k' l' q' e' = true ↔ k = k' ∧ l = l' ∧ q = q' ∧ e = e' := by simp [sameT, and_assoc]
theorem fields_tag (k l q e k' l' q' e' : Int) (w : World) : Sem.run Try.prog (Op.eqFields 9999 (ta k l q e) (ta k' l' q' e') (Try.prog.fieldsOf 23).toList) w = .ok (sameT k l q e k' l' q' e') w := by
  simp only [Program.fieldsOf, Try.underlying23]
  simp [Op.eqFields, ta, part, isAgg, run_underlying Try.underlying3, run_equalIn_int _ _ _ _ _ _ _ Try.underlying3, sameT]
  by_cases h1 : k = k' <;> by_cases h2 : l = l' <;> by_cases h3 : q = q' <;> by_cases h4 : e = e' <;> simp [h1, h2, h3, h4]
theorem eq_tag (k l q e k' l' q' e' : Int) (w : World) : Sem.run Try.prog (binOp .eql 23 (.agg (ta k l q e)) (.agg (ta k' l' q' e'))) w = .ok (.bool (sameT k l q e k' l' q' e')) w := by
  rw [run_eql_struct, run_equalIn_agg _ _ _ _ _ (by kernel_rfl) (by kernel_rfl), fields_tag]
  rfl
theorem ne_tag (k l q e k' l' q' e' : Int) (w : World) : Sem.run Try.prog (binOp .neq 23 (.agg (ta k l q e)) (.agg (ta k' l' q' e'))) w = .ok (.bool (!sameT k l q e k' l' q' e')) w := by
  rw [run_neq_struct, run_equalIn_agg _ _ _ _ _ (by kernel_rfl) (by kernel_rfl), fields_tag]
  rfl
theorem wp_eql_tag {o : Oper} {a : Act} {w : World} {K : Act → World → Prop} {Q : Exit → Act → World → Prop} (x y : Operand) (ho : o.op = .binOp .eql 23 x y 23)
    (k l q e k' l' q' e' : Int) (hx : a.eval x = .agg (ta k l q e)) (hy : a.eval y = .agg (ta k' l' q' e')) (h : K (a.put o.dst (.bool (sameT k l q e k' l' q' e'))) w) : o.wp Try.prog a w K Q := by
  unfold Oper.wp execOp
  simp only [ho, hx, hy, Sem.run_bind, run_eqGuard_agg (P := Try.prog) w .eql 23 x y _ _ (by kernel_rfl), Result.andThen_ok, eq_tag]
  exact h
theorem wpList_eql_tag {ops : Array Oper} {rest : List Oper} {o : Oper} {a : Act} {w : World} {Q : Exit → Act → World → Prop} (hgd : o.guard = none) (x y : Operand) (ho : o.op = .binOp .eql 23 x y 23)
    (k l q e k' l' q' e' : Int) (hx : a.eval x = .agg (ta k l q e)) (hy : a.eval y = .agg (ta k' l' q' e')) (h : wpList Try.prog ops Q rest (a.put o.dst (.bool (sameT k l q e k' l' q' e'))) w) : wpList Try.prog ops Q (o :: rest) a w :=
  wpList_plain hgd fun _ hK => wp_eql_tag x y ho k l q e k' l' q' e' hx hy (hK _ _ h)
theorem decA_ta (s : ByteArray) : ∃ k l q e, decA s = ta k l q e := by
  unfold decA; split <;> exact ⟨_, _, _, _, rfl⟩

end Go.Proofs.Ytgpegacbgjdogaa
