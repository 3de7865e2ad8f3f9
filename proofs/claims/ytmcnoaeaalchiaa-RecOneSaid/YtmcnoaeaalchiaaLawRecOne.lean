/- The law RecOne: for all arguments it returns true, and each argument reads as it did. No condition. -/
import Derived.Test.YtmcnoaeaalchiaaRcL3
import Derived.ShutString
import Derived.Test.YtmcnoaeaalchiaaArgs
import Derived.Test.YtmcnoaeaalchiaaArgsN
namespace Go.Proofs.Ytmcnoaeaalchiaa.lawRecOne
set_option maxRecDepth 100000
open Go.ChangeShapes Go.WideShapes Go.ChangeAt Go.RowKit
open Go.ChangeMaps (open_string shut_string)

theorem own : ownKnob Try.prog.godebug = none := by kernel_rfl
theorem laidOut : laidOutB Try.prog = true := by kernel_rfl

set_option maxRecDepth 100000 in
theorem lifted (os : Os) (started : os.Started) (H : Type) (enc : TypeId × Value → H) :
    ReturnsInHanded {} Try.checked os 5 .any (Rows.recOneSpec.pre6 enc Try.prog Try.f5 Rows.recOneRow.domain false) (Rows.recOneSpec.post enc Try.prog Try.f5 false true false false) := by
  refine returnsInHanded_of_change (C := Try.checked) own started (by kernel_rfl) Try.func5
    (ChangeSpec.witness6 (enc := enc) (C := Try.checked) false ⟨#[], #[.agg #[.int .i64 0, .int .i64 0, .int .i64 0], .agg #[.int .i64 0, .int .i64 0, .int .i64 0]], []⟩ 8 (by kernel_rfl) (by kernel_rfl) (by kernel_rfl) (by kernel_rfl)) ?_
  intro W base args ds gs before hval0 hW _ _
  have hval : ∀ (j : Nat) t v, Try.f5.params[j]? = some t → args[j]? = some v → Value.okWide Try.prog W .any base t v := hval0
  have hW' := hW
  obtain ⟨p, q, hA0, hV, rfl, _, _⟩ := hW
  have hA : DataW.TrodAll enc Try.prog W 0 (fun _ => true) true Try.f5.params.toList args.toList ds p := hA0
  rw [Try.params5] at hA hval
  obtain ⟨v0, vs0, d0, ds0, p0, q0, hargs, rfl, rfl, h0, r0⟩ := trodAll_cons hA
  obtain ⟨v1, vs1, d1, ds1, p1, q1, rfl, rfl, rfl, h1, r1⟩ := trodAll_cons r0
  obtain ⟨rfl, rfl, rfl⟩ := trodAll_nil r1
  obtain rfl : args = #[v0, v1] := by cases args; simp_all
  obtain ⟨rfl, rfl⟩ := trodVars_none hV
  have k0 := h0
  obtain ⟨zs0, n0, e0⟩ := open_intsN Try.underlying23 (by kernel_rfl) (by intro j f hj; rcases j with _ | _ | _ | j <;> simp at hj <;> subst hj <;> exact Try.underlying3) (by kernel_rfl) (hval 0 23 v0 rfl rfl) h0
  obtain ⟨aa0, ab0, ac0, rfl⟩ := list3 (n0.trans rfl)
  obtain rfl : v0 = .agg #[.int .i64 aa0, .int .i64 ab0, .int .i64 ac0] := e0
  have k1 := h1
  obtain ⟨zs1, n1, e1⟩ := open_intsN Try.underlying23 (by kernel_rfl) (by intro j f hj; rcases j with _ | _ | _ | j <;> simp at hj <;> subst hj <;> exact Try.underlying3) (by kernel_rfl) (hval 1 23 v1 rfl rfl) h1
  obtain ⟨aa1, ab1, ac1, rfl⟩ := list3 (n1.trans rfl)
  obtain rfl : v1 = .agg #[.int .i64 aa1, .int .i64 ab1, .int .i64 ac1] := e1
  clear hA0 hval0
  simp only [List.append_nil] at hW'
  have l0 : ∀ x ∈ p0, x.block < W.heap.size := fun x hx => by simpa using hW'.lt x (by simp [hx])
  have l1 : ∀ x ∈ p1, x.block < W.heap.size := fun x hx => by simpa using hW'.lt x (by simp [hx])
  refine (walk_RecOne aa0 ab0 ac0 aa1 ab1 ac1  W).mono fun e W' ⟨he, hb⟩ => ?_
  subst he
  exact ⟨_, rfl, _, _, _, [], _, [], hW', trodAll_cons_mk (shut_bool Try.underlying4 _) trodAll_mk0, (trodAll_cons_mk (Below.trod laidOut (by kernel_rfl) (of_decide_eq_true (by kernel_rfl)) k0 hb l0) (trodAll_cons_mk (Below.trod laidOut (by kernel_rfl) (of_decide_eq_true (by kernel_rfl)) k1 hb l1) trodAll_mk0)), rfl, hb.frame _, fun h => by cases h⟩

theorem over : Rows.recOneRow.holds Try.pinned (OpenSpec.ofChange Rows.recOneSpec) :=
  OpenClaim.holds_of_wide 5 Try.f5 rfl rfl rfl rfl rfl rfl rfl ⟨rfl, rfl, rfl, rfl, rfl⟩ rfl rfl rfl rfl rfl (by kernel_rfl) Try.func5 (by kernel_rfl)
    (of_decide_eq_true (by kernel_rfl)) (by unfold Func.isWrapper; first | (rw [if_pos (by decide +kernel)]; kernel_rfl) | (rw [if_neg (by decide +kernel)]; exact ⟨rfl, rfl⟩))
    (fun os started H enc _ => lifted os started H enc)

theorem proved : Rows.RecOneSaid := over
end Go.Proofs.Ytmcnoaeaalchiaa.lawRecOne
