/- The law StateOf: for all arguments it returns true, and each argument reads as it did. No condition. -/
import Derived.Test.YtgnjknboahcmgaaF7
import Derived.ShutString
import Derived.Test.YtgnjknboahcmgaaF8
import Derived.SizedLaws
namespace Go.Proofs.Ytgnjknboahcmgaa.lawStateOf
set_option maxRecDepth 100000
open Go.ChangeShapes Go.WideShapes Go.ChangeAt Go.RowKit
open Go.ChangeMaps (open_string shut_string)

theorem own : ownKnob Try.prog.godebug = none := by kernel_rfl
theorem laidOut : laidOutB Try.prog = true := by kernel_rfl

set_option maxRecDepth 100000 in
theorem lifted (os : Os) (started : os.Started) (H : Type) (enc : TypeId × Value → H) :
    ReturnsInHanded {} Try.checked os 4 .any (Rows.stateOfSpec.pre6 enc Try.prog Try.f4 Rows.stateOfRow.domain false) (Rows.stateOfSpec.post enc Try.prog Try.f4 false true false false) := by
  refine returnsInHanded_of_change_sized (C := Try.checked) own started (by kernel_rfl) Try.func4
    (ChangeSpec.witness6 (enc := enc) (C := Try.checked) false ⟨#[], #[.agg #[.int .i64 0, .int .i64 0, .int .i64 0, .int .i64 0, .int .i64 0, .int .i64 0], .agg #[.slice none 0 0, .slice none 0 0, .slice none 0 0, .slice none 0 0], .slice none 0 0], []⟩ 8 (by kernel_rfl) (by kernel_rfl) (by kernel_rfl) (by kernel_rfl)) ?_
  intro W base args ds gs before hval0 hW _ hz _
  have hval : ∀ (j : Nat) t v, Try.f4.params[j]? = some t → args[j]? = some v → Value.okWide Try.prog W .any base t v := hval0
  have hW' := hW
  obtain ⟨p, q, hA0, hV, rfl, _, _⟩ := hW
  have hA : DataW.TrodAll enc Try.prog W 0 (fun _ => true) true Try.f4.params.toList args.toList ds p := hA0
  rw [Try.params4] at hA hval
  obtain ⟨v0, vs0, d0, ds0, p0, q0, hargs, rfl, rfl, h0, r0⟩ := trodAll_cons hA
  obtain ⟨v1, vs1, d1, ds1, p1, q1, rfl, rfl, rfl, h1, r1⟩ := trodAll_cons r0
  obtain ⟨v2, vs2, d2, ds2, p2, q2, rfl, rfl, rfl, h2, r2⟩ := trodAll_cons r1
  obtain ⟨rfl, rfl, rfl⟩ := trodAll_nil r2
  obtain rfl : args = #[v0, v1, v2] := by cases args; simp_all
  obtain ⟨rfl, rfl⟩ := trodVars_none hV
  have k0 := h0
  obtain ⟨zs0, n0, e0⟩ := open_intsN Try.underlying23 (by kernel_rfl) (by intro j f hj; rcases j with _ | _ | _ | _ | _ | _ | j <;> simp at hj <;> subst hj <;> exact Try.underlying3) (by kernel_rfl) (hval 0 23 v0 rfl rfl) h0
  obtain ⟨aa0, ab0, ac0, ad0, ae0, af0, rfl⟩ := list6 (n0.trans rfl)
  obtain rfl : v0 = .agg #[.int .i64 aa0, .int .i64 ab0, .int .i64 ac0, .int .i64 ad0, .int .i64 ae0, .int .i64 af0] := e0
  have k1 := h1
  obtain ⟨a1, b1, rfl, y1⟩ := open_state (hval 1 32 v1 rfl rfl) h1
  have k2 := h2
  obtain ⟨a2, b2, c2, rfl, w2, y2⟩ := open_recs (hval 2 24 v2 rfl rfl) h2
  clear hA0 hval0
  simp only [List.append_nil] at hW'
  have l0 : ∀ x ∈ p0, x.block < W.heap.size := fun x hx => by simpa using hW'.lt x (by simp [hx])
  have l1 : ∀ x ∈ p1, x.block < W.heap.size := fun x hx => by simpa using hW'.lt x (by simp [hx])
  have l2 : ∀ x ∈ p2, x.block < W.heap.size := fun x hx => by simpa using hW'.lt x (by simp [hx])
  have s1 : b1.f.length ≤ 17592186043904 ∧ b1.c.length ≤ 17592186043904 ∧ b1.s.length ≤ 17592186043904 ∧ b1.t.length ≤ 17592186043904 :=
    state_reach k1 y1 fun m hm => by
      have h := List.all_eq_true.1 hz m (DataW.weights_mem_each (j := 1) (t := 32) (d := d1) (by kernel_rfl) rfl m hm)
      simpa using h
  clear hz
  refine (walk_StateOf aa0 ab0 ac0 ad0 ae0 af0 a1 b1 a2 b2 c2 s1 w2 W y1 y2).mono fun e W' ⟨he, hb⟩ => ?_
  subst he
  exact ⟨_, rfl, _, _, _, [], _, [], hW', trodAll_cons_mk (shut_bool Try.underlying4 _) trodAll_mk0, (trodAll_cons_mk (Below.trod laidOut (by kernel_rfl) (of_decide_eq_true (by kernel_rfl)) k0 hb l0) (trodAll_cons_mk (Below.trod laidOut (by kernel_rfl) (of_decide_eq_true (by kernel_rfl)) k1 hb l1) (trodAll_cons_mk (Below.trod laidOut (by kernel_rfl) (of_decide_eq_true (by kernel_rfl)) k2 hb l2) trodAll_mk0))), rfl, hb.frame _, fun h => by cases h⟩

theorem over : Rows.stateOfRow.holds Try.pinned (OpenSpec.ofChange Rows.stateOfSpec) :=
  OpenClaim.holds_of_wide 4 Try.f4 rfl rfl rfl rfl rfl rfl rfl ⟨rfl, rfl, rfl, rfl, rfl⟩ rfl rfl rfl rfl rfl (by kernel_rfl) Try.func4 (by kernel_rfl)
    (of_decide_eq_true (by kernel_rfl)) (by unfold Func.isWrapper; first | (rw [if_pos (by decide +kernel)]; kernel_rfl) | (rw [if_neg (by decide +kernel)]; exact ⟨rfl, rfl⟩))
    (fun os started H enc _ => lifted os started H enc)

theorem proved : Rows.StateOfSaid := over
end Go.Proofs.Ytgnjknboahcmgaa.lawStateOf
