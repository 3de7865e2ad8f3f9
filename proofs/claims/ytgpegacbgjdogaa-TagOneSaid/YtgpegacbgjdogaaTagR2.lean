/- The reference of layer 4, walked: Encode of a tag that may be. -/
import Derived.Test.YtgpegacbgjdogaaTagR
import Derived.Test.YtgpegacbgjdogaaInv
namespace Go.Proofs.Ytgpegacbgjdogaa
open Go.RowKit

theorem conv_cells (g : Nat) (c d : Int) (W : World) (h0 : W.cell? ⟨g, 0, none⟩ = some (.int .u8 c)) (h1 : W.cell? ⟨g, 1, none⟩ = some (.int .u8 d)) :
    Sem.run Try.prog (convert 35 9 (.slice (some ⟨g, 0, none⟩) 2 2)) W = .ok (.string (strOfNums [c, d])) W := by
  refine run_convert_bytes_arg (P := Try.prog) _ 35 5 Try.underlying35 Try.underlying5 g 0 2 2 [c, d] rfl ?_ 9 Try.underlying9
  intro i hi
  rw [Nat.zero_add]
  rcases i with _ | _ | i
  · exact h0
  · exact h1
  · omega
/-- what each operation of Encode's return leaves -/
def RE (k l q e : Int) (B : Nat) : Nat → Value → World → Prop
  | 0, v, _ => v = .pointer (some ⟨B, 0, none⟩)
  | 1, v, _ => v = .int .i64 k
  | 2, v, _ => v = .int .u8 k
  | 3, v, w => ∃ g, v = .slice (some ⟨g, 0, none⟩) 2 2 ∧ w.cell? ⟨g, 0, none⟩ = some (.int .u8 27) ∧ w.cell? ⟨g, 1, none⟩ = some (.int .u8 k)
  | 4, v, _ => v = .string (strOfNums [27, k])
  | 5, v, _ => v = .pointer (some ⟨B, 1, none⟩)
  | 6, v, _ => v = .int .i64 l
  | 7, v, _ => v = .string (leS l 2)
  | 8, v, _ => v = .string (strOfNums [27, k] ++ leS l 2)
  | 9, v, _ => v = .pointer (some ⟨B, 2, none⟩)
  | 10, v, _ => v = .int .i64 q
  | 11, v, _ => v = .string (leS q 6)
  | 12, v, _ => v = .string ((strOfNums [27, k] ++ leS l 2) ++ leS q 6)
  | 13, v, _ => v = .pointer (some ⟨B, 3, none⟩)
  | 14, v, _ => v = .int .i64 e
  | 15, v, _ => v = .string (leS e 4)
  | 16, v, _ => v = .string (((strOfNums [27, k] ++ leS l 2) ++ leS q 6) ++ leS e 4)
  | 17, v, w => ∃ g, v = .slice (some ⟨g, 0, none⟩) 2 2 ∧ w.cell? ⟨g, 0, none⟩ = some (.int .u8 0) ∧ w.cell? ⟨g, 1, none⟩ = some (.int .u8 0)
  | 18, v, _ => v = .string (strOfNums [0, 0])
  | 19, v, _ => v = .string (tagS k l q e)
  | 20, v, _ => v = .string (tagS k l q e)
  | _, v, _ => v = .int .i64 0
def TB (w w' : World) : Prop := Below w.heap.size w w'
theorem RE.mono {k l q e : Int} {B : Nat} : ∀ (i : Nat) (v : Value) (w w' : World), RE k l q e B i v w → TB w w' → RE k l q e B i v w' := by
  intro i v w w' h hb
  have c3 : ∀ c d : Int, (∃ g, v = .slice (some ⟨g, 0, none⟩) 2 2 ∧ w.cell? ⟨g, 0, none⟩ = some (.int .u8 c) ∧ w.cell? ⟨g, 1, none⟩ = some (.int .u8 d)) → ∃ g, v = .slice (some ⟨g, 0, none⟩) 2 2 ∧ w'.cell? ⟨g, 0, none⟩ = some (.int .u8 c) ∧ w'.cell? ⟨g, 1, none⟩ = some (.int .u8 d) := by
    rintro c d ⟨g, h1, h2, h3⟩
    exact ⟨g, h1, (Below.cell (p := ⟨g, 0, none⟩) hb (cell_lt h2)).trans h2, (Below.cell (p := ⟨g, 1, none⟩) hb (cell_lt h3)).trans h3⟩
  unfold RE at *
  split at h <;> first | exact c3 _ _ h | exact h
/-- the frame, as far as the return reads it -/
def BaseE (B : Nat) (a : Act) : Prop := a.tmps.size = 27 ∧ a.defers = [] ∧ a.tmps.getD 1 undef = .pointer (some ⟨B, 0, none⟩)
theorem BaseE.put {B : Nat} {a : Act} {d : Tmp} {v : Value} (h : BaseE B a) (hd : d ≠ 1) : BaseE B (a.put (some d) v) :=
  ⟨by simp [Act.put, h.1], h.2.1, by rw [← h.2.2]; simp [Act.put, Array.getD_eq_getD_getElem?, Array.getElem?_setIfInBounds_ne hd]⟩

set_option maxHeartbeats 1000000 in
set_option maxRecDepth 100000 in
theorem rtag_enc_yes (k l q e : Int) (w : World) (hm : MayT k l q e) : Calls Try.prog 8 #[.agg #[.int .i64 k, .int .i64 l, .int .i64 q, .int .i64 e]] w fun r w' => r = .returned (.tuple #[.string (tagS k l q e), .int .i64 0]) ∧ Below w.heap.size w w' := by
  have HB : Hid (mayB k l q e = true) := (mayB_iff k l q e).2 hm
  obtain ⟨h1, h2, h3, h4, h5, h6, h7, h8⟩ := hm
  have hwk : IntKind.u8.wrap k = k := by rw [IntKind.wrap_u8]; omega
  have z0 : (strOfNums [27, k]).size = 2 := rfl
  have z1 : (leS l 2).size = 2 := leS_size _ _
  have z2 : (leS q 6).size = 6 := leS_size _ _
  have z3 : (leS e 4).size = 4 := leS_size _ _
  have z4 : (strOfNums [0, 0]).size = 2 := rfl
  have b2 : l < p2 (8 * 2) := by rw [show p2 (8 * 2) = 65536 by decide]; omega
  have b6 : q < p2 (8 * 6) := by rw [show p2 (8 * 6) = 281474976710656 by decide]; omega
  have b4 : e < p2 (8 * 4) := by rw [show p2 (8 * 4) = 4294967296 by decide]; omega
  have HN := Lib.hid (And.intro b2 (And.intro b6 b4))
  clear b2 b6 b4
  have HC := Lib.hid (tag_cat k l q e)
  have hK := KT.first k l q e w 23
  go_enter Try.func8, Try.ntmps8
  go_wp2_with fail
  refine (rtag_may_any k l q e _).mono ?_
  rintro r w1 ⟨rfl, hb1⟩
  have hK1 := hK.call hb1
  rw [HB.out]
  clear hK hb1
  go_wp2_with fail
  refine wp_region_list 27 (BaseE w.heap.size) (KT k l q e w) TB (RE k l q e w.heap.size) rfl (by kernel_rfl) (fun a h => h.1) RE.mono ?base hK1.drew ⟨rfl, rfl, rfl⟩ ?steps ?fin
  case base =>
    refine ⟨?_, ?_, ?_, ?_, ?_, ?_, ?_, ?_, ?_, ?_, ?_, ?_, ?_, ?_, ?_, ?_, ?_, ?_, ?_, ?_, ?_, ?_, trivial⟩ <;> exact fun a v h => h.put (by decide)
  case steps =>
    refine ⟨?_, ?_, ?_, ?_, ?_, ?_, ?_, ?_, ?_, ?_, ?_, ?_, ?_, ?_, ?_, ?_, ?_, ?_, ?_, ?_, ?_, ?_, trivial⟩
    all_goals
      refine ⟨rfl, ?_⟩
      intro a w' hC hB hR
      have e1 := hB.2.2
      have hK := Lib.hid hC
      obtain ⟨c0, c1, c2, c3, hbl⟩ := hC
      simp [RE, slotOf, Region.binds] at hR
      unfold Oper.wp
      first
        | (obtain ⟨g, hg, d0, d1⟩ := hR; have hcv := conv_cells g _ _ w' d0 d1; go_simp; exact ⟨_, rfl, hK.out, Below.refl _ _, rfl⟩)
        | (go_simp; exact ⟨_, rfl, hK.out, Below.refl _ _, rfl⟩)
        | (go_simp; exact ⟨_, rfl, hK.out, Below.refl _ _, by rw [← HC.out]; rfl⟩)
        | (go_simp; exact ⟨_, rfl, hK.out.alloc _, (Below.refl _ _).alloc (Nat.le_refl _) _, _, rfl, by rw [World.cell?_alloc_new]; rfl, by rw [World.cell?_alloc_new]; rfl⟩)
        | (go_simp; first
            | (go_at_call_of 15 (Value.int .i64 l); refine (rtag_number l 2 _ (by omega) (by omega) (by omega) HN.out.1 (by omega)).mono ?_; rintro r w2 ⟨rfl, hb2⟩; exact ⟨_, rfl, hK.out.call hb2, hb2, rfl⟩)
            | (go_at_call_of 15 (Value.int .i64 q); refine (rtag_number q 6 _ (by omega) (by omega) (by omega) HN.out.2.1 (by omega)).mono ?_; rintro r w2 ⟨rfl, hb2⟩; exact ⟨_, rfl, hK.out.call hb2, hb2, rfl⟩)
            | (go_at_call_of 15 (Value.int .i64 e); refine (rtag_number e 4 _ (by omega) (by omega) (by omega) HN.out.2.2 (by omega)).mono ?_; rintro r w2 ⟨rfl, hb2⟩; exact ⟨_, rfl, hK.out.call hb2, hb2, rfl⟩))
  case fin =>
    intro a w' hC hB hR
    have s2 := hR 20 (by decide)
    have s3 := hR 21 (by decide)
    simp [RE, slotOf] at s2 s3
    have hd := hB.2.1
    have HBl := Lib.hid hC.2.2.2.2
    clear hR hC hB
    go_wp2_with fail
    refine bodyPost_ret (results_tmp2 rfl _ _ _) hd ⟨?_, HBl.out⟩
    simp [Array.getD_eq_getD_getElem?, s2, s3]

end Go.Proofs.Ytgpegacbgjdogaa
