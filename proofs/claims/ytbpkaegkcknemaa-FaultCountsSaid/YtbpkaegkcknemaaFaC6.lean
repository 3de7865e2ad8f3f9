/- Package fault, walked: Without. -/
import Derived.Test.YtbpkaegkcknemaaFaC5
namespace Go.Proofs.Ytbpkaegkcknemaa
set_option maxRecDepth 100000
open Go.RowKit Go.Shelf Go.Proofs

theorem fa_delete_nil (B : Nat) (w : World) :
    Calls Try.prog 32 #[.slice none 0 0, .func (.func 33) #[] #[.pointer (some ⟨B, 0, none⟩)]] w fun e w' => e = .returned (.slice none 0 0) ∧ Below w.heap.size w w' := by
  have hx : ∀ w, Calls Try.prog 19 #[.slice none 0 0, .func (.func 33) #[] #[.pointer (some ⟨B, 0, none⟩)]] w fun e w' => e = .returned (.int .i64 (-1)) ∧ w' = w := fun w => by
    go_enter Try.func19, Try.ntmps19
    go_wp2
    refine wp_loop_rounds 1 ?_
    rw [rounds_succ]
    go_wp2
    go_ret
    exact ⟨rfl, rfl⟩
  go_enter Try.func32, Try.ntmps32
  go_wp2_with fail
  refine (hx w).mono ?_
  rintro r w1 ⟨rfl, rfl⟩
  clear hx
  go_wp2_with fail
  go_ret
  exact ⟨rfl, Below.refl _ _⟩

/-- a call that gives these faults in a slice -/
def GivesF (w : World) (l : List Fa) (e : Ending) (w' : World) : Prop := ∃ oa cap, e = .returned (.slice oa l.length cap) ∧ FsAt w' oa l ∧ Below w.heap.size w w'

set_option maxHeartbeats 1000000 in
theorem fa_without (oa : Option Addr) (cap : Nat) (l : List Fa) (hl : l.length ≤ 1000000) (k : Int) (w : World) (ha : FsAt w oa l) :
    Calls Try.prog 17 #[.slice oa l.length cap, .int .i64 k] w (GivesF w (others k l)) := by
  obtain ⟨w1, hw1⟩ : ∃ w1, w.alloc (.cells #[.int .i64 k] 3) = w1 := ⟨_, rfl⟩
  have hk1 : Blk w1 w.heap.size #[.int .i64 k] 3 := by rw [← hw1]; exact Blk.new w _ _
  have hb1 : Below w.heap.size w w1 := by rw [← hw1]; exact (Below.refl _ w).alloc (Nat.le_refl _) _
  have hcl := fa_clone oa cap l hl w1 (ha.below hb1)
  have K1 := Lib.hid hk1
  have HB1 := Lib.hid hb1
  have HW := Lib.hid hw1
  have HCL := Lib.hid hcl
  have HL := Lib.hid hl
  obtain ⟨n, hn⟩ : ∃ n, l.length = n := ⟨_, rfl⟩
  have HN := Lib.hid hn
  rw [hn] at HCL ⊢
  clear hk1 hb1 hw1 hcl ha hl hn
  go_enter Try.func17, Try.ntmps17
  go_wp2_with fail
  change Calls _ _ _ (w.alloc (.cells #[.int .i64 k] 3)) _
  rw [HW.out]
  refine HCL.out.mono ?_
  rintro r w2 ⟨v, rfl, hown, hb2⟩
  have K2 := Lib.hid (K1.out.after hb2)
  have HB2 := Lib.hid (HB1.out.trans (hb2.mono HB1.out.size))
  clear HCL HW
  rcases hown with ⟨rfl, hl0⟩ | ⟨g, cap2, rfl, hg, hcap, hrow⟩
  · have HL0 := Lib.hid hl0
    clear hb2 hl0
    go_wp2_with fail
    refine (fa_delete_nil w.heap.size w2).mono ?_
    rintro r w3 ⟨rfl, hb3⟩
    have HB3 := Lib.hid (HB2.out.trans (hb3.mono HB2.out.size))
    clear hb3
    go_wp2_with fail
    go_ret
    rw [HL0.out]
    exact ⟨none, 0, rfl, FsAt.nil _ _, HB3.out⟩
  · have hdel := fa_delete k w.heap.size g cap2 l HL.out hcap w2 K2.out.lt (K2.out.cell 0) (by have := HB1.out.size; have := K1.out.lt; omega) hrow
    have HG : Hid (w.heap.size ≤ g) := by show _ ≤ _; have := HB1.out.size; omega
    rw [HN.out] at hdel ⊢
    clear hb2 hrow hcap hg
    go_wp2_with fail
    refine hdel.mono ?_
    rintro r w3 ⟨rfl, hf3, ho3⟩
    have HF3 := Lib.hid hf3
    have HO3 := Lib.hid ho3
    clear hf3 ho3 hdel
    go_wp2_with fail
    go_ret
    exact ⟨_, _, rfl, HF3.out, OG.below HB2.out HO3.out (Nat.le_refl _) HG.out⟩

end Go.Proofs.Ytbpkaegkcknemaa
