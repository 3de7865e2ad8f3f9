/- Layer 11, the laws: RecOne. -/
import Derived.Test.YtmcnoaeaalchiaaRcL2
namespace Go.Proofs.Ytmcnoaeaalchiaa
set_option maxRecDepth 100000
open Go.RowKit

theorem toList_inj {a b : ByteArray} (h : a.toList = b.toList) : a = b := by
  rw [ByteArray.toList_eq, ByteArray.toList_eq] at h
  exact bytes_eq h

set_option maxHeartbeats 2000000 in
set_option maxRecDepth 100000 in
theorem walk_RecOne (k a b k' a' b' : Int) (w : World) :
    Calls Try.prog 5 #[.agg (ra k a b), .agg (ra k' a' b')] w fun r w' => r = .returned (.bool true) ∧ Below w.heap.size w w' := by
  go_enter Try.func5, Try.ntmps5
  go_wp2_with fail
  refine (rec_works _).mono ?_
  rintro r w0 ⟨rfl, hb0⟩
  have HA0 := Lib.hid (((Blk.new w (ra k a b) 23).alloc (.cells (ra k' a' b') 23)).after hb0)
  have HC0 : Hid (Blk w0 (w.heap.size + 1) (ra k' a' b') 23) := by
    have h := (Blk.new (w.alloc (.cells (ra k a b) 23)) (ra k' a' b') 23).after hb0
    rwa [show (w.alloc (.cells (ra k a b) 23)).heap.size = w.heap.size + 1 by simp] at h
  have HB0 := Lib.hid ((((Below.refl _ _).alloc (Nat.le_refl _) _).alloc (by simp) _).trans (hb0.mono (by simp; omega)))
  clear hb0
  go_wp2_with (refine wpList_load_row rfl 23 (.tmp 2) rfl w.heap.size rfl 23 (ra k a b) (0, 0) _ HA0.out Try.underlying23 rfl size_rec ?_)
  by_cases hm : MayR k a b
  · have HM := Lib.hid hm
    clear hm
    by_cases hm' : MayR k' a' b'
    · have HM' := Lib.hid hm'
      clear hm'
      refine (rec_put_yes k a b _ HM.out).mono ?_
      rintro r w1 ⟨rfl, hb1⟩
      have HA1 := Lib.hid (HA0.out.after hb1)
      have HC1 := Lib.hid (HC0.out.after hb1)
      have HB1 := Lib.hid (HB0.out.trans (hb1.mono HB0.out.size))
      clear hb1 HA0 HC0 HB0
      obtain ⟨u, hu⟩ : ∃ u, recS k a b = u := ⟨_, rfl⟩
      have HU := Lib.hid hu
      rw [hu]
      clear hu
      go_wp2_with (refine wpList_load_row rfl 23 (.tmp 3) rfl (w.heap.size + 1) rfl 23 (ra k' a' b') (0, 0) _ HC1.out Try.underlying23 rfl size_rec ?_)
      refine (rec_put_yes k' a' b' _ HM'.out).mono ?_
      rintro r w2 ⟨rfl, hb2⟩
      have HA2 := Lib.hid (HA1.out.after hb2)
      have HC2 := Lib.hid (HC1.out.after hb2)
      have HB2 := Lib.hid (HB1.out.trans (hb2.mono HB1.out.size))
      clear hb2 HA1 HC1 HB1
      obtain ⟨v, hv⟩ : ∃ v, recS k' a' b' = v := ⟨_, rfl⟩
      have HV := Lib.hid hv
      rw [hv]
      clear hv
      by_cases heq : sameR k a b k' a' b' = true
      · have huv : u = v := by
          obtain ⟨rfl, rfl, rfl⟩ := (sameR_iff _ _ _ _ _ _).1 heq
          exact HU.out.symm.trans HV.out
        subst huv
        go_wp2_with (first | (refine wpList_load_row rfl 23 (.tmp 2) rfl w.heap.size rfl 23 (ra k a b) (0, 0) _ HA2.out Try.underlying23 rfl size_rec ?_) | (refine wpList_load_row rfl 23 (.tmp 3) rfl (w.heap.size + 1) rfl 23 (ra k' a' b') (0, 0) _ HC2.out Try.underlying23 rfl size_rec ?_) | (refine wpList_eql_rec rfl (.tmp 42) (.tmp 43) rfl k a b k' a' b' rfl rfl ?_))
        go_ret
        exact ⟨rfl, HB2.out⟩
      · have huv : (u.toList == v.toList) = false := by
          rw [Bool.eq_false_iff]
          intro h
          apply heq
          rw [sameR_iff]
          refine rec_inj HM.out HM'.out ?_
          rw [HU.out, HV.out]
          have h2 : u.toList = v.toList := by simpa using h
          exact toList_inj h2
        have heq2 : sameR k a b k' a' b' = false := by simpa using heq
        clear heq
        go_wp2_with (first | (refine wpList_load_row rfl 23 (.tmp 2) rfl w.heap.size rfl 23 (ra k a b) (0, 0) _ HA2.out Try.underlying23 rfl size_rec ?_) | (refine wpList_load_row rfl 23 (.tmp 3) rfl (w.heap.size + 1) rfl 23 (ra k' a' b') (0, 0) _ HC2.out Try.underlying23 rfl size_rec ?_) | (refine wpList_eql_rec rfl (.tmp 42) (.tmp 43) rfl k a b k' a' b' rfl rfl ?_))
        go_ret
        exact ⟨rfl, HB2.out⟩
    · have HM' := Lib.hid hm'
      clear hm'
      refine (rec_put_yes k a b _ HM.out).mono ?_
      rintro r w1 ⟨rfl, hb1⟩
      have HA1 := Lib.hid (HA0.out.after hb1)
      have HC1 := Lib.hid (HC0.out.after hb1)
      have HB1 := Lib.hid (HB0.out.trans (hb1.mono HB0.out.size))
      clear hb1 HA0 HC0 HB0
      go_wp2_with (refine wpList_load_row rfl 23 (.tmp 3) rfl (w.heap.size + 1) rfl 23 (ra k' a' b') (0, 0) _ HC1.out Try.underlying23 rfl size_rec ?_)
      refine (rec_put_no k' a' b' _ HM'.out).mono ?_
      rintro r w2 ⟨rfl, hb2⟩
      have HA2 := Lib.hid (HA1.out.after hb2)
      have HC2 := Lib.hid (HC1.out.after hb2)
      have HB2 := Lib.hid (HB1.out.trans (hb2.mono HB1.out.size))
      clear hb2 HA1 HC1 HB1
      go_wp2_with (first | (refine wpList_load_row rfl 23 (.tmp 2) rfl w.heap.size rfl 23 (ra k a b) (0, 0) _ HA2.out Try.underlying23 rfl size_rec ?_) | (refine wpList_load_row_if rfl 23 (.tmp 3) rfl (w.heap.size + 1) rfl 23 (ra k' a' b') (0, 0) _ HC2.out Try.underlying23 rfl size_rec ?_))
      refine (rec_may_yes k a b _ HM.out).mono ?_
      rintro r w3 ⟨rfl, hb3⟩
      have HC3 := Lib.hid (HC2.out.after hb3)
      have HB3 := Lib.hid (HB2.out.trans (hb3.mono HB2.out.size))
      clear hb3 HA2 HC2 HB2
      go_wp2_with (refine wpList_load_row_if rfl 23 (.tmp 3) rfl (w.heap.size + 1) rfl 23 (ra k' a' b') (0, 0) _ HC3.out Try.underlying23 rfl size_rec ?_)
      refine (rec_may_no k' a' b' _ HM'.out).mono ?_
      rintro r w4 ⟨rfl, hb4⟩
      have HB4 := Lib.hid (HB3.out.trans (hb4.mono HB3.out.size))
      clear hb4 HC3 HB3
      go_wp2_with fail
      go_ret
      exact ⟨rfl, HB4.out⟩
  · have HM := Lib.hid hm
    clear hm
    by_cases hm' : MayR k' a' b'
    · have HM' := Lib.hid hm'
      clear hm'
      refine (rec_put_no k a b _ HM.out).mono ?_
      rintro r w1 ⟨rfl, hb1⟩
      have HA1 := Lib.hid (HA0.out.after hb1)
      have HC1 := Lib.hid (HC0.out.after hb1)
      have HB1 := Lib.hid (HB0.out.trans (hb1.mono HB0.out.size))
      clear hb1 HA0 HC0 HB0
      go_wp2_with (refine wpList_load_row rfl 23 (.tmp 3) rfl (w.heap.size + 1) rfl 23 (ra k' a' b') (0, 0) _ HC1.out Try.underlying23 rfl size_rec ?_)
      refine (rec_put_yes k' a' b' _ HM'.out).mono ?_
      rintro r w2 ⟨rfl, hb2⟩
      have HA2 := Lib.hid (HA1.out.after hb2)
      have HC2 := Lib.hid (HC1.out.after hb2)
      have HB2 := Lib.hid (HB1.out.trans (hb2.mono HB1.out.size))
      clear hb2 HA1 HC1 HB1
      go_wp2_with (first | (refine wpList_load_row rfl 23 (.tmp 2) rfl w.heap.size rfl 23 (ra k a b) (0, 0) _ HA2.out Try.underlying23 rfl size_rec ?_) | (refine wpList_load_row_if rfl 23 (.tmp 3) rfl (w.heap.size + 1) rfl 23 (ra k' a' b') (0, 0) _ HC2.out Try.underlying23 rfl size_rec ?_))
      refine (rec_may_no k a b _ HM.out).mono ?_
      rintro r w3 ⟨rfl, hb3⟩
      have HC3 := Lib.hid (HC2.out.after hb3)
      have HB3 := Lib.hid (HB2.out.trans (hb3.mono HB2.out.size))
      clear hb3 HA2 HC2 HB2
      go_wp2_with (refine wpList_load_row_if rfl 23 (.tmp 3) rfl (w.heap.size + 1) rfl 23 (ra k' a' b') (0, 0) _ HC3.out Try.underlying23 rfl size_rec ?_)
      refine (rec_may_yes k' a' b' _ HM'.out).mono ?_
      rintro r w4 ⟨rfl, hb4⟩
      have HB4 := Lib.hid (HB3.out.trans (hb4.mono HB3.out.size))
      clear hb4 HC3 HB3
      go_wp2_with fail
      go_ret
      exact ⟨rfl, HB4.out⟩
    · have HM' := Lib.hid hm'
      clear hm'
      refine (rec_put_no k a b _ HM.out).mono ?_
      rintro r w1 ⟨rfl, hb1⟩
      have HA1 := Lib.hid (HA0.out.after hb1)
      have HC1 := Lib.hid (HC0.out.after hb1)
      have HB1 := Lib.hid (HB0.out.trans (hb1.mono HB0.out.size))
      clear hb1 HA0 HC0 HB0
      go_wp2_with (refine wpList_load_row rfl 23 (.tmp 3) rfl (w.heap.size + 1) rfl 23 (ra k' a' b') (0, 0) _ HC1.out Try.underlying23 rfl size_rec ?_)
      refine (rec_put_no k' a' b' _ HM'.out).mono ?_
      rintro r w2 ⟨rfl, hb2⟩
      have HA2 := Lib.hid (HA1.out.after hb2)
      have HC2 := Lib.hid (HC1.out.after hb2)
      have HB2 := Lib.hid (HB1.out.trans (hb2.mono HB1.out.size))
      clear hb2 HA1 HC1 HB1
      go_wp2_with (first | (refine wpList_load_row rfl 23 (.tmp 2) rfl w.heap.size rfl 23 (ra k a b) (0, 0) _ HA2.out Try.underlying23 rfl size_rec ?_) | (refine wpList_load_row_if rfl 23 (.tmp 3) rfl (w.heap.size + 1) rfl 23 (ra k' a' b') (0, 0) _ HC2.out Try.underlying23 rfl size_rec ?_))
      refine (rec_may_no k a b _ HM.out).mono ?_
      rintro r w3 ⟨rfl, hb3⟩
      have HC3 := Lib.hid (HC2.out.after hb3)
      have HB3 := Lib.hid (HB2.out.trans (hb3.mono HB2.out.size))
      clear hb3 HA2 HC2 HB2
      go_wp2_with (refine wpList_load_row_if rfl 23 (.tmp 3) rfl (w.heap.size + 1) rfl 23 (ra k' a' b') (0, 0) _ HC3.out Try.underlying23 rfl size_rec ?_)
      refine (rec_may_no k' a' b' _ HM'.out).mono ?_
      rintro r w4 ⟨rfl, hb4⟩
      have HB4 := Lib.hid (HB3.out.trans (hb4.mono HB3.out.size))
      clear hb4 HC3 HB3
      go_wp2_with fail
      go_ret
      exact ⟨rfl, HB4.out⟩

end Go.Proofs.Ytmcnoaeaalchiaa
