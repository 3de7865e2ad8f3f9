/- Layer 11, the laws: RecBack. -/
import Derived.Test.YtmcnoaeaalchiaaRcL1
namespace Go.Proofs.Ytmcnoaeaalchiaa
set_option maxRecDepth 100000
open Go.RowKit

theorem takeA_ok {s : ByteArray} (h : OkR s) : takeA s = ra (kR s) (aR s) (bR s) := if_pos h
theorem takeA_no {s : ByteArray} (h : ¬ OkR s) : takeA s = ra 0 0 0 := if_neg h
theorem rec_take_rec (k a b : Int) (w : World) (h : MayR k a b) : Calls Try.prog 8 #[.string (recS k a b)] w fun r w' => r = .returned (.tuple #[.agg (ra k a b), .int .i64 0]) ∧ Below w.heap.size w w' := by
  have h2 := rec_take (recS k a b) w (by rw [recS_size]; decide)
  have hf := rec_fields h
  unfold TakeP takeE at h2
  rwa [takeA_ok (rec_ok h), if_pos (rec_ok h), hf.1, hf.2.1, hf.2.2] at h2
theorem rec_take_ok (s : ByteArray) (w : World) (hm : s.size ≤ maxLen) (h : OkR s) : Calls Try.prog 8 #[.string s] w fun r w' => r = .returned (.tuple #[.agg (ra (kR s) (aR s) (bR s)), .int .i64 0]) ∧ Below w.heap.size w w' := by
  have h2 := rec_take s w hm
  unfold TakeP takeE at h2
  rwa [takeA_ok h, if_pos h] at h2
theorem rec_take_not (s : ByteArray) (w : World) (hm : s.size ≤ maxLen) (h : ¬ OkR s) : Calls Try.prog 8 #[.string s] w fun r w' => r = .returned (.tuple #[.agg (ra 0 0 0), .int .i64 3]) ∧ Below w.heap.size w w' := by
  have h2 := rec_take s w hm
  unfold TakeP takeE at h2
  rwa [takeA_no h, if_neg h] at h2
theorem rec_may_yes (k a b : Int) (w : World) (h : MayR k a b) : Calls Try.prog 10 #[.agg (ra k a b)] w fun r w' => r = .returned (.bool true) ∧ Below w.heap.size w w' := by
  have h2 := rec_may k a b w
  unfold MayP at h2
  rwa [(mayR_iff k a b).2 h] at h2
theorem rec_may_no (k a b : Int) (w : World) (h : ¬ MayR k a b) : Calls Try.prog 10 #[.agg (ra k a b)] w fun r w' => r = .returned (.bool false) ∧ Below w.heap.size w w' := by
  have h2 := rec_may k a b w
  unfold MayP at h2
  rwa [show mayR k a b = false by rw [← Bool.not_eq_true, mayR_iff]; exact h] at h2
theorem ne_rec (k a b k' a' b' : Int) (w : World) : Sem.run Try.prog (binOp .neq 23 (.agg (ra k a b)) (.agg (ra k' a' b'))) w = .ok (.bool (!sameR k a b k' a' b')) w := by
  rw [run_neq_struct, run_equalIn_agg _ _ _ _ _ (by kernel_rfl) (by kernel_rfl), fields_rec]
  rfl

set_option maxHeartbeats 2000000 in
theorem walk_RecBack (k a b : Int) (s : ByteArray) (hs : s.size ≤ maxLen) (w : World) :
    Calls Try.prog 4 #[.agg (ra k a b), .string s] w fun r w' => r = .returned (.bool true) ∧ Below w.heap.size w w' := by
  have HS := Lib.hid hs
  have c0 : (ra k a b)[0]? = some (.int .i64 k) := rfl
  have c1 : (ra k a b)[1]? = some (.int .i64 a) := rfl
  have c2 : (ra k a b)[2]? = some (.int .i64 b) := rfl
  have z0 : (ra 0 0 0)[0]? = some (.int .i64 0) := rfl
  have z1 : (ra 0 0 0)[1]? = some (.int .i64 0) := rfl
  have z2 : (ra 0 0 0)[2]? = some (.int .i64 0) := rfl
  clear hs
  go_enter Try.func4, Try.ntmps4
  go_wp2_with fail
  refine (rec_works _).mono ?_
  rintro r w0 ⟨rfl, hb0⟩
  have HK0 := Lib.hid ((Blk.new w (ra k a b) 23).after hb0)
  have HB0 := Lib.hid (((Below.refl _ _).alloc (Nat.le_refl _) _).trans (hb0.mono (by simp)))
  clear hb0
  go_wp2_with (refine wpList_load_row rfl 23 (.tmp 2) rfl w.heap.size rfl 23 (ra k a b) (0, 0) _ HK0.out Try.underlying23 rfl size_rec ?_)
  by_cases hm : MayR k a b
  · have HM := Lib.hid hm
    clear hm
    refine (rec_put_yes k a b _ HM.out).mono ?_
    rintro r w1 ⟨rfl, hb1⟩
    have HK1 := Lib.hid (HK0.out.after hb1)
    have HB1 := Lib.hid (HB0.out.trans (hb1.mono HB0.out.size))
    clear hb1 HK0 HB0
    obtain ⟨u, hu⟩ : ∃ u, recS k a b = u := ⟨_, rfl⟩
    have HU := Lib.hid hu
    have hz : u.size = 9 := by rw [← hu]; exact recS_size _ _ _
    have hz2 : (u.size : Int) = 9 := by omega
    rw [hu]
    clear hu hz
    go_wp2_with fail
    rw [← HU.out]
    refine (rec_take_rec k a b _ HM.out).mono ?_
    rintro r w2 ⟨rfl, hb2⟩
    rw [HU.out]
    have HK2 := Lib.hid (HK1.out.after hb2)
    have HB2 := Lib.hid (HB1.out.trans (hb2.mono HB1.out.size))
    clear hb2 HK1 HB1
    have H7 := Lib.hid ((Blk.new w2 (ra 0 0 0) 23).put (ra k a b))
    have HK3 := Lib.hid ((HK2.out.alloc (.cells (ra 0 0 0) 23)).put_other (Nat.ne_of_gt HK2.out.lt) (ra k a b))
    have HB3 : Hid (Below w.heap.size w ((w2.alloc (.cells (ra 0 0 0) 23)).setRow w2.heap.size (ra k a b))) := below_put (Nat.le_of_lt HK2.out.lt) _ (HB2.out.alloc (Nat.le_of_lt HK2.out.lt) _)
    go_wp2_with (first
      | (refine wpList_store_row rfl 23 (.tmp 7) (.tmp 25) rfl w2.heap.size (ra k a b) rfl rfl 23 (ra 0 0 0) (Blk.new w2 (ra 0 0 0) 23) size_rec rfl (ra_one _ _ _) ?_)
      | (refine wpList_load_row_if rfl 23 (.tmp 7) rfl w2.heap.size rfl 23 (ra k a b) (0, 0) _ H7.out Try.underlying23 rfl size_rec ?_)
      | (refine wpList_load_row_if rfl 23 (.tmp 2) rfl w.heap.size rfl 23 (ra k a b) (0, 0) _ HK3.out Try.underlying23 rfl size_rec ?_))
    refine (rec_may_yes k a b _ HM.out).mono ?_
    rintro r w4 ⟨rfl, hb4⟩
    have HB4 := Lib.hid (HB3.out.trans (hb4.mono HB3.out.size))
    have hlt4 : w.heap.size < w4.heap.size := ((HK3.out.after hb4)).lt
    clear hb4 HK3 HB3 H7 HK2 HB2
    go_wp2_with fail
    by_cases ho : OkR s
    · have HO := Lib.hid ho
      clear ho
      refine (rec_take_ok s _ HS.out HO.out).mono ?_
      rintro r w5 ⟨rfl, hb5⟩
      have HB5 := Lib.hid (HB4.out.trans (hb5.mono HB4.out.size))
      have hlt5 : w.heap.size ≤ w5.heap.size := Nat.le_trans (Nat.le_of_lt hlt4) hb5.size
      clear hb5 HB4 hlt4
      obtain ⟨k', hk'⟩ : ∃ x, kR s = x := ⟨_, rfl⟩
      obtain ⟨a', ha'⟩ : ∃ x, aR s = x := ⟨_, rfl⟩
      obtain ⟨b', hb'⟩ : ∃ x, bR s = x := ⟨_, rfl⟩
      have HM2 : Hid (MayR k' a' b') := by rw [← hk', ← ha', ← hb']; exact HO.out.2
      have HA : Hid (recS k' a' b' = s) := by rw [← hk', ← ha', ← hb']; exact rec_again HO.out.1
      rw [hk', ha', hb']
      clear hk' ha' hb' HO
      go_wp2_with (first
        | (refine wpList_store_row rfl 23 (.tmp 9) (.tmp 53) rfl w5.heap.size (ra k' a' b') rfl rfl 23 (ra 0 0 0) (Blk.new w5 (ra 0 0 0) 23) size_rec rfl (ra_one _ _ _) ?_)
        | (refine wpList_load_row rfl 23 (.tmp 9) rfl w5.heap.size rfl 23 (ra k' a' b') (0, 0) _ ((Blk.new w5 (ra 0 0 0) 23).put (ra k' a' b')) Try.underlying23 rfl size_rec ?_))
      refine (rec_put_yes k' a' b' _ HM2.out).mono ?_
      rintro r w6 ⟨rfl, hb6⟩
      rw [HA.out]
      have HB6 : Hid (Below w.heap.size w w6) := (below_put hlt5 _ (HB5.out.alloc hlt5 _)).trans (hb6.mono (by rw [size_setRow]; simp; omega))
      clear hb6 HB5 HM2 HA
      go_wp2_with fail
      go_ret
      exact ⟨rfl, HB6.out⟩
    · have HO := Lib.hid ho
      clear ho
      refine (rec_take_not s _ HS.out HO.out).mono ?_
      rintro r w5 ⟨rfl, hb5⟩
      have HB5 := Lib.hid (HB4.out.trans (hb5.mono HB4.out.size))
      have hlt5 : w.heap.size ≤ w5.heap.size := Nat.le_trans (Nat.le_of_lt hlt4) hb5.size
      clear hb5 HB4 hlt4
      go_wp2_with (first
        | (refine wpList_store_row rfl 23 (.tmp 9) (.tmp 53) rfl w5.heap.size (ra 0 0 0) rfl rfl 23 (ra 0 0 0) (Blk.new w5 (ra 0 0 0) 23) size_rec rfl (ra_one _ _ _) ?_)
        | (refine wpList_load_row rfl 23 (.tmp 9) rfl w5.heap.size rfl 23 (ra 0 0 0) (0, 0) _ ((Blk.new w5 (ra 0 0 0) 23).put (ra 0 0 0)) Try.underlying23 rfl size_rec ?_))
      go_ret
      exact ⟨rfl, below_put hlt5 _ (HB5.out.alloc hlt5 _)⟩
  · have HM := Lib.hid hm
    clear hm
    refine (rec_put_no k a b _ HM.out).mono ?_
    rintro r w1 ⟨rfl, hb1⟩
    have HK1 := Lib.hid (HK0.out.after hb1)
    have HB1 := Lib.hid (HB0.out.trans (hb1.mono HB0.out.size))
    clear hb1 HK0 HB0
    go_wp2_with (refine wpList_load_row rfl 23 (.tmp 2) rfl w.heap.size rfl 23 (ra k a b) (0, 0) _ HK1.out Try.underlying23 rfl size_rec ?_)
    refine (rec_may_no k a b _ HM.out).mono ?_
    rintro r w4 ⟨rfl, hb4⟩
    have HB4 := Lib.hid (HB1.out.trans (hb4.mono HB1.out.size))
    have hlt4 : w.heap.size < w4.heap.size := (HK1.out.after hb4).lt
    clear hb4 HK1 HB1
    go_wp2_with fail
    by_cases ho : OkR s
    · have HO := Lib.hid ho
      clear ho
      refine (rec_take_ok s _ HS.out HO.out).mono ?_
      rintro r w5 ⟨rfl, hb5⟩
      have HB5 := Lib.hid (HB4.out.trans (hb5.mono HB4.out.size))
      have hlt5 : w.heap.size ≤ w5.heap.size := Nat.le_trans (Nat.le_of_lt hlt4) hb5.size
      clear hb5 HB4 hlt4
      obtain ⟨k', hk'⟩ : ∃ x, kR s = x := ⟨_, rfl⟩
      obtain ⟨a', ha'⟩ : ∃ x, aR s = x := ⟨_, rfl⟩
      obtain ⟨b', hb'⟩ : ∃ x, bR s = x := ⟨_, rfl⟩
      have HM2 : Hid (MayR k' a' b') := by rw [← hk', ← ha', ← hb']; exact HO.out.2
      have HA : Hid (recS k' a' b' = s) := by rw [← hk', ← ha', ← hb']; exact rec_again HO.out.1
      rw [hk', ha', hb']
      clear hk' ha' hb' HO
      go_wp2_with (first
        | (refine wpList_store_row rfl 23 (.tmp 9) (.tmp 53) rfl w5.heap.size (ra k' a' b') rfl rfl 23 (ra 0 0 0) (Blk.new w5 (ra 0 0 0) 23) size_rec rfl (ra_one _ _ _) ?_)
        | (refine wpList_load_row rfl 23 (.tmp 9) rfl w5.heap.size rfl 23 (ra k' a' b') (0, 0) _ ((Blk.new w5 (ra 0 0 0) 23).put (ra k' a' b')) Try.underlying23 rfl size_rec ?_))
      refine (rec_put_yes k' a' b' _ HM2.out).mono ?_
      rintro r w6 ⟨rfl, hb6⟩
      rw [HA.out]
      have HB6 : Hid (Below w.heap.size w w6) := (below_put hlt5 _ (HB5.out.alloc hlt5 _)).trans (hb6.mono (by rw [size_setRow]; simp; omega))
      clear hb6 HB5 HM2 HA
      go_wp2_with fail
      go_ret
      exact ⟨rfl, HB6.out⟩
    · have HO := Lib.hid ho
      clear ho
      refine (rec_take_not s _ HS.out HO.out).mono ?_
      rintro r w5 ⟨rfl, hb5⟩
      have HB5 := Lib.hid (HB4.out.trans (hb5.mono HB4.out.size))
      have hlt5 : w.heap.size ≤ w5.heap.size := Nat.le_trans (Nat.le_of_lt hlt4) hb5.size
      clear hb5 HB4 hlt4
      go_wp2_with (first
        | (refine wpList_store_row rfl 23 (.tmp 9) (.tmp 53) rfl w5.heap.size (ra 0 0 0) rfl rfl 23 (ra 0 0 0) (Blk.new w5 (ra 0 0 0) 23) size_rec rfl (ra_one _ _ _) ?_)
        | (refine wpList_load_row rfl 23 (.tmp 9) rfl w5.heap.size rfl 23 (ra 0 0 0) (0, 0) _ ((Blk.new w5 (ra 0 0 0) 23).put (ra 0 0 0)) Try.underlying23 rfl size_rec ?_))
      go_ret
      exact ⟨rfl, below_put hlt5 _ (HB5.out.alloc hlt5 _)⟩

end Go.Proofs.Ytmcnoaeaalchiaa
