/- The walks of the laws TagBack, TagOne and TagFar. -/
import Derived.Test.YtgpegacbgjdogaaTagL1
namespace Go.Proofs.Ytgpegacbgjdogaa
open Go.RowKit

theorem decA_tag {k l q e : Int} (h : MayT k l q e) : decA (tagS k l q e) = ta k l q e ∧ decE (tagS k l q e) = 0 := by
  have ho := tag_ok h
  have hb := tag_bytes h
  have hf := tag_fields h
  refine ⟨?_, if_pos ho⟩
  rw [decA_ok ho, hb.2.1, hf.1, hf.2.1, hf.2.2]
theorem tag_enc_may (k l q e : Int) (w : World) (h : MayT k l q e) : Calls Try.prog 7 #[.agg (ta k l q e)] w fun r w' => r = .returned (.tuple #[.string (tagS k l q e), .int .i64 0]) ∧ Below w.heap.size w w' := by
  have h2 := tag_enc k l q e w
  unfold EncT encT encE at h2
  rwa [if_pos h, if_pos h] at h2
theorem tag_enc_not (k l q e : Int) (w : World) (h : ¬ MayT k l q e) : Calls Try.prog 7 #[.agg (ta k l q e)] w fun r w' => r = .returned (.tuple #[.string ByteArray.empty, .int .i64 1]) ∧ Below w.heap.size w w' := by
  have h2 := tag_enc k l q e w
  unfold EncT encT encE at h2
  rwa [if_neg h, if_neg h] at h2
theorem tag_dec_tag (k l q e : Int) (w : World) (h : MayT k l q e) : Calls Try.prog 9 #[.string (tagS k l q e)] w fun r w' => r = .returned (.tuple #[.agg (ta k l q e), .int .i64 0]) ∧ Below w.heap.size w w' := by
  have h2 := tag_dec (tagS k l q e) w (by rw [tagS_size]; decide)
  unfold DecT at h2
  rwa [(decA_tag h).1, (decA_tag h).2] at h2
theorem tag_dec_ok (s : ByteArray) (w : World) (hm : s.size ≤ maxLen) (h : OkT s) : Calls Try.prog 9 #[.string s] w fun r w' => r = .returned (.tuple #[.agg (ta (byteT s 1) (lT s) (qT s) (eT s)), .int .i64 0]) ∧ Below w.heap.size w w' := by
  have h2 := tag_dec s w hm
  unfold DecT decE at h2
  rwa [decA_ok h, if_pos h] at h2
theorem tag_dec_not (s : ByteArray) (w : World) (hm : s.size ≤ maxLen) (h : ¬ OkT s) : Calls Try.prog 9 #[.string s] w fun r w' => r = .returned (.tuple #[.agg (ta 0 0 0 0), .int .i64 3]) ∧ Below w.heap.size w w' := by
  have h2 := tag_dec s w hm
  unfold DecT decE at h2
  rwa [decA_no h, if_neg h] at h2
theorem tag_may_yes (k l q e : Int) (w : World) (h : MayT k l q e) : Calls Try.prog 11 #[.agg (ta k l q e)] w fun r w' => r = .returned (.bool true) ∧ Below w.heap.size w w' := by
  have h2 := tag_may k l q e w
  unfold MayPost at h2
  rwa [(mayB_iff k l q e).2 h] at h2
theorem tag_may_no (k l q e : Int) (w : World) (h : ¬ MayT k l q e) : Calls Try.prog 11 #[.agg (ta k l q e)] w fun r w' => r = .returned (.bool false) ∧ Below w.heap.size w w' := by
  have h2 := tag_may k l q e w
  unfold MayPost at h2
  rwa [show mayB k l q e = false by rw [← Bool.not_eq_true, mayB_iff]; exact h] at h2

set_option maxHeartbeats 2000000 in
set_option maxRecDepth 100000 in
theorem walk_TagBack (k l q e : Int) (s : ByteArray) (hs : s.size ≤ maxLen) (w : World) :
    Calls Try.prog 4 #[.agg (ta k l q e), .string s] w fun r w' => r = .returned (.bool true) ∧ Below w.heap.size w w' := by
  have HS := Lib.hid hs
  have c0 : (ta k l q e)[0]? = some (.int .i64 k) := rfl
  have c1 : (ta k l q e)[1]? = some (.int .i64 l) := rfl
  have c2 : (ta k l q e)[2]? = some (.int .i64 q) := rfl
  have c3 : (ta k l q e)[3]? = some (.int .i64 e) := rfl
  have z0 : (ta 0 0 0 0)[0]? = some (.int .i64 0) := rfl
  have z1 : (ta 0 0 0 0)[1]? = some (.int .i64 0) := rfl
  have z2 : (ta 0 0 0 0)[2]? = some (.int .i64 0) := rfl
  have z3 : (ta 0 0 0 0)[3]? = some (.int .i64 0) := rfl
  clear hs
  go_enter Try.func4, Try.ntmps4
  go_wp2_with fail
  refine (works_any _).mono ?_
  rintro r w0 ⟨rfl, hb0⟩
  have HK0 := Lib.hid ((Blk.new w (ta k l q e) 23).after hb0)
  have HB0 := Lib.hid (((Below.refl _ _).alloc (Nat.le_refl _) _).trans (hb0.mono (by simp)))
  clear hb0
  go_wp2_with (refine wpList_load_row rfl 23 (.tmp 2) rfl w.heap.size rfl 23 (ta k l q e) (0, 0) _ HK0.out Try.underlying23 rfl size_tag ?_)
  by_cases hm : MayT k l q e
  · have HM := Lib.hid hm
    clear hm
    refine (tag_enc_may k l q e _ HM.out).mono ?_
    rintro r w1 ⟨rfl, hb1⟩
    have HK1 := Lib.hid (HK0.out.after hb1)
    have HB1 := Lib.hid (HB0.out.trans (hb1.mono HB0.out.size))
    clear hb1 HK0 HB0
    obtain ⟨u, hu⟩ : ∃ u, tagS k l q e = u := ⟨_, rfl⟩
    have HU := Lib.hid hu
    have hz : u.size = 16 := by rw [← hu]; exact tagS_size _ _ _ _
    have hz2 : (u.size : Int) = 16 := by omega
    rw [hu]
    clear hu hz
    go_wp2_with fail
    rw [← HU.out]
    refine (tag_dec_tag k l q e _ HM.out).mono ?_
    rintro r w2 ⟨rfl, hb2⟩
    rw [HU.out]
    have HK2 := Lib.hid (HK1.out.after hb2)
    have HB2 := Lib.hid (HB1.out.trans (hb2.mono HB1.out.size))
    clear hb2 HK1 HB1
    have H7 := Lib.hid ((Blk.new w2 (ta 0 0 0 0) 23).put (ta k l q e))
    have HK3 := Lib.hid ((HK2.out.alloc (.cells (ta 0 0 0 0) 23)).put_other (Nat.ne_of_gt HK2.out.lt) (ta k l q e))
    have HB3 : Hid (Below w.heap.size w ((w2.alloc (.cells (ta 0 0 0 0) 23)).setRow w2.heap.size (ta k l q e))) := below_put (Nat.le_of_lt HK2.out.lt) _ (HB2.out.alloc (Nat.le_of_lt HK2.out.lt) _)
    go_wp2_with (first
      | (refine wpList_store_row rfl 23 (.tmp 7) (.tmp 25) rfl w2.heap.size (ta k l q e) rfl rfl 23 (ta 0 0 0 0) (Blk.new w2 (ta 0 0 0 0) 23) size_tag rfl (ta_one _ _ _ _) ?_)
      | (refine wpList_load_row_if rfl 23 (.tmp 7) rfl w2.heap.size rfl 23 (ta k l q e) (0, 0) _ H7.out Try.underlying23 rfl size_tag ?_)
      | (refine wpList_load_row_if rfl 23 (.tmp 2) rfl w.heap.size rfl 23 (ta k l q e) (0, 0) _ HK3.out Try.underlying23 rfl size_tag ?_))
    refine (tag_may_yes k l q e _ HM.out).mono ?_
    rintro r w4 ⟨rfl, hb4⟩
    have HB4 := Lib.hid (HB3.out.trans (hb4.mono HB3.out.size))
    have hlt4 : w.heap.size < w4.heap.size := ((HK3.out.after hb4)).lt
    clear hb4 HK3 HB3 H7 HK2 HB2
    go_wp2_with fail
    by_cases ho : OkT s
    · have HO := Lib.hid ho
      clear ho
      refine (tag_dec_ok s _ HS.out HO.out).mono ?_
      rintro r w5 ⟨rfl, hb5⟩
      have HB5 := Lib.hid (HB4.out.trans (hb5.mono HB4.out.size))
      have hlt5 : w.heap.size ≤ w5.heap.size := Nat.le_trans (Nat.le_of_lt hlt4) hb5.size
      clear hb5 HB4 hlt4
      obtain ⟨k', hk'⟩ : ∃ x, byteT s 1 = x := ⟨_, rfl⟩
      obtain ⟨l', hl'⟩ : ∃ x, lT s = x := ⟨_, rfl⟩
      obtain ⟨q', hq'⟩ : ∃ x, qT s = x := ⟨_, rfl⟩
      obtain ⟨e', he'⟩ : ∃ x, eT s = x := ⟨_, rfl⟩
      have HM2 : Hid (MayT k' l' q' e') := by rw [← hk', ← hl', ← hq', ← he']; exact HO.out.2
      have HA : Hid (tagS k' l' q' e' = s) := by rw [← hk', ← hl', ← hq', ← he']; exact tag_again HO.out
      rw [hk', hl', hq', he']
      clear hk' hl' hq' he' HO
      go_wp2_with (first
        | (refine wpList_store_row rfl 23 (.tmp 9) (.tmp 47) rfl w5.heap.size (ta k' l' q' e') rfl rfl 23 (ta 0 0 0 0) (Blk.new w5 (ta 0 0 0 0) 23) size_tag rfl (ta_one _ _ _ _) ?_)
        | (refine wpList_load_row rfl 23 (.tmp 9) rfl w5.heap.size rfl 23 (ta k' l' q' e') (0, 0) _ ((Blk.new w5 (ta 0 0 0 0) 23).put (ta k' l' q' e')) Try.underlying23 rfl size_tag ?_))
      refine (tag_enc_may k' l' q' e' _ HM2.out).mono ?_
      rintro r w6 ⟨rfl, hb6⟩
      rw [HA.out]
      have HB6 : Hid (Below w.heap.size w w6) := (below_put hlt5 _ (HB5.out.alloc hlt5 _)).trans (hb6.mono (by rw [size_setRow]; simp; omega))
      clear hb6 HB5 HM2 HA
      go_wp2_with fail
      go_ret
      exact ⟨rfl, HB6.out⟩
    · have HO := Lib.hid ho
      clear ho
      refine (tag_dec_not s _ HS.out HO.out).mono ?_
      rintro r w5 ⟨rfl, hb5⟩
      have HB5 := Lib.hid (HB4.out.trans (hb5.mono HB4.out.size))
      have hlt5 : w.heap.size ≤ w5.heap.size := Nat.le_trans (Nat.le_of_lt hlt4) hb5.size
      clear hb5 HB4 hlt4
      go_wp2_with (first
        | (refine wpList_store_row rfl 23 (.tmp 9) (.tmp 47) rfl w5.heap.size (ta 0 0 0 0) rfl rfl 23 (ta 0 0 0 0) (Blk.new w5 (ta 0 0 0 0) 23) size_tag rfl (ta_one _ _ _ _) ?_)
        | (refine wpList_load_row rfl 23 (.tmp 9) rfl w5.heap.size rfl 23 (ta 0 0 0 0) (0, 0) _ ((Blk.new w5 (ta 0 0 0 0) 23).put (ta 0 0 0 0)) Try.underlying23 rfl size_tag ?_))
      go_ret
      exact ⟨rfl, below_put hlt5 _ (HB5.out.alloc hlt5 _)⟩
  · have HM := Lib.hid hm
    clear hm
    refine (tag_enc_not k l q e _ HM.out).mono ?_
    rintro r w4 ⟨rfl, hb4⟩
    have HB4 := Lib.hid (HB0.out.trans (hb4.mono HB0.out.size))
    have hlt4 : w.heap.size < w4.heap.size := (HK0.out.after hb4).lt
    clear hb4 HK0 HB0
    go_wp2_with fail
    by_cases ho : OkT s
    · have HO := Lib.hid ho
      clear ho
      refine (tag_dec_ok s _ HS.out HO.out).mono ?_
      rintro r w5 ⟨rfl, hb5⟩
      have HB5 := Lib.hid (HB4.out.trans (hb5.mono HB4.out.size))
      have hlt5 : w.heap.size ≤ w5.heap.size := Nat.le_trans (Nat.le_of_lt hlt4) hb5.size
      clear hb5 HB4 hlt4
      obtain ⟨k', hk'⟩ : ∃ x, byteT s 1 = x := ⟨_, rfl⟩
      obtain ⟨l', hl'⟩ : ∃ x, lT s = x := ⟨_, rfl⟩
      obtain ⟨q', hq'⟩ : ∃ x, qT s = x := ⟨_, rfl⟩
      obtain ⟨e', he'⟩ : ∃ x, eT s = x := ⟨_, rfl⟩
      have HM2 : Hid (MayT k' l' q' e') := by rw [← hk', ← hl', ← hq', ← he']; exact HO.out.2
      have HA : Hid (tagS k' l' q' e' = s) := by rw [← hk', ← hl', ← hq', ← he']; exact tag_again HO.out
      rw [hk', hl', hq', he']
      clear hk' hl' hq' he' HO
      go_wp2_with (first
        | (refine wpList_store_row rfl 23 (.tmp 9) (.tmp 47) rfl w5.heap.size (ta k' l' q' e') rfl rfl 23 (ta 0 0 0 0) (Blk.new w5 (ta 0 0 0 0) 23) size_tag rfl (ta_one _ _ _ _) ?_)
        | (refine wpList_load_row rfl 23 (.tmp 9) rfl w5.heap.size rfl 23 (ta k' l' q' e') (0, 0) _ ((Blk.new w5 (ta 0 0 0 0) 23).put (ta k' l' q' e')) Try.underlying23 rfl size_tag ?_))
      refine (tag_enc_may k' l' q' e' _ HM2.out).mono ?_
      rintro r w6 ⟨rfl, hb6⟩
      rw [HA.out]
      have HB6 : Hid (Below w.heap.size w w6) := (below_put hlt5 _ (HB5.out.alloc hlt5 _)).trans (hb6.mono (by rw [size_setRow]; simp; omega))
      clear hb6 HB5 HM2 HA
      go_wp2_with fail
      go_ret
      exact ⟨rfl, HB6.out⟩
    · have HO := Lib.hid ho
      clear ho
      refine (tag_dec_not s _ HS.out HO.out).mono ?_
      rintro r w5 ⟨rfl, hb5⟩
      have HB5 := Lib.hid (HB4.out.trans (hb5.mono HB4.out.size))
      have hlt5 : w.heap.size ≤ w5.heap.size := Nat.le_trans (Nat.le_of_lt hlt4) hb5.size
      clear hb5 HB4 hlt4
      go_wp2_with (first
        | (refine wpList_store_row rfl 23 (.tmp 9) (.tmp 47) rfl w5.heap.size (ta 0 0 0 0) rfl rfl 23 (ta 0 0 0 0) (Blk.new w5 (ta 0 0 0 0) 23) size_tag rfl (ta_one _ _ _ _) ?_)
        | (refine wpList_load_row rfl 23 (.tmp 9) rfl w5.heap.size rfl 23 (ta 0 0 0 0) (0, 0) _ ((Blk.new w5 (ta 0 0 0 0) 23).put (ta 0 0 0 0)) Try.underlying23 rfl size_tag ?_))
      go_ret
      exact ⟨rfl, below_put hlt5 _ (HB5.out.alloc hlt5 _)⟩

end Go.Proofs.Ytgpegacbgjdogaa
