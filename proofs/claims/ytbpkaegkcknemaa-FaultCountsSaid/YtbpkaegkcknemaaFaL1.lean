/- Layer 9, the laws: the chapter's example; FaultTwice. -/
import Derived.Test.YtbpkaegkcknemaaFaC3
import Derived.Test.YtbpkaegkcknemaaRef1T
namespace Go.Proofs.Ytbpkaegkcknemaa
set_option maxRecDepth 100000
open Go.RowKit Go.Shelf Go.Proofs

def exL : List Fa := [(3, 1, 0, 0), (3, 3, 0, 0)]
def exC : Array Value := #[.int .i64 3, .int .i64 1, .int .i64 0, .int .i64 0, .int .i64 3, .int .i64 3, .int .i64 0, .int .i64 0]
theorem ex_at {w : World} {g : Nat} (h : Blk w g exC 26) : FsAt w (some ⟨g, 0, none⟩) exL := by
  intro _
  refine ⟨g, 0, rfl, h.lt, fun i hi j v hj => ?_⟩
  rw [h.cell]
  have hi2 : i < 2 := hi
  have hj2 : j < 4 := (List.getElem?_eq_some_iff.1 hj).1
  match i, hi2, hi, hj with
  | 0, _, _, hj => match j, hj2, hj with
    | 0, _, hj => exact hj
    | 1, _, hj => exact hj
    | 2, _, hj => exact hj
    | 3, _, hj => exact hj
  | 1, _, _, hj => match j, hj2, hj with
    | 0, _, hj => exact hj
    | 1, _, hj => exact hj
    | 2, _, hj => exact hj
    | 3, _, hj => exact hj
theorem ex_rest {w : World} {g : Nat} (h : Blk w g exC 26) : FsAt w (some ⟨g, 4, none⟩) [(3, 3, 0, 0)] := by
  intro _
  refine ⟨g, 4, rfl, h.lt, fun i hi j v hj => ?_⟩
  rw [h.cell]
  obtain rfl : i = 0 := by simpa using hi
  have hj2 : j < 4 := (List.getElem?_eq_some_iff.1 hj).1
  match j, hj2, hj with
  | 0, _, hj => exact hj
  | 1, _, hj => exact hj
  | 2, _, hj => exact hj
  | 3, _, hj => exact hj
theorem ex_1 : meetF exL 3 1 = some (3, 1, 0, 0) := by decide +kernel
theorem ex_2 : meetF [(3, 3, 0, 0)] 3 1 = some (3, 3, 0, 0) := by decide +kernel
theorem ex_3 : cntF 1 4 exL = 1 := by decide +kernel

set_option maxHeartbeats 2000000 in
theorem fa_works (w : World) : Calls Try.prog 7 #[] w fun e w' => e = .returned (.bool true) ∧ Below w.heap.size w w' := by
  obtain ⟨w1, hw1⟩ : ∃ w1, w.alloc (.cells exC 26) = w1 := ⟨_, rfl⟩
  have hk1 : Blk w1 w.heap.size exC 26 := by rw [← hw1]; exact Blk.new w _ _
  have hb1 : Below w.heap.size w w1 := by rw [← hw1]; exact (Below.refl _ w).alloc (Nat.le_refl _) _
  have hm := fa_meets (some ⟨w.heap.size, 0, none⟩) 2 exL (by decide) 3 1 w1 (ex_at hk1)
  rw [ex_1] at hm
  have K1 := Lib.hid hk1
  have HB1 := Lib.hid hb1
  have HW := Lib.hid hw1
  have HM := Lib.hid hm
  clear hk1 hb1 hw1 hm
  go_enter Try.func7, Try.ntmps7
  go_wp2_with fail
  change Calls _ _ _ (w.alloc (.cells exC 26)) _
  rw [HW.out]
  refine HM.out.mono ?_
  rintro r w2 ⟨rfl, hb2⟩
  have K2 := Lib.hid (K1.out.after hb2)
  have HB2 := Lib.hid (HB1.out.trans (hb2.mono HB1.out.size))
  clear hb2 HM HW K1 HB1
  have hz := Blk.new w2 (encF f0).toArray 26
  obtain ⟨w3, hw3⟩ : ∃ w3, (w2.alloc (.cells (encF f0).toArray 26)).setRow w2.heap.size (encF (3, 1, 0, 0)).toArray = w3 := ⟨_, rfl⟩
  have hk3 : Blk w3 w2.heap.size (encF (3, 1, 0, 0)).toArray 26 := by rw [← hw3]; exact hz.put _
  have hb3 : Below w2.heap.size w2 w3 := by rw [← hw3]; exact below_put (Nat.le_refl _) _ ((Below.refl _ w2).alloc (Nat.le_refl _) _)
  have hm := fa_meets (some ⟨w.heap.size, 4, none⟩) 1 [(3, 3, 0, 0)] (by decide) 3 1 w3 (ex_rest (K2.out.after hb3))
  rw [ex_2] at hm
  have Z := Lib.hid hz
  have HW3 := Lib.hid hw3
  have K3 := Lib.hid hk3
  have KE := Lib.hid (K2.out.after hb3)
  have HB3 := Lib.hid (HB2.out.trans (hb3.mono HB2.out.size))
  have HM := Lib.hid hm
  clear hz hw3 hk3 hb3 hm K2
  simp only [meetV, Option.getD_some, Option.isSome_some]
  go_wp2_with (first
    | (refine wpList_store_row rfl 26 (.tmp 2) (.tmp 12) rfl w2.heap.size (encF (3, 1, 0, 0)).toArray rfl rfl 26 (encF f0).toArray Z.out size_fault rfl (encF_all _) ?_; change wpList _ _ _ _ _ ((w2.alloc (.cells (encF f0).toArray 26)).setRow w2.heap.size (encF (3, 1, 0, 0)).toArray); rw [HW3.out]))
  refine HM.out.mono ?_
  rintro r w4 ⟨rfl, hb4⟩
  have K4 := Lib.hid (K3.out.after hb4)
  have KE4 := Lib.hid (KE.out.after hb4)
  have HB4 := Lib.hid (HB3.out.trans (hb4.mono HB3.out.size))
  clear hb4 HM HW3 K3 KE HB3 HB2 Z
  have hz := Blk.new w4 (encF f0).toArray 26
  obtain ⟨w5, hw5⟩ : ∃ w5, (w4.alloc (.cells (encF f0).toArray 26)).setRow w4.heap.size (encF (3, 3, 0, 0)).toArray = w5 := ⟨_, rfl⟩
  have hk5 : Blk w5 w4.heap.size (encF (3, 3, 0, 0)).toArray 26 := by rw [← hw5]; exact hz.put _
  have hb5 : Below w4.heap.size w4 w5 := by rw [← hw5]; exact below_put (Nat.le_refl _) _ ((Below.refl _ w4).alloc (Nat.le_refl _) _)
  have c1 : w5.cell? ⟨w2.heap.size, 1, none⟩ = some (.int .i64 1) := (K4.out.after hb5).cell 1
  have c2 : w5.cell? ⟨w4.heap.size, 1, none⟩ = some (.int .i64 3) := hk5.cell 1
  have hm := fa_count (some ⟨w.heap.size, 0, none⟩) 2 exL (by decide) 1 4 w5 (ex_at (KE4.out.after hb5))
  rw [ex_3] at hm
  have Z := Lib.hid hz
  have HW5 := Lib.hid hw5
  have HB5 := Lib.hid (HB4.out.trans (hb5.mono HB4.out.size))
  have HM := Lib.hid hm
  clear hz hw5 hk5 hb5 hm K4 KE4 HB4
  simp only [meetV, Option.getD_some, Option.isSome_some]
  go_wp2_with (first
    | (refine wpList_store_row rfl 26 (.tmp 4) (.tmp 18) rfl w4.heap.size (encF (3, 3, 0, 0)).toArray rfl rfl 26 (encF f0).toArray Z.out size_fault rfl (encF_all _) ?_; change wpList _ _ _ _ _ ((w4.alloc (.cells (encF f0).toArray 26)).setRow w4.heap.size (encF (3, 3, 0, 0)).toArray); rw [HW5.out]))
  refine HM.out.mono ?_
  rintro r w6 ⟨rfl, hb6⟩
  have HB6 := Lib.hid (HB5.out.trans (hb6.mono HB5.out.size))
  clear hb6
  go_wp2_with fail
  go_ret
  exact ⟨rfl, HB6.out⟩

theorem text_neF {a b : ByteArray} (h : a ≠ b) : (a.toList == b.toList) = false := by
  rw [ByteArray.toList_eq, ByteArray.toList_eq, beq_eq_false_iff_ne]
  exact fun e => h (bytes_ext e)
theorem flipF_size (s : ByteArray) (x : Fa) : (flipF s x).size = s.size := by
  unfold flipF
  split
  · rename_i h; rw [h]; rfl
  · have := bitF_lt s x (by omega)
    exact flipS_size _ _ _ (by omega)
theorem flipF_twice (s : ByteArray) (x : Fa) : flipF (flipF s x) x = s := by
  by_cases h0 : s.size = 0
  · have := empty_of_size h0
    subst this
    rfl
  · have hb := bitF_lt s x (by omega)
    have e : bitF (flipF s x) x = bitF s x := by unfold bitF; rw [flipF_size]
    unfold flipF at e ⊢
    rw [if_neg h0] at e ⊢
    rw [flipS_size _ _ _ (by omega), if_neg h0, e]
    exact flipS_twice s _ _ (by omega) (by omega)
theorem flipF_ne (s : ByteArray) (x : Fa) : flipF s x = s ↔ s.size = 0 := by
  constructor
  · intro h
    apply Classical.byContradiction
    intro h0
    have hb := bitF_lt s x (by omega)
    unfold flipF at h
    rw [if_neg h0] at h
    have h2 := congrArg (fun t : ByteArray => t.data.toList) h
    (try simp only at h2)
    rw [flipS_list s _ _ (by omega)] at h2
    have h3 := congrArg (fun t : List UInt8 => t.getD (bitF s x / 8) 0) h2
    (try simp only at h3)
    rw [fl_get _ _ _ _ (by rw [len_list]; omega), if_pos rfl] at h3
    exact fb_self _ _ (by omega) h3
  · intro h
    unfold flipF
    rw [if_pos h]
    exact (empty_of_size h).symm

set_option maxHeartbeats 2000000 in
theorem walk_FaultTwice (s : ByteArray) (x1 x2 x3 x4 : Int) (hs : s.size ≤ maxLen) (w : World) :
    Calls Try.prog 6 #[.string s, .agg #[.int .i64 x1, .int .i64 x2, .int .i64 x3, .int .i64 x4]] w fun e w' => e = .returned (.bool true) ∧ Below w.heap.size w w' := by
  have hs2 : (s.size : Int) ≤ 9223372036854775807 := by unfold maxLen at hs; omega
  have hk := Blk.new w #[.int .i64 x1, .int .i64 x2, .int .i64 x3, .int .i64 x4] 26
  obtain ⟨w1, hw1⟩ : ∃ w1, w.alloc (.cells #[.int .i64 x1, .int .i64 x2, .int .i64 x3, .int .i64 x4] 26) = w1 := ⟨_, rfl⟩
  rw [hw1] at hk
  have K1 := Lib.hid hk
  have HB1 : Hid (Below w.heap.size w w1) := by show Below _ _ _; rw [← hw1]; exact (Below.refl _ w).alloc (Nat.le_refl _) _
  have HW := Lib.hid hw1
  clear hk hw1 hs
  go_enter Try.func6, Try.ntmps6
  go_wp2_with fail
  change Calls _ _ _ (w.alloc (.cells #[.int .i64 x1, .int .i64 x2, .int .i64 x3, .int .i64 x4] 26)) _
  rw [HW.out]
  refine (fa_works w1).mono ?_
  rintro r w2 ⟨rfl, hb2⟩
  have K2 := Lib.hid (K1.out.after hb2)
  have HB2 := Lib.hid (HB1.out.trans (hb2.mono HB1.out.size))
  clear hb2
  by_cases hbig : 1000 < s.size
  · have hbz : (1000 : Int) < (s.size : Int) := by omega
    go_wp2_with fail
    go_ret
    exact ⟨rfl, HB2.out⟩
  · have hbz : ¬ (1000 : Int) < (s.size : Int) := by omega
    have hsz := flipF_size s (x1, x2, x3, x4)
    have htw := flipF_twice s (x1, x2, x3, x4)
    have hne := flipF_ne s (x1, x2, x3, x4)
    have hf1 := fa_flipped s (x1, x2, x3, x4) w2 (by omega)
    have hf2 := fun w => fa_flipped (flipF s (x1, x2, x3, x4)) (x1, x2, x3, x4) w (by rw [hsz]; omega)
    rw [htw] at hf2
    obtain ⟨t, ht⟩ : ∃ t, flipF s (x1, x2, x3, x4) = t := ⟨_, rfl⟩
    rw [ht] at hsz hne hf1 hf2
    have HF1 := Lib.hid hf1
    have HF2 := Lib.hid hf2
    clear hf1 hf2 htw ht
    by_cases h0 : s.size = 0
    · obtain rfl := hne.2 h0
      obtain rfl := empty_of_size h0
      clear hne hsz
      go_wp2_with (first
        | (refine wpList_load_row rfl 26 (.tmp 3) rfl w.heap.size rfl 26 #[.int .i64 x1, .int .i64 x2, .int .i64 x3, .int .i64 x4] (0, 0) _ K2.out Try.underlying26 rfl size_fault ?_))
      refine HF1.out.mono ?_
      rintro r w3 ⟨rfl, hb3⟩
      have K3 := Lib.hid (K2.out.after hb3)
      have HB3 := Lib.hid (HB2.out.trans (hb3.mono HB2.out.size))
      clear hb3
      go_wp2_with (first
        | (refine wpList_load_row rfl 26 (.tmp 3) rfl w.heap.size rfl 26 #[.int .i64 x1, .int .i64 x2, .int .i64 x3, .int .i64 x4] (0, 0) _ K3.out Try.underlying26 rfl size_fault ?_))
      refine (HF2.out w3).mono ?_
      rintro r w4 ⟨rfl, hb4⟩
      have HB4 := Lib.hid (HB3.out.trans (hb4.mono HB3.out.size))
      clear hb4
      go_wp2_with fail
      go_ret
      exact ⟨rfl, HB4.out⟩
    · have hts : ¬ t = s := fun e => h0 (hne.1 e)
      have htb : (t.toList == s.toList) = false := text_neF hts
      have hemp := text_fullF (q := s) (fun e => h0 (by rw [e]; rfl))
      have hzz : (t.size : Int) = (s.size : Int) := by omega
      clear hne hsz
      go_wp2_with (first
        | (refine wpList_load_row rfl 26 (.tmp 3) rfl w.heap.size rfl 26 #[.int .i64 x1, .int .i64 x2, .int .i64 x3, .int .i64 x4] (0, 0) _ K2.out Try.underlying26 rfl size_fault ?_))
      refine HF1.out.mono ?_
      rintro r w3 ⟨rfl, hb3⟩
      have K3 := Lib.hid (K2.out.after hb3)
      have HB3 := Lib.hid (HB2.out.trans (hb3.mono HB2.out.size))
      clear hb3
      go_wp2_with (first
        | (refine wpList_load_row rfl 26 (.tmp 3) rfl w.heap.size rfl 26 #[.int .i64 x1, .int .i64 x2, .int .i64 x3, .int .i64 x4] (0, 0) _ K3.out Try.underlying26 rfl size_fault ?_))
      refine (HF2.out w3).mono ?_
      rintro r w4 ⟨rfl, hb4⟩
      have HB4 := Lib.hid (HB3.out.trans (hb4.mono HB3.out.size))
      clear hb4
      go_wp2_with fail
      go_ret
      exact ⟨rfl, HB4.out⟩

end Go.Proofs.Ytbpkaegkcknemaa
