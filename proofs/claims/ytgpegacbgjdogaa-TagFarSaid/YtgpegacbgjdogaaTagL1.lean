/- The chapter's example, and the walk of the law TagWrites. -/
import Derived.Test.YtgpegacbgjdogaaTagC1
import Derived.Test.YtgpegacbgjdogaaTagF1
namespace Go.Proofs.Ytgpegacbgjdogaa
open Go.RowKit

theorem ex_enc1 (w : World) : Calls Try.prog 7 #[.agg #[.int .i64 1, .int .i64 258, .int .i64 3, .int .i64 4]] w fun r w' => r = .returned (.tuple #[.string ⟨#[27, 1, 2, 1, 3, 0, 0, 0, 0, 0, 4, 0, 0, 0, 0, 0]⟩, .int .i64 0]) ∧ Below w.heap.size w w' := by
  have h := tag_enc 1 258 3 4 w
  unfold EncT at h
  rwa [show encT 1 258 3 4 = ⟨#[27, 1, 2, 1, 3, 0, 0, 0, 0, 0, 4, 0, 0, 0, 0, 0]⟩ from bytes_eq (by decide +kernel), show encE 1 258 3 4 = 0 by decide] at h
theorem ex_enc5 (w : World) : Calls Try.prog 7 #[.agg #[.int .i64 5, .int .i64 0, .int .i64 0, .int .i64 0]] w fun r w' => r = .returned (.tuple #[.string ByteArray.empty, .int .i64 1]) ∧ Below w.heap.size w w' := by
  have h := tag_enc 5 0 0 0 w
  unfold EncT at h
  rwa [show encT 5 0 0 0 = ByteArray.empty from if_neg (by decide), show encE 5 0 0 0 = 1 from if_neg (by decide)] at h

set_option maxRecDepth 100000 in
theorem works_any (w : World) : Calls Try.prog 13 #[] w fun r w' => r = .returned (.bool true) ∧ Below w.heap.size w w' := by
  go_enter Try.func13, Try.ntmps13
  go_wp2_with fail
  refine (ex_enc1 _).mono ?_
  rintro r w1 ⟨rfl, hb1⟩
  have HB1 := Lib.hid hb1
  clear hb1
  go_wp2_with fail
  refine (ex_enc5 _).mono ?_
  rintro r w2 ⟨rfl, hb2⟩
  have HB2 := Lib.hid (HB1.out.trans (hb2.mono HB1.out.size))
  clear hb2 HB1
  go_wp2_with fail
  go_ret
  exact ⟨ret_bool (by decide +kernel), HB2.out⟩

set_option maxHeartbeats 2000000 in
set_option maxRecDepth 100000 in
theorem walk_TagWrites (k l q e : Int) (s : ByteArray) (hs : s.size ≤ maxLen) (w : World) :
    Calls Try.prog 3 #[.agg (ta k l q e), .string s] w fun r w' => r = .returned (.bool true) ∧ Below w.heap.size w w' := by
  obtain ⟨k', l', q', e', hd⟩ := decA_ta s
  have HD := Lib.hid hd
  clear hd
  have HS := Lib.hid hs
  clear hs
  go_enter Try.func3, Try.ntmps3
  go_wp2_with (refine wpList_load_row rfl 23 (.tmp 2) rfl w.heap.size rfl 23 (ta k l q e) (0, 0) _ (Blk.new w (ta k l q e) 23) Try.underlying23 rfl size_tag ?_)
  refine (tag_enc k l q e _).mono ?_
  rintro r w1 ⟨rfl, hb1⟩
  have HK1 := Lib.hid ((Blk.new w (ta k l q e) 23).after hb1)
  have HB1 := Lib.hid (((Below.refl _ _).alloc (Nat.le_refl _) _).trans (hb1.mono (by simp)))
  clear hb1
  go_wp2_with (refine wpList_load_row rfl 23 (.tmp 2) rfl w.heap.size rfl 23 (ta k l q e) (0, 0) _ HK1.out Try.underlying23 rfl size_tag ?_)
  refine (rtag_enc k l q e _).mono ?_
  rintro r w2 ⟨rfl, hb2⟩
  have HK2 := Lib.hid (HK1.out.after hb2)
  have HB2 := Lib.hid (HB1.out.trans (hb2.mono HB1.out.size))
  clear hb2 HK1 HB1
  go_wp2_with fail
  refine (tag_dec s _ HS.out).mono ?_
  rintro r w3 ⟨rfl, hb3⟩
  rw [HD.out]
  have HK3 := Lib.hid (HK2.out.after hb3)
  have HB3 := Lib.hid (HB2.out.trans (hb3.mono HB2.out.size))
  clear hb3 HK2 HB2
  go_wp2_with (refine wpList_store_row rfl 23 (.tmp 9) (.tmp 26) rfl w3.heap.size (ta k' l' q' e') rfl rfl 23 (ta 0 0 0 0) (Blk.new w3 (ta 0 0 0 0) 23) size_tag rfl (ta_one _ _ _ _) ?_)
  refine (rtag_dec s _ HS.out).mono ?_
  rintro r w4 ⟨rfl, hb4⟩
  rw [HD.out]
  have HK4 := Lib.hid (((HK3.out.alloc (.cells (ta 0 0 0 0) 23)).put_other (Nat.ne_of_gt HK3.out.lt) (ta k' l' q' e')).after hb4)
  have H9 := Lib.hid (((Blk.new w3 (ta 0 0 0 0) 23).put (ta k' l' q' e')).after hb4)
  have HB4 : Hid (Below w.heap.size w w4) := (below_put (Nat.le_of_lt HK3.out.lt) _ (HB3.out.alloc (Nat.le_of_lt HK3.out.lt) _)).trans (hb4.mono (by rw [size_setRow]; simp; have := HK3.out.lt; omega))
  clear hb4 HK3 HB3
  go_wp2_with (refine wpList_store_row rfl 23 (.tmp 11) (.tmp 31) rfl w4.heap.size (ta k' l' q' e') rfl rfl 23 (ta 0 0 0 0) (Blk.new w4 (ta 0 0 0 0) 23) size_tag rfl (ta_one _ _ _ _) ?_)
  have hC : CW w.heap.size w.heap.size w3.heap.size w4.heap.size k l q e k' l' q' e' w ((w4.alloc (.cells (ta 0 0 0 0) 23)).setRow w4.heap.size (ta k' l' q' e')) :=
    ⟨(HK4.out.alloc _).put_other (Nat.ne_of_gt HK4.out.lt) _, (H9.out.alloc _).put_other (Nat.ne_of_gt H9.out.lt) _, (Blk.new w4 (ta 0 0 0 0) 23).put _, below_put (Nat.le_of_lt HK4.out.lt) _ (HB4.out.alloc (Nat.le_of_lt HK4.out.lt) _), by rw [size_setRow]; simp; have := HK4.out.lt; omega⟩
  have HCC := Lib.hid hC
  clear hC HK4 H9 HB4
  refine wp_region_list3 (SV (vsTW k l q e k' l' q' e' s) []) (BaseTW k l q e s w.heap.size w3.heap.size w4.heap.size) (CW w.heap.size w.heap.size w3.heap.size w4.heap.size k l q e k' l' q' e' w) Goes (RV (vsTW k l q e k' l' q' e' s) (fun _ _ _ => False)) rfl (by kernel_rfl) (RV.ext no_special) ?base HCC.out.drew (BaseTW.of _ (by kernel_rfl)) ?steps ?fin
  case base => exact ⟨BaseTW.put33, BaseTW.put34, BaseTW.put35, BaseTW.put36, BaseTW.put37, BaseTW.put38, BaseTW.put39, BaseTW.put40, BaseTW.put41, BaseTW.put42, BaseTW.put43, BaseTW.put44, BaseTW.put45, BaseTW.put46, BaseTW.put47, BaseTW.put48, BaseTW.put49, BaseTW.put50, BaseTW.put51, BaseTW.put52, BaseTW.put53, BaseTW.put54, BaseTW.put55, BaseTW.put56, BaseTW.put57, BaseTW.put58, BaseTW.put59, BaseTW.put60, BaseTW.put4, trivial⟩
  case steps =>
    refine ⟨?_, ?_, ?_, ?_, ?_, ?_, ?_, ?_, ?_, ?_, ?_, ?_, ?_, ?_, ?_, ?_, ?_, ?_, ?_, ?_, ?_, ?_, ?_, ?_, ?_, ?_, ?_, ?_, ?_, trivial⟩
    all_goals
      intro a w' hC hB hR
      obtain ⟨u, rfl⟩ := hB
      have HC := Lib.hid hC
      clear hC
    · clear hR
      refine if_yes (by kernel_rfl) ?_
      unfold Oper.wp
      go_simp
      exact ⟨.string (encT k l q e), rfl, HC.out, Below.refl _ _, rfl⟩
    · clear hR
      refine if_yes (by kernel_rfl) ?_
      unfold Oper.wp
      go_simp
      exact ⟨.string (encT k l q e), rfl, HC.out, Below.refl _ _, rfl⟩
    · have h33 : u 33 = .string (encT k l q e) := hR ⟨0, .data⟩ (by simp) rfl
      have h34 : u 34 = .string (encT k l q e) := hR ⟨1, .data⟩ (by simp) rfl
      clear hR
      simp only [h33, h34]
      clear h33 h34
      refine if_yes (by kernel_rfl) ?_
      unfold Oper.wp
      go_simp
      exact ⟨.bool true, rfl, HC.out, Below.refl _ _, rfl⟩
    · have h35 : u 35 = .bool true := hR ⟨2, .data⟩ (by simp) rfl
      clear hR
      simp only [h35]
      clear h35
      refine if_yes (by kernel_rfl) ?_
      unfold Oper.wp
      go_simp
      exact ⟨.bool true, rfl, HC.out, Below.refl _ _, rfl⟩
    · have g36 : u 36 = .bool true := hR ⟨3, .guard⟩ (by simp) rfl
      clear hR
      simp only [g36]
      clear g36
      refine if_yes (by kernel_rfl) ?_
      unfold Oper.wp
      go_simp
      exact ⟨.int .i64 (encE k l q e), rfl, HC.out, Below.refl _ _, rfl⟩
    · have g36 : u 36 = .bool true := hR ⟨3, .guard⟩ (by simp) rfl
      clear hR
      simp only [g36]
      clear g36
      refine if_yes (by kernel_rfl) ?_
      unfold Oper.wp
      go_simp
      exact ⟨.int .i64 (encE k l q e), rfl, HC.out, Below.refl _ _, rfl⟩
    · have g36 : u 36 = .bool true := hR ⟨3, .guard⟩ (by simp) rfl
      have h37 : u 37 = .int .i64 (encE k l q e) := hR ⟨4, .data⟩ (by simp) rfl
      have h38 : u 38 = .int .i64 (encE k l q e) := hR ⟨5, .data⟩ (by simp) rfl
      clear hR
      simp only [g36, h37, h38]
      clear g36 h37 h38
      refine if_yes (by kernel_rfl) ?_
      unfold Oper.wp
      go_simp
      exact ⟨.bool true, rfl, HC.out, Below.refl _ _, rfl⟩
    · have h36 : u 36 = .bool true := hR ⟨3, .data⟩ (by simp) rfl
      have h39 : u 39 = .bool true := hR ⟨6, .data⟩ (by simp) rfl
      clear hR
      simp only [h36, h39]
      clear h36 h39
      refine if_yes (by kernel_rfl) ?_
      unfold Oper.wp
      go_simp
      exact ⟨.bool true, rfl, HC.out, Below.refl _ _, rfl⟩
    · have h40 : u 40 = .bool true := hR ⟨7, .data⟩ (by simp) rfl
      clear hR
      simp only [h40]
      clear h40
      refine if_yes (by kernel_rfl) ?_
      unfold Oper.wp
      go_simp
      exact ⟨.bool true, rfl, HC.out, Below.refl _ _, rfl⟩
    · have g41 : u 41 = .bool true := hR ⟨8, .guard⟩ (by simp) rfl
      clear hR
      simp only [g41]
      clear g41
      refine if_yes (by kernel_rfl) ?_
      exact wp_load_row 23 (.tmp 9) rfl _ rfl 23 _ (0, 0) _ HC.out.2.1 Try.underlying23 rfl size_tag ⟨.agg (ta k' l' q' e'), rfl, HC.out, Below.refl _ _, rfl⟩
    · have g41 : u 41 = .bool true := hR ⟨8, .guard⟩ (by simp) rfl
      clear hR
      simp only [g41]
      clear g41
      refine if_yes (by kernel_rfl) ?_
      exact wp_load_row 23 (.tmp 11) rfl _ rfl 23 _ (0, 0) _ HC.out.2.2.1 Try.underlying23 rfl size_tag ⟨.agg (ta k' l' q' e'), rfl, HC.out, Below.refl _ _, rfl⟩
    · have g41 : u 41 = .bool true := hR ⟨8, .guard⟩ (by simp) rfl
      have h42 : u 42 = .agg (ta k' l' q' e') := hR ⟨9, .data⟩ (by simp) rfl
      have h43 : u 43 = .agg (ta k' l' q' e') := hR ⟨10, .data⟩ (by simp) rfl
      have c0 : (ta k' l' q' e')[0]? = some (.int .i64 k') := rfl
      have c1 : (ta k' l' q' e')[1]? = some (.int .i64 l') := rfl
      have c2 : (ta k' l' q' e')[2]? = some (.int .i64 q') := rfl
      have c3 : (ta k' l' q' e')[3]? = some (.int .i64 e') := rfl
      clear hR
      simp only [g41, h42, h43]
      clear g41 h42 h43
      refine if_yes (by kernel_rfl) ?_
      unfold Oper.wp
      go_simp
      exact ⟨.bool true, rfl, HC.out, Below.refl _ _, rfl⟩
    · have h41 : u 41 = .bool true := hR ⟨8, .data⟩ (by simp) rfl
      have h44 : u 44 = .bool true := hR ⟨11, .data⟩ (by simp) rfl
      clear hR
      simp only [h41, h44]
      clear h41 h44
      refine if_yes (by kernel_rfl) ?_
      unfold Oper.wp
      go_simp
      exact ⟨.bool true, rfl, HC.out, Below.refl _ _, rfl⟩
    · have h45 : u 45 = .bool true := hR ⟨12, .data⟩ (by simp) rfl
      clear hR
      simp only [h45]
      clear h45
      refine if_yes (by kernel_rfl) ?_
      unfold Oper.wp
      go_simp
      exact ⟨.bool true, rfl, HC.out, Below.refl _ _, rfl⟩
    · have g46 : u 46 = .bool true := hR ⟨13, .guard⟩ (by simp) rfl
      clear hR
      simp only [g46]
      clear g46
      refine if_yes (by kernel_rfl) ?_
      unfold Oper.wp
      go_simp
      exact ⟨.int .i64 (decE s), rfl, HC.out, Below.refl _ _, rfl⟩
    · have g46 : u 46 = .bool true := hR ⟨13, .guard⟩ (by simp) rfl
      clear hR
      simp only [g46]
      clear g46
      refine if_yes (by kernel_rfl) ?_
      unfold Oper.wp
      go_simp
      exact ⟨.int .i64 (decE s), rfl, HC.out, Below.refl _ _, rfl⟩
    · have g46 : u 46 = .bool true := hR ⟨13, .guard⟩ (by simp) rfl
      have h47 : u 47 = .int .i64 (decE s) := hR ⟨14, .data⟩ (by simp) rfl
      have h48 : u 48 = .int .i64 (decE s) := hR ⟨15, .data⟩ (by simp) rfl
      clear hR
      simp only [g46, h47, h48]
      clear g46 h47 h48
      refine if_yes (by kernel_rfl) ?_
      unfold Oper.wp
      go_simp
      exact ⟨.bool true, rfl, HC.out, Below.refl _ _, rfl⟩
    · have h46 : u 46 = .bool true := hR ⟨13, .data⟩ (by simp) rfl
      have h49 : u 49 = .bool true := hR ⟨16, .data⟩ (by simp) rfl
      clear hR
      simp only [h46, h49]
      clear h46 h49
      refine if_yes (by kernel_rfl) ?_
      unfold Oper.wp
      go_simp
      exact ⟨.bool true, rfl, HC.out, Below.refl _ _, rfl⟩
    · have h50 : u 50 = .bool true := hR ⟨17, .data⟩ (by simp) rfl
      clear hR
      simp only [h50]
      clear h50
      refine if_yes (by kernel_rfl) ?_
      unfold Oper.wp
      go_simp
      exact ⟨.bool true, rfl, HC.out, Below.refl _ _, rfl⟩
    · have g51 : u 51 = .bool true := hR ⟨18, .guard⟩ (by simp) rfl
      clear hR
      simp only [g51]
      clear g51
      refine if_yes (by kernel_rfl) ?_
      exact wp_load_row 23 (.tmp 2) rfl _ rfl 23 _ (0, 0) _ HC.out.1 Try.underlying23 rfl size_tag ⟨.agg (ta k l q e), rfl, HC.out, Below.refl _ _, rfl⟩
    · have g51 : u 51 = .bool true := hR ⟨18, .guard⟩ (by simp) rfl
      have h52 : u 52 = .agg (ta k l q e) := hR ⟨19, .data⟩ (by simp) rfl
      clear hR
      simp only [g51, h52]
      clear g51 h52
      refine if_yes (by kernel_rfl) ?_
      unfold Oper.wp
      go_simp
      refine (tag_may k l q e _).mono ?_
      rintro r w2 ⟨rfl, hb2⟩
      exact ⟨.bool (mayB k l q e), rfl, HC.out.call hb2, hb2, rfl⟩
    · have g51 : u 51 = .bool true := hR ⟨18, .guard⟩ (by simp) rfl
      clear hR
      simp only [g51]
      clear g51
      refine if_yes (by kernel_rfl) ?_
      exact wp_load_row 23 (.tmp 2) rfl _ rfl 23 _ (0, 0) _ HC.out.1 Try.underlying23 rfl size_tag ⟨.agg (ta k l q e), rfl, HC.out, Below.refl _ _, rfl⟩
    · have g51 : u 51 = .bool true := hR ⟨18, .guard⟩ (by simp) rfl
      have h54 : u 54 = .agg (ta k l q e) := hR ⟨21, .data⟩ (by simp) rfl
      clear hR
      simp only [g51, h54]
      clear g51 h54
      refine if_yes (by kernel_rfl) ?_
      unfold Oper.wp
      go_simp
      refine (rtag_may k l q e _).mono ?_
      rintro r w2 ⟨rfl, hb2⟩
      exact ⟨.bool (mayB k l q e), rfl, HC.out.call hb2, hb2, rfl⟩
    · have g51 : u 51 = .bool true := hR ⟨18, .guard⟩ (by simp) rfl
      have h53 : u 53 = .bool (mayB k l q e) := hR ⟨20, .data⟩ (by simp) rfl
      have h55 : u 55 = .bool (mayB k l q e) := hR ⟨22, .data⟩ (by simp) rfl
      clear hR
      simp only [g51, h53, h55]
      clear g51 h53 h55
      refine if_yes (by kernel_rfl) ?_
      unfold Oper.wp
      go_simp
      exact ⟨.bool true, rfl, HC.out, Below.refl _ _, rfl⟩
    · have h51 : u 51 = .bool true := hR ⟨18, .data⟩ (by simp) rfl
      have h56 : u 56 = .bool true := hR ⟨23, .data⟩ (by simp) rfl
      clear hR
      simp only [h51, h56]
      clear h51 h56
      refine if_yes (by kernel_rfl) ?_
      unfold Oper.wp
      go_simp
      exact ⟨.bool true, rfl, HC.out, Below.refl _ _, rfl⟩
    · have h57 : u 57 = .bool true := hR ⟨24, .data⟩ (by simp) rfl
      clear hR
      simp only [h57]
      clear h57
      refine if_yes (by kernel_rfl) ?_
      unfold Oper.wp
      go_simp
      exact ⟨.bool true, rfl, HC.out, Below.refl _ _, rfl⟩
    · have g58 : u 58 = .bool true := hR ⟨25, .guard⟩ (by simp) rfl
      clear hR
      simp only [g58]
      clear g58
      refine if_yes (by kernel_rfl) ?_
      unfold Oper.wp
      go_simp
      refine (works_any _).mono ?_
      rintro r w2 ⟨rfl, hb2⟩
      exact ⟨.bool true, rfl, HC.out.call hb2, hb2, rfl⟩
    · have h58 : u 58 = .bool true := hR ⟨25, .data⟩ (by simp) rfl
      have h59 : u 59 = .bool true := hR ⟨26, .data⟩ (by simp) rfl
      clear hR
      simp only [h58, h59]
      clear h58 h59
      refine if_yes (by kernel_rfl) ?_
      unfold Oper.wp
      go_simp
      exact ⟨.bool true, rfl, HC.out, Below.refl _ _, rfl⟩
    · have h60 : u 60 = .bool true := hR ⟨27, .data⟩ (by simp) rfl
      clear hR
      simp only [h60]
      clear h60
      refine if_yes (by kernel_rfl) ?_
      unfold Oper.wp
      go_simp
      exact ⟨.bool true, rfl, HC.out, Below.refl _ _, rfl⟩
  case fin =>
    intro a w' hC hB hR
    have h4 : a.tmps.getD 4 undef = .bool true := hR 28 (by decide)
    clear hR
    have HB5 := Lib.hid hC.2.2.2.1
    clear hC
    obtain ⟨u, rfl⟩ := hB
    have h4 : u 4 = .bool true := h4
    simp only [h4]
    clear h4
    go_wp2_with fail
    go_ret
    exact ⟨rfl, HB5.out⟩

end Go.Proofs.Ytgpegacbgjdogaa
