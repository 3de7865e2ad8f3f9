/- Texts of one claim, merged: TagC3, TagC1, FrQ, FrD2, FrD1. -/
import Derived.Test.YtjmoecfgpfdncaaDoorM7
import Derived.Test.YtjmoecfgpfdncaaDoorM6
import Derived.Test.YtjmoecfgpfdncaaDoorM4
import Derived.Test.YtjmoecfgpfdncaaDoorM3

/- Package tag, walked: Decode. -/
namespace Go.Proofs.YtjmoecfgpfdncaaDoor
set_option maxRecDepth 100000
open Go.RowKit

theorem form_iff (s : ByteArray) (h : s.size = 16) : FormT s ↔ byteT s 0 = 27 ∧ s.extract 14 16 = ⟨#[0, 0]⟩ := by
  have hl : s.data.toList.length = 16 := by simpa using h
  have he : s.extract 14 16 = ⟨#[0, 0]⟩ ↔ (s.data.toList.take 16).drop 14 = [0, 0] := by
    constructor
    · intro e
      rw [← list_extract, e]
    · intro e
      apply bytes_eq
      rw [list_extract, e]
  rw [he]
  unfold FormT byteT
  generalize s.data.toList = t at *
  match t, hl with
  | [b0, b1, b2, b3, b4, b5, b6, b7, b8, b9, b10, b11, b12, b13, b14, b15], _ =>
    simp only [List.getD_cons_zero, List.getD_cons_succ, h, true_and, List.take, List.drop, List.cons.injEq, and_true]
    constructor
    · rintro ⟨x, y, z⟩
      refine ⟨x, UInt8.toNat_inj.1 ?_, UInt8.toNat_inj.1 ?_⟩
      · rw [show (0 : UInt8).toNat = 0 from rfl]; omega
      · rw [show (0 : UInt8).toNat = 0 from rfl]; omega
    · rintro ⟨x, rfl, rfl⟩
      exact ⟨x, rfl, rfl⟩
theorem tag_num_one (s : ByteArray) (h : s.size = 16) : numS (s.extract 1 2) = byteT s 1 := by
  have h1 : (s.extract 1 2).size = 1 := by rw [ByteArray.size_extract]; omega
  have e := numTo_succ (s.extract 1 2) 0 (by omega)
  have e2 : ((s.extract 1 2)[0].toNat : Int) = byteT s 1 := by
    rw [← byteT_get s 1 (by omega)]
    simp [ByteArray.getElem_extract]
  unfold numS
  rw [h1]
  show numTo (s.extract 1 2) (0 + 1) = _
  rw [e, numTo_zero, e2]
  simp [show p2 0 = 1 by decide]

/-- what each operation of the region TD leaves -/
def vsTD (s s1 s2 s6 s4 : ByteArray) (k x y z : Int) : List (Option (Tmp × Value)) :=
  [some (19, .string s), some (20, .string s1), some (21, .int .i64 k), some (22, .string s), some (23, .string s2), some (24, .int .i64 x), some (25, .string s), some (26, .string s6), some (27, .int .i64 y), some (28, .string s), some (29, .string s4), some (30, .int .i64 z), some (31, .agg (ta k x y z)), none, none]
/-- the frame while the region TD runs -/
def BaseTD (s : ByteArray) (B : Nat) (a : Act) : Prop := ∃ u : Nat → Value, a = ⟨#[.string s, u 1, .pointer (some ⟨B, 0, none⟩), u 3, u 4, u 5, u 6, u 7, u 8, u 9, u 10, u 11, u 12, u 13, u 14, u 15, u 16, u 17, u 18, u 19, u 20, u 21, u 22, u 23, u 24, u 25, u 26, u 27, u 28, u 29, u 30, u 31, u 32, u 33, u 34, u 35, u 36], []⟩
theorem BaseTD.of {s : ByteArray} {B : Nat} (arr : Array Value) (h : arr = #[.string s, arr.getD 1 undef, .pointer (some ⟨B, 0, none⟩), arr.getD 3 undef, arr.getD 4 undef, arr.getD 5 undef, arr.getD 6 undef, arr.getD 7 undef, arr.getD 8 undef, arr.getD 9 undef, arr.getD 10 undef, arr.getD 11 undef, arr.getD 12 undef, arr.getD 13 undef, arr.getD 14 undef, arr.getD 15 undef, arr.getD 16 undef, arr.getD 17 undef, arr.getD 18 undef, arr.getD 19 undef, arr.getD 20 undef, arr.getD 21 undef, arr.getD 22 undef, arr.getD 23 undef, arr.getD 24 undef, arr.getD 25 undef, arr.getD 26 undef, arr.getD 27 undef, arr.getD 28 undef, arr.getD 29 undef, arr.getD 30 undef, arr.getD 31 undef, arr.getD 32 undef, arr.getD 33 undef, arr.getD 34 undef, arr.getD 35 undef, arr.getD 36 undef]) : BaseTD s B ⟨arr, []⟩ := ⟨fun i => arr.getD i undef, by rw [← h]⟩
theorem BaseTD.put19 {s : ByteArray} {B : Nat} (a : Act) (v : Value) (h : BaseTD s B a) : BaseTD s B (a.put (some 19) v) := by
  obtain ⟨u, rfl⟩ := h
  exact ⟨fun i => if i = 19 then v else u i, by kernel_rfl⟩
theorem BaseTD.put20 {s : ByteArray} {B : Nat} (a : Act) (v : Value) (h : BaseTD s B a) : BaseTD s B (a.put (some 20) v) := by
  obtain ⟨u, rfl⟩ := h
  exact ⟨fun i => if i = 20 then v else u i, by kernel_rfl⟩
theorem BaseTD.put21 {s : ByteArray} {B : Nat} (a : Act) (v : Value) (h : BaseTD s B a) : BaseTD s B (a.put (some 21) v) := by
  obtain ⟨u, rfl⟩ := h
  exact ⟨fun i => if i = 21 then v else u i, by kernel_rfl⟩
theorem BaseTD.put22 {s : ByteArray} {B : Nat} (a : Act) (v : Value) (h : BaseTD s B a) : BaseTD s B (a.put (some 22) v) := by
  obtain ⟨u, rfl⟩ := h
  exact ⟨fun i => if i = 22 then v else u i, by kernel_rfl⟩
theorem BaseTD.put23 {s : ByteArray} {B : Nat} (a : Act) (v : Value) (h : BaseTD s B a) : BaseTD s B (a.put (some 23) v) := by
  obtain ⟨u, rfl⟩ := h
  exact ⟨fun i => if i = 23 then v else u i, by kernel_rfl⟩
theorem BaseTD.put24 {s : ByteArray} {B : Nat} (a : Act) (v : Value) (h : BaseTD s B a) : BaseTD s B (a.put (some 24) v) := by
  obtain ⟨u, rfl⟩ := h
  exact ⟨fun i => if i = 24 then v else u i, by kernel_rfl⟩
theorem BaseTD.put25 {s : ByteArray} {B : Nat} (a : Act) (v : Value) (h : BaseTD s B a) : BaseTD s B (a.put (some 25) v) := by
  obtain ⟨u, rfl⟩ := h
  exact ⟨fun i => if i = 25 then v else u i, by kernel_rfl⟩
theorem BaseTD.put26 {s : ByteArray} {B : Nat} (a : Act) (v : Value) (h : BaseTD s B a) : BaseTD s B (a.put (some 26) v) := by
  obtain ⟨u, rfl⟩ := h
  exact ⟨fun i => if i = 26 then v else u i, by kernel_rfl⟩
theorem BaseTD.put27 {s : ByteArray} {B : Nat} (a : Act) (v : Value) (h : BaseTD s B a) : BaseTD s B (a.put (some 27) v) := by
  obtain ⟨u, rfl⟩ := h
  exact ⟨fun i => if i = 27 then v else u i, by kernel_rfl⟩
theorem BaseTD.put28 {s : ByteArray} {B : Nat} (a : Act) (v : Value) (h : BaseTD s B a) : BaseTD s B (a.put (some 28) v) := by
  obtain ⟨u, rfl⟩ := h
  exact ⟨fun i => if i = 28 then v else u i, by kernel_rfl⟩
theorem BaseTD.put29 {s : ByteArray} {B : Nat} (a : Act) (v : Value) (h : BaseTD s B a) : BaseTD s B (a.put (some 29) v) := by
  obtain ⟨u, rfl⟩ := h
  exact ⟨fun i => if i = 29 then v else u i, by kernel_rfl⟩
theorem BaseTD.put30 {s : ByteArray} {B : Nat} (a : Act) (v : Value) (h : BaseTD s B a) : BaseTD s B (a.put (some 30) v) := by
  obtain ⟨u, rfl⟩ := h
  exact ⟨fun i => if i = 30 then v else u i, by kernel_rfl⟩
theorem BaseTD.put31 {s : ByteArray} {B : Nat} (a : Act) (v : Value) (h : BaseTD s B a) : BaseTD s B (a.put (some 31) v) := by
  obtain ⟨u, rfl⟩ := h
  exact ⟨fun i => if i = 31 then v else u i, by kernel_rfl⟩
theorem BaseTD.put4 {s : ByteArray} {B : Nat} (a : Act) (v : Value) (h : BaseTD s B a) : BaseTD s B (a.put (some 4) v) := by
  obtain ⟨u, rfl⟩ := h
  exact ⟨fun i => if i = 4 then v else u i, by kernel_rfl⟩

set_option maxRecDepth 100000 in
theorem tag_dec_size (s : ByteArray) (w : World) (h : s.size ≠ 16) (hm : s.size ≤ maxLen) :
    Calls Tryd.prog 56 #[.string s] w fun r w' => r = .returned (.tuple #[.agg (ta 0 0 0 0), .int .i64 3]) ∧ Below w.heap.size w w' := by
  have hm2 : (s.size : Int) ≤ 9223372036854775807 := by unfold maxLen at hm; omega
  have h2 : ((s.size : Int) == 16) = false := by simp; omega
  have hR := fun cs => (Blk.new w (ta 0 0 0 0) 34).put cs
  clear hm
  go_enter Tryd.func56, Tryd.ntmps56
  go_wp2_with (refine wpList_store_row rfl 34 (.tmp 2) (.tmp 18) rfl w.heap.size (ta 0 0 0 0) rfl rfl 34 (ta 0 0 0 0) (Blk.new w (ta 0 0 0 0) 34) size_tag rfl (ta_one _ _ _ _) ?_)
  exact bodyPost_ret (results_cell_tmp rfl _ _ w.heap.size 34 (ta 0 0 0 0) _ rfl (hR _) Tryd.underlying34 rfl size_tag) rfl ⟨rfl, below_put (Nat.le_refl _) _ ((Below.refl _ _).alloc (Nat.le_refl _) _)⟩

set_option maxRecDepth 100000 in
theorem tag_dec_form (s : ByteArray) (w : World) (h : s.size = 16) (hf : ¬ FormT s) :
    Calls Tryd.prog 56 #[.string s] w fun r w' => r = .returned (.tuple #[.agg (ta 0 0 0 0), .int .i64 3]) ∧ Below w.heap.size w w' := by
  have hs : (s.size : Int) = 16 := by omega
  have hs2 : ((s.size : Int) == 16) = true := by rw [hs]; rfl
  have g0 := byteT_get s 0 (by omega)
  obtain ⟨b0, hb0⟩ : ∃ b : Nat, s[0].toNat = b := ⟨_, rfl⟩
  obtain ⟨t, ht⟩ : ∃ t, s.extract 14 16 = t := ⟨_, rfl⟩
  have hne : ¬ (b0 = 27 ∧ t = ⟨#[0, 0]⟩) := fun ⟨x, y⟩ => hf ((form_iff s h).2 ⟨by rw [← g0, hb0, x]; rfl, ht.trans y⟩)
  clear hf g0
  have hR := fun cs => (Blk.new w (ta 0 0 0 0) 34).put cs
  by_cases e0 : b0 = 27
  · have hd : t ≠ ⟨#[0, 0]⟩ := fun e => hne ⟨e0, e⟩
    have hq : (t.toList == [0, 0]) = false := by
      rw [beq_eq_false_iff_ne]
      intro e
      apply hd
      apply bytes_eq
      rw [← ByteArray.toList_eq, e]
    clear hne hd
    go_enter Tryd.func56, Tryd.ntmps56
    go_wp2_with (refine wpList_store_row rfl 34 (.tmp 2) (.tmp 18) rfl w.heap.size (ta 0 0 0 0) rfl rfl 34 (ta 0 0 0 0) (Blk.new w (ta 0 0 0 0) 34) size_tag rfl (ta_one _ _ _ _) ?_)
    exact bodyPost_ret (results_cell_tmp rfl _ _ w.heap.size 34 (ta 0 0 0 0) _ rfl (hR _) Tryd.underlying34 rfl size_tag) rfl ⟨rfl, below_put (Nat.le_refl _) _ ((Below.refl _ _).alloc (Nat.le_refl _) _)⟩
  · clear hne
    go_enter Tryd.func56, Tryd.ntmps56
    go_wp2_with (refine wpList_store_row rfl 34 (.tmp 2) (.tmp 18) rfl w.heap.size (ta 0 0 0 0) rfl rfl 34 (ta 0 0 0 0) (Blk.new w (ta 0 0 0 0) 34) size_tag rfl (ta_one _ _ _ _) ?_)
    exact bodyPost_ret (results_cell_tmp rfl _ _ w.heap.size 34 (ta 0 0 0 0) _ rfl (hR _) Tryd.underlying34 rfl size_tag) rfl ⟨rfl, below_put (Nat.le_refl _) _ ((Below.refl _ _).alloc (Nat.le_refl _) _)⟩

set_option maxHeartbeats 1000000 in
set_option maxRecDepth 100000 in
theorem tag_dec_yes (s : ByteArray) (w : World) (hf : FormT s) :
    Calls Tryd.prog 56 #[.string s] w fun r w' => r = .returned (if mayB (byteT s 1) (lT s) (qT s) (eT s) then .tuple #[.agg (ta (byteT s 1) (lT s) (qT s) (eT s)), .int .i64 0] else .tuple #[.agg (ta 0 0 0 0), .int .i64 3]) ∧ Below w.heap.size w w' := by
  have h := hf.1
  obtain ⟨f0, ft⟩ := (form_iff s h).1 hf
  have hs : (s.size : Int) = 16 := by omega
  have hs2 : ((s.size : Int) == 16) = true := by rw [hs]; rfl
  have g0 := byteT_get s 0 (by omega)
  rw [f0] at g0
  have hb0 : s[0].toNat = 27 := by omega
  have x1 : (s.extract 1 2).size = 1 := by rw [ByteArray.size_extract]; omega
  have x2 : (s.extract 2 4).size = 2 := by rw [ByteArray.size_extract]; omega
  have x6 : (s.extract 4 10).size = 6 := by rw [ByteArray.size_extract]; omega
  have x4 : (s.extract 10 14).size = 4 := by rw [ByteArray.size_extract]; omega
  have hk0 := tag_num_one s h
  unfold lT qT eT
  obtain ⟨s1, e1⟩ : ∃ t, s.extract 1 2 = t := ⟨_, rfl⟩
  obtain ⟨s2, e2⟩ : ∃ t, s.extract 2 4 = t := ⟨_, rfl⟩
  obtain ⟨s6, e6⟩ : ∃ t, s.extract 4 10 = t := ⟨_, rfl⟩
  obtain ⟨s4, e4⟩ : ∃ t, s.extract 10 14 = t := ⟨_, rfl⟩
  rw [e1] at x1 hk0; rw [e2] at x2 ⊢; rw [e6] at x6 ⊢; rw [e4] at x4 ⊢
  rw [← hk0]
  obtain ⟨k, hk⟩ : ∃ x, numS s1 = x := ⟨_, rfl⟩
  obtain ⟨x, hx⟩ : ∃ x, numS s2 = x := ⟨_, rfl⟩
  obtain ⟨y, hy⟩ : ∃ y, numS s6 = y := ⟨_, rfl⟩
  obtain ⟨z, hz⟩ : ∃ z, numS s4 = z := ⟨_, rfl⟩
  rw [hk, hx, hy, hz]
  obtain ⟨m, hm⟩ : ∃ m, mayB k x y z = m := ⟨_, rfl⟩
  rw [hm]
  have H1 := Lib.hid x1; have H2 := Lib.hid x2; have H6 := Lib.hid x6; have H4 := Lib.hid x4
  have HE1 := Lib.hid e1; have HE2 := Lib.hid e2; have HE6 := Lib.hid e6; have HE4 := Lib.hid e4
  have HK := Lib.hid hk; have HX := Lib.hid hx; have HY := Lib.hid hy; have HZ := Lib.hid hz; have HM := Lib.hid hm
  have HS := Lib.hid hs
  clear hf f0 g0 x1 x2 x6 x4 hk0 e1 e2 e6 e4 hk hx hy hz hm
  go_enter Tryd.func56, Tryd.ntmps56
  go_wp2_with fail
  refine wp_region_list3 (SV (vsTD s s1 s2 s6 s4 k x y z) [4]) (BaseTD s w.heap.size) (CT w) (TT w.heap.size (ta k x y z)) (RV (vsTD s s1 s2 s6 s4 k x y z) (SpT w.heap.size (ta k x y z))) rfl (by kernel_rfl) (RV.ext SpT.ext) ?base ?start (BaseTD.of _ (by kernel_rfl)) ?steps ?fin
  case start => exact ⟨(Blk.new w (ta 0 0 0 0) 34).drew, ((Below.refl _ _).alloc (Nat.le_refl _) _).drew⟩
  case base => exact ⟨BaseTD.put19, BaseTD.put20, BaseTD.put21, BaseTD.put22, BaseTD.put23, BaseTD.put24, BaseTD.put25, BaseTD.put26, BaseTD.put27, BaseTD.put28, BaseTD.put29, BaseTD.put30, BaseTD.put31, BaseTD.put4, fun a v h => h, trivial⟩
  case steps =>
    refine ⟨?_, ?_, ?_, ?_, ?_, ?_, ?_, ?_, ?_, ?_, ?_, ?_, ?_, ?_, ?_, trivial⟩
    all_goals
      intro a w' hC hB hR
      obtain ⟨u, rfl⟩ := hB
      have hlt : w.heap.size < w'.heap.size := hC.1.lt
      have HC := Lib.hid hC
      clear hC
    · clear hR
      refine if_yes (by kernel_rfl) ?_
      unfold Oper.wp
      go_simp
      exact ⟨.string s, rfl, HC.out, TT.of (Below.refl _ _) hlt, rfl⟩
    · have h19 : u 19 = .string s := hR ⟨0, .data⟩ (by simp) rfl
      have hsz := HS.out
      have hx := HE1.out
      clear hR
      simp only [h19]
      clear h19
      refine if_yes (by kernel_rfl) ?_
      unfold Oper.wp
      go_simp
      exact ⟨.string s1, rfl, HC.out, TT.of (Below.refl _ _) hlt, rfl⟩
    · have h20 : u 20 = .string s1 := hR ⟨1, .data⟩ (by simp) rfl
      clear hR
      simp only [h20]
      clear h20
      refine if_yes (by kernel_rfl) ?_
      unfold Oper.wp
      go_simp
      refine (tag_get s1 _ (by rw [H1.out]; decide) (by rw [H1.out]; decide)).mono ?_
      rintro r w2 ⟨rfl, rfl⟩
      exact ⟨_, rfl, HC.out, TT.of (Below.refl _ _) hlt, congrArg (Value.int .i64) HK.out⟩
    · clear hR
      refine if_yes (by kernel_rfl) ?_
      unfold Oper.wp
      go_simp
      exact ⟨.string s, rfl, HC.out, TT.of (Below.refl _ _) hlt, rfl⟩
    · have h22 : u 22 = .string s := hR ⟨3, .data⟩ (by simp) rfl
      have hsz := HS.out
      have hx := HE2.out
      clear hR
      simp only [h22]
      clear h22
      refine if_yes (by kernel_rfl) ?_
      unfold Oper.wp
      go_simp
      exact ⟨.string s2, rfl, HC.out, TT.of (Below.refl _ _) hlt, rfl⟩
    · have h23 : u 23 = .string s2 := hR ⟨4, .data⟩ (by simp) rfl
      clear hR
      simp only [h23]
      clear h23
      refine if_yes (by kernel_rfl) ?_
      unfold Oper.wp
      go_simp
      refine (tag_get s2 _ (by rw [H2.out]; decide) (by rw [H2.out]; decide)).mono ?_
      rintro r w2 ⟨rfl, rfl⟩
      exact ⟨_, rfl, HC.out, TT.of (Below.refl _ _) hlt, congrArg (Value.int .i64) HX.out⟩
    · clear hR
      refine if_yes (by kernel_rfl) ?_
      unfold Oper.wp
      go_simp
      exact ⟨.string s, rfl, HC.out, TT.of (Below.refl _ _) hlt, rfl⟩
    · have h25 : u 25 = .string s := hR ⟨6, .data⟩ (by simp) rfl
      have hsz := HS.out
      have hx := HE6.out
      clear hR
      simp only [h25]
      clear h25
      refine if_yes (by kernel_rfl) ?_
      unfold Oper.wp
      go_simp
      exact ⟨.string s6, rfl, HC.out, TT.of (Below.refl _ _) hlt, rfl⟩
    · have h26 : u 26 = .string s6 := hR ⟨7, .data⟩ (by simp) rfl
      clear hR
      simp only [h26]
      clear h26
      refine if_yes (by kernel_rfl) ?_
      unfold Oper.wp
      go_simp
      refine (tag_get s6 _ (by rw [H6.out]; decide) (by rw [H6.out]; decide)).mono ?_
      rintro r w2 ⟨rfl, rfl⟩
      exact ⟨_, rfl, HC.out, TT.of (Below.refl _ _) hlt, congrArg (Value.int .i64) HY.out⟩
    · clear hR
      refine if_yes (by kernel_rfl) ?_
      unfold Oper.wp
      go_simp
      exact ⟨.string s, rfl, HC.out, TT.of (Below.refl _ _) hlt, rfl⟩
    · have h28 : u 28 = .string s := hR ⟨9, .data⟩ (by simp) rfl
      have hsz := HS.out
      have hx := HE4.out
      clear hR
      simp only [h28]
      clear h28
      refine if_yes (by kernel_rfl) ?_
      unfold Oper.wp
      go_simp
      exact ⟨.string s4, rfl, HC.out, TT.of (Below.refl _ _) hlt, rfl⟩
    · have h29 : u 29 = .string s4 := hR ⟨10, .data⟩ (by simp) rfl
      clear hR
      simp only [h29]
      clear h29
      refine if_yes (by kernel_rfl) ?_
      unfold Oper.wp
      go_simp
      refine (tag_get s4 _ (by rw [H4.out]; decide) (by rw [H4.out]; decide)).mono ?_
      rintro r w2 ⟨rfl, rfl⟩
      exact ⟨_, rfl, HC.out, TT.of (Below.refl _ _) hlt, congrArg (Value.int .i64) HZ.out⟩
    · have h21 : u 21 = .int .i64 k := hR ⟨2, .data⟩ (by simp) rfl
      have h24 : u 24 = .int .i64 x := hR ⟨5, .data⟩ (by simp) rfl
      have h27 : u 27 = .int .i64 y := hR ⟨8, .data⟩ (by simp) rfl
      have h30 : u 30 = .int .i64 z := hR ⟨11, .data⟩ (by simp) rfl
      clear hR
      simp only [h21, h24, h27, h30]
      clear h21 h24 h27 h30
      refine if_yes (by kernel_rfl) ?_
      unfold Oper.wp
      go_simp
      exact ⟨.agg (ta k x y z), rfl, HC.out, TT.of (Below.refl _ _) hlt, rfl⟩
    · clear hR
      refine if_yes (by kernel_rfl) ?_
      unfold Oper.wp
      go_simp
      exact ⟨_, rfl, ⟨HC.out.1.alloc _, HC.out.2.alloc (Nat.le_of_lt hlt) _⟩, TT.of ((Below.refl _ _).alloc (Nat.le_refl _) _) hlt, ⟨_, _, hlt, rfl, Blk.new _ _ _, rfl, fun h => by cases h⟩⟩
    · have h31 : u 31 = .agg (ta k x y z) := hR ⟨12, .data⟩ (by simp) rfl
      obtain ⟨g, cs, hg, hp, hb, hcs, _⟩ := hR ⟨13, .data⟩ (by simp) rfl
      have hp : u 4 = .pointer (some ⟨g, 0, none⟩) := hp
      clear hR
      simp only [h31]
      clear h31
      refine if_yes (by kernel_rfl) ?_
      simp only [hp]
      exact wp_store_row 34 (.tmp 4) (.tmp 31) rfl g (ta k x y z) rfl rfl 34 cs hb size_tag hcs (ta_one _ _ _ _) ⟨undef, rfl, ⟨HC.out.1.put_other (by omega) _, below_put (by omega) _ HC.out.2⟩, TT.store hg hb rfl, ⟨g, _, hg, rfl, hb.put _, rfl, fun _ => rfl⟩⟩
  case fin =>
    intro a w' hC hB hR
    obtain ⟨g, cs, hg, hp, hb, hcs, he⟩ := hR 14 (by decide)
    clear hR
    obtain rfl := he rfl
    obtain ⟨u, rfl⟩ := hB
    have hp : u 4 = .pointer (some ⟨g, 0, none⟩) := hp
    simp only [hp]
    have HC := Lib.hid hC
    have HB := Lib.hid hb
    clear hC hb hcs he hp H1 H2 H6 H4 HE1 HE2 HE6 HE4 HK HX HY HZ HS
    go_wp2_with (refine wpList_load_row rfl 34 (.tmp 4) rfl g rfl 34 (ta k x y z) (0, 0) _ HB.out Tryd.underlying34 rfl size_tag ?_)
    refine (tag_may _ _ _ _ _).mono ?_
    rintro r w5 ⟨rfl, hb5⟩
    rw [HM.out]
    have HR5 := Lib.hid (HC.out.1.after hb5)
    have HB5 := Lib.hid (HB.out.after hb5)
    have HL5 := Lib.hid (HC.out.2.trans (hb5.mono (by have := HC.out.2.size; exact this)))
    clear hb5 HM
    cases m
    · go_wp2_with (refine wpList_store_row rfl 34 (.tmp 2) (.tmp 35) rfl w.heap.size (ta 0 0 0 0) rfl rfl 34 (ta 0 0 0 0) HR5.out size_tag rfl (ta_one _ _ _ _) ?_)
      exact bodyPost_ret (results_cell_tmp rfl _ _ w.heap.size 34 (ta 0 0 0 0) _ rfl (HR5.out.put _) Tryd.underlying34 rfl size_tag) rfl ⟨rfl, below_put (Nat.le_refl _) _ HL5.out⟩
    · go_wp2_with (first
        | (refine wpList_load_row rfl 34 (.tmp 4) rfl g rfl 34 (ta k x y z) (0, 0) _ HB5.out Tryd.underlying34 rfl size_tag ?_)
        | (refine wpList_store_row rfl 34 (.tmp 2) (.tmp 36) rfl w.heap.size (ta k x y z) rfl rfl 34 (ta 0 0 0 0) HR5.out size_tag rfl (ta_one _ _ _ _) ?_))
      exact bodyPost_ret (results_cell_tmp rfl _ _ w.heap.size 34 (ta k x y z) _ rfl (HR5.out.put _) Tryd.underlying34 rfl size_tag) rfl ⟨rfl, below_put (Nat.le_refl _) _ HL5.out⟩

theorem tag_dec (s : ByteArray) (w : World) (hm : s.size ≤ maxLen) : Calls Tryd.prog 56 #[.string s] w (DecT s w) := by
  unfold DecT decA decE
  by_cases hf : FormT s
  · have h := tag_dec_yes s w hf
    by_cases hm2 : MayT (byteT s 1) (lT s) (qT s) (eT s)
    · rw [if_pos ⟨hf, hm2⟩, if_pos ⟨hf, hm2⟩]
      rwa [if_pos ((mayB_iff _ _ _ _).2 hm2)] at h
    · rw [if_neg (fun h => hm2 h.2), if_neg (fun h => hm2 h.2)]
      rwa [if_neg (fun h => hm2 ((mayB_iff _ _ _ _).1 h))] at h
  · rw [if_neg (fun h => hf h.1), if_neg (fun h => hf h.1)]
    by_cases hz : s.size = 16
    · exact tag_dec_form s w hz hf
    · exact tag_dec_size s w hz hm

end Go.Proofs.YtjmoecfgpfdncaaDoor

/- Package tag: the three contracts (May: TagC0, Encode: TagC2, Decode: TagC3). -/
namespace Go.Proofs.YtjmoecfgpfdncaaDoor
set_option maxRecDepth 100000
theorem tag_contracts : True := trivial
end Go.Proofs.YtjmoecfgpfdncaaDoor

/- Package frame, walked: Encode. -/
namespace Go.Proofs.YtjmoecfgpfdncaaDoor
set_option maxRecDepth 100000
open Go.RowKit
attribute [local go_sem] Oper.semAt_some

def encLs (l : List ByteArray) : ByteArray := l.foldl (fun a x => a ++ encS x) ByteArray.empty
theorem encLs_snoc (l : List ByteArray) (x : ByteArray) : encLs (l ++ [x]) = encLs l ++ encS x := by simp [encLs]
theorem encLs_pcs (s : ByteArray) : ∀ k, encLs (pcs s 8 k) = chunks s k
  | 0 => rfl
  | k + 1 => by rw [pcs_succ, encLs_snoc, encLs_pcs s k]; rfl

theorem foldE_size : ∀ (l : List (Str 8)) (a : ByteArray), ((l.map (·.1)).foldl (fun a x => a ++ encS x) a).size = a.size + 9 * l.length
  | [], a => rfl
  | x :: l, a => by
    rw [List.map_cons, List.foldl_cons, foldE_size l, ByteArray.size_append, encS_size, x.2, List.length_cons]; omega
theorem encLs_size (l : List (Str 8)) : (encLs (l.map (·.1))).size = 9 * l.length := by
  have h := foldE_size l ByteArray.empty
  rw [show ByteArray.empty.size = 0 from rfl, Nat.zero_add] at h
  exact h
theorem Tabs.kept {W W' : World} {row : Option Nat} (h : Tabs W) (hg : W.grownBy W' row) (hr : ∀ r, row = some r → ∃ o : Obj, W.heap[r]? = some o ∧ o.isCells = false) : Tabs W' :=
  ⟨fun i hi => cell_kept (h.1 i hi) hg hr, fun i hi => cell_kept (h.2 i hi) hg hr⟩

theorem fr_enc_long (k l q e : Int) (data : ByteArray) (w : World) (h : ¬ LenOk data.size) :
    Calls Tryd.prog 25 #[.agg (ta k l q e), .string data] w (FrEnc k l q e data w) := by
  unfold FrEnc frT frE
  rw [if_neg (fun hh => h hh.1), if_neg h]
  have HD : Hid (decide (8 ≤ (data.size : Int) ∧ (data.size : Int) ≤ 256 ∧ (data.size : Int) % 8 = 0) = false) := decide_eq_false (fun hh => h ⟨by omega, by omega, by omega⟩)
  clear h
  refine calls_of_marks Tryd.func25 rfl ?_
  simp only [Tryd.ntmps25, List.size_toArray, List.length_cons, List.length_nil, Nat.reduceAdd, Nat.reduceSub, Array.replicate_succ, Array.replicate_zero, List.push_toArray, List.append_toArray, List.nil_append, List.cons_append]
  go_wp2_with fail
  refine (fr_data (data.size : Int) _).mono ?_
  rintro r w1 ⟨rfl, rfl⟩
  rw [HD.out]
  go_wp2_with fail
  exact leave_none rfl (results_tmp2 rfl _ _ _) ⟨rfl, (Below.refl _ _).alloc (Nat.le_refl _) _⟩
theorem fr_enc_range (k l q e : Int) (data : ByteArray) (w : World) (hl : LenOk data.size) (h : ¬ MayT k l q e) :
    Calls Tryd.prog 25 #[.agg (ta k l q e), .string data] w (FrEnc k l q e data w) := by
  unfold FrEnc frT frE
  rw [if_neg (fun hh => h hh.2), if_pos hl, if_neg h]
  have HD : Hid (decide (8 ≤ (data.size : Int) ∧ (data.size : Int) ≤ 256 ∧ (data.size : Int) % 8 = 0) = true) := by
    obtain ⟨h1, h2, h3⟩ := hl
    exact decide_eq_true (by omega)
  have HE : Hid (encT k l q e = ByteArray.empty ∧ encE k l q e = 1) := ⟨if_neg h, if_neg h⟩
  have hds : data.size ≤ 256 := hl.2.1
  clear h hl
  refine calls_of_marks Tryd.func25 rfl ?_
  simp only [Tryd.ntmps25, List.size_toArray, List.length_cons, List.length_nil, Nat.reduceAdd, Nat.reduceSub, Array.replicate_succ, Array.replicate_zero, List.push_toArray, List.append_toArray, List.nil_append, List.cons_append]
  go_wp2_with fail
  refine (fr_data (data.size : Int) _).mono ?_
  rintro r w1 ⟨rfl, rfl⟩
  rw [HD.out]
  go_wp2_with (refine wpList_load_row rfl 34 (.tmp 2) rfl w.heap.size rfl 34 (ta k l q e) (0, 0) _ (Blk.new w (ta k l q e) 34) Tryd.underlying34 rfl size_tag ?_)
  refine (tag_enc k l q e _).mono ?_
  rintro r w2 ⟨rfl, hb2⟩
  rw [HE.out.1, HE.out.2]
  have HB2 : Hid (Below w.heap.size w w2) := ((Below.refl _ _).alloc (Nat.le_refl _) _).trans (hb2.mono (by simp))
  clear hb2
  go_wp2_with fail
  exact leave_none rfl (results_tmp2 rfl _ _ _) ⟨rfl, HB2.out⟩

set_option maxHeartbeats 2000000 in
theorem fr_enc_yes (k l q e : Int) (data : ByteArray) (w : World) (hl : LenOk data.size) (hm : MayT k l q e) (hT : Tabs w) :
    Calls Tryd.prog 25 #[.agg (ta k l q e), .string data] w (FrEnc k l q e data w) := by
  unfold FrEnc frT frE
  rw [if_pos ⟨hl, hm⟩, if_pos hl, if_pos hm]
  have hd1 : decide (8 ≤ (data.size : Int) ∧ (data.size : Int) ≤ 256 ∧ (data.size : Int) % 8 = 0) = true := by
    obtain ⟨h1, h2, h3⟩ := hl
    rw [decide_eq_true_eq]; omega
  have HD1 := Lib.hid hd1
  have he : encT k l q e = tagS k l q e ∧ encE k l q e = 0 := ⟨if_pos hm, if_pos hm⟩
  have HE := Lib.hid he
  have HT := Lib.hid hT
  obtain ⟨x, hx⟩ : ∃ x, tagS k l q e ++ data = x := ⟨_, rfl⟩
  have hxz : x.size = 16 + data.size := by rw [← hx, ByteArray.size_append, tagS_size]
  obtain ⟨z, hz⟩ : ∃ z, sealS x ++ (⟨#[0, 0, 0, 0]⟩ : ByteArray) = z := ⟨_, rfl⟩
  have hzz : z.size = data.size + 24 := by rw [← hz, ByteArray.size_append, sealS_size, hxz, show (⟨#[0, 0, 0, 0]⟩ : ByteArray).size = 4 from rfl]; omega
  have hpg : chunks z ((data.size + 24) / 8) = pageS k l q e data := by rw [← hz, ← hx]; rfl
  have ht16 : (tagS k l q e).size = 16 := tagS_size _ _ _ _
  have hsx : (sealS x).size = x.size + 4 := sealS_size x
  obtain ⟨sx, hsxe⟩ : ∃ t, sealS x = t := ⟨_, rfl⟩
  obtain ⟨tg, htg⟩ : ∃ t, tagS k l q e = t := ⟨_, rfl⟩
  rw [hsxe] at hz hsx
  rw [htg] at hx ht16 he HE
  have h8 := hl.1
  have h256 := hl.2.1
  have hz8 : 8 * (z.size / 8) = z.size := by have := hl.2.2; omega
  obtain ⟨oc, hoc⟩ : ∃ oc : Nat, (data.size + 24) / 8 * 9 = oc := ⟨_, rfl⟩
  have hoci : ((data.size : Int) + 24) / 8 * 9 = (oc : Int) := by omega
  have hocz : oc ≤ 1000 := by omega
  have HX := Lib.hid hx
  have HZ := Lib.hid hz
  have HSX := Lib.hid hsxe
  have HPG := Lib.hid hpg
  have HOC := Lib.hid hoci
  have hx276 : x.size ≤ 272 := by omega
  clear hd1 he hT hl hm hx hz hpg hsxe htg hoc hoci
  refine calls_of_marks Tryd.func25 rfl ?_
  simp only [Tryd.ntmps25, List.size_toArray, List.length_cons, List.length_nil, Nat.reduceAdd, Nat.reduceSub, Array.replicate_succ, Array.replicate_zero, List.push_toArray, List.append_toArray, List.nil_append, List.cons_append]
  go_wp2_with fail
  refine (fr_data (data.size : Int) _).mono ?_
  rintro r w1 ⟨rfl, rfl⟩
  rw [HD1.out]
  go_wp2_with (refine wpList_load_row rfl 34 (.tmp 2) rfl w.heap.size rfl 34 (ta k l q e) (0, 0) _ (Blk.new w (ta k l q e) 34) Tryd.underlying34 rfl size_tag ?_)
  refine (tag_enc k l q e _).mono ?_
  rintro r w2 ⟨rfl, hb2⟩
  rw [HE.out.1, HE.out.2]
  have HB2 : Hid (Below w.heap.size w w2) := ((Below.refl _ _).alloc (Nat.le_refl _) _).trans (hb2.mono (by simp))
  clear hb2
  go_wp2_with fail
  refine (fr_onChip (data.size : Int) _ (by omega) (by omega)).mono ?_
  rintro r w1 ⟨rfl, hw1⟩
  rw [← hw1, HOC.out]
  clear hw1
  go_wp2_with fail
  have hb8w : w.heap.size ≤ w2.heap.size := HB2.out.size
  have HB3 : Hid (Below w.heap.size w (w2.alloc (.cells #[.pointer none, .slice none 0 0] 78))) := HB2.out.alloc HB2.out.size _
  have hN := heap_alloc_new w2 (.cells #[.pointer none, .slice none 0 0] 78)
  have hb8x : w2.heap.size < (w2.alloc (.cells #[.pointer none, .slice none 0 0] 78)).heap.size := by simp
  generalize w2.alloc (.cells #[.pointer none, .slice none 0 0] 78) = w3 at HB3 hN hb8x ⊢
  generalize w2.heap.size = b8 at hN hb8w hb8x ⊢
  refine (bld_grow w.heap.size b8 oc w3 hb8w hN HB3.out.size (by omega)).mono ?_
  rintro r w4 ⟨rfl, hbd, hb4⟩
  have HB4 : Hid (Below w.heap.size w w4) := HB3.out.trans hb4
  have HK4 := Lib.hid hbd
  clear hb4 hbd hN HB3
  go_wp2_with fail
  rw [HX.out]
  have HT4 := Lib.hid (HT.out.after HB4.out)
  refine (seal_any x _ (by omega) HT4.out.2).mono ?_
  rintro r w5 ⟨rfl, hb5⟩
  rw [HSX.out]
  have HB5 := Lib.hid (HB4.out.trans (hb5.mono HB4.out.size))
  have HK5 := Lib.hid (HK4.out.after hb5)
  clear hb5 HT4 HB4 HK4 HB2 HE HD1 HSX HX
  go_wp2_with fail
  rw [HZ.out]
  refine (pieces_any z 8 _).mono ?_
  rintro r w6 ⟨rfl, rfl⟩
  go_wp2_with fail
  obtain ⟨w6, hw6⟩ : ∃ w6, (w5.alloc (.cells #[.string z] 9)).alloc (.cells #[.int .i64 8] 3) = w6 := ⟨_, rfl⟩
  have hb6 : Below w5.heap.size w5 w6 := by rw [← hw6]; exact ((Below.refl _ _).alloc (Nat.le_refl _) _).alloc (by simp) _
  have hz6 : w6.heap.size = w5.heap.size + 2 := by rw [← hw6]; simp
  have g1 : Blk w6 w5.heap.size #[.string z] 9 := by rw [← hw6]; exact (Blk.new w5 #[.string z] 9).alloc _
  have g2 : Blk w6 (w5.heap.size + 1) #[.int .i64 8] 3 := by
    rw [← hw6]
    have h := Blk.new (w5.alloc (.cells #[.string z] 9)) #[.int .i64 8] 3
    rwa [World.size_alloc] at h
  have HB6 := Lib.hid (HB5.out.trans (hb6.mono HB5.out.size))
  have HK6 := Lib.hid (HK5.out.after hb6)
  have hb85 : b8 < w5.heap.size := HK5.out.lt
  have hws : w.heap.size ≤ w5.heap.size := HB5.out.size
  have hc1 := g1.cell 0
  have hc2 := g2.cell 0
  rw [hw6]
  generalize w5.heap.size = b5 at hb6 hz6 g1 g2 hc1 hc2 hb85 hws ⊢
  clear hw6 hb6 HB5 HK5
  refine wpIn_wide.1 (wpIn_rangeFunc_ownG (F := Fence.wide) (n := 9) rfl (by decide) (gf := 65) (lb := #[.pointer (some ⟨b5, 0, none⟩), .pointer (some ⟨b5 + 1, 0, none⟩)]) rfl trivial (enters_of Tryd.func65 (by kernel_rfl) rfl)
    (pieces_stops 8 (by decide) b5 (b5 + 1) 8 z (by decide) (by decide) (by omega) hz8 w6 (by omega) (by omega) hc1 hc2) KeepB.trans (KeepB.mark (by simp; omega)) (Below.refl _ _) (fun _ => rfl)
    (fun pre W => (Bld w.heap.size b8 (encLs (pre.map (·.1))) W ∧ Blk W b5 #[.string z] 9 ∧ Blk W (b5 + 1) #[.int .i64 8] 3) ∧ Below w.heap.size w W) (fun _ _ _ => False)
    (OwnFrom.and (Own.from (fun s A B row hs hg hr => ⟨hs.1.kept hg hr, blk_kept hs.2.1 hg hr, blk_kept hs.2.2 hg hr⟩) _) (ownFrom_below (Nat.le_refl _) (by omega)))
    (fun _ _ _ _ _ hs _ _ => hs)
    ⟨⟨HK6.out, g1, g2⟩, HB6.out⟩
    (fun x8 => { tmps := #[Value.agg (ta k l q e), Value.string data, Value.pointer (some { block := w.heap.size, off := 0 }), undef,
          Value.string { data := #[] }, Value.int IntKind.i64 0, Value.string tg, Value.int IntKind.i64 0,
          Value.pointer (some { block := b8, off := 0 }), Value.string x8.1, undef, undef, Value.string data,
          Value.int IntKind.i64 ↑data.size, Value.bool true, Value.bool false,
          Value.tuple #[Value.string tg, Value.int IntKind.i64 0], Value.agg (ta k l q e),
          Value.tuple #[Value.string tg, Value.int IntKind.i64 0], Value.string tg, Value.int IntKind.i64 0,
          Value.int IntKind.i64 0, Value.bool false, undef, Value.string data, Value.int IntKind.i64 ↑data.size,
          Value.int IntKind.i64 ↑oc, Value.tuple #[], Value.string tg, Value.string data, Value.string x,
          Value.string sx, Value.string z,
          Value.func (Fn.func 65) #[]
            #[Value.pointer (some { block := b5, off := 0 }), Value.pointer (some { block := b5 + 1, off := 0 })],
          Value.string x8.1, undef, undef, undef, undef, undef, undef, undef, undef], defers := [] }) ?assign ?body ?done ?stop)
  case assign =>
    intro l' x8 W K hK
    gi_wp2
    exact hK
  case body =>
    rintro l' pre x8 W ⟨⟨hbd, hk1, hk2⟩, hBW⟩ hlen
    have HTW := Lib.hid (HT.out.after hBW)
    have HBW := Lib.hid hBW
    have HBD := Lib.hid hbd
    have HK1 := Lib.hid hk1
    have HK2 := Lib.hid hk2
    obtain ⟨acc, hacc⟩ : ∃ acc, encLs (pre.map (·.1)) = acc := ⟨_, rfl⟩
    have hsn : encLs ((pre ++ [x8]).map (·.1)) = acc ++ encS x8.1 := by rw [List.map_append, ← hacc]; exact encLs_snoc _ _
    have HSN := Lib.hid hsn
    rw [hacc] at HBD
    have hez : (encS x8.1).size = 9 := by rw [encS_size, x8.2]
    have haz : acc.size ≤ 1000 := by
      rw [← hacc, encLs_size]
      omega
    clear hBW hbd hacc hsn hk1 hk2
    gi_wp2_with fail
    refine ⟨trivial, CallsIn.inRound l' (callsIn_wide.2 ((ham_enc_yes x8.1 _ x8.2 HTW.out.1).mono ?_))⟩
    rintro r w7 ⟨rfl, hb7⟩
    obtain ⟨e8, he8⟩ : ∃ t, encS x8.1 = t := ⟨_, rfl⟩
    rw [he8] at HSN hez ⊢
    have HB7 := Lib.hid hb7
    clear hb7 he8
    gi_wp2_with fail
    refine ⟨trivial, CallsIn.inRound l' (callsIn_wide.2 ((bld_write w.heap.size b8 acc e8 _ (HBD.out.after HB7.out) (by omega)).mono ?_))⟩
    rintro r w8 ⟨rfl, hbd8, hb8, hk8⟩
    have HBD8 := Lib.hid hbd8
    have HB8 := Lib.hid hb8
    have HK8 := Lib.hid hk8
    clear hbd8 hb8 hk8
    gi_wp2_with fail
    exact ⟨(keeps_of_below _ HB7.out).trans (keepsFrom_others _ HK8.out HB8.out.size (HBD.out.after HB7.out).cells),
      (KeepB.of_below HB7.out (by have := HK1.out.lt; have := HK2.out.lt; simp; omega)).trans (keepB_two HK8.out (HK1.out.after HB7.out) (HK2.out.after HB7.out) (by omega) (by omega) (by decide) (by decide)),
      ⟨by rw [HSN.out]; exact HBD8.out, blk_others HK8.out (HK1.out.after HB7.out) (by omega) (by decide), blk_others HK8.out (HK2.out.after HB7.out) (by omega) (by decide)⟩, (HBW.out.trans (HB7.out.mono HBW.out.size)).trans HB8.out⟩
  case done =>
    rintro D ys W hD hys ⟨⟨hbd, _, _⟩, hBW⟩ hK
    have hres : encLs (ys.map (·.1)) = pageS k l q e data := by rw [hys, encLs_pcs, hzz]; exact HPG.out
    rw [hres] at hbd
    obtain ⟨ps, hps⟩ : ∃ t, pageS k l q e data = t := ⟨_, rfl⟩
    rw [hps] at hbd
    have HPS := Lib.hid hps
    have HBW := Lib.hid hBW
    have HBD := Lib.hid hbd
    have HK := Lib.hid hK
    have HD := Lib.hid hD
    clear hBW hys hres hps hK hbd hD
    go_wp2_with fail
    refine (bld_string w.heap.size b8 ps W HBD.out).mono ?_
    rintro r w9 ⟨rfl, _, hb9, hk9⟩
    have HK9 : Hid (w9.heap[D]? = some (.deferred (some []))) := deferred_others hk9 HK.out (by have := HD.out; omega)
    have HM : Hid (Below w.heap.size w (w9.putObj D (.deferred none))) := below_mark (HBW.out.trans hb9) (by have := HD.out; omega) HK9.out
    clear hb9 hk9
    go_wp2_with fail
    exact leave_one rfl HK9.out (results_tmp2 rfl _ _ _) ⟨by rw [HPS.out]; rfl, HM.out⟩
  case stop =>
    rintro D c pre W _ _ h _
    exact h.elim

theorem fr_enc (k l q e : Int) (data : ByteArray) (w : World) (_ : data.size ≤ maxLen) (hT : Tabs w) : Calls Tryd.prog 25 #[.agg (ta k l q e), .string data] w (FrEnc k l q e data w) := by
  by_cases hl : LenOk data.size
  · by_cases hm : MayT k l q e
    · exact fr_enc_yes k l q e data w hl hm hT
    · exact fr_enc_range k l q e data w hl hm
  · exact fr_enc_long k l q e data w hl

end Go.Proofs.YtjmoecfgpfdncaaDoor

/- Package frame, walked: unpacked. -/
namespace Go.Proofs.YtjmoecfgpfdncaaDoor
set_option maxRecDepth 100000
open Go.RowKit
attribute [local go_sem] Oper.semAt_some

/-- what chunks hold; whether one is bad; what the worst of them is, where none is bad -/
def heldL (l : List ByteArray) : ByteArray := l.foldl (fun a x => a ++ (decS x).1) ByteArray.empty
def badL (l : List ByteArray) : Bool := l.any fun x => decide ((decS x).2 = 4)
def fixL (l : List ByteArray) : Bool := l.any fun x => decide ((decS x).2 = 3)
def toldL (l : List ByteArray) : Int := if fixL l then 3 else 2
theorem heldL_snoc (l : List ByteArray) (x : ByteArray) : heldL (l ++ [x]) = heldL l ++ (decS x).1 := by simp [heldL]
theorem badL_snoc (l : List ByteArray) (x : ByteArray) : badL (l ++ [x]) = (badL l || decide ((decS x).2 = 4)) := by simp [badL]
theorem fixL_snoc (l : List ByteArray) (x : ByteArray) : fixL (l ++ [x]) = (fixL l || decide ((decS x).2 = 3)) := by simp [fixL]
theorem heldL_pcs (s : ByteArray) : ∀ k, heldL (pcs s 9 k) = heldTo s k
  | 0 => rfl
  | k + 1 => by rw [pcs_succ, heldL_snoc, heldL_pcs s k]; rfl
theorem badL_pcs (s : ByteArray) : ∀ k, badL (pcs s 9 k) = badTo s k
  | 0 => rfl
  | k + 1 => by rw [pcs_succ, badL_snoc, badL_pcs s k]; rfl
theorem fixL_pcs (s : ByteArray) : ∀ k, fixL (pcs s 9 k) = fixTo s k
  | 0 => rfl
  | k + 1 => by rw [pcs_succ, fixL_snoc, fixL_pcs s k]; rfl
theorem toldL_pcs (s : ByteArray) (k : Nat) : toldL (pcs s 9 k) = toldTo s k := by unfold toldL toldTo; rw [fixL_pcs]

theorem heldL_size : ∀ (l : List (Str 9)) (a : ByteArray), badL (l.map (·.1)) = false → ((l.map (·.1)).foldl (fun a x => a ++ (decS x).1) a).size = a.size + 8 * l.length
  | [], a, _ => rfl
  | x :: l, a, h => by
    have hb : (decide ((decS x.1).2 = 4) || badL (l.map (·.1))) = false := h
    rw [Bool.or_eq_false_iff] at hb
    rcases decS_cases x.1 x.2 with h5 | ⟨_, h5⟩
    · exact absurd h5 (of_decide_eq_false hb.1)
    · rw [List.map_cons, List.foldl_cons, heldL_size l _ hb.2, ByteArray.size_append, h5, List.length_cons]; omega

/-- what each operation of the region UN leaves -/
def vsUN (t : ByteArray) (v : Int) : List (Option (Tmp × Value)) :=
  [some (26, .string t), some (27, .int .i64 v), some (2, .string t), some (3, .int .i64 v)]
/-- the frame while the region UN runs -/
def BaseUN (b3 bw D : Nat) (a : Act) : Prop := ∃ u : Nat → Value, a = ⟨#[u 0, u 1, u 2, u 3, .pointer (some ⟨b3, 0, none⟩), .pointer (some ⟨bw, 0, none⟩), u 6, u 7, u 8, u 9, u 10, u 11, u 12, u 13, u 14, u 15, u 16, u 17, u 18, u 19, u 20, u 21, u 22, u 23, u 24, u 25, u 26, u 27], [{ target := Target.collected D, args := #[] }]⟩
theorem BaseUN.of {b3 bw D : Nat} (arr : Array Value) (h : arr = #[arr.getD 0 undef, arr.getD 1 undef, arr.getD 2 undef, arr.getD 3 undef, .pointer (some ⟨b3, 0, none⟩), .pointer (some ⟨bw, 0, none⟩), arr.getD 6 undef, arr.getD 7 undef, arr.getD 8 undef, arr.getD 9 undef, arr.getD 10 undef, arr.getD 11 undef, arr.getD 12 undef, arr.getD 13 undef, arr.getD 14 undef, arr.getD 15 undef, arr.getD 16 undef, arr.getD 17 undef, arr.getD 18 undef, arr.getD 19 undef, arr.getD 20 undef, arr.getD 21 undef, arr.getD 22 undef, arr.getD 23 undef, arr.getD 24 undef, arr.getD 25 undef, arr.getD 26 undef, arr.getD 27 undef]) : BaseUN b3 bw D ⟨arr, [{ target := Target.collected D, args := #[] }]⟩ := ⟨fun i => arr.getD i undef, by rw [← h]⟩
theorem BaseUN.put26 {b3 bw D : Nat} (a : Act) (v : Value) (h : BaseUN b3 bw D a) : BaseUN b3 bw D (a.put (some 26) v) := by
  obtain ⟨u, rfl⟩ := h
  exact ⟨fun i => if i = 26 then v else u i, by kernel_rfl⟩
theorem BaseUN.put27 {b3 bw D : Nat} (a : Act) (v : Value) (h : BaseUN b3 bw D a) : BaseUN b3 bw D (a.put (some 27) v) := by
  obtain ⟨u, rfl⟩ := h
  exact ⟨fun i => if i = 27 then v else u i, by kernel_rfl⟩
theorem BaseUN.put2 {b3 bw D : Nat} (a : Act) (v : Value) (h : BaseUN b3 bw D a) : BaseUN b3 bw D (a.put (some 2) v) := by
  obtain ⟨u, rfl⟩ := h
  exact ⟨fun i => if i = 2 then v else u i, by kernel_rfl⟩
theorem BaseUN.put3 {b3 bw D : Nat} (a : Act) (v : Value) (h : BaseUN b3 bw D a) : BaseUN b3 bw D (a.put (some 3) v) := by
  obtain ⟨u, rfl⟩ := h
  exact ⟨fun i => if i = 3 then v else u i, by kernel_rfl⟩
/-- the world while it runs: the builder, the flag, the loop's record of deferred calls -/
def CU (w0 : World) (b3 bw D : Nat) (t : ByteArray) (v : Int) (w : World) : Prop := Bld b3 b3 t w ∧ Blk w bw #[.int .i64 v] 3 ∧ w.heap[D]? = some (.deferred (some [])) ∧ Below b3 w0 w ∧ bw ≠ b3 ∧ D ≠ b3
theorem CU.call {w0 : World} {b3 bw D : Nat} {t : ByteArray} {v : Int} {w w' : World} (h : CU w0 b3 bw D t v w) (hb : Bld b3 b3 t w') (hw : Below b3 w w') (hk : Lib.OthersKept 5 (some b3) w w') : CU w0 b3 bw D t v w' :=
  ⟨hb, blk_others hk h.2.1 h.2.2.2.2.1 (by decide), deferred_others hk h.2.2.1 h.2.2.2.2.2, h.2.2.2.1.trans hw, h.2.2.2.2⟩
theorem CU.drew {w0 : World} {b3 bw D : Nat} {t : ByteArray} {v : Int} {w : World} (h : CU w0 b3 bw D t v w) : CU w0 b3 bw D t v w.drew := ⟨h.1.drew, h.2.1.drew, h.2.2.1, h.2.2.2.1.drew, h.2.2.2.2⟩

set_option maxHeartbeats 2000000 in
theorem fr_unpacked (s : ByteArray) (w : World) (hs : s.size ≤ 400) (hd : 9 * (s.size / 9) = s.size) (hT : Tabs w) :
    Calls Tryd.prog 30 #[.string s] w fun r w' => (∃ t v, r = .returned (.tuple #[.string t, .int .i64 v]) ∧ (badTo s (s.size / 9) = true → v = 4) ∧ (badTo s (s.size / 9) = false → t = heldTo s (s.size / 9) ∧ v = toldTo s (s.size / 9))) ∧ Below w.heap.size w w' := by
  refine calls_of_marks Tryd.func30 rfl ?_
  simp only [Tryd.ntmps30, List.size_toArray, List.length_cons, List.length_nil, Nat.reduceAdd, Nat.reduceSub, Array.replicate_succ, Array.replicate_zero, List.push_toArray, List.append_toArray, List.nil_append, List.cons_append]
  go_wp2_with fail
  apply wp_scope_straight
  go_hide hQ
  have HQ := Lib.hid hQ
  clear hQ
  go_wp2_with fail
  apply wp_label
  go_wp2_with fail
  refine (pieces_any s 9 _).mono ?_
  rintro r w1 ⟨rfl, rfl⟩
  go_wp2_with fail
  have HT := Lib.hid hT
  obtain ⟨w0, hw0⟩ : ∃ w0, (w.alloc (.cells #[.pointer none, .slice none 0 0] 78)).alloc (.cells #[.int .i64 2] 3) = w0 := ⟨_, rfl⟩
  have hb0 : Below w.heap.size w w0 := by rw [← hw0]; exact ((Below.refl _ _).alloc (Nat.le_refl _) _).alloc (by simp) _
  have hz0 : w0.heap.size = w.heap.size + 1 + 1 := by rw [← hw0]; simp
  have gB : Bld w.heap.size w.heap.size ByteArray.empty w0 := by
    rw [← hw0]
    exact (Bld.alloc (Lib.IsBuilderF.of (Lib.fresh_isBuilder _ _ w)) _)
  have gw : Blk w0 (w.heap.size + 1) #[.int .i64 2] 3 := by
    rw [← hw0]
    have h := Blk.new (w.alloc (.cells #[.pointer none, .slice none 0 0] 78)) #[.int .i64 2] 3
    rwa [World.size_alloc] at h
  rw [hw0, show w.heap.size + 1 + 1 = w0.heap.size from hz0.symm]
  obtain ⟨w6, hw6⟩ : ∃ w6, (w0.alloc (.cells #[.string s] 9)).alloc (.cells #[.int .i64 9] 3) = w6 := ⟨_, rfl⟩
  have hb6 : Below w0.heap.size w0 w6 := by rw [← hw6]; exact ((Below.refl _ _).alloc (Nat.le_refl _) _).alloc (by simp) _
  have hz6 : w6.heap.size = w0.heap.size + 2 := by rw [← hw6]; simp
  have g1 : Blk w6 w0.heap.size #[.string s] 9 := by rw [← hw6]; exact (Blk.new w0 #[.string s] 9).alloc _
  have g2 : Blk w6 (w0.heap.size + 1) #[.int .i64 9] 3 := by
    rw [← hw6]
    have h := Blk.new (w0.alloc (.cells #[.string s] 9)) #[.int .i64 9] 3
    rwa [World.size_alloc] at h
  have HB6 := Lib.hid (hb0.trans (hb6.mono hb0.size))
  have gB6 := gB.after hb6
  have gw6 := gw.after hb6
  have hc1 := g1.cell 0
  have hc2 := g2.cell 0
  have hwz : ∀ W, Below w.heap.size w W → Tabs W := fun W h => hT.after h
  have HWZ := Lib.hid hwz
  rw [hw6]
  generalize w0.heap.size = b5 at hb6 hz0 hz6 g1 g2 hc1 hc2 ⊢
  generalize hb3 : w.heap.size = b3 at *
  have HZ0 := Lib.hid hz0
  have hlt35 : b3 + 1 < b5 := by omega
  obtain ⟨bw, hbw⟩ : ∃ bw, b3 + 1 = bw := ⟨_, rfl⟩
  rw [hbw] at gw6 hlt35 ⊢
  have HBW3 := Lib.hid hbw
  have hl3w : b3 < bw := by omega
  have hx3 : bw ≠ b3 := by omega
  clear hw6 hb6 hw0 hb0 hz0 gB gw hbw hT hwz
  refine wpIn_wide.1 (wpIn_rangeFunc_ownG (F := Fence.wide) (n := 9) rfl (by decide) (gf := 65) (lb := #[.pointer (some ⟨b5, 0, none⟩), .pointer (some ⟨b5 + 1, 0, none⟩)]) rfl trivial (enters_of Tryd.func65 (by kernel_rfl) rfl)
    (pieces_stops 8 (by decide) b5 (b5 + 1) 9 s (by decide) (by decide) (by omega) hd w6 (by omega) (by omega) hc1 hc2) KeepB.trans (KeepB.mark (by simp; omega)) (Below.refl _ _) (fun _ => rfl)
    (fun pre W => (badL (pre.map (·.1)) = false ∧ Bld b3 b3 (heldL (pre.map (·.1))) W ∧ Blk W bw #[.int .i64 (toldL (pre.map (·.1)))] 3 ∧ Blk W b5 #[.string s] 9 ∧ Blk W (b5 + 1) #[.int .i64 9] 3) ∧ Below b3 w W)
    (fun c pre W => (c = .exit 0 ∧ badL (pre.map (·.1)) = true ∧ (∃ t, Bld b3 b3 t W) ∧ Blk W bw #[.int .i64 4] 3) ∧ Below b3 w W)
    (OwnFrom.and (Own.from (fun s A B row hs hg hr => ⟨hs.1, hs.2.1.kept hg hr, blk_kept hs.2.2.1 hg hr, blk_kept hs.2.2.2.1 hg hr, blk_kept hs.2.2.2.2 hg hr⟩) _) (ownFrom_below (by omega) (by omega)))
    (fun c => OwnFrom.and (Own.from (fun s A B row hs hg hr => ⟨hs.1, hs.2.1, hs.2.2.1.imp (fun t h => h.kept hg hr), blk_kept hs.2.2.2 hg hr⟩) _) (ownFrom_below (by omega) (by omega)))
    ⟨⟨rfl, gB6, gw6, g1, g2⟩, HB6.out⟩
    (fun x9 => { tmps := #[Value.string s, undef, Value.string { data := #[] }, Value.int IntKind.i64 0,
          Value.pointer (some { block := b3, off := 0 }),
          Value.pointer (some { block := bw, off := 0 }), Value.string x9.1, undef, undef, undef, Value.string s,
          Value.func (Fn.func 65) #[]
            #[Value.pointer (some { block := b5, off := 0 }), Value.pointer (some { block := b5 + 1, off := 0 })],
          Value.string x9.1, undef, undef, undef, undef, undef, undef, undef, undef, undef, undef, undef, undef, undef, undef,
          undef], defers := [] }) ?assign ?body ?done ?stop)
  case assign =>
    intro l' x9 W K hK
    gi_wp2
    exact hK
  case body =>
    rintro l' pre x9 W ⟨⟨hall, hbd, hkw, hk1, hk2⟩, hBW⟩ hlen
    have HTW := Lib.hid (HWZ.out W hBW)
    have HBW := Lib.hid hBW
    have HBD := Lib.hid hbd
    have HKW := Lib.hid hkw
    have HK1 := Lib.hid hk1
    have HK2 := Lib.hid hk2
    obtain ⟨acc, hacc⟩ : ∃ acc, heldL (pre.map (·.1)) = acc := ⟨_, rfl⟩
    rw [hacc] at HBD
    have hsn : heldL ((pre ++ [x9]).map (·.1)) = acc ++ (decS x9.1).1 := by rw [List.map_append, List.map_singleton, heldL_snoc, hacc]
    have hsb : badL ((pre ++ [x9]).map (·.1)) = decide ((decS x9.1).2 = 4) := by rw [List.map_append, List.map_singleton, badL_snoc, hall]; rfl
    have hst : toldL ((pre ++ [x9]).map (·.1)) = if (decS x9.1).2 = 3 then 3 else toldL (pre.map (·.1)) := by
      unfold toldL
      rw [List.map_append, List.map_singleton, fixL_snoc]
      by_cases h3 : (decS x9.1).2 = 3
      · rw [if_pos h3, decide_eq_true h3, Bool.or_true]; rfl
      · rw [if_neg h3, decide_eq_false h3, Bool.or_false]
    obtain ⟨tv, htv⟩ : ∃ tv, toldL (pre.map (·.1)) = tv := ⟨_, rfl⟩
    rw [htv] at HKW hst
    have hcs := decS_cases x9.1 x9.2
    have haz : acc.size ≤ 1000 := by
      have h := heldL_size pre ByteArray.empty hall
      rw [← hacc]
      unfold heldL
      rw [h, show ByteArray.empty.size = 0 from rfl]
      omega
    obtain ⟨dt, hdt⟩ : ∃ dt, (decS x9.1).1 = dt := ⟨_, rfl⟩
    obtain ⟨dv, hdv⟩ : ∃ dv, (decS x9.1).2 = dv := ⟨_, rfl⟩
    rw [hdt] at hsn hcs
    rw [hdv] at hsb hst hcs
    have HDT := Lib.hid hdt
    have HDV := Lib.hid hdv
    have HSN := Lib.hid hsn
    have HSB := Lib.hid hsb
    have HST := Lib.hid hst
    clear hBW hbd hkw hk1 hk2 hall hacc hsn hsb hst htv hdt hdv
    gi_wp2_with fail
    refine ⟨trivial, CallsIn.inRound l' (callsIn_wide.2 ((ham_dec_yes x9.1 _ x9.2 HTW.out.1).mono ?_))⟩
    rintro r w7 ⟨rfl, hb7⟩
    rw [HDT.out, HDV.out]
    have HB7 := Lib.hid hb7
    have HW7 := Lib.hid (HKW.out.after HB7.out)
    have hcw := HW7.out.cell 0
    have hfw := HW7.out.free 0
    have HB37 : Hid (Below b3 w w7) := HBW.out.trans (HB7.out.mono (by have := HBW.out.size; omega))
    have HBD7 := Lib.hid (HBD.out.after HB7.out)
    have HK17 := Lib.hid (HK1.out.after HB7.out)
    have HK27 := Lib.hid (HK2.out.after HB7.out)
    have HKB7 : Hid (KeepB [b5, b5 + 1] W w7) := KeepB.of_below HB7.out (by have := HK1.out.lt; have := HK2.out.lt; simp; omega)
    clear hb7
    rcases hcs with h4 | ⟨h2 | h3, hz⟩
    · subst h4
      gi_wp2_with fail
      exact ⟨(keeps_of_below _ HB7.out).trans (keeps_set _ _ _), ⟨rfl, by rw [HSB.out]; rfl, ⟨acc, Bld.set (HBD.out.after HB7.out) HW7.out (by omega) (by decide) _⟩, HW7.out.set 0 _ rfl⟩, HB37.out.setCell (p := ⟨bw, 0, none⟩) (Nat.le_of_lt hl3w) _⟩
    · subst h2
      gi_wp2_with fail
      refine ⟨trivial, CallsIn.inRound l' (callsIn_wide.2 ((bld_write b3 b3 acc dt _ HBD7.out (by omega)).mono ?_))⟩
      rintro r w8 ⟨rfl, hbd8, hb8, hk8⟩
      have HBD8 := Lib.hid hbd8
      have HB8 := Lib.hid hb8
      have HK8 := Lib.hid hk8
      clear hbd8 hb8 hk8
      gi_wp2_with fail
      exact ⟨(keeps_of_below _ HB7.out).trans (keepsFrom_others _ HK8.out HB8.out.size HBD7.out.cells), HKB7.out.trans (keepB_two HK8.out HK17.out HK27.out (by omega) (by omega) (by decide) (by decide)),
        ⟨by rw [HSB.out]; rfl, by rw [HSN.out]; exact HBD8.out, by rw [HST.out]; exact blk_others HK8.out HW7.out hx3 (by decide), blk_others HK8.out HK17.out (by omega) (by decide), blk_others HK8.out HK27.out (by omega) (by decide)⟩, HB37.out.trans HB8.out⟩
    · subst h3
      gi_wp2_with fail
      have HBD7s := Lib.hid (HBD7.out.set (i := 0) HW7.out hx3 (by decide) (.int .i64 3))
      refine ⟨trivial, CallsIn.inRound l' (callsIn_wide.2 ((bld_write b3 b3 acc dt _ HBD7s.out (by omega)).mono ?_))⟩
      rintro r w8 ⟨rfl, hbd8, hb8, hk8⟩
      have HBD8 := Lib.hid hbd8
      have HB8 := Lib.hid hb8
      have HK8 := Lib.hid hk8
      have HW7s : Hid (Blk (w7.setCell ⟨bw, 0, none⟩ (.int .i64 3)) bw #[.int .i64 3] 3) := HW7.out.set 0 _ rfl
      have HK17s : Hid (Blk (w7.setCell ⟨bw, 0, none⟩ (.int .i64 3)) b5 #[.string s] 9) := HK17.out.set_other (by omega) _ _
      have HK27s : Hid (Blk (w7.setCell ⟨bw, 0, none⟩ (.int .i64 3)) (b5 + 1) #[.int .i64 9] 3) := HK27.out.set_other (by omega) _ _
      clear hbd8 hb8 hk8
      gi_wp2_with fail
      exact ⟨(keeps_of_below _ HB7.out).trans ((keeps_set _ _ _).trans (keepsFrom_others _ HK8.out HB8.out.size HBD7s.out.cells)), HKB7.out.trans ((KeepB.set 0 _ (by simp; omega)).trans (keepB_two HK8.out HK17s.out HK27s.out (by omega) (by omega) (by decide) (by decide))),
        ⟨by rw [HSB.out]; rfl, by rw [HSN.out]; exact HBD8.out, by rw [HST.out]; exact blk_others HK8.out HW7s.out hx3 (by decide), blk_others HK8.out HK17s.out (by omega) (by decide), blk_others HK8.out HK27s.out (by omega) (by decide)⟩, (HB37.out.setCell (p := ⟨bw, 0, none⟩) (Nat.le_of_lt hl3w) _).trans HB8.out⟩
  case done =>
    rintro D ys W hD hys ⟨⟨hall, hbd, hkw, _, _⟩, hBW⟩ hK
    have hres : badTo s (s.size / 9) = false := by rw [← badL_pcs, ← hys]; exact hall
    have hht : heldL (ys.map (·.1)) = heldTo s (s.size / 9) := by rw [hys, heldL_pcs]
    have htt : toldL (ys.map (·.1)) = toldTo s (s.size / 9) := by rw [hys, toldL_pcs]
    rw [hht] at hbd
    rw [htt] at hkw
    have HR := Lib.hid hres
    have HBW := Lib.hid hBW
    have HBD := Lib.hid hbd
    have HKW := Lib.hid hkw
    have HK := Lib.hid hK
    have HD := Lib.hid hD
    have hcw := hkw.cell 0
    clear hBW hys hres hK hbd hkw hD hall hht htt
    go_wp2_with fail
    have HC : Hid (CU w b3 bw D (heldTo s (s.size / 9)) (toldTo s (s.size / 9)) W) := ⟨HBD.out, HKW.out, HK.out, HBW.out, hx3, by have := HD.out; omega⟩
    obtain ⟨t, ht⟩ : ∃ t, heldTo s (s.size / 9) = t := ⟨_, rfl⟩
    obtain ⟨v, hv⟩ : ∃ v, toldTo s (s.size / 9) = v := ⟨_, rfl⟩
    rw [ht, hv] at HC
    have HTV : Hid (t = heldTo s (s.size / 9) ∧ v = toldTo s (s.size / 9)) := ⟨ht.symm, hv.symm⟩
    clear ht hv hcw
    clear HBD HKW
    refine wp_region_list3 (SV (vsUN t v) []) (BaseUN b3 bw D) (CU w b3 bw D t v) (fun _ _ => True) (RV (vsUN t v) (fun _ _ _ => True)) rfl (by kernel_rfl) (RV.ext (fun _ _ _ _ _ _ _ _ => trivial)) ?base HC.out.drew (BaseUN.of _ (by kernel_rfl)) ?steps ?fin
    case base => exact ⟨BaseUN.put26, BaseUN.put27, BaseUN.put2, BaseUN.put3, trivial⟩
    case steps =>
      refine ⟨?_, ?_, ?_, ?_, trivial⟩
      all_goals
        intro a w' hC hB hR
        obtain ⟨u, rfl⟩ := hB
        have HC := Lib.hid hC
        clear hC
      · clear hR
        refine if_yes (by kernel_rfl) ?_
        unfold Oper.wp
        go_simp
        refine (bld_string b3 b3 t _ HC.out.1).mono ?_
        rintro r w2 ⟨rfl, hbd2, hb2, hk2⟩
        exact ⟨.string t, rfl, HC.out.call hbd2 hb2 hk2, trivial, rfl⟩
      · have hcw := HC.out.2.1.cell 0
        clear hR
        refine if_yes (by kernel_rfl) ?_
        unfold Oper.wp
        go_simp
        exact ⟨.int .i64 v, rfl, HC.out, trivial, rfl⟩
      · have h26 : u 26 = .string t := hR ⟨0, .data⟩ (by simp) rfl
        clear hR
        simp only [h26]
        clear h26
        refine if_yes (by kernel_rfl) ?_
        unfold Oper.wp
        go_simp
        exact ⟨.string t, rfl, HC.out, trivial, rfl⟩
      · have h27 : u 27 = .int .i64 v := hR ⟨1, .data⟩ (by simp) rfl
        clear hR
        simp only [h27]
        clear h27
        refine if_yes (by kernel_rfl) ?_
        unfold Oper.wp
        go_simp
        exact ⟨.int .i64 v, rfl, HC.out, trivial, rfl⟩
    case fin =>
      intro a w' hC hB hR
      obtain ⟨u, rfl⟩ := hB
      have h2 : u 2 = .string t := hR 2 (by decide)
      have h3 : u 3 = .int .i64 v := hR 3 (by decide)
      clear hR
      simp only [h2, h3]
      clear h2 h3
      have HC := Lib.hid hC
      clear hC
      go_wp2_with fail
      have hQ := HQ.out
      subst hQ
      rw [Exit.noGoto_ret]
      exact leave_one rfl HC.out.2.2.1 (results_tmp2 rfl _ _ _) ⟨⟨t, v, rfl, fun h => (Bool.noConfusion (HR.out.symm.trans h)), fun _ => HTV.out⟩, below_mark (by rw [hb3]; exact HC.out.2.2.2.1) (by have := HD.out; omega) HC.out.2.2.1⟩
  case stop =>
    rintro D c pre W hD ⟨k, hk, hpre⟩ ⟨⟨rfl, hall, ⟨t, hbd⟩, hkw⟩, hBW⟩ hK
    have hres : badTo s (s.size / 9) = true := bad_later (k := k) (by rw [← badL_pcs, ← hpre]; exact hall) hk
    have HR := Lib.hid hres
    have HBW := Lib.hid hBW
    have HBD := Lib.hid hbd
    have HKW := Lib.hid hkw
    have HK := Lib.hid hK
    have HD := Lib.hid hD
    have hcw := hkw.cell 0
    clear hBW hpre hres hK hbd hkw hD hall hk
    gi_wp2_with fail
    go_wp2_with fail
    have HC : Hid (CU w b3 bw D t 4 W) := ⟨HBD.out, HKW.out, HK.out, HBW.out, hx3, by have := HD.out; omega⟩
    obtain ⟨v, hv⟩ : ∃ v : Int, 4 = v := ⟨_, rfl⟩
    rw [hv] at HC
    have HTV := Lib.hid hv
    clear hv hcw
    clear HBD HKW
    refine wp_region_list3 (SV (vsUN t v) []) (BaseUN b3 bw D) (CU w b3 bw D t v) (fun _ _ => True) (RV (vsUN t v) (fun _ _ _ => True)) rfl (by kernel_rfl) (RV.ext (fun _ _ _ _ _ _ _ _ => trivial)) ?base HC.out.drew (BaseUN.of _ (by kernel_rfl)) ?steps ?fin
    case base => exact ⟨BaseUN.put26, BaseUN.put27, BaseUN.put2, BaseUN.put3, trivial⟩
    case steps =>
      refine ⟨?_, ?_, ?_, ?_, trivial⟩
      all_goals
        intro a w' hC hB hR
        obtain ⟨u, rfl⟩ := hB
        have HC := Lib.hid hC
        clear hC
      · clear hR
        refine if_yes (by kernel_rfl) ?_
        unfold Oper.wp
        go_simp
        refine (bld_string b3 b3 t _ HC.out.1).mono ?_
        rintro r w2 ⟨rfl, hbd2, hb2, hk2⟩
        exact ⟨.string t, rfl, HC.out.call hbd2 hb2 hk2, trivial, rfl⟩
      · have hcw := HC.out.2.1.cell 0
        clear hR
        refine if_yes (by kernel_rfl) ?_
        unfold Oper.wp
        go_simp
        exact ⟨.int .i64 v, rfl, HC.out, trivial, rfl⟩
      · have h26 : u 26 = .string t := hR ⟨0, .data⟩ (by simp) rfl
        clear hR
        simp only [h26]
        clear h26
        refine if_yes (by kernel_rfl) ?_
        unfold Oper.wp
        go_simp
        exact ⟨.string t, rfl, HC.out, trivial, rfl⟩
      · have h27 : u 27 = .int .i64 v := hR ⟨1, .data⟩ (by simp) rfl
        clear hR
        simp only [h27]
        clear h27
        refine if_yes (by kernel_rfl) ?_
        unfold Oper.wp
        go_simp
        exact ⟨.int .i64 v, rfl, HC.out, trivial, rfl⟩
    case fin =>
      intro a w' hC hB hR
      obtain ⟨u, rfl⟩ := hB
      have h2 : u 2 = .string t := hR 2 (by decide)
      have h3 : u 3 = .int .i64 v := hR 3 (by decide)
      clear hR
      simp only [h2, h3]
      clear h2 h3
      have HC := Lib.hid hC
      clear hC
      go_wp2_with fail
      have hQ := HQ.out
      subst hQ
      rw [Exit.noGoto_ret]
      exact leave_one rfl HC.out.2.2.1 (results_tmp2 rfl _ _ _) ⟨⟨t, v, rfl, fun _ => HTV.out.symm, fun h => (Bool.noConfusion (HR.out.symm.trans h))⟩, below_mark (by rw [hb3]; exact HC.out.2.2.2.1) (by have := HD.out; omega) HC.out.2.2.1⟩

end Go.Proofs.YtjmoecfgpfdncaaDoor

/- Package frame, walked: isBlank. -/
namespace Go.Proofs.YtjmoecfgpfdncaaDoor
set_option maxRecDepth 100000
open Go.RowKit
attribute [local go_sem] Oper.semAt_some

/-- what a function of one result gives, that lies in a cell of its own -/
theorem results_cell_one {P : Program} {fn : Func} {p : Tmp} {ty : TypeId} (h : fn.results = #[.cell p ty]) (tmps : Array Value) (w : World) (g : Nat) (v : Value)
    (hp : tmps.getD p undef = .pointer (some ⟨g, 0, none⟩)) (hc : w.cell? ⟨g, 0, none⟩ = some v) (ha : ∀ w, (isAgg ty).run P w = .ok false w) : (results fn tmps).run P w = .ok v w := by
  have hp' : tmps[p]?.getD undef = .pointer (some ⟨g, 0, none⟩) := by simpa using hp
  simp [results, h, hp', asAddr, loadVar, ha]
  rw [hc]
/-- no text of these has more than one bit that is 0 -/
def allB (l : List ByteArray) : Bool := l.all fun x => decide (zs x.data.toList ≤ 1)
theorem allB_snoc (l : List ByteArray) (x : ByteArray) : allB (l ++ [x]) = (allB l && decide (zs x.data.toList ≤ 1)) := by simp [allB]
theorem allB_pcs (s : ByteArray) : ∀ k, allB (pcs s 9 k) = blankTo s k
  | 0 => rfl
  | k + 1 => by rw [pcs_succ, allB_snoc, allB_pcs s k]; rfl
theorem blank_later {s : ByteArray} {k c : Nat} (h : blankTo s k = false) (hc : k ≤ c) : blankTo s c = false := by
  induction c with
  | zero => rw [← Nat.le_zero.1 hc]; exact h
  | succ c ih =>
    by_cases e : k = c + 1
    · rw [← e]; exact h
    · show (blankTo s c && _) = false
      rw [ih (by omega)]; rfl
theorem zs_all (x : ByteArray) : zsTo x x.size = zs x.data.toList := by
  unfold zsTo
  rw [List.take_of_length_le (by simp)]

set_option maxHeartbeats 2000000 in
theorem fr_isBlank (s : ByteArray) (w : World) (hs : s.size ≤ 400) (hd : 9 * (s.size / 9) = s.size) :
    Calls Tryd.prog 29 #[.string s] w fun r w' => r = .returned (.bool (blankTo s (s.size / 9))) ∧ Below w.heap.size w w' := by
  refine calls_of_marks Tryd.func29 rfl ?_
  simp only [Tryd.ntmps29, List.size_toArray, List.length_cons, List.length_nil, Nat.reduceAdd, Nat.reduceSub, Array.replicate_succ, Array.replicate_zero, List.push_toArray, List.append_toArray, List.nil_append, List.cons_append]
  go_wp2_with fail
  refine (pieces_any s 9 _).mono ?_
  rintro r w1 ⟨rfl, rfl⟩
  go_wp2_with fail
  obtain ⟨w0, hw0⟩ : ∃ w0, w.alloc (.cells #[.bool false] 4) = w0 := ⟨_, rfl⟩
  have hb0 : Below w.heap.size w w0 := by rw [← hw0]; exact (Below.refl _ _).alloc (Nat.le_refl _) _
  have hz0 : w0.heap.size = w.heap.size + 1 := by rw [← hw0]; simp
  have g0 : Blk w0 w.heap.size #[.bool false] 4 := by rw [← hw0]; exact Blk.new w _ _
  rw [hw0, show w.heap.size + 1 = w0.heap.size from hz0.symm]
  obtain ⟨w6, hw6⟩ : ∃ w6, (w0.alloc (.cells #[.string s] 9)).alloc (.cells #[.int .i64 9] 3) = w6 := ⟨_, rfl⟩
  have hb6 : Below w0.heap.size w0 w6 := by rw [← hw6]; exact ((Below.refl _ _).alloc (Nat.le_refl _) _).alloc (by simp) _
  have hz6 : w6.heap.size = w0.heap.size + 2 := by rw [← hw6]; simp
  have g1 : Blk w6 w0.heap.size #[.string s] 9 := by rw [← hw6]; exact (Blk.new w0 #[.string s] 9).alloc _
  have g2 : Blk w6 (w0.heap.size + 1) #[.int .i64 9] 3 := by
    rw [← hw6]
    have h := Blk.new (w0.alloc (.cells #[.string s] 9)) #[.int .i64 9] 3
    rwa [World.size_alloc] at h
  have HB6 := Lib.hid (hb0.trans (hb6.mono hb0.size))
  have g3 := g0.after hb6
  have hc1 := g1.cell 0
  have hc2 := g2.cell 0
  rw [hw6]
  generalize w0.heap.size = b5 at hb6 hz0 hz6 g1 g2 hc1 hc2 ⊢
  generalize hb3 : w.heap.size = b3 at *
  have HZ0 := Lib.hid hz0
  have hlt35 : b3 < b5 := by omega
  clear hw6 hb6 hw0 hb0 g0 hz0
  refine wpIn_wide.1 (wpIn_rangeFunc_ownG (F := Fence.wide) (n := 9) rfl (by decide) (gf := 65) (lb := #[.pointer (some ⟨b5, 0, none⟩), .pointer (some ⟨b5 + 1, 0, none⟩)]) rfl trivial (enters_of Tryd.func65 (by kernel_rfl) rfl)
    (pieces_stops 8 (by decide) b5 (b5 + 1) 9 s (by decide) (by decide) (by omega) hd w6 (by omega) (by omega) hc1 hc2) KeepB.trans (KeepB.mark (by simp; omega)) (Below.refl _ _) (fun _ => rfl)
    (fun pre W => (allB (pre.map (·.1)) = true ∧ Blk W b3 #[.bool false] 4) ∧ Below b3 w W)
    (fun c pre W => (c = .ret ∧ allB (pre.map (·.1)) = false ∧ Blk W b3 #[.bool false] 4) ∧ Below b3 w W)
    (OwnFrom.and (Own.from (fun s A B row hs hg hr => ⟨hs.1, blk_kept hs.2 hg hr⟩) _) (ownFrom_below (by omega) (by omega)))
    (fun c => OwnFrom.and (Own.from (fun s A B row hs hg hr => ⟨hs.1, hs.2.1, blk_kept hs.2.2 hg hr⟩) _) (ownFrom_below (by omega) (by omega)))
    ⟨⟨rfl, g3⟩, HB6.out⟩
    (fun x9 => { tmps := #[Value.string s, undef, Value.pointer (some { block := b3, off := 0 }), Value.string x9.1, Value.string s,
          Value.func (Fn.func 65) #[]
            #[Value.pointer (some { block := b5, off := 0 }), Value.pointer (some { block := b5 + 1, off := 0 })],
          Value.string x9.1, undef, undef, undef], defers := [] }) ?assign ?body ?done ?stop)
  case assign =>
    intro l' x9 W K hK
    gi_wp2
    exact hK
  case body =>
    rintro l' pre x9 W ⟨⟨hall, hk3⟩, hBW⟩ hlen
    have HBW := Lib.hid hBW
    have HK3 := Lib.hid hk3
    have hsn : allB ((pre ++ [x9]).map (·.1)) = decide (zs x9.1.data.toList ≤ 1) := by rw [List.map_append, List.map_singleton, allB_snoc, hall]; rfl
    have hx9 : x9.1.size ≤ 1000 := by rw [x9.2]; decide
    have hzz := zs_all x9.1
    have hb9 : zs x9.1.data.toList ≤ 1000 := by have := zs_le x9.1.data.toList; have := x9.2; simp at *; omega
    obtain ⟨n, hn⟩ : ∃ n, zs x9.1.data.toList = n := ⟨_, rfl⟩
    rw [hn] at hsn hzz hb9
    have HSN := Lib.hid hsn
    have HZZ := Lib.hid hzz
    have hc3 := hk3.cell 0
    have hf3 := hk3.free 0
    clear hBW hk3 hall hsn hzz hn
    gi_wp2_with fail
    refine ⟨trivial, CallsIn.inRound l' (callsIn_wide.2 ((zeros_any x9.1 _ hx9).mono ?_))⟩
    rintro r w7 ⟨rfl, rfl⟩
    rw [HZZ.out]
    by_cases h1 : n ≤ 1
    · have h1i : ¬ (1 : Int) < (n : Int) := by omega
      have HA : Hid (allB ((pre ++ [x9]).map (·.1)) = true) := by rw [HSN.out]; exact decide_eq_true h1
      gi_wp2_with fail
      exact ⟨KeepsFrom.refl _ _, KeepB.refl _ _, ⟨HA.out, HK3.out⟩, HBW.out⟩
    · have h1i : (1 : Int) < (n : Int) := by omega
      have HA : Hid (allB ((pre ++ [x9]).map (·.1)) = false) := by rw [HSN.out]; exact decide_eq_false h1
      gi_wp2_with fail
      exact ⟨keeps_set _ _ _, ⟨rfl, HA.out, HK3.out.set 0 _ rfl⟩, HBW.out.setCell (p := ⟨b3, 0, none⟩) (Nat.le_refl _) _⟩
  case done =>
    rintro D ys W hD hys ⟨⟨hall, hk3⟩, hBW⟩ hK
    have hres : blankTo s (s.size / 9) = true := by rw [← allB_pcs, ← hys]; exact hall
    have HR := Lib.hid hres
    have HBW := Lib.hid hBW
    have HK3 := Lib.hid hk3
    have HK := Lib.hid hK
    have HD := Lib.hid hD
    have hc3 := hk3.cell 0
    have hf3 := hk3.free 0
    clear hBW hys hres hK hk3 hD hall
    go_wp2_with fail
    have hW := HK3.out.set 0 (.bool true) rfl
    have hKs : (W.setCell ⟨b3, 0, none⟩ (.bool true)).heap[D]? = some (.deferred (some [])) := (Below.heap_setCell _ _ _ _ (by have := HD.out; simp; omega)).trans HK.out
    exact leave_one rfl hKs (results_cell_one rfl _ _ b3 _ rfl ((blk_mark hW hKs).cell 0) Tryd.isAgg4) ⟨by rw [HR.out]; rfl, below_mark (by rw [hb3]; exact HBW.out.setCell (p := ⟨b3, 0, none⟩) (Nat.le_refl _) _) (by have := HD.out; omega) hKs⟩
  case stop =>
    rintro D c pre W hD ⟨k, hk, hpre⟩ ⟨⟨rfl, hall, hk3⟩, hBW⟩ hK
    have hres : blankTo s (s.size / 9) = false := blank_later (k := k) (by rw [← allB_pcs, ← hpre]; exact hall) hk
    have HR := Lib.hid hres
    have HBW := Lib.hid hBW
    have HK3 := Lib.hid hk3
    have HK := Lib.hid hK
    have HD := Lib.hid hD
    clear hBW hres hK hk3 hall hpre hD
    gi_wp2_with fail
    exact leave_one rfl HK.out (results_cell_one rfl _ _ b3 _ rfl ((blk_mark HK3.out HK.out).cell 0) Tryd.isAgg4) ⟨by rw [HR.out]; rfl, below_mark (by rw [hb3]; exact HBW.out) (by have := HD.out; omega) HK.out⟩

end Go.Proofs.YtjmoecfgpfdncaaDoor
