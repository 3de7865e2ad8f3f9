/- Package tag, walked: Decode. -/
import Derived.Test.YtgpegacbgjdogaaTagC2
namespace Go.Proofs.Ytgpegacbgjdogaa
open Go.RowKit

theorem form_iff (s : ByteArray) (h : s.size = 16) : FormT s ↔ byteT s 0 = 27 ∧ s.extract 14 16 = ⟨#[0, 0]⟩ := by
  have hl : s.data.toList.length = 16 := by simpa using h
  have he : s.extract 14 16 = ⟨#[0, 0]⟩ ↔ (s.data.toList.take 16).drop 14 = [0, 0] := by
    constructor
    · intro e
      rw [← list_extract, e]
    · intro e
      apply bytes_eq
      rw [list_extract, e]
  rw [he]
  unfold FormT byteT
  generalize s.data.toList = t at *
  match t, hl with
  | [b0, b1, b2, b3, b4, b5, b6, b7, b8, b9, b10, b11, b12, b13, b14, b15], _ =>
    simp only [List.getD_cons_zero, List.getD_cons_succ, h, true_and, List.take, List.drop, List.cons.injEq, and_true]
    constructor
    · rintro ⟨x, y, z⟩
      refine ⟨x, UInt8.toNat_inj.1 ?_, UInt8.toNat_inj.1 ?_⟩
      · rw [show (0 : UInt8).toNat = 0 from rfl]; omega
      · rw [show (0 : UInt8).toNat = 0 from rfl]; omega
    · rintro ⟨x, rfl, rfl⟩
      exact ⟨x, rfl, rfl⟩
theorem num_one (s : ByteArray) (h : s.size = 16) : numS (s.extract 1 2) = byteT s 1 := by
  have h1 : (s.extract 1 2).size = 1 := by rw [ByteArray.size_extract]; omega
  have e := numTo_succ (s.extract 1 2) 0 (by omega)
  have e2 : ((s.extract 1 2)[0].toNat : Int) = byteT s 1 := by
    rw [← byteT_get s 1 (by omega)]
    simp [ByteArray.getElem_extract]
  unfold numS
  rw [h1]
  show numTo (s.extract 1 2) (0 + 1) = _
  rw [e, numTo_zero, e2]
  simp [show p2 0 = 1 by decide]

/-- what each operation of the region TD leaves -/
def vsTD (s s1 s2 s6 s4 : ByteArray) (k x y z : Int) : List (Option (Tmp × Value)) :=
  [some (19, .string s), some (20, .string s1), some (21, .int .i64 k), some (22, .string s), some (23, .string s2), some (24, .int .i64 x), some (25, .string s), some (26, .string s6), some (27, .int .i64 y), some (28, .string s), some (29, .string s4), some (30, .int .i64 z), some (31, .agg (ta k x y z)), none, none]
/-- the frame while the region TD runs -/
def BaseTD (s : ByteArray) (B : Nat) (a : Act) : Prop := ∃ u : Nat → Value, a = ⟨#[.string s, u 1, .pointer (some ⟨B, 0, none⟩), u 3, u 4, u 5, u 6, u 7, u 8, u 9, u 10, u 11, u 12, u 13, u 14, u 15, u 16, u 17, u 18, u 19, u 20, u 21, u 22, u 23, u 24, u 25, u 26, u 27, u 28, u 29, u 30, u 31, u 32, u 33, u 34, u 35, u 36], []⟩
theorem BaseTD.of {s : ByteArray} {B : Nat} (arr : Array Value) (h : arr = #[.string s, arr.getD 1 undef, .pointer (some ⟨B, 0, none⟩), arr.getD 3 undef, arr.getD 4 undef, arr.getD 5 undef, arr.getD 6 undef, arr.getD 7 undef, arr.getD 8 undef, arr.getD 9 undef, arr.getD 10 undef, arr.getD 11 undef, arr.getD 12 undef, arr.getD 13 undef, arr.getD 14 undef, arr.getD 15 undef, arr.getD 16 undef, arr.getD 17 undef, arr.getD 18 undef, arr.getD 19 undef, arr.getD 20 undef, arr.getD 21 undef, arr.getD 22 undef, arr.getD 23 undef, arr.getD 24 undef, arr.getD 25 undef, arr.getD 26 undef, arr.getD 27 undef, arr.getD 28 undef, arr.getD 29 undef, arr.getD 30 undef, arr.getD 31 undef, arr.getD 32 undef, arr.getD 33 undef, arr.getD 34 undef, arr.getD 35 undef, arr.getD 36 undef]) : BaseTD s B ⟨arr, []⟩ := ⟨fun i => arr.getD i undef, by rw [← h]⟩
theorem BaseTD.put19 {s : ByteArray} {B : Nat} (a : Act) (v : Value) (h : BaseTD s B a) : BaseTD s B (a.put (some 19) v) := by
  obtain ⟨u, rfl⟩ := h
  exact ⟨fun i => if i = 19 then v else u i, by kernel_rfl⟩
theorem BaseTD.put20 {s : ByteArray} {B : Nat} (a : Act) (v : Value) (h : BaseTD s B a) : BaseTD s B (a.put (some 20) v) := by
  obtain ⟨u, rfl⟩ := h
  exact ⟨fun i => if i = 20 then v else u i, by kernel_rfl⟩
theorem BaseTD.put21 {s : ByteArray} {B : Nat} (a : Act) (v : Value) (h : BaseTD s B a) : BaseTD s B (a.put (some 21) v) := by
  obtain ⟨u, rfl⟩ := h
  exact ⟨fun i => if i = 21 then v else u i, by kernel_rfl⟩
theorem BaseTD.put22 {s : ByteArray} {B : Nat} (a : Act) (v : Value) (h : BaseTD s B a) : BaseTD s B (a.put (some 22) v) := by
  obtain ⟨u, rfl⟩ := h
  exact ⟨fun i => if i = 22 then v else u i, by kernel_rfl⟩
theorem BaseTD.put23 {s : ByteArray} {B : Nat} (a : Act) (v : Value) (h : BaseTD s B a) : BaseTD s B (a.put (some 23) v) := by
  obtain ⟨u, rfl⟩ := h
  exact ⟨fun i => if i = 23 then v else u i, by kernel_rfl⟩
theorem BaseTD.put24 {s : ByteArray} {B : Nat} (a : Act) (v : Value) (h : BaseTD s B a) : BaseTD s B (a.put (some 24) v) := by
  obtain ⟨u, rfl⟩ := h
  exact ⟨fun i => if i = 24 then v else u i, by kernel_rfl⟩
theorem BaseTD.put25 {s : ByteArray} {B : Nat} (a : Act) (v : Value) (h : BaseTD s B a) : BaseTD s B (a.put (some 25) v) := by
  obtain ⟨u, rfl⟩ := h
  exact ⟨fun i => if i = 25 then v else u i, by kernel_rfl⟩
theorem BaseTD.put26 {s : ByteArray} {B : Nat} (a : Act) (v : Value) (h : BaseTD s B a) : BaseTD s B (a.put (some 26) v) := by
  obtain ⟨u, rfl⟩ := h
  exact ⟨fun i => if i = 26 then v else u i, by kernel_rfl⟩
theorem BaseTD.put27 {s : ByteArray} {B : Nat} (a : Act) (v : Value) (h : BaseTD s B a) : BaseTD s B (a.put (some 27) v) := by
  obtain ⟨u, rfl⟩ := h
  exact ⟨fun i => if i = 27 then v else u i, by kernel_rfl⟩
theorem BaseTD.put28 {s : ByteArray} {B : Nat} (a : Act) (v : Value) (h : BaseTD s B a) : BaseTD s B (a.put (some 28) v) := by
  obtain ⟨u, rfl⟩ := h
  exact ⟨fun i => if i = 28 then v else u i, by kernel_rfl⟩
theorem BaseTD.put29 {s : ByteArray} {B : Nat} (a : Act) (v : Value) (h : BaseTD s B a) : BaseTD s B (a.put (some 29) v) := by
  obtain ⟨u, rfl⟩ := h
  exact ⟨fun i => if i = 29 then v else u i, by kernel_rfl⟩
theorem BaseTD.put30 {s : ByteArray} {B : Nat} (a : Act) (v : Value) (h : BaseTD s B a) : BaseTD s B (a.put (some 30) v) := by
  obtain ⟨u, rfl⟩ := h
  exact ⟨fun i => if i = 30 then v else u i, by kernel_rfl⟩
theorem BaseTD.put31 {s : ByteArray} {B : Nat} (a : Act) (v : Value) (h : BaseTD s B a) : BaseTD s B (a.put (some 31) v) := by
  obtain ⟨u, rfl⟩ := h
  exact ⟨fun i => if i = 31 then v else u i, by kernel_rfl⟩
theorem BaseTD.put4 {s : ByteArray} {B : Nat} (a : Act) (v : Value) (h : BaseTD s B a) : BaseTD s B (a.put (some 4) v) := by
  obtain ⟨u, rfl⟩ := h
  exact ⟨fun i => if i = 4 then v else u i, by kernel_rfl⟩

set_option maxRecDepth 100000 in
theorem tag_dec_size (s : ByteArray) (w : World) (h : s.size ≠ 16) (hm : s.size ≤ maxLen) :
    Calls Try.prog 9 #[.string s] w fun r w' => r = .returned (.tuple #[.agg (ta 0 0 0 0), .int .i64 3]) ∧ Below w.heap.size w w' := by
  have hm2 : (s.size : Int) ≤ 9223372036854775807 := by unfold maxLen at hm; omega
  have h2 : ((s.size : Int) == 16) = false := by simp; omega
  have hR := fun cs => (Blk.new w (ta 0 0 0 0) 23).put cs
  clear hm
  go_enter Try.func9, Try.ntmps9
  go_wp2_with (refine wpList_store_row rfl 23 (.tmp 2) (.tmp 18) rfl w.heap.size (ta 0 0 0 0) rfl rfl 23 (ta 0 0 0 0) (Blk.new w (ta 0 0 0 0) 23) size_tag rfl (ta_one _ _ _ _) ?_)
  exact bodyPost_ret (results_cell_tmp rfl _ _ w.heap.size 23 (ta 0 0 0 0) _ rfl (hR _) Try.underlying23 rfl size_tag) rfl ⟨rfl, below_put (Nat.le_refl _) _ ((Below.refl _ _).alloc (Nat.le_refl _) _)⟩

set_option maxRecDepth 100000 in
theorem tag_dec_form (s : ByteArray) (w : World) (h : s.size = 16) (hf : ¬ FormT s) :
    Calls Try.prog 9 #[.string s] w fun r w' => r = .returned (.tuple #[.agg (ta 0 0 0 0), .int .i64 3]) ∧ Below w.heap.size w w' := by
  have hs : (s.size : Int) = 16 := by omega
  have hs2 : ((s.size : Int) == 16) = true := by rw [hs]; rfl
  have g0 := byteT_get s 0 (by omega)
  obtain ⟨b0, hb0⟩ : ∃ b : Nat, s[0].toNat = b := ⟨_, rfl⟩
  obtain ⟨t, ht⟩ : ∃ t, s.extract 14 16 = t := ⟨_, rfl⟩
  have hne : ¬ (b0 = 27 ∧ t = ⟨#[0, 0]⟩) := fun ⟨x, y⟩ => hf ((form_iff s h).2 ⟨by rw [← g0, hb0, x]; rfl, ht.trans y⟩)
  clear hf g0
  have hR := fun cs => (Blk.new w (ta 0 0 0 0) 23).put cs
  by_cases e0 : b0 = 27
  · have hd : t ≠ ⟨#[0, 0]⟩ := fun e => hne ⟨e0, e⟩
    have hq : (t.toList == [0, 0]) = false := by
      rw [beq_eq_false_iff_ne]
      intro e
      apply hd
      apply bytes_eq
      rw [← ByteArray.toList_eq, e]
    clear hne hd
    go_enter Try.func9, Try.ntmps9
    go_wp2_with (refine wpList_store_row rfl 23 (.tmp 2) (.tmp 18) rfl w.heap.size (ta 0 0 0 0) rfl rfl 23 (ta 0 0 0 0) (Blk.new w (ta 0 0 0 0) 23) size_tag rfl (ta_one _ _ _ _) ?_)
    exact bodyPost_ret (results_cell_tmp rfl _ _ w.heap.size 23 (ta 0 0 0 0) _ rfl (hR _) Try.underlying23 rfl size_tag) rfl ⟨rfl, below_put (Nat.le_refl _) _ ((Below.refl _ _).alloc (Nat.le_refl _) _)⟩
  · clear hne
    go_enter Try.func9, Try.ntmps9
    go_wp2_with (refine wpList_store_row rfl 23 (.tmp 2) (.tmp 18) rfl w.heap.size (ta 0 0 0 0) rfl rfl 23 (ta 0 0 0 0) (Blk.new w (ta 0 0 0 0) 23) size_tag rfl (ta_one _ _ _ _) ?_)
    exact bodyPost_ret (results_cell_tmp rfl _ _ w.heap.size 23 (ta 0 0 0 0) _ rfl (hR _) Try.underlying23 rfl size_tag) rfl ⟨rfl, below_put (Nat.le_refl _) _ ((Below.refl _ _).alloc (Nat.le_refl _) _)⟩

set_option maxHeartbeats 1000000 in
set_option maxRecDepth 100000 in
theorem tag_dec_yes (s : ByteArray) (w : World) (hf : FormT s) :
    Calls Try.prog 9 #[.string s] w fun r w' => r = .returned (if mayB (byteT s 1) (lT s) (qT s) (eT s) then .tuple #[.agg (ta (byteT s 1) (lT s) (qT s) (eT s)), .int .i64 0] else .tuple #[.agg (ta 0 0 0 0), .int .i64 3]) ∧ Below w.heap.size w w' := by
  have h := hf.1
  obtain ⟨f0, ft⟩ := (form_iff s h).1 hf
  have hs : (s.size : Int) = 16 := by omega
  have hs2 : ((s.size : Int) == 16) = true := by rw [hs]; rfl
  have g0 := byteT_get s 0 (by omega)
  rw [f0] at g0
  have hb0 : s[0].toNat = 27 := by omega
  have x1 : (s.extract 1 2).size = 1 := by rw [ByteArray.size_extract]; omega
  have x2 : (s.extract 2 4).size = 2 := by rw [ByteArray.size_extract]; omega
  have x6 : (s.extract 4 10).size = 6 := by rw [ByteArray.size_extract]; omega
  have x4 : (s.extract 10 14).size = 4 := by rw [ByteArray.size_extract]; omega
  have hk0 := num_one s h
  unfold lT qT eT
  obtain ⟨s1, e1⟩ : ∃ t, s.extract 1 2 = t := ⟨_, rfl⟩
  obtain ⟨s2, e2⟩ : ∃ t, s.extract 2 4 = t := ⟨_, rfl⟩
  obtain ⟨s6, e6⟩ : ∃ t, s.extract 4 10 = t := ⟨_, rfl⟩
  obtain ⟨s4, e4⟩ : ∃ t, s.extract 10 14 = t := ⟨_, rfl⟩
  rw [e1] at x1 hk0; rw [e2] at x2 ⊢; rw [e6] at x6 ⊢; rw [e4] at x4 ⊢
  rw [← hk0]
  obtain ⟨k, hk⟩ : ∃ x, numS s1 = x := ⟨_, rfl⟩
  obtain ⟨x, hx⟩ : ∃ x, numS s2 = x := ⟨_, rfl⟩
  obtain ⟨y, hy⟩ : ∃ y, numS s6 = y := ⟨_, rfl⟩
  obtain ⟨z, hz⟩ : ∃ z, numS s4 = z := ⟨_, rfl⟩
  rw [hk, hx, hy, hz]
  obtain ⟨m, hm⟩ : ∃ m, mayB k x y z = m := ⟨_, rfl⟩
  rw [hm]
  have H1 := Lib.hid x1; have H2 := Lib.hid x2; have H6 := Lib.hid x6; have H4 := Lib.hid x4
  have HE1 := Lib.hid e1; have HE2 := Lib.hid e2; have HE6 := Lib.hid e6; have HE4 := Lib.hid e4
  have HK := Lib.hid hk; have HX := Lib.hid hx; have HY := Lib.hid hy; have HZ := Lib.hid hz; have HM := Lib.hid hm
  have HS := Lib.hid hs
  clear hf f0 g0 x1 x2 x6 x4 hk0 e1 e2 e6 e4 hk hx hy hz hm
  go_enter Try.func9, Try.ntmps9
  go_wp2_with fail
  refine wp_region_list3 (SV (vsTD s s1 s2 s6 s4 k x y z) [4]) (BaseTD s w.heap.size) (CT w) (TT w.heap.size (ta k x y z)) (RV (vsTD s s1 s2 s6 s4 k x y z) (SpT w.heap.size (ta k x y z))) rfl (by kernel_rfl) (RV.ext SpT.ext) ?base ?start (BaseTD.of _ (by kernel_rfl)) ?steps ?fin
  case start => exact ⟨(Blk.new w (ta 0 0 0 0) 23).drew, ((Below.refl _ _).alloc (Nat.le_refl _) _).drew⟩
  case base => exact ⟨BaseTD.put19, BaseTD.put20, BaseTD.put21, BaseTD.put22, BaseTD.put23, BaseTD.put24, BaseTD.put25, BaseTD.put26, BaseTD.put27, BaseTD.put28, BaseTD.put29, BaseTD.put30, BaseTD.put31, BaseTD.put4, fun a v h => h, trivial⟩
  case steps =>
    refine ⟨?_, ?_, ?_, ?_, ?_, ?_, ?_, ?_, ?_, ?_, ?_, ?_, ?_, ?_, ?_, trivial⟩
    all_goals
      intro a w' hC hB hR
      obtain ⟨u, rfl⟩ := hB
      have hlt : w.heap.size < w'.heap.size := hC.1.lt
      have HC := Lib.hid hC
      clear hC
    · clear hR
      refine if_yes (by kernel_rfl) ?_
      unfold Oper.wp
      go_simp
      exact ⟨.string s, rfl, HC.out, TT.of (Below.refl _ _) hlt, rfl⟩
    · have h19 : u 19 = .string s := hR ⟨0, .data⟩ (by simp) rfl
      have hsz := HS.out
      have hx := HE1.out
      clear hR
      simp only [h19]
      clear h19
      refine if_yes (by kernel_rfl) ?_
      unfold Oper.wp
      go_simp
      exact ⟨.string s1, rfl, HC.out, TT.of (Below.refl _ _) hlt, rfl⟩
    · have h20 : u 20 = .string s1 := hR ⟨1, .data⟩ (by simp) rfl
      clear hR
      simp only [h20]
      clear h20
      refine if_yes (by kernel_rfl) ?_
      unfold Oper.wp
      go_simp
      refine (tag_get s1 _ (by rw [H1.out]; decide) (by rw [H1.out]; decide)).mono ?_
      rintro r w2 ⟨rfl, rfl⟩
      exact ⟨_, rfl, HC.out, TT.of (Below.refl _ _) hlt, congrArg (Value.int .i64) HK.out⟩
    · clear hR
      refine if_yes (by kernel_rfl) ?_
      unfold Oper.wp
      go_simp
      exact ⟨.string s, rfl, HC.out, TT.of (Below.refl _ _) hlt, rfl⟩
    · have h22 : u 22 = .string s := hR ⟨3, .data⟩ (by simp) rfl
      have hsz := HS.out
      have hx := HE2.out
      clear hR
      simp only [h22]
      clear h22
      refine if_yes (by kernel_rfl) ?_
      unfold Oper.wp
      go_simp
      exact ⟨.string s2, rfl, HC.out, TT.of (Below.refl _ _) hlt, rfl⟩
    · have h23 : u 23 = .string s2 := hR ⟨4, .data⟩ (by simp) rfl
      clear hR
      simp only [h23]
      clear h23
      refine if_yes (by kernel_rfl) ?_
      unfold Oper.wp
      go_simp
      refine (tag_get s2 _ (by rw [H2.out]; decide) (by rw [H2.out]; decide)).mono ?_
      rintro r w2 ⟨rfl, rfl⟩
      exact ⟨_, rfl, HC.out, TT.of (Below.refl _ _) hlt, congrArg (Value.int .i64) HX.out⟩
    · clear hR
      refine if_yes (by kernel_rfl) ?_
      unfold Oper.wp
      go_simp
      exact ⟨.string s, rfl, HC.out, TT.of (Below.refl _ _) hlt, rfl⟩
    · have h25 : u 25 = .string s := hR ⟨6, .data⟩ (by simp) rfl
      have hsz := HS.out
      have hx := HE6.out
      clear hR
      simp only [h25]
      clear h25
      refine if_yes (by kernel_rfl) ?_
      unfold Oper.wp
      go_simp
      exact ⟨.string s6, rfl, HC.out, TT.of (Below.refl _ _) hlt, rfl⟩
    · have h26 : u 26 = .string s6 := hR ⟨7, .data⟩ (by simp) rfl
      clear hR
      simp only [h26]
      clear h26
      refine if_yes (by kernel_rfl) ?_
      unfold Oper.wp
      go_simp
      refine (tag_get s6 _ (by rw [H6.out]; decide) (by rw [H6.out]; decide)).mono ?_
      rintro r w2 ⟨rfl, rfl⟩
      exact ⟨_, rfl, HC.out, TT.of (Below.refl _ _) hlt, congrArg (Value.int .i64) HY.out⟩
    · clear hR
      refine if_yes (by kernel_rfl) ?_
      unfold Oper.wp
      go_simp
      exact ⟨.string s, rfl, HC.out, TT.of (Below.refl _ _) hlt, rfl⟩
    · have h28 : u 28 = .string s := hR ⟨9, .data⟩ (by simp) rfl
      have hsz := HS.out
      have hx := HE4.out
      clear hR
      simp only [h28]
      clear h28
      refine if_yes (by kernel_rfl) ?_
      unfold Oper.wp
      go_simp
      exact ⟨.string s4, rfl, HC.out, TT.of (Below.refl _ _) hlt, rfl⟩
    · have h29 : u 29 = .string s4 := hR ⟨10, .data⟩ (by simp) rfl
      clear hR
      simp only [h29]
      clear h29
      refine if_yes (by kernel_rfl) ?_
      unfold Oper.wp
      go_simp
      refine (tag_get s4 _ (by rw [H4.out]; decide) (by rw [H4.out]; decide)).mono ?_
      rintro r w2 ⟨rfl, rfl⟩
      exact ⟨_, rfl, HC.out, TT.of (Below.refl _ _) hlt, congrArg (Value.int .i64) HZ.out⟩
    · have h21 : u 21 = .int .i64 k := hR ⟨2, .data⟩ (by simp) rfl
      have h24 : u 24 = .int .i64 x := hR ⟨5, .data⟩ (by simp) rfl
      have h27 : u 27 = .int .i64 y := hR ⟨8, .data⟩ (by simp) rfl
      have h30 : u 30 = .int .i64 z := hR ⟨11, .data⟩ (by simp) rfl
      clear hR
      simp only [h21, h24, h27, h30]
      clear h21 h24 h27 h30
      refine if_yes (by kernel_rfl) ?_
      unfold Oper.wp
      go_simp
      exact ⟨.agg (ta k x y z), rfl, HC.out, TT.of (Below.refl _ _) hlt, rfl⟩
    · clear hR
      refine if_yes (by kernel_rfl) ?_
      unfold Oper.wp
      go_simp
      exact ⟨_, rfl, ⟨HC.out.1.alloc _, HC.out.2.alloc (Nat.le_of_lt hlt) _⟩, TT.of ((Below.refl _ _).alloc (Nat.le_refl _) _) hlt, ⟨_, _, hlt, rfl, Blk.new _ _ _, rfl, fun h => by cases h⟩⟩
    · have h31 : u 31 = .agg (ta k x y z) := hR ⟨12, .data⟩ (by simp) rfl
      obtain ⟨g, cs, hg, hp, hb, hcs, _⟩ := hR ⟨13, .data⟩ (by simp) rfl
      have hp : u 4 = .pointer (some ⟨g, 0, none⟩) := hp
      clear hR
      simp only [h31]
      clear h31
      refine if_yes (by kernel_rfl) ?_
      simp only [hp]
      exact wp_store_row 23 (.tmp 4) (.tmp 31) rfl g (ta k x y z) rfl rfl 23 cs hb size_tag hcs (ta_one _ _ _ _) ⟨undef, rfl, ⟨HC.out.1.put_other (by omega) _, below_put (by omega) _ HC.out.2⟩, TT.store hg hb rfl, ⟨g, _, hg, rfl, hb.put _, rfl, fun _ => rfl⟩⟩
  case fin =>
    intro a w' hC hB hR
    obtain ⟨g, cs, hg, hp, hb, hcs, he⟩ := hR 14 (by decide)
    clear hR
    obtain rfl := he rfl
    obtain ⟨u, rfl⟩ := hB
    have hp : u 4 = .pointer (some ⟨g, 0, none⟩) := hp
    simp only [hp]
    have HC := Lib.hid hC
    have HB := Lib.hid hb
    clear hC hb hcs he hp H1 H2 H6 H4 HE1 HE2 HE6 HE4 HK HX HY HZ HS
    go_wp2_with (refine wpList_load_row rfl 23 (.tmp 4) rfl g rfl 23 (ta k x y z) (0, 0) _ HB.out Try.underlying23 rfl size_tag ?_)
    refine (tag_may _ _ _ _ _).mono ?_
    rintro r w5 ⟨rfl, hb5⟩
    rw [HM.out]
    have HR5 := Lib.hid (HC.out.1.after hb5)
    have HB5 := Lib.hid (HB.out.after hb5)
    have HL5 := Lib.hid (HC.out.2.trans (hb5.mono (by have := HC.out.2.size; exact this)))
    clear hb5 HM
    cases m
    · go_wp2_with (refine wpList_store_row rfl 23 (.tmp 2) (.tmp 35) rfl w.heap.size (ta 0 0 0 0) rfl rfl 23 (ta 0 0 0 0) HR5.out size_tag rfl (ta_one _ _ _ _) ?_)
      exact bodyPost_ret (results_cell_tmp rfl _ _ w.heap.size 23 (ta 0 0 0 0) _ rfl (HR5.out.put _) Try.underlying23 rfl size_tag) rfl ⟨rfl, below_put (Nat.le_refl _) _ HL5.out⟩
    · go_wp2_with (first
        | (refine wpList_load_row rfl 23 (.tmp 4) rfl g rfl 23 (ta k x y z) (0, 0) _ HB5.out Try.underlying23 rfl size_tag ?_)
        | (refine wpList_store_row rfl 23 (.tmp 2) (.tmp 36) rfl w.heap.size (ta k x y z) rfl rfl 23 (ta 0 0 0 0) HR5.out size_tag rfl (ta_one _ _ _ _) ?_))
      exact bodyPost_ret (results_cell_tmp rfl _ _ w.heap.size 23 (ta k x y z) _ rfl (HR5.out.put _) Try.underlying23 rfl size_tag) rfl ⟨rfl, below_put (Nat.le_refl _) _ HL5.out⟩

theorem tag_dec (s : ByteArray) (w : World) (hm : s.size ≤ maxLen) : Calls Try.prog 9 #[.string s] w (DecT s w) := by
  unfold DecT decA decE
  by_cases hf : FormT s
  · have h := tag_dec_yes s w hf
    by_cases hm2 : MayT (byteT s 1) (lT s) (qT s) (eT s)
    · rw [if_pos ⟨hf, hm2⟩, if_pos ⟨hf, hm2⟩]
      rwa [if_pos ((mayB_iff _ _ _ _).2 hm2)] at h
    · rw [if_neg (fun h => hm2 h.2), if_neg (fun h => hm2 h.2)]
      rwa [if_neg (fun h => hm2 ((mayB_iff _ _ _ _).1 h))] at h
  · rw [if_neg (fun h => hf h.1), if_neg (fun h => hf h.1)]
    by_cases hz : s.size = 16
    · exact tag_dec_form s w hz hf
    · exact tag_dec_size s w hz hm

end Go.Proofs.Ytgpegacbgjdogaa
