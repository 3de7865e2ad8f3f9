/- The walk of the law GeomChecks. -/
import Derived.Test.YtejgdaekomdhlaaGeL1
namespace Go.Proofs.Ytejgdaekomdhlaa
set_option maxRecDepth 100000
open Go.RowKit

/-- what each operation of the region GD leaves -/
def vsGD (b l y n s r c : Int) : List (Option (Tmp × Value)) :=
  [some (3, .agg (gv b l y n s r)), some (4, .int .i64 c), some (5, .agg (gv b l y n s r)), some (6, .int .i64 c), some (7, .bool false)]
/-- the frame while the region GD runs -/
def BaseGD (B : Nat) (a : Act) : Prop := ∃ u : Nat → Value, a = ⟨#[u 0, .pointer (some ⟨B, 0, none⟩), u 2, u 3, u 4, u 5, u 6, u 7, u 8, u 9, u 10, u 11, u 12, u 13, u 14, u 15, u 16, u 17, u 18, u 19, u 20, u 21, u 22, u 23, u 24, u 25, u 26, u 27, u 28, u 29, u 30, u 31, u 32, u 33, u 34, u 35, u 36, u 37, u 38, u 39, u 40, u 41, u 42, u 43, u 44, u 45, u 46, u 47], []⟩
theorem BaseGD.of {B : Nat} (arr : Array Value) (h : arr = #[arr.getD 0 undef, .pointer (some ⟨B, 0, none⟩), arr.getD 2 undef, arr.getD 3 undef, arr.getD 4 undef, arr.getD 5 undef, arr.getD 6 undef, arr.getD 7 undef, arr.getD 8 undef, arr.getD 9 undef, arr.getD 10 undef, arr.getD 11 undef, arr.getD 12 undef, arr.getD 13 undef, arr.getD 14 undef, arr.getD 15 undef, arr.getD 16 undef, arr.getD 17 undef, arr.getD 18 undef, arr.getD 19 undef, arr.getD 20 undef, arr.getD 21 undef, arr.getD 22 undef, arr.getD 23 undef, arr.getD 24 undef, arr.getD 25 undef, arr.getD 26 undef, arr.getD 27 undef, arr.getD 28 undef, arr.getD 29 undef, arr.getD 30 undef, arr.getD 31 undef, arr.getD 32 undef, arr.getD 33 undef, arr.getD 34 undef, arr.getD 35 undef, arr.getD 36 undef, arr.getD 37 undef, arr.getD 38 undef, arr.getD 39 undef, arr.getD 40 undef, arr.getD 41 undef, arr.getD 42 undef, arr.getD 43 undef, arr.getD 44 undef, arr.getD 45 undef, arr.getD 46 undef, arr.getD 47 undef]) : BaseGD B ⟨arr, []⟩ := ⟨fun i => arr.getD i undef, by rw [← h]⟩
theorem BaseGD.put3 {B : Nat} (a : Act) (v : Value) (h : BaseGD B a) : BaseGD B (a.put (some 3) v) := by
  obtain ⟨u, rfl⟩ := h
  exact ⟨fun i => if i = 3 then v else u i, by kernel_rfl⟩
theorem BaseGD.put4 {B : Nat} (a : Act) (v : Value) (h : BaseGD B a) : BaseGD B (a.put (some 4) v) := by
  obtain ⟨u, rfl⟩ := h
  exact ⟨fun i => if i = 4 then v else u i, by kernel_rfl⟩
theorem BaseGD.put5 {B : Nat} (a : Act) (v : Value) (h : BaseGD B a) : BaseGD B (a.put (some 5) v) := by
  obtain ⟨u, rfl⟩ := h
  exact ⟨fun i => if i = 5 then v else u i, by kernel_rfl⟩
theorem BaseGD.put6 {B : Nat} (a : Act) (v : Value) (h : BaseGD B a) : BaseGD B (a.put (some 6) v) := by
  obtain ⟨u, rfl⟩ := h
  exact ⟨fun i => if i = 6 then v else u i, by kernel_rfl⟩
theorem BaseGD.put7 {B : Nat} (a : Act) (v : Value) (h : BaseGD B a) : BaseGD B (a.put (some 7) v) := by
  obtain ⟨u, rfl⟩ := h
  exact ⟨fun i => if i = 7 then v else u i, by kernel_rfl⟩

/-- what each operation of the region GE leaves -/
def vsGE (b l y n s r k m ra bd sp : Int) : List (Option (Tmp × Value)) :=
  [some (12, .agg (gv b l y n s r)), some (13, .int .i64 k), some (14, .agg (gv b l y n s r)), some (15, .int .i64 k), some (16, .bool true), some (17, .bool true), some (18, .agg (gv b l y n s r)), some (19, .int .i64 m), some (20, .agg (gv b l y n s r)), some (21, .int .i64 m), some (22, .bool true), some (23, .bool true), some (24, .bool true), some (25, .agg (gv b l y n s r)), some (26, .int .i64 ra), some (27, .agg (gv b l y n s r)), some (28, .int .i64 ra), some (29, .bool true), some (30, .bool true), some (31, .bool true), some (32, .agg (gv b l y n s r)), some (33, .int .i64 bd), some (34, .agg (gv b l y n s r)), some (35, .int .i64 bd), some (36, .bool true), some (37, .bool true), some (38, .bool true), some (39, .agg (gv b l y n s r)), some (40, .int .i64 sp), some (41, .agg (gv b l y n s r)), some (42, .int .i64 sp), some (43, .bool true), some (44, .bool true), some (45, .bool true), some (46, .bool true), some (47, .bool true), some (2, .bool true)]
/-- the frame while the region GE runs -/
def BaseGE (B : Nat) (a : Act) : Prop := ∃ u : Nat → Value, a = ⟨#[u 0, .pointer (some ⟨B, 0, none⟩), u 2, u 3, u 4, u 5, u 6, u 7, u 8, u 9, u 10, u 11, u 12, u 13, u 14, u 15, u 16, u 17, u 18, u 19, u 20, u 21, u 22, u 23, u 24, u 25, u 26, u 27, u 28, u 29, u 30, u 31, u 32, u 33, u 34, u 35, u 36, u 37, u 38, u 39, u 40, u 41, u 42, u 43, u 44, u 45, u 46, u 47], []⟩
theorem BaseGE.of {B : Nat} (arr : Array Value) (h : arr = #[arr.getD 0 undef, .pointer (some ⟨B, 0, none⟩), arr.getD 2 undef, arr.getD 3 undef, arr.getD 4 undef, arr.getD 5 undef, arr.getD 6 undef, arr.getD 7 undef, arr.getD 8 undef, arr.getD 9 undef, arr.getD 10 undef, arr.getD 11 undef, arr.getD 12 undef, arr.getD 13 undef, arr.getD 14 undef, arr.getD 15 undef, arr.getD 16 undef, arr.getD 17 undef, arr.getD 18 undef, arr.getD 19 undef, arr.getD 20 undef, arr.getD 21 undef, arr.getD 22 undef, arr.getD 23 undef, arr.getD 24 undef, arr.getD 25 undef, arr.getD 26 undef, arr.getD 27 undef, arr.getD 28 undef, arr.getD 29 undef, arr.getD 30 undef, arr.getD 31 undef, arr.getD 32 undef, arr.getD 33 undef, arr.getD 34 undef, arr.getD 35 undef, arr.getD 36 undef, arr.getD 37 undef, arr.getD 38 undef, arr.getD 39 undef, arr.getD 40 undef, arr.getD 41 undef, arr.getD 42 undef, arr.getD 43 undef, arr.getD 44 undef, arr.getD 45 undef, arr.getD 46 undef, arr.getD 47 undef]) : BaseGE B ⟨arr, []⟩ := ⟨fun i => arr.getD i undef, by rw [← h]⟩
theorem BaseGE.put12 {B : Nat} (a : Act) (v : Value) (h : BaseGE B a) : BaseGE B (a.put (some 12) v) := by
  obtain ⟨u, rfl⟩ := h
  exact ⟨fun i => if i = 12 then v else u i, by kernel_rfl⟩
theorem BaseGE.put13 {B : Nat} (a : Act) (v : Value) (h : BaseGE B a) : BaseGE B (a.put (some 13) v) := by
  obtain ⟨u, rfl⟩ := h
  exact ⟨fun i => if i = 13 then v else u i, by kernel_rfl⟩
theorem BaseGE.put14 {B : Nat} (a : Act) (v : Value) (h : BaseGE B a) : BaseGE B (a.put (some 14) v) := by
  obtain ⟨u, rfl⟩ := h
  exact ⟨fun i => if i = 14 then v else u i, by kernel_rfl⟩
theorem BaseGE.put15 {B : Nat} (a : Act) (v : Value) (h : BaseGE B a) : BaseGE B (a.put (some 15) v) := by
  obtain ⟨u, rfl⟩ := h
  exact ⟨fun i => if i = 15 then v else u i, by kernel_rfl⟩
theorem BaseGE.put16 {B : Nat} (a : Act) (v : Value) (h : BaseGE B a) : BaseGE B (a.put (some 16) v) := by
  obtain ⟨u, rfl⟩ := h
  exact ⟨fun i => if i = 16 then v else u i, by kernel_rfl⟩
theorem BaseGE.put17 {B : Nat} (a : Act) (v : Value) (h : BaseGE B a) : BaseGE B (a.put (some 17) v) := by
  obtain ⟨u, rfl⟩ := h
  exact ⟨fun i => if i = 17 then v else u i, by kernel_rfl⟩
theorem BaseGE.put18 {B : Nat} (a : Act) (v : Value) (h : BaseGE B a) : BaseGE B (a.put (some 18) v) := by
  obtain ⟨u, rfl⟩ := h
  exact ⟨fun i => if i = 18 then v else u i, by kernel_rfl⟩
theorem BaseGE.put19 {B : Nat} (a : Act) (v : Value) (h : BaseGE B a) : BaseGE B (a.put (some 19) v) := by
  obtain ⟨u, rfl⟩ := h
  exact ⟨fun i => if i = 19 then v else u i, by kernel_rfl⟩
theorem BaseGE.put20 {B : Nat} (a : Act) (v : Value) (h : BaseGE B a) : BaseGE B (a.put (some 20) v) := by
  obtain ⟨u, rfl⟩ := h
  exact ⟨fun i => if i = 20 then v else u i, by kernel_rfl⟩
theorem BaseGE.put21 {B : Nat} (a : Act) (v : Value) (h : BaseGE B a) : BaseGE B (a.put (some 21) v) := by
  obtain ⟨u, rfl⟩ := h
  exact ⟨fun i => if i = 21 then v else u i, by kernel_rfl⟩
theorem BaseGE.put22 {B : Nat} (a : Act) (v : Value) (h : BaseGE B a) : BaseGE B (a.put (some 22) v) := by
  obtain ⟨u, rfl⟩ := h
  exact ⟨fun i => if i = 22 then v else u i, by kernel_rfl⟩
theorem BaseGE.put23 {B : Nat} (a : Act) (v : Value) (h : BaseGE B a) : BaseGE B (a.put (some 23) v) := by
  obtain ⟨u, rfl⟩ := h
  exact ⟨fun i => if i = 23 then v else u i, by kernel_rfl⟩
theorem BaseGE.put24 {B : Nat} (a : Act) (v : Value) (h : BaseGE B a) : BaseGE B (a.put (some 24) v) := by
  obtain ⟨u, rfl⟩ := h
  exact ⟨fun i => if i = 24 then v else u i, by kernel_rfl⟩
theorem BaseGE.put25 {B : Nat} (a : Act) (v : Value) (h : BaseGE B a) : BaseGE B (a.put (some 25) v) := by
  obtain ⟨u, rfl⟩ := h
  exact ⟨fun i => if i = 25 then v else u i, by kernel_rfl⟩
theorem BaseGE.put26 {B : Nat} (a : Act) (v : Value) (h : BaseGE B a) : BaseGE B (a.put (some 26) v) := by
  obtain ⟨u, rfl⟩ := h
  exact ⟨fun i => if i = 26 then v else u i, by kernel_rfl⟩
theorem BaseGE.put27 {B : Nat} (a : Act) (v : Value) (h : BaseGE B a) : BaseGE B (a.put (some 27) v) := by
  obtain ⟨u, rfl⟩ := h
  exact ⟨fun i => if i = 27 then v else u i, by kernel_rfl⟩
theorem BaseGE.put28 {B : Nat} (a : Act) (v : Value) (h : BaseGE B a) : BaseGE B (a.put (some 28) v) := by
  obtain ⟨u, rfl⟩ := h
  exact ⟨fun i => if i = 28 then v else u i, by kernel_rfl⟩
theorem BaseGE.put29 {B : Nat} (a : Act) (v : Value) (h : BaseGE B a) : BaseGE B (a.put (some 29) v) := by
  obtain ⟨u, rfl⟩ := h
  exact ⟨fun i => if i = 29 then v else u i, by kernel_rfl⟩
theorem BaseGE.put30 {B : Nat} (a : Act) (v : Value) (h : BaseGE B a) : BaseGE B (a.put (some 30) v) := by
  obtain ⟨u, rfl⟩ := h
  exact ⟨fun i => if i = 30 then v else u i, by kernel_rfl⟩
theorem BaseGE.put31 {B : Nat} (a : Act) (v : Value) (h : BaseGE B a) : BaseGE B (a.put (some 31) v) := by
  obtain ⟨u, rfl⟩ := h
  exact ⟨fun i => if i = 31 then v else u i, by kernel_rfl⟩
theorem BaseGE.put32 {B : Nat} (a : Act) (v : Value) (h : BaseGE B a) : BaseGE B (a.put (some 32) v) := by
  obtain ⟨u, rfl⟩ := h
  exact ⟨fun i => if i = 32 then v else u i, by kernel_rfl⟩
theorem BaseGE.put33 {B : Nat} (a : Act) (v : Value) (h : BaseGE B a) : BaseGE B (a.put (some 33) v) := by
  obtain ⟨u, rfl⟩ := h
  exact ⟨fun i => if i = 33 then v else u i, by kernel_rfl⟩
theorem BaseGE.put34 {B : Nat} (a : Act) (v : Value) (h : BaseGE B a) : BaseGE B (a.put (some 34) v) := by
  obtain ⟨u, rfl⟩ := h
  exact ⟨fun i => if i = 34 then v else u i, by kernel_rfl⟩
theorem BaseGE.put35 {B : Nat} (a : Act) (v : Value) (h : BaseGE B a) : BaseGE B (a.put (some 35) v) := by
  obtain ⟨u, rfl⟩ := h
  exact ⟨fun i => if i = 35 then v else u i, by kernel_rfl⟩
theorem BaseGE.put36 {B : Nat} (a : Act) (v : Value) (h : BaseGE B a) : BaseGE B (a.put (some 36) v) := by
  obtain ⟨u, rfl⟩ := h
  exact ⟨fun i => if i = 36 then v else u i, by kernel_rfl⟩
theorem BaseGE.put37 {B : Nat} (a : Act) (v : Value) (h : BaseGE B a) : BaseGE B (a.put (some 37) v) := by
  obtain ⟨u, rfl⟩ := h
  exact ⟨fun i => if i = 37 then v else u i, by kernel_rfl⟩
theorem BaseGE.put38 {B : Nat} (a : Act) (v : Value) (h : BaseGE B a) : BaseGE B (a.put (some 38) v) := by
  obtain ⟨u, rfl⟩ := h
  exact ⟨fun i => if i = 38 then v else u i, by kernel_rfl⟩
theorem BaseGE.put39 {B : Nat} (a : Act) (v : Value) (h : BaseGE B a) : BaseGE B (a.put (some 39) v) := by
  obtain ⟨u, rfl⟩ := h
  exact ⟨fun i => if i = 39 then v else u i, by kernel_rfl⟩
theorem BaseGE.put40 {B : Nat} (a : Act) (v : Value) (h : BaseGE B a) : BaseGE B (a.put (some 40) v) := by
  obtain ⟨u, rfl⟩ := h
  exact ⟨fun i => if i = 40 then v else u i, by kernel_rfl⟩
theorem BaseGE.put41 {B : Nat} (a : Act) (v : Value) (h : BaseGE B a) : BaseGE B (a.put (some 41) v) := by
  obtain ⟨u, rfl⟩ := h
  exact ⟨fun i => if i = 41 then v else u i, by kernel_rfl⟩
theorem BaseGE.put42 {B : Nat} (a : Act) (v : Value) (h : BaseGE B a) : BaseGE B (a.put (some 42) v) := by
  obtain ⟨u, rfl⟩ := h
  exact ⟨fun i => if i = 42 then v else u i, by kernel_rfl⟩
theorem BaseGE.put43 {B : Nat} (a : Act) (v : Value) (h : BaseGE B a) : BaseGE B (a.put (some 43) v) := by
  obtain ⟨u, rfl⟩ := h
  exact ⟨fun i => if i = 43 then v else u i, by kernel_rfl⟩
theorem BaseGE.put44 {B : Nat} (a : Act) (v : Value) (h : BaseGE B a) : BaseGE B (a.put (some 44) v) := by
  obtain ⟨u, rfl⟩ := h
  exact ⟨fun i => if i = 44 then v else u i, by kernel_rfl⟩
theorem BaseGE.put45 {B : Nat} (a : Act) (v : Value) (h : BaseGE B a) : BaseGE B (a.put (some 45) v) := by
  obtain ⟨u, rfl⟩ := h
  exact ⟨fun i => if i = 45 then v else u i, by kernel_rfl⟩
theorem BaseGE.put46 {B : Nat} (a : Act) (v : Value) (h : BaseGE B a) : BaseGE B (a.put (some 46) v) := by
  obtain ⟨u, rfl⟩ := h
  exact ⟨fun i => if i = 46 then v else u i, by kernel_rfl⟩
theorem BaseGE.put47 {B : Nat} (a : Act) (v : Value) (h : BaseGE B a) : BaseGE B (a.put (some 47) v) := by
  obtain ⟨u, rfl⟩ := h
  exact ⟨fun i => if i = 47 then v else u i, by kernel_rfl⟩
theorem BaseGE.put2 {B : Nat} (a : Act) (v : Value) (h : BaseGE B a) : BaseGE B (a.put (some 2) v) := by
  obtain ⟨u, rfl⟩ := h
  exact ⟨fun i => if i = 2 then v else u i, by kernel_rfl⟩

set_option maxHeartbeats 2000000 in
set_option maxRecDepth 100000 in
theorem walk_GeomChecks (b l y n s r : Int) (w : World) :
    Calls Try.prog 3 #[.agg (gv b l y n s r)] w fun e w' => e = .returned (.bool true) ∧ Below w.heap.size w w' := by
  have HK0 : Hid (CG w b l y n s r (w.alloc (.cells (gv b l y n s r) 23))) := ⟨Blk.new w _ _, (Below.refl w.heap.size w).alloc (Nat.le_refl _) _⟩
  obtain ⟨c, hc⟩ : ∃ c, chkG b l y n s r = c := ⟨_, rfl⟩
  have HCH := Lib.hid hc
  clear hc
  go_enter Try.func3, Try.ntmps3
  go_wp2_with fail
  rename_i K0 hK0
  refine wp_region_list3 (SV (vsGD b l y n s r c) []) (BaseGD w.heap.size) (CG w b l y n s r) Goes (RV (vsGD b l y n s r c) (fun _ _ _ => False)) rfl (by kernel_rfl) (RV.ext no_special6) ?_ HK0.out.drew (BaseGD.of _ (by kernel_rfl)) ?_ ?_
  · exact ⟨BaseGD.put3, BaseGD.put4, BaseGD.put5, BaseGD.put6, BaseGD.put7, trivial⟩
  · refine ⟨?_, ?_, ?_, ?_, ?_, trivial⟩
    all_goals
      intro a w' hC hB hR
      obtain ⟨u, rfl⟩ := hB
      have HC := Lib.hid hC
      clear hC
      clear hK0
    · clear hR
      refine if_yes (by kernel_rfl) ?_
      exact wp_load_row 23 (.tmp 1) rfl _ rfl 23 _ (0, 0) _ HC.out.1 Try.underlying23 rfl size_geo ⟨.agg (gv b l y n s r), rfl, HC.out, Below.refl _ _, rfl⟩
    · have h3 : u 3 = .agg (gv b l y n s r) := hR ⟨0, .data⟩ (by simp) rfl
      clear hR
      simp only [h3]
      clear h3
      refine if_yes (by kernel_rfl) ?_
      unfold Oper.wp
      go_simp
      refine (ge_check b l y n s r _).mono ?_
      rintro e w2 ⟨rfl, hb2⟩
      rw [HCH.out]
      exact ⟨.int .i64 c, rfl, HC.out.call hb2, hb2, rfl⟩
    · clear hR
      refine if_yes (by kernel_rfl) ?_
      exact wp_load_row 23 (.tmp 1) rfl _ rfl 23 _ (0, 0) _ HC.out.1 Try.underlying23 rfl size_geo ⟨.agg (gv b l y n s r), rfl, HC.out, Below.refl _ _, rfl⟩
    · have h5 : u 5 = .agg (gv b l y n s r) := hR ⟨2, .data⟩ (by simp) rfl
      clear hR
      simp only [h5]
      clear h5
      refine if_yes (by kernel_rfl) ?_
      unfold Oper.wp
      go_simp
      refine (rge_check b l y n s r _).mono ?_
      rintro e w2 ⟨rfl, hb2⟩
      rw [HCH.out]
      exact ⟨.int .i64 c, rfl, HC.out.call hb2, hb2, rfl⟩
    · have h4 : u 4 = .int .i64 c := hR ⟨1, .data⟩ (by simp) rfl
      have h6 : u 6 = .int .i64 c := hR ⟨3, .data⟩ (by simp) rfl
      clear hR
      simp only [h4, h6]
      clear h4 h6
      refine if_yes (by kernel_rfl) ?_
      unfold Oper.wp
      go_simp
      exact ⟨.bool false, rfl, HC.out, Below.refl _ _, rfl⟩
  · intro a w1 hC hB hR
    have h7 : a.tmps.getD 7 undef = .bool false := hR 4 (by decide)
    clear hR
    have HK1 := Lib.hid hC
    clear hC HK0
    obtain ⟨u, rfl⟩ := hB
    have h7 : u 7 = .bool false := h7
    simp only [h7]
    clear h7
    go_wp2_with (refine wpList_load_row rfl 23 (.tmp 1) rfl w.heap.size rfl 23 (gv b l y n s r) (0, 0) _ HK1.out.1 Try.underlying23 rfl size_geo ?_)
    refine (rge_check b l y n s r _).mono ?_
    rintro e w2 ⟨rfl, hb2⟩
    have HK2 := Lib.hid (HK1.out.call hb2)
    clear hb2 HK1
    by_cases hok : OkG b l y n s r
    · rw [chk_ok hok]
      have HOK := Lib.hid hok
      obtain ⟨k, hk⟩ : ∃ k, snapsG b y n = k := ⟨_, rfl⟩
      obtain ⟨m, hmm⟩ : ∃ k, mostG b l s = k := ⟨_, rfl⟩
      obtain ⟨ra, hrae⟩ : ∃ k, rawG y = k := ⟨_, rfl⟩
      obtain ⟨bd, hbd⟩ : ∃ k, boundG b l y n s = k := ⟨_, rfl⟩
      obtain ⟨sp, hspe⟩ : ∃ k, spreadG b r = k := ⟨_, rfl⟩
      have HSN := Lib.hid hk
      have HMO := Lib.hid hmm
      have HRA := Lib.hid hrae
      have HBD := Lib.hid hbd
      have HSP := Lib.hid hspe
      clear hk hmm hrae hbd hspe hok
      go_wp2_with fail
      rename_i K1 hK1
      refine wp_region_list3 (SV (vsGE b l y n s r k m ra bd sp) []) (BaseGE w.heap.size) (CG w b l y n s r) Goes (RV (vsGE b l y n s r k m ra bd sp) (fun _ _ _ => False)) rfl (by kernel_rfl) (RV.ext no_special6) ?_ HK2.out.drew (BaseGE.of _ (by kernel_rfl)) ?_ ?_
      · exact ⟨BaseGE.put12, BaseGE.put13, BaseGE.put14, BaseGE.put15, BaseGE.put16, BaseGE.put17, BaseGE.put18, BaseGE.put19, BaseGE.put20, BaseGE.put21, BaseGE.put22, BaseGE.put23, BaseGE.put24, BaseGE.put25, BaseGE.put26, BaseGE.put27, BaseGE.put28, BaseGE.put29, BaseGE.put30, BaseGE.put31, BaseGE.put32, BaseGE.put33, BaseGE.put34, BaseGE.put35, BaseGE.put36, BaseGE.put37, BaseGE.put38, BaseGE.put39, BaseGE.put40, BaseGE.put41, BaseGE.put42, BaseGE.put43, BaseGE.put44, BaseGE.put45, BaseGE.put46, BaseGE.put47, BaseGE.put2, trivial⟩
      · refine ⟨?_, ?_, ?_, ?_, ?_, ?_, ?_, ?_, ?_, ?_, ?_, ?_, ?_, ?_, ?_, ?_, ?_, ?_, ?_, ?_, ?_, ?_, ?_, ?_, ?_, ?_, ?_, ?_, ?_, ?_, ?_, ?_, ?_, ?_, ?_, ?_, ?_, trivial⟩
        all_goals
          intro a w' hC hB hR
          obtain ⟨u, rfl⟩ := hB
          have HC := Lib.hid hC
          clear hC
          clear hK1
        · clear hR
          refine if_yes (by kernel_rfl) ?_
          exact wp_load_row 23 (.tmp 1) rfl _ rfl 23 _ (0, 0) _ HC.out.1 Try.underlying23 rfl size_geo ⟨.agg (gv b l y n s r), rfl, HC.out, Below.refl _ _, rfl⟩
        · have h12 : u 12 = .agg (gv b l y n s r) := hR ⟨0, .data⟩ (by simp) rfl
          clear hR
          simp only [h12]
          clear h12
          refine if_yes (by kernel_rfl) ?_
          unfold Oper.wp
          go_simp
          refine (ge_snaps b l y n s r _ HOK.out).mono ?_
          rintro e w2 ⟨rfl, hb2⟩
          rw [HSN.out]
          exact ⟨.int .i64 k, rfl, HC.out.call hb2, hb2, rfl⟩
        · clear hR
          refine if_yes (by kernel_rfl) ?_
          exact wp_load_row 23 (.tmp 1) rfl _ rfl 23 _ (0, 0) _ HC.out.1 Try.underlying23 rfl size_geo ⟨.agg (gv b l y n s r), rfl, HC.out, Below.refl _ _, rfl⟩
        · have h14 : u 14 = .agg (gv b l y n s r) := hR ⟨2, .data⟩ (by simp) rfl
          clear hR
          simp only [h14]
          clear h14
          refine if_yes (by kernel_rfl) ?_
          unfold Oper.wp
          go_simp
          refine (rge_snaps b l y n s r _ HOK.out.1).mono ?_
          rintro e w2 ⟨rfl, hb2⟩
          rw [HSN.out]
          exact ⟨.int .i64 k, rfl, HC.out.call hb2, hb2, rfl⟩
        · have h13 : u 13 = .int .i64 k := hR ⟨1, .data⟩ (by simp) rfl
          have h15 : u 15 = .int .i64 k := hR ⟨3, .data⟩ (by simp) rfl
          clear hR
          simp only [h13, h15]
          clear h13 h15
          refine if_yes (by kernel_rfl) ?_
          unfold Oper.wp
          go_simp
          exact ⟨.bool true, rfl, HC.out, Below.refl _ _, rfl⟩
        · have h16 : u 16 = .bool true := hR ⟨4, .data⟩ (by simp) rfl
          clear hR
          simp only [h16]
          clear h16
          refine if_yes (by kernel_rfl) ?_
          unfold Oper.wp
          go_simp
          exact ⟨.bool true, rfl, HC.out, Below.refl _ _, rfl⟩
        · have g17 : u 17 = .bool true := hR ⟨5, .guard⟩ (by simp) rfl
          clear hR
          simp only [g17]
          clear g17
          refine if_yes (by kernel_rfl) ?_
          exact wp_load_row 23 (.tmp 1) rfl _ rfl 23 _ (0, 0) _ HC.out.1 Try.underlying23 rfl size_geo ⟨.agg (gv b l y n s r), rfl, HC.out, Below.refl _ _, rfl⟩
        · have g17 : u 17 = .bool true := hR ⟨5, .guard⟩ (by simp) rfl
          have h18 : u 18 = .agg (gv b l y n s r) := hR ⟨6, .data⟩ (by simp) rfl
          clear hR
          simp only [g17, h18]
          clear g17 h18
          refine if_yes (by kernel_rfl) ?_
          unfold Oper.wp
          go_simp
          refine (ge_most b l y n s r _ HOK.out).mono ?_
          rintro e w2 ⟨rfl, hb2⟩
          rw [HMO.out]
          exact ⟨.int .i64 m, rfl, HC.out.call hb2, hb2, rfl⟩
        · have g17 : u 17 = .bool true := hR ⟨5, .guard⟩ (by simp) rfl
          clear hR
          simp only [g17]
          clear g17
          refine if_yes (by kernel_rfl) ?_
          exact wp_load_row 23 (.tmp 1) rfl _ rfl 23 _ (0, 0) _ HC.out.1 Try.underlying23 rfl size_geo ⟨.agg (gv b l y n s r), rfl, HC.out, Below.refl _ _, rfl⟩
        · have g17 : u 17 = .bool true := hR ⟨5, .guard⟩ (by simp) rfl
          have h20 : u 20 = .agg (gv b l y n s r) := hR ⟨8, .data⟩ (by simp) rfl
          clear hR
          simp only [g17, h20]
          clear g17 h20
          refine if_yes (by kernel_rfl) ?_
          unfold Oper.wp
          go_simp
          refine (rge_most b l y n s r _ HOK.out.1).mono ?_
          rintro e w2 ⟨rfl, hb2⟩
          rw [HMO.out]
          exact ⟨.int .i64 m, rfl, HC.out.call hb2, hb2, rfl⟩
        · have g17 : u 17 = .bool true := hR ⟨5, .guard⟩ (by simp) rfl
          have h19 : u 19 = .int .i64 m := hR ⟨7, .data⟩ (by simp) rfl
          have h21 : u 21 = .int .i64 m := hR ⟨9, .data⟩ (by simp) rfl
          clear hR
          simp only [g17, h19, h21]
          clear g17 h19 h21
          refine if_yes (by kernel_rfl) ?_
          unfold Oper.wp
          go_simp
          exact ⟨.bool true, rfl, HC.out, Below.refl _ _, rfl⟩
        · have h17 : u 17 = .bool true := hR ⟨5, .data⟩ (by simp) rfl
          have h22 : u 22 = .bool true := hR ⟨10, .data⟩ (by simp) rfl
          clear hR
          simp only [h17, h22]
          clear h17 h22
          refine if_yes (by kernel_rfl) ?_
          unfold Oper.wp
          go_simp
          exact ⟨.bool true, rfl, HC.out, Below.refl _ _, rfl⟩
        · have h23 : u 23 = .bool true := hR ⟨11, .data⟩ (by simp) rfl
          clear hR
          simp only [h23]
          clear h23
          refine if_yes (by kernel_rfl) ?_
          unfold Oper.wp
          go_simp
          exact ⟨.bool true, rfl, HC.out, Below.refl _ _, rfl⟩
        · have g24 : u 24 = .bool true := hR ⟨12, .guard⟩ (by simp) rfl
          clear hR
          simp only [g24]
          clear g24
          refine if_yes (by kernel_rfl) ?_
          exact wp_load_row 23 (.tmp 1) rfl _ rfl 23 _ (0, 0) _ HC.out.1 Try.underlying23 rfl size_geo ⟨.agg (gv b l y n s r), rfl, HC.out, Below.refl _ _, rfl⟩
        · have g24 : u 24 = .bool true := hR ⟨12, .guard⟩ (by simp) rfl
          have h25 : u 25 = .agg (gv b l y n s r) := hR ⟨13, .data⟩ (by simp) rfl
          clear hR
          simp only [g24, h25]
          clear g24 h25
          refine if_yes (by kernel_rfl) ?_
          unfold Oper.wp
          go_simp
          refine (ge_raw b l y n s r _ HOK.out).mono ?_
          rintro e w2 ⟨rfl, hb2⟩
          rw [HRA.out]
          exact ⟨.int .i64 ra, rfl, HC.out.call hb2, hb2, rfl⟩
        · have g24 : u 24 = .bool true := hR ⟨12, .guard⟩ (by simp) rfl
          clear hR
          simp only [g24]
          clear g24
          refine if_yes (by kernel_rfl) ?_
          exact wp_load_row 23 (.tmp 1) rfl _ rfl 23 _ (0, 0) _ HC.out.1 Try.underlying23 rfl size_geo ⟨.agg (gv b l y n s r), rfl, HC.out, Below.refl _ _, rfl⟩
        · have g24 : u 24 = .bool true := hR ⟨12, .guard⟩ (by simp) rfl
          have h27 : u 27 = .agg (gv b l y n s r) := hR ⟨15, .data⟩ (by simp) rfl
          clear hR
          simp only [g24, h27]
          clear g24 h27
          refine if_yes (by kernel_rfl) ?_
          unfold Oper.wp
          go_simp
          refine (rge_raw b l y n s r _ HOK.out.1).mono ?_
          rintro e w2 ⟨rfl, hb2⟩
          rw [HRA.out]
          exact ⟨.int .i64 ra, rfl, HC.out.call hb2, hb2, rfl⟩
        · have g24 : u 24 = .bool true := hR ⟨12, .guard⟩ (by simp) rfl
          have h26 : u 26 = .int .i64 ra := hR ⟨14, .data⟩ (by simp) rfl
          have h28 : u 28 = .int .i64 ra := hR ⟨16, .data⟩ (by simp) rfl
          clear hR
          simp only [g24, h26, h28]
          clear g24 h26 h28
          refine if_yes (by kernel_rfl) ?_
          unfold Oper.wp
          go_simp
          exact ⟨.bool true, rfl, HC.out, Below.refl _ _, rfl⟩
        · have h24 : u 24 = .bool true := hR ⟨12, .data⟩ (by simp) rfl
          have h29 : u 29 = .bool true := hR ⟨17, .data⟩ (by simp) rfl
          clear hR
          simp only [h24, h29]
          clear h24 h29
          refine if_yes (by kernel_rfl) ?_
          unfold Oper.wp
          go_simp
          exact ⟨.bool true, rfl, HC.out, Below.refl _ _, rfl⟩
        · have h30 : u 30 = .bool true := hR ⟨18, .data⟩ (by simp) rfl
          clear hR
          simp only [h30]
          clear h30
          refine if_yes (by kernel_rfl) ?_
          unfold Oper.wp
          go_simp
          exact ⟨.bool true, rfl, HC.out, Below.refl _ _, rfl⟩
        · have g31 : u 31 = .bool true := hR ⟨19, .guard⟩ (by simp) rfl
          clear hR
          simp only [g31]
          clear g31
          refine if_yes (by kernel_rfl) ?_
          exact wp_load_row 23 (.tmp 1) rfl _ rfl 23 _ (0, 0) _ HC.out.1 Try.underlying23 rfl size_geo ⟨.agg (gv b l y n s r), rfl, HC.out, Below.refl _ _, rfl⟩
        · have g31 : u 31 = .bool true := hR ⟨19, .guard⟩ (by simp) rfl
          have h32 : u 32 = .agg (gv b l y n s r) := hR ⟨20, .data⟩ (by simp) rfl
          clear hR
          simp only [g31, h32]
          clear g31 h32
          refine if_yes (by kernel_rfl) ?_
          unfold Oper.wp
          go_simp
          refine (ge_bound b l y n s r _ HOK.out).mono ?_
          rintro e w2 ⟨rfl, hb2⟩
          rw [HBD.out]
          exact ⟨.int .i64 bd, rfl, HC.out.call hb2, hb2, rfl⟩
        · have g31 : u 31 = .bool true := hR ⟨19, .guard⟩ (by simp) rfl
          clear hR
          simp only [g31]
          clear g31
          refine if_yes (by kernel_rfl) ?_
          exact wp_load_row 23 (.tmp 1) rfl _ rfl 23 _ (0, 0) _ HC.out.1 Try.underlying23 rfl size_geo ⟨.agg (gv b l y n s r), rfl, HC.out, Below.refl _ _, rfl⟩
        · have g31 : u 31 = .bool true := hR ⟨19, .guard⟩ (by simp) rfl
          have h34 : u 34 = .agg (gv b l y n s r) := hR ⟨22, .data⟩ (by simp) rfl
          clear hR
          simp only [g31, h34]
          clear g31 h34
          refine if_yes (by kernel_rfl) ?_
          unfold Oper.wp
          go_simp
          refine (rge_bound b l y n s r _ HOK.out.1).mono ?_
          rintro e w2 ⟨rfl, hb2⟩
          rw [HBD.out]
          exact ⟨.int .i64 bd, rfl, HC.out.call hb2, hb2, rfl⟩
        · have g31 : u 31 = .bool true := hR ⟨19, .guard⟩ (by simp) rfl
          have h33 : u 33 = .int .i64 bd := hR ⟨21, .data⟩ (by simp) rfl
          have h35 : u 35 = .int .i64 bd := hR ⟨23, .data⟩ (by simp) rfl
          clear hR
          simp only [g31, h33, h35]
          clear g31 h33 h35
          refine if_yes (by kernel_rfl) ?_
          unfold Oper.wp
          go_simp
          exact ⟨.bool true, rfl, HC.out, Below.refl _ _, rfl⟩
        · have h31 : u 31 = .bool true := hR ⟨19, .data⟩ (by simp) rfl
          have h36 : u 36 = .bool true := hR ⟨24, .data⟩ (by simp) rfl
          clear hR
          simp only [h31, h36]
          clear h31 h36
          refine if_yes (by kernel_rfl) ?_
          unfold Oper.wp
          go_simp
          exact ⟨.bool true, rfl, HC.out, Below.refl _ _, rfl⟩
        · have h37 : u 37 = .bool true := hR ⟨25, .data⟩ (by simp) rfl
          clear hR
          simp only [h37]
          clear h37
          refine if_yes (by kernel_rfl) ?_
          unfold Oper.wp
          go_simp
          exact ⟨.bool true, rfl, HC.out, Below.refl _ _, rfl⟩
        · have g38 : u 38 = .bool true := hR ⟨26, .guard⟩ (by simp) rfl
          clear hR
          simp only [g38]
          clear g38
          refine if_yes (by kernel_rfl) ?_
          exact wp_load_row 23 (.tmp 1) rfl _ rfl 23 _ (0, 0) _ HC.out.1 Try.underlying23 rfl size_geo ⟨.agg (gv b l y n s r), rfl, HC.out, Below.refl _ _, rfl⟩
        · have g38 : u 38 = .bool true := hR ⟨26, .guard⟩ (by simp) rfl
          have h39 : u 39 = .agg (gv b l y n s r) := hR ⟨27, .data⟩ (by simp) rfl
          clear hR
          simp only [g38, h39]
          clear g38 h39
          refine if_yes (by kernel_rfl) ?_
          unfold Oper.wp
          go_simp
          refine (ge_spread b l y n s r _ HOK.out).mono ?_
          rintro e w2 ⟨rfl, hb2⟩
          rw [HSP.out]
          exact ⟨.int .i64 sp, rfl, HC.out.call hb2, hb2, rfl⟩
        · have g38 : u 38 = .bool true := hR ⟨26, .guard⟩ (by simp) rfl
          clear hR
          simp only [g38]
          clear g38
          refine if_yes (by kernel_rfl) ?_
          exact wp_load_row 23 (.tmp 1) rfl _ rfl 23 _ (0, 0) _ HC.out.1 Try.underlying23 rfl size_geo ⟨.agg (gv b l y n s r), rfl, HC.out, Below.refl _ _, rfl⟩
        · have g38 : u 38 = .bool true := hR ⟨26, .guard⟩ (by simp) rfl
          have h41 : u 41 = .agg (gv b l y n s r) := hR ⟨29, .data⟩ (by simp) rfl
          clear hR
          simp only [g38, h41]
          clear g38 h41
          refine if_yes (by kernel_rfl) ?_
          unfold Oper.wp
          go_simp
          refine (rge_spread b l y n s r _ HOK.out.1).mono ?_
          rintro e w2 ⟨rfl, hb2⟩
          rw [HSP.out]
          exact ⟨.int .i64 sp, rfl, HC.out.call hb2, hb2, rfl⟩
        · have g38 : u 38 = .bool true := hR ⟨26, .guard⟩ (by simp) rfl
          have h40 : u 40 = .int .i64 sp := hR ⟨28, .data⟩ (by simp) rfl
          have h42 : u 42 = .int .i64 sp := hR ⟨30, .data⟩ (by simp) rfl
          clear hR
          simp only [g38, h40, h42]
          clear g38 h40 h42
          refine if_yes (by kernel_rfl) ?_
          unfold Oper.wp
          go_simp
          exact ⟨.bool true, rfl, HC.out, Below.refl _ _, rfl⟩
        · have h38 : u 38 = .bool true := hR ⟨26, .data⟩ (by simp) rfl
          have h43 : u 43 = .bool true := hR ⟨31, .data⟩ (by simp) rfl
          clear hR
          simp only [h38, h43]
          clear h38 h43
          refine if_yes (by kernel_rfl) ?_
          unfold Oper.wp
          go_simp
          exact ⟨.bool true, rfl, HC.out, Below.refl _ _, rfl⟩
        · have h44 : u 44 = .bool true := hR ⟨32, .data⟩ (by simp) rfl
          clear hR
          simp only [h44]
          clear h44
          refine if_yes (by kernel_rfl) ?_
          unfold Oper.wp
          go_simp
          exact ⟨.bool true, rfl, HC.out, Below.refl _ _, rfl⟩
        · have g45 : u 45 = .bool true := hR ⟨33, .guard⟩ (by simp) rfl
          clear hR
          simp only [g45]
          clear g45
          refine if_yes (by kernel_rfl) ?_
          unfold Oper.wp
          go_simp
          refine (works_any _).mono ?_
          rintro e w2 ⟨rfl, hb2⟩
          exact ⟨.bool true, rfl, HC.out.call hb2, hb2, rfl⟩
        · have h45 : u 45 = .bool true := hR ⟨33, .data⟩ (by simp) rfl
          have h46 : u 46 = .bool true := hR ⟨34, .data⟩ (by simp) rfl
          clear hR
          simp only [h45, h46]
          clear h45 h46
          refine if_yes (by kernel_rfl) ?_
          unfold Oper.wp
          go_simp
          exact ⟨.bool true, rfl, HC.out, Below.refl _ _, rfl⟩
        · have h47 : u 47 = .bool true := hR ⟨35, .data⟩ (by simp) rfl
          clear hR
          simp only [h47]
          clear h47
          refine if_yes (by kernel_rfl) ?_
          unfold Oper.wp
          go_simp
          exact ⟨.bool true, rfl, HC.out, Below.refl _ _, rfl⟩
      · intro a w3 hC hB hR
        have h2 : a.tmps.getD 2 undef = .bool true := hR 36 (by decide)
        clear hR
        have HE := Lib.hid hC.2
        clear hC
        obtain ⟨u, rfl⟩ := hB
        have h2 : u 2 = .bool true := h2
        simp only [h2]
        clear h2
        go_wp2_with fail
        go_ret
        exact ⟨rfl, HE.out⟩
    · rw [chk_no hok]
      clear hok
      go_wp2_with fail
      refine (works_any _).mono ?_
      rintro e w3 ⟨rfl, hb3⟩
      have HK3 := Lib.hid (HK2.out.call hb3)
      clear hb3 HK2
      go_wp2_with fail
      go_ret
      exact ⟨rfl, HK3.out.2⟩

end Go.Proofs.Ytejgdaekomdhlaa
