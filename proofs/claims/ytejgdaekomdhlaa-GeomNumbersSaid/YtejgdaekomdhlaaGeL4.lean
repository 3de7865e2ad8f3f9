/- The walk of the law GeomLeft. -/
import Derived.Test.YtejgdaekomdhlaaGeL1
namespace Go.Proofs.Ytejgdaekomdhlaa
set_option maxRecDepth 100000
open Go.RowKit

theorem bound_gt {b l y n s r : Int} (h : PreG b l y n s r) : 3 * l < boundG b l y n s := by
  have hs := snaps_bd h
  obtain ⟨h1, h2, h3, h4, h5, h6, h7, h8, h9, h10, h11, h12, h13, h14⟩ := h
  unfold boundG
  have hm : 1 * (16 * l + n + 2 * snapsG b y n + 16) ≤ 8 * (b + s + 4) * (16 * l + n + 2 * snapsG b y n + 16) := Int.mul_le_mul_of_nonneg_right (by omega) (by omega)
  omega
/-- what each operation of the region GL leaves -/
def vsGL (B : Nat) (b l y n s r k ra bd sp : Int) : List (Option (Tmp × Value)) :=
  [some (8, .agg (gv b l y n s r)), some (9, .int .i64 k), some (10, .bool true), some (11, .bool true), some (12, .agg (gv b l y n s r)), some (13, .int .i64 k), some (14, .pointer (some ⟨B, 1, none⟩)), some (15, .int .i64 l), some (16, .int .i64 (l - 4)), some (17, .bool true), some (18, .bool true), some (19, .bool true), some (20, .pointer (some ⟨B, 3, none⟩)), some (21, .int .i64 n), some (22, .bool true), some (23, .bool true), some (24, .bool true), some (25, .agg (gv b l y n s r)), some (26, .int .i64 ra), some (27, .pointer (some ⟨B, 2, none⟩)), some (28, .int .i64 y), some (29, .bool true), some (30, .bool true), some (31, .bool true), some (32, .agg (gv b l y n s r)), some (33, .int .i64 bd), some (34, .pointer (some ⟨B, 1, none⟩)), some (35, .int .i64 l), some (36, .int .i64 (3 * l)), some (37, .bool true), some (38, .bool true), some (39, .bool true), some (40, .agg (gv b l y n s r)), some (41, .int .i64 sp), some (42, .pointer (some ⟨B, 5, none⟩)), some (43, .int .i64 r), some (44, .bool true), some (45, .bool true), some (2, .bool true)]
/-- the frame while the region GL runs -/
def BaseGL (B : Nat) (a : Act) : Prop := ∃ u : Nat → Value, a = ⟨#[u 0, .pointer (some ⟨B, 0, none⟩), u 2, u 3, u 4, u 5, u 6, u 7, u 8, u 9, u 10, u 11, u 12, u 13, u 14, u 15, u 16, u 17, u 18, u 19, u 20, u 21, u 22, u 23, u 24, u 25, u 26, u 27, u 28, u 29, u 30, u 31, u 32, u 33, u 34, u 35, u 36, u 37, u 38, u 39, u 40, u 41, u 42, u 43, u 44, u 45], []⟩
theorem BaseGL.of {B : Nat} (arr : Array Value) (h : arr = #[arr.getD 0 undef, .pointer (some ⟨B, 0, none⟩), arr.getD 2 undef, arr.getD 3 undef, arr.getD 4 undef, arr.getD 5 undef, arr.getD 6 undef, arr.getD 7 undef, arr.getD 8 undef, arr.getD 9 undef, arr.getD 10 undef, arr.getD 11 undef, arr.getD 12 undef, arr.getD 13 undef, arr.getD 14 undef, arr.getD 15 undef, arr.getD 16 undef, arr.getD 17 undef, arr.getD 18 undef, arr.getD 19 undef, arr.getD 20 undef, arr.getD 21 undef, arr.getD 22 undef, arr.getD 23 undef, arr.getD 24 undef, arr.getD 25 undef, arr.getD 26 undef, arr.getD 27 undef, arr.getD 28 undef, arr.getD 29 undef, arr.getD 30 undef, arr.getD 31 undef, arr.getD 32 undef, arr.getD 33 undef, arr.getD 34 undef, arr.getD 35 undef, arr.getD 36 undef, arr.getD 37 undef, arr.getD 38 undef, arr.getD 39 undef, arr.getD 40 undef, arr.getD 41 undef, arr.getD 42 undef, arr.getD 43 undef, arr.getD 44 undef, arr.getD 45 undef]) : BaseGL B ⟨arr, []⟩ := ⟨fun i => arr.getD i undef, by rw [← h]⟩
theorem BaseGL.put8 {B : Nat} (a : Act) (v : Value) (h : BaseGL B a) : BaseGL B (a.put (some 8) v) := by
  obtain ⟨u, rfl⟩ := h
  exact ⟨fun i => if i = 8 then v else u i, by kernel_rfl⟩
theorem BaseGL.put9 {B : Nat} (a : Act) (v : Value) (h : BaseGL B a) : BaseGL B (a.put (some 9) v) := by
  obtain ⟨u, rfl⟩ := h
  exact ⟨fun i => if i = 9 then v else u i, by kernel_rfl⟩
theorem BaseGL.put10 {B : Nat} (a : Act) (v : Value) (h : BaseGL B a) : BaseGL B (a.put (some 10) v) := by
  obtain ⟨u, rfl⟩ := h
  exact ⟨fun i => if i = 10 then v else u i, by kernel_rfl⟩
theorem BaseGL.put11 {B : Nat} (a : Act) (v : Value) (h : BaseGL B a) : BaseGL B (a.put (some 11) v) := by
  obtain ⟨u, rfl⟩ := h
  exact ⟨fun i => if i = 11 then v else u i, by kernel_rfl⟩
theorem BaseGL.put12 {B : Nat} (a : Act) (v : Value) (h : BaseGL B a) : BaseGL B (a.put (some 12) v) := by
  obtain ⟨u, rfl⟩ := h
  exact ⟨fun i => if i = 12 then v else u i, by kernel_rfl⟩
theorem BaseGL.put13 {B : Nat} (a : Act) (v : Value) (h : BaseGL B a) : BaseGL B (a.put (some 13) v) := by
  obtain ⟨u, rfl⟩ := h
  exact ⟨fun i => if i = 13 then v else u i, by kernel_rfl⟩
theorem BaseGL.put14 {B : Nat} (a : Act) (v : Value) (h : BaseGL B a) : BaseGL B (a.put (some 14) v) := by
  obtain ⟨u, rfl⟩ := h
  exact ⟨fun i => if i = 14 then v else u i, by kernel_rfl⟩
theorem BaseGL.put15 {B : Nat} (a : Act) (v : Value) (h : BaseGL B a) : BaseGL B (a.put (some 15) v) := by
  obtain ⟨u, rfl⟩ := h
  exact ⟨fun i => if i = 15 then v else u i, by kernel_rfl⟩
theorem BaseGL.put16 {B : Nat} (a : Act) (v : Value) (h : BaseGL B a) : BaseGL B (a.put (some 16) v) := by
  obtain ⟨u, rfl⟩ := h
  exact ⟨fun i => if i = 16 then v else u i, by kernel_rfl⟩
theorem BaseGL.put17 {B : Nat} (a : Act) (v : Value) (h : BaseGL B a) : BaseGL B (a.put (some 17) v) := by
  obtain ⟨u, rfl⟩ := h
  exact ⟨fun i => if i = 17 then v else u i, by kernel_rfl⟩
theorem BaseGL.put18 {B : Nat} (a : Act) (v : Value) (h : BaseGL B a) : BaseGL B (a.put (some 18) v) := by
  obtain ⟨u, rfl⟩ := h
  exact ⟨fun i => if i = 18 then v else u i, by kernel_rfl⟩
theorem BaseGL.put19 {B : Nat} (a : Act) (v : Value) (h : BaseGL B a) : BaseGL B (a.put (some 19) v) := by
  obtain ⟨u, rfl⟩ := h
  exact ⟨fun i => if i = 19 then v else u i, by kernel_rfl⟩
theorem BaseGL.put20 {B : Nat} (a : Act) (v : Value) (h : BaseGL B a) : BaseGL B (a.put (some 20) v) := by
  obtain ⟨u, rfl⟩ := h
  exact ⟨fun i => if i = 20 then v else u i, by kernel_rfl⟩
theorem BaseGL.put21 {B : Nat} (a : Act) (v : Value) (h : BaseGL B a) : BaseGL B (a.put (some 21) v) := by
  obtain ⟨u, rfl⟩ := h
  exact ⟨fun i => if i = 21 then v else u i, by kernel_rfl⟩
theorem BaseGL.put22 {B : Nat} (a : Act) (v : Value) (h : BaseGL B a) : BaseGL B (a.put (some 22) v) := by
  obtain ⟨u, rfl⟩ := h
  exact ⟨fun i => if i = 22 then v else u i, by kernel_rfl⟩
theorem BaseGL.put23 {B : Nat} (a : Act) (v : Value) (h : BaseGL B a) : BaseGL B (a.put (some 23) v) := by
  obtain ⟨u, rfl⟩ := h
  exact ⟨fun i => if i = 23 then v else u i, by kernel_rfl⟩
theorem BaseGL.put24 {B : Nat} (a : Act) (v : Value) (h : BaseGL B a) : BaseGL B (a.put (some 24) v) := by
  obtain ⟨u, rfl⟩ := h
  exact ⟨fun i => if i = 24 then v else u i, by kernel_rfl⟩
theorem BaseGL.put25 {B : Nat} (a : Act) (v : Value) (h : BaseGL B a) : BaseGL B (a.put (some 25) v) := by
  obtain ⟨u, rfl⟩ := h
  exact ⟨fun i => if i = 25 then v else u i, by kernel_rfl⟩
theorem BaseGL.put26 {B : Nat} (a : Act) (v : Value) (h : BaseGL B a) : BaseGL B (a.put (some 26) v) := by
  obtain ⟨u, rfl⟩ := h
  exact ⟨fun i => if i = 26 then v else u i, by kernel_rfl⟩
theorem BaseGL.put27 {B : Nat} (a : Act) (v : Value) (h : BaseGL B a) : BaseGL B (a.put (some 27) v) := by
  obtain ⟨u, rfl⟩ := h
  exact ⟨fun i => if i = 27 then v else u i, by kernel_rfl⟩
theorem BaseGL.put28 {B : Nat} (a : Act) (v : Value) (h : BaseGL B a) : BaseGL B (a.put (some 28) v) := by
  obtain ⟨u, rfl⟩ := h
  exact ⟨fun i => if i = 28 then v else u i, by kernel_rfl⟩
theorem BaseGL.put29 {B : Nat} (a : Act) (v : Value) (h : BaseGL B a) : BaseGL B (a.put (some 29) v) := by
  obtain ⟨u, rfl⟩ := h
  exact ⟨fun i => if i = 29 then v else u i, by kernel_rfl⟩
theorem BaseGL.put30 {B : Nat} (a : Act) (v : Value) (h : BaseGL B a) : BaseGL B (a.put (some 30) v) := by
  obtain ⟨u, rfl⟩ := h
  exact ⟨fun i => if i = 30 then v else u i, by kernel_rfl⟩
theorem BaseGL.put31 {B : Nat} (a : Act) (v : Value) (h : BaseGL B a) : BaseGL B (a.put (some 31) v) := by
  obtain ⟨u, rfl⟩ := h
  exact ⟨fun i => if i = 31 then v else u i, by kernel_rfl⟩
theorem BaseGL.put32 {B : Nat} (a : Act) (v : Value) (h : BaseGL B a) : BaseGL B (a.put (some 32) v) := by
  obtain ⟨u, rfl⟩ := h
  exact ⟨fun i => if i = 32 then v else u i, by kernel_rfl⟩
theorem BaseGL.put33 {B : Nat} (a : Act) (v : Value) (h : BaseGL B a) : BaseGL B (a.put (some 33) v) := by
  obtain ⟨u, rfl⟩ := h
  exact ⟨fun i => if i = 33 then v else u i, by kernel_rfl⟩
theorem BaseGL.put34 {B : Nat} (a : Act) (v : Value) (h : BaseGL B a) : BaseGL B (a.put (some 34) v) := by
  obtain ⟨u, rfl⟩ := h
  exact ⟨fun i => if i = 34 then v else u i, by kernel_rfl⟩
theorem BaseGL.put35 {B : Nat} (a : Act) (v : Value) (h : BaseGL B a) : BaseGL B (a.put (some 35) v) := by
  obtain ⟨u, rfl⟩ := h
  exact ⟨fun i => if i = 35 then v else u i, by kernel_rfl⟩
theorem BaseGL.put36 {B : Nat} (a : Act) (v : Value) (h : BaseGL B a) : BaseGL B (a.put (some 36) v) := by
  obtain ⟨u, rfl⟩ := h
  exact ⟨fun i => if i = 36 then v else u i, by kernel_rfl⟩
theorem BaseGL.put37 {B : Nat} (a : Act) (v : Value) (h : BaseGL B a) : BaseGL B (a.put (some 37) v) := by
  obtain ⟨u, rfl⟩ := h
  exact ⟨fun i => if i = 37 then v else u i, by kernel_rfl⟩
theorem BaseGL.put38 {B : Nat} (a : Act) (v : Value) (h : BaseGL B a) : BaseGL B (a.put (some 38) v) := by
  obtain ⟨u, rfl⟩ := h
  exact ⟨fun i => if i = 38 then v else u i, by kernel_rfl⟩
theorem BaseGL.put39 {B : Nat} (a : Act) (v : Value) (h : BaseGL B a) : BaseGL B (a.put (some 39) v) := by
  obtain ⟨u, rfl⟩ := h
  exact ⟨fun i => if i = 39 then v else u i, by kernel_rfl⟩
theorem BaseGL.put40 {B : Nat} (a : Act) (v : Value) (h : BaseGL B a) : BaseGL B (a.put (some 40) v) := by
  obtain ⟨u, rfl⟩ := h
  exact ⟨fun i => if i = 40 then v else u i, by kernel_rfl⟩
theorem BaseGL.put41 {B : Nat} (a : Act) (v : Value) (h : BaseGL B a) : BaseGL B (a.put (some 41) v) := by
  obtain ⟨u, rfl⟩ := h
  exact ⟨fun i => if i = 41 then v else u i, by kernel_rfl⟩
theorem BaseGL.put42 {B : Nat} (a : Act) (v : Value) (h : BaseGL B a) : BaseGL B (a.put (some 42) v) := by
  obtain ⟨u, rfl⟩ := h
  exact ⟨fun i => if i = 42 then v else u i, by kernel_rfl⟩
theorem BaseGL.put43 {B : Nat} (a : Act) (v : Value) (h : BaseGL B a) : BaseGL B (a.put (some 43) v) := by
  obtain ⟨u, rfl⟩ := h
  exact ⟨fun i => if i = 43 then v else u i, by kernel_rfl⟩
theorem BaseGL.put44 {B : Nat} (a : Act) (v : Value) (h : BaseGL B a) : BaseGL B (a.put (some 44) v) := by
  obtain ⟨u, rfl⟩ := h
  exact ⟨fun i => if i = 44 then v else u i, by kernel_rfl⟩
theorem BaseGL.put45 {B : Nat} (a : Act) (v : Value) (h : BaseGL B a) : BaseGL B (a.put (some 45) v) := by
  obtain ⟨u, rfl⟩ := h
  exact ⟨fun i => if i = 45 then v else u i, by kernel_rfl⟩
theorem BaseGL.put2 {B : Nat} (a : Act) (v : Value) (h : BaseGL B a) : BaseGL B (a.put (some 2) v) := by
  obtain ⟨u, rfl⟩ := h
  exact ⟨fun i => if i = 2 then v else u i, by kernel_rfl⟩

set_option maxHeartbeats 2000000 in
set_option maxRecDepth 100000 in
theorem walk_GeomLeft (b l y n s r : Int) (w : World) :
    Calls Try.prog 7 #[.agg (gv b l y n s r)] w fun e w' => e = .returned (.bool true) ∧ Below w.heap.size w w' := by
  have HK0 : Hid (CG w b l y n s r (w.alloc (.cells (gv b l y n s r) 23))) := ⟨Blk.new w _ _, (Below.refl w.heap.size w).alloc (Nat.le_refl _) _⟩
  go_enter Try.func7, Try.ntmps7
  go_wp2_with fail
  refine (works_any _).mono ?_
  rintro e w1 ⟨rfl, hb1⟩
  have HK1 := Lib.hid (HK0.out.call hb1)
  clear hb1 HK0
  go_wp2_with (refine wpList_load_row rfl 23 (.tmp 1) rfl w.heap.size rfl 23 (gv b l y n s r) (0, 0) _ HK1.out.1 Try.underlying23 rfl size_geo ?_)
  refine (ge_check b l y n s r _).mono ?_
  rintro e w2 ⟨rfl, hb2⟩
  have HK2 := Lib.hid (HK1.out.call hb2)
  clear hb2 HK1
  by_cases hok : OkG b l y n s r
  · rw [chk_ok hok]
    have HOK := Lib.hid hok
    have hsn := snaps_bd hok.1
    have hgt := bound_gt hok.1
    obtain ⟨⟨h1, h2, h3, h4, h5, h6, h7, h8, h9, h10, h11, h12, h13, h14⟩, h15, h16⟩ := hok
    have hra : y < rawG y := by unfold rawG; omega
    have hsp : r < spreadG b r := by unfold spreadG; omega
    obtain ⟨k, hk⟩ : ∃ k, snapsG b y n = k := ⟨_, rfl⟩
    obtain ⟨ra, hrae⟩ : ∃ k, rawG y = k := ⟨_, rfl⟩
    obtain ⟨bd, hbd⟩ : ∃ k, boundG b l y n s = k := ⟨_, rfl⟩
    obtain ⟨sp, hspe⟩ : ∃ k, spreadG b r = k := ⟨_, rfl⟩
    rw [hk] at hsn h16
    rw [hrae] at hra
    rw [hbd] at hgt
    rw [hspe] at hsp
    have HSN := Lib.hid hk
    have HRA := Lib.hid hrae
    have HBD := Lib.hid hbd
    have HSP := Lib.hid hspe
    have HF : Hid ((6 ≤ l ∧ l ≤ 64) ∧ (1 ≤ k ∧ k ≤ l - 4) ∧ 1 ≤ n ∧ y < ra ∧ 3 * l < bd ∧ r < sp) := ⟨⟨h3, h4⟩, ⟨hsn.1, h16⟩, h13, hra, hgt, hsp⟩
    clear hk hrae hbd hspe hsn hgt hra hsp h1 h2 h3 h4 h5 h6 h7 h8 h9 h10 h11 h12 h13 h14 h15 h16
    go_wp2_with fail
    rename_i K0 hK0
    refine wp_region_list3 (SV (vsGL w.heap.size b l y n s r k ra bd sp) []) (BaseGL w.heap.size) (CG w b l y n s r) Goes (RV (vsGL w.heap.size b l y n s r k ra bd sp) (fun _ _ _ => False)) rfl (by kernel_rfl) (RV.ext no_special6) ?_ HK2.out.drew (BaseGL.of _ (by kernel_rfl)) ?_ ?_
    · exact ⟨BaseGL.put8, BaseGL.put9, BaseGL.put10, BaseGL.put11, BaseGL.put12, BaseGL.put13, BaseGL.put14, BaseGL.put15, BaseGL.put16, BaseGL.put17, BaseGL.put18, BaseGL.put19, BaseGL.put20, BaseGL.put21, BaseGL.put22, BaseGL.put23, BaseGL.put24, BaseGL.put25, BaseGL.put26, BaseGL.put27, BaseGL.put28, BaseGL.put29, BaseGL.put30, BaseGL.put31, BaseGL.put32, BaseGL.put33, BaseGL.put34, BaseGL.put35, BaseGL.put36, BaseGL.put37, BaseGL.put38, BaseGL.put39, BaseGL.put40, BaseGL.put41, BaseGL.put42, BaseGL.put43, BaseGL.put44, BaseGL.put45, BaseGL.put2, trivial⟩
    · refine ⟨?_, ?_, ?_, ?_, ?_, ?_, ?_, ?_, ?_, ?_, ?_, ?_, ?_, ?_, ?_, ?_, ?_, ?_, ?_, ?_, ?_, ?_, ?_, ?_, ?_, ?_, ?_, ?_, ?_, ?_, ?_, ?_, ?_, ?_, ?_, ?_, ?_, ?_, ?_, trivial⟩
      all_goals
        intro a w' hC hB hR
        obtain ⟨u, rfl⟩ := hB
        have HC := Lib.hid hC
        clear hC
        clear hK0
      · clear hR
        refine if_yes (by kernel_rfl) ?_
        exact wp_load_row 23 (.tmp 1) rfl _ rfl 23 _ (0, 0) _ HC.out.1 Try.underlying23 rfl size_geo ⟨.agg (gv b l y n s r), rfl, HC.out, Below.refl _ _, rfl⟩
      · have h8 : u 8 = .agg (gv b l y n s r) := hR ⟨0, .data⟩ (by simp) rfl
        clear hR
        simp only [h8]
        clear h8
        refine if_yes (by kernel_rfl) ?_
        unfold Oper.wp
        go_simp
        refine (ge_snaps b l y n s r _ HOK.out).mono ?_
        rintro e w2 ⟨rfl, hb2⟩
        rw [HSN.out]
        exact ⟨.int .i64 k, rfl, HC.out.call hb2, hb2, rfl⟩
      · have h9 : u 9 = .int .i64 k := hR ⟨1, .data⟩ (by simp) rfl
        clear hR
        simp only [h9]
        clear h9
        refine if_yes (by kernel_rfl) ?_
        have hf := HF.out
        unfold Oper.wp
        go_simp
        exact ⟨_, rfl, HC.out, Below.refl _ _, congrArg Value.bool (by first | rfl | (simp; done) | (simp; omega))⟩
      · have h10 : u 10 = .bool true := hR ⟨2, .data⟩ (by simp) rfl
        clear hR
        simp only [h10]
        clear h10
        refine if_yes (by kernel_rfl) ?_
        unfold Oper.wp
        go_simp
        exact ⟨.bool true, rfl, HC.out, Below.refl _ _, rfl⟩
      · have g11 : u 11 = .bool true := hR ⟨3, .guard⟩ (by simp) rfl
        clear hR
        simp only [g11]
        clear g11
        refine if_yes (by kernel_rfl) ?_
        exact wp_load_row 23 (.tmp 1) rfl _ rfl 23 _ (0, 0) _ HC.out.1 Try.underlying23 rfl size_geo ⟨.agg (gv b l y n s r), rfl, HC.out, Below.refl _ _, rfl⟩
      · have g11 : u 11 = .bool true := hR ⟨3, .guard⟩ (by simp) rfl
        have h12 : u 12 = .agg (gv b l y n s r) := hR ⟨4, .data⟩ (by simp) rfl
        clear hR
        simp only [g11, h12]
        clear g11 h12
        refine if_yes (by kernel_rfl) ?_
        unfold Oper.wp
        go_simp
        refine (ge_snaps b l y n s r _ HOK.out).mono ?_
        rintro e w2 ⟨rfl, hb2⟩
        rw [HSN.out]
        exact ⟨.int .i64 k, rfl, HC.out.call hb2, hb2, rfl⟩
      · have g11 : u 11 = .bool true := hR ⟨3, .guard⟩ (by simp) rfl
        clear hR
        simp only [g11]
        clear g11
        refine if_yes (by kernel_rfl) ?_
        unfold Oper.wp
        go_simp
        exact ⟨.pointer (some ⟨w.heap.size, 1, none⟩), rfl, HC.out, Below.refl _ _, rfl⟩
      · have g11 : u 11 = .bool true := hR ⟨3, .guard⟩ (by simp) rfl
        have h14 : u 14 = .pointer (some ⟨w.heap.size, 1, none⟩) := hR ⟨6, .data⟩ (by simp) rfl
        have hc : w'.cell? ⟨w.heap.size, 1, none⟩ = some (.int .i64 l) := HC.out.1.cell 1
        clear hR
        simp only [g11, h14]
        clear g11 h14
        refine if_yes (by kernel_rfl) ?_
        unfold Oper.wp
        go_simp
        exact ⟨.int .i64 l, rfl, HC.out, Below.refl _ _, rfl⟩
      · have g11 : u 11 = .bool true := hR ⟨3, .guard⟩ (by simp) rfl
        have h15 : u 15 = .int .i64 l := hR ⟨7, .data⟩ (by simp) rfl
        have hf := HF.out
        have hw : IntKind.i64.wrap (l - 4) = l - 4 := by rw [IntKind.wrap_i64]; omega
        clear hf
        clear hR
        simp only [g11, h15]
        clear g11 h15
        refine if_yes (by kernel_rfl) ?_
        unfold Oper.wp
        go_simp
        exact ⟨.int .i64 (l - 4), rfl, HC.out, Below.refl _ _, rfl⟩
      · have g11 : u 11 = .bool true := hR ⟨3, .guard⟩ (by simp) rfl
        have h13 : u 13 = .int .i64 k := hR ⟨5, .data⟩ (by simp) rfl
        have h16 : u 16 = .int .i64 (l - 4) := hR ⟨8, .data⟩ (by simp) rfl
        clear hR
        simp only [g11, h13, h16]
        clear g11 h13 h16
        refine if_yes (by kernel_rfl) ?_
        have hf := HF.out
        unfold Oper.wp
        go_simp
        exact ⟨_, rfl, HC.out, Below.refl _ _, congrArg Value.bool (by first | rfl | (simp; done) | (simp; omega))⟩
      · have h11 : u 11 = .bool true := hR ⟨3, .data⟩ (by simp) rfl
        have h17 : u 17 = .bool true := hR ⟨9, .data⟩ (by simp) rfl
        clear hR
        simp only [h11, h17]
        clear h11 h17
        refine if_yes (by kernel_rfl) ?_
        unfold Oper.wp
        go_simp
        exact ⟨.bool true, rfl, HC.out, Below.refl _ _, rfl⟩
      · have h18 : u 18 = .bool true := hR ⟨10, .data⟩ (by simp) rfl
        clear hR
        simp only [h18]
        clear h18
        refine if_yes (by kernel_rfl) ?_
        unfold Oper.wp
        go_simp
        exact ⟨.bool true, rfl, HC.out, Below.refl _ _, rfl⟩
      · have g19 : u 19 = .bool true := hR ⟨11, .guard⟩ (by simp) rfl
        clear hR
        simp only [g19]
        clear g19
        refine if_yes (by kernel_rfl) ?_
        unfold Oper.wp
        go_simp
        exact ⟨.pointer (some ⟨w.heap.size, 3, none⟩), rfl, HC.out, Below.refl _ _, rfl⟩
      · have g19 : u 19 = .bool true := hR ⟨11, .guard⟩ (by simp) rfl
        have h20 : u 20 = .pointer (some ⟨w.heap.size, 3, none⟩) := hR ⟨12, .data⟩ (by simp) rfl
        have hc : w'.cell? ⟨w.heap.size, 3, none⟩ = some (.int .i64 n) := HC.out.1.cell 3
        clear hR
        simp only [g19, h20]
        clear g19 h20
        refine if_yes (by kernel_rfl) ?_
        unfold Oper.wp
        go_simp
        exact ⟨.int .i64 n, rfl, HC.out, Below.refl _ _, rfl⟩
      · have g19 : u 19 = .bool true := hR ⟨11, .guard⟩ (by simp) rfl
        have h21 : u 21 = .int .i64 n := hR ⟨13, .data⟩ (by simp) rfl
        clear hR
        simp only [g19, h21]
        clear g19 h21
        refine if_yes (by kernel_rfl) ?_
        have hf := HF.out
        unfold Oper.wp
        go_simp
        exact ⟨_, rfl, HC.out, Below.refl _ _, congrArg Value.bool (by first | rfl | (simp; done) | (simp; omega))⟩
      · have h19 : u 19 = .bool true := hR ⟨11, .data⟩ (by simp) rfl
        have h22 : u 22 = .bool true := hR ⟨14, .data⟩ (by simp) rfl
        clear hR
        simp only [h19, h22]
        clear h19 h22
        refine if_yes (by kernel_rfl) ?_
        unfold Oper.wp
        go_simp
        exact ⟨.bool true, rfl, HC.out, Below.refl _ _, rfl⟩
      · have h23 : u 23 = .bool true := hR ⟨15, .data⟩ (by simp) rfl
        clear hR
        simp only [h23]
        clear h23
        refine if_yes (by kernel_rfl) ?_
        unfold Oper.wp
        go_simp
        exact ⟨.bool true, rfl, HC.out, Below.refl _ _, rfl⟩
      · have g24 : u 24 = .bool true := hR ⟨16, .guard⟩ (by simp) rfl
        clear hR
        simp only [g24]
        clear g24
        refine if_yes (by kernel_rfl) ?_
        exact wp_load_row 23 (.tmp 1) rfl _ rfl 23 _ (0, 0) _ HC.out.1 Try.underlying23 rfl size_geo ⟨.agg (gv b l y n s r), rfl, HC.out, Below.refl _ _, rfl⟩
      · have g24 : u 24 = .bool true := hR ⟨16, .guard⟩ (by simp) rfl
        have h25 : u 25 = .agg (gv b l y n s r) := hR ⟨17, .data⟩ (by simp) rfl
        clear hR
        simp only [g24, h25]
        clear g24 h25
        refine if_yes (by kernel_rfl) ?_
        unfold Oper.wp
        go_simp
        refine (ge_raw b l y n s r _ HOK.out).mono ?_
        rintro e w2 ⟨rfl, hb2⟩
        rw [HRA.out]
        exact ⟨.int .i64 ra, rfl, HC.out.call hb2, hb2, rfl⟩
      · have g24 : u 24 = .bool true := hR ⟨16, .guard⟩ (by simp) rfl
        clear hR
        simp only [g24]
        clear g24
        refine if_yes (by kernel_rfl) ?_
        unfold Oper.wp
        go_simp
        exact ⟨.pointer (some ⟨w.heap.size, 2, none⟩), rfl, HC.out, Below.refl _ _, rfl⟩
      · have g24 : u 24 = .bool true := hR ⟨16, .guard⟩ (by simp) rfl
        have h27 : u 27 = .pointer (some ⟨w.heap.size, 2, none⟩) := hR ⟨19, .data⟩ (by simp) rfl
        have hc : w'.cell? ⟨w.heap.size, 2, none⟩ = some (.int .i64 y) := HC.out.1.cell 2
        clear hR
        simp only [g24, h27]
        clear g24 h27
        refine if_yes (by kernel_rfl) ?_
        unfold Oper.wp
        go_simp
        exact ⟨.int .i64 y, rfl, HC.out, Below.refl _ _, rfl⟩
      · have g24 : u 24 = .bool true := hR ⟨16, .guard⟩ (by simp) rfl
        have h26 : u 26 = .int .i64 ra := hR ⟨18, .data⟩ (by simp) rfl
        have h28 : u 28 = .int .i64 y := hR ⟨20, .data⟩ (by simp) rfl
        clear hR
        simp only [g24, h26, h28]
        clear g24 h26 h28
        refine if_yes (by kernel_rfl) ?_
        have hf := HF.out
        unfold Oper.wp
        go_simp
        exact ⟨_, rfl, HC.out, Below.refl _ _, congrArg Value.bool (by first | rfl | (simp; done) | (simp; omega))⟩
      · have h24 : u 24 = .bool true := hR ⟨16, .data⟩ (by simp) rfl
        have h29 : u 29 = .bool true := hR ⟨21, .data⟩ (by simp) rfl
        clear hR
        simp only [h24, h29]
        clear h24 h29
        refine if_yes (by kernel_rfl) ?_
        unfold Oper.wp
        go_simp
        exact ⟨.bool true, rfl, HC.out, Below.refl _ _, rfl⟩
      · have h30 : u 30 = .bool true := hR ⟨22, .data⟩ (by simp) rfl
        clear hR
        simp only [h30]
        clear h30
        refine if_yes (by kernel_rfl) ?_
        unfold Oper.wp
        go_simp
        exact ⟨.bool true, rfl, HC.out, Below.refl _ _, rfl⟩
      · have g31 : u 31 = .bool true := hR ⟨23, .guard⟩ (by simp) rfl
        clear hR
        simp only [g31]
        clear g31
        refine if_yes (by kernel_rfl) ?_
        exact wp_load_row 23 (.tmp 1) rfl _ rfl 23 _ (0, 0) _ HC.out.1 Try.underlying23 rfl size_geo ⟨.agg (gv b l y n s r), rfl, HC.out, Below.refl _ _, rfl⟩
      · have g31 : u 31 = .bool true := hR ⟨23, .guard⟩ (by simp) rfl
        have h32 : u 32 = .agg (gv b l y n s r) := hR ⟨24, .data⟩ (by simp) rfl
        clear hR
        simp only [g31, h32]
        clear g31 h32
        refine if_yes (by kernel_rfl) ?_
        unfold Oper.wp
        go_simp
        refine (ge_bound b l y n s r _ HOK.out).mono ?_
        rintro e w2 ⟨rfl, hb2⟩
        rw [HBD.out]
        exact ⟨.int .i64 bd, rfl, HC.out.call hb2, hb2, rfl⟩
      · have g31 : u 31 = .bool true := hR ⟨23, .guard⟩ (by simp) rfl
        clear hR
        simp only [g31]
        clear g31
        refine if_yes (by kernel_rfl) ?_
        unfold Oper.wp
        go_simp
        exact ⟨.pointer (some ⟨w.heap.size, 1, none⟩), rfl, HC.out, Below.refl _ _, rfl⟩
      · have g31 : u 31 = .bool true := hR ⟨23, .guard⟩ (by simp) rfl
        have h34 : u 34 = .pointer (some ⟨w.heap.size, 1, none⟩) := hR ⟨26, .data⟩ (by simp) rfl
        have hc : w'.cell? ⟨w.heap.size, 1, none⟩ = some (.int .i64 l) := HC.out.1.cell 1
        clear hR
        simp only [g31, h34]
        clear g31 h34
        refine if_yes (by kernel_rfl) ?_
        unfold Oper.wp
        go_simp
        exact ⟨.int .i64 l, rfl, HC.out, Below.refl _ _, rfl⟩
      · have g31 : u 31 = .bool true := hR ⟨23, .guard⟩ (by simp) rfl
        have h35 : u 35 = .int .i64 l := hR ⟨27, .data⟩ (by simp) rfl
        have hf := HF.out
        have hw : IntKind.i64.wrap (3 * l) = 3 * l := by rw [IntKind.wrap_i64]; omega
        clear hf
        clear hR
        simp only [g31, h35]
        clear g31 h35
        refine if_yes (by kernel_rfl) ?_
        unfold Oper.wp
        go_simp
        exact ⟨.int .i64 (3 * l), rfl, HC.out, Below.refl _ _, rfl⟩
      · have g31 : u 31 = .bool true := hR ⟨23, .guard⟩ (by simp) rfl
        have h33 : u 33 = .int .i64 bd := hR ⟨25, .data⟩ (by simp) rfl
        have h36 : u 36 = .int .i64 (3 * l) := hR ⟨28, .data⟩ (by simp) rfl
        clear hR
        simp only [g31, h33, h36]
        clear g31 h33 h36
        refine if_yes (by kernel_rfl) ?_
        have hf := HF.out
        unfold Oper.wp
        go_simp
        exact ⟨_, rfl, HC.out, Below.refl _ _, congrArg Value.bool (by first | rfl | (simp; done) | (simp; omega))⟩
      · have h31 : u 31 = .bool true := hR ⟨23, .data⟩ (by simp) rfl
        have h37 : u 37 = .bool true := hR ⟨29, .data⟩ (by simp) rfl
        clear hR
        simp only [h31, h37]
        clear h31 h37
        refine if_yes (by kernel_rfl) ?_
        unfold Oper.wp
        go_simp
        exact ⟨.bool true, rfl, HC.out, Below.refl _ _, rfl⟩
      · have h38 : u 38 = .bool true := hR ⟨30, .data⟩ (by simp) rfl
        clear hR
        simp only [h38]
        clear h38
        refine if_yes (by kernel_rfl) ?_
        unfold Oper.wp
        go_simp
        exact ⟨.bool true, rfl, HC.out, Below.refl _ _, rfl⟩
      · have g39 : u 39 = .bool true := hR ⟨31, .guard⟩ (by simp) rfl
        clear hR
        simp only [g39]
        clear g39
        refine if_yes (by kernel_rfl) ?_
        exact wp_load_row 23 (.tmp 1) rfl _ rfl 23 _ (0, 0) _ HC.out.1 Try.underlying23 rfl size_geo ⟨.agg (gv b l y n s r), rfl, HC.out, Below.refl _ _, rfl⟩
      · have g39 : u 39 = .bool true := hR ⟨31, .guard⟩ (by simp) rfl
        have h40 : u 40 = .agg (gv b l y n s r) := hR ⟨32, .data⟩ (by simp) rfl
        clear hR
        simp only [g39, h40]
        clear g39 h40
        refine if_yes (by kernel_rfl) ?_
        unfold Oper.wp
        go_simp
        refine (ge_spread b l y n s r _ HOK.out).mono ?_
        rintro e w2 ⟨rfl, hb2⟩
        rw [HSP.out]
        exact ⟨.int .i64 sp, rfl, HC.out.call hb2, hb2, rfl⟩
      · have g39 : u 39 = .bool true := hR ⟨31, .guard⟩ (by simp) rfl
        clear hR
        simp only [g39]
        clear g39
        refine if_yes (by kernel_rfl) ?_
        unfold Oper.wp
        go_simp
        exact ⟨.pointer (some ⟨w.heap.size, 5, none⟩), rfl, HC.out, Below.refl _ _, rfl⟩
      · have g39 : u 39 = .bool true := hR ⟨31, .guard⟩ (by simp) rfl
        have h42 : u 42 = .pointer (some ⟨w.heap.size, 5, none⟩) := hR ⟨34, .data⟩ (by simp) rfl
        have hc : w'.cell? ⟨w.heap.size, 5, none⟩ = some (.int .i64 r) := HC.out.1.cell 5
        clear hR
        simp only [g39, h42]
        clear g39 h42
        refine if_yes (by kernel_rfl) ?_
        unfold Oper.wp
        go_simp
        exact ⟨.int .i64 r, rfl, HC.out, Below.refl _ _, rfl⟩
      · have g39 : u 39 = .bool true := hR ⟨31, .guard⟩ (by simp) rfl
        have h41 : u 41 = .int .i64 sp := hR ⟨33, .data⟩ (by simp) rfl
        have h43 : u 43 = .int .i64 r := hR ⟨35, .data⟩ (by simp) rfl
        clear hR
        simp only [g39, h41, h43]
        clear g39 h41 h43
        refine if_yes (by kernel_rfl) ?_
        have hf := HF.out
        unfold Oper.wp
        go_simp
        exact ⟨_, rfl, HC.out, Below.refl _ _, congrArg Value.bool (by first | rfl | (simp; done) | (simp; omega))⟩
      · have h39 : u 39 = .bool true := hR ⟨31, .data⟩ (by simp) rfl
        have h44 : u 44 = .bool true := hR ⟨36, .data⟩ (by simp) rfl
        clear hR
        simp only [h39, h44]
        clear h39 h44
        refine if_yes (by kernel_rfl) ?_
        unfold Oper.wp
        go_simp
        exact ⟨.bool true, rfl, HC.out, Below.refl _ _, rfl⟩
      · have h45 : u 45 = .bool true := hR ⟨37, .data⟩ (by simp) rfl
        clear hR
        simp only [h45]
        clear h45
        refine if_yes (by kernel_rfl) ?_
        unfold Oper.wp
        go_simp
        exact ⟨.bool true, rfl, HC.out, Below.refl _ _, rfl⟩
    · intro a w' hC hB hR
      have h2 : a.tmps.getD 2 undef = .bool true := hR 38 (by decide)
      clear hR
      have HE := Lib.hid hC.2
      clear hC
      obtain ⟨u, rfl⟩ := hB
      have h2 : u 2 = .bool true := h2
      simp only [h2]
      clear h2
      go_wp2_with fail
      go_ret
      exact ⟨rfl, HE.out⟩
  · rw [chk_no hok]
    clear hok
    go_wp2_with fail
    go_ret
    exact ⟨rfl, HK2.out.2⟩

end Go.Proofs.Ytejgdaekomdhlaa
