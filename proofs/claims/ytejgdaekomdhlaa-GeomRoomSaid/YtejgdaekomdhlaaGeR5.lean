/- The reference of layer 6, walked: Check, by the first condition that fails (on). -/
import Derived.Test.YtejgdaekomdhlaaGeR4
namespace Go.Proofs.Ytejgdaekomdhlaa
set_option maxRecDepth 100000
open Go.RowKit

/-- what each operation of the region GC1 leaves -/
def vsGC1 (B : Nat) (s : Int) : List (Option (Tmp × Value)) :=
  [some (37, .pointer (some ⟨B, 4, none⟩)), some (38, .int .i64 s), some (39, .bool true), some (40, .bool true), some (41, undef), some (42, undef), some (43, undef), some (44, .bool true), some (45, .bool true), some (46, undef), some (47, undef), some (48, undef), some (49, undef), some (50, undef), some (51, undef), some (52, .bool true), some (53, .bool true), some (54, undef), some (55, undef), some (56, undef), some (57, .bool true), some (58, .bool true), some (59, undef), some (60, undef), some (61, undef), some (62, .bool true), some (63, .bool true), some (64, undef), some (65, undef), some (66, undef), some (67, .bool true), some (68, .bool true), some (69, undef), some (70, undef), some (71, undef), some (72, .bool true), some (73, .bool true), some (74, undef), some (75, undef), some (76, undef), some (77, undef), some (78, undef), some (79, .bool true), some (80, .bool true), some (81, undef), some (82, undef), some (83, undef), some (84, undef), some (85, undef), some (86, undef), some (87, .bool true)]
/-- the frame while the region GC1 runs -/
def BaseGC1 (B : Nat) (a : Act) : Prop := ∃ u : Nat → Value, a = ⟨#[u 0, .pointer (some ⟨B, 0, none⟩), u 2, u 3, u 4, u 5, u 6, u 7, u 8, u 9, u 10, u 11, u 12, u 13, u 14, u 15, u 16, u 17, u 18, u 19, u 20, u 21, u 22, u 23, u 24, u 25, u 26, u 27, u 28, u 29, u 30, u 31, u 32, u 33, u 34, u 35, u 36, u 37, u 38, u 39, u 40, u 41, u 42, u 43, u 44, u 45, u 46, u 47, u 48, u 49, u 50, u 51, u 52, u 53, u 54, u 55, u 56, u 57, u 58, u 59, u 60, u 61, u 62, u 63, u 64, u 65, u 66, u 67, u 68, u 69, u 70, u 71, u 72, u 73, u 74, u 75, u 76, u 77, u 78, u 79, u 80, u 81, u 82, u 83, u 84, u 85, u 86, u 87], []⟩
theorem BaseGC1.of {B : Nat} (arr : Array Value) (h : arr = #[arr.getD 0 undef, .pointer (some ⟨B, 0, none⟩), arr.getD 2 undef, arr.getD 3 undef, arr.getD 4 undef, arr.getD 5 undef, arr.getD 6 undef, arr.getD 7 undef, arr.getD 8 undef, arr.getD 9 undef, arr.getD 10 undef, arr.getD 11 undef, arr.getD 12 undef, arr.getD 13 undef, arr.getD 14 undef, arr.getD 15 undef, arr.getD 16 undef, arr.getD 17 undef, arr.getD 18 undef, arr.getD 19 undef, arr.getD 20 undef, arr.getD 21 undef, arr.getD 22 undef, arr.getD 23 undef, arr.getD 24 undef, arr.getD 25 undef, arr.getD 26 undef, arr.getD 27 undef, arr.getD 28 undef, arr.getD 29 undef, arr.getD 30 undef, arr.getD 31 undef, arr.getD 32 undef, arr.getD 33 undef, arr.getD 34 undef, arr.getD 35 undef, arr.getD 36 undef, arr.getD 37 undef, arr.getD 38 undef, arr.getD 39 undef, arr.getD 40 undef, arr.getD 41 undef, arr.getD 42 undef, arr.getD 43 undef, arr.getD 44 undef, arr.getD 45 undef, arr.getD 46 undef, arr.getD 47 undef, arr.getD 48 undef, arr.getD 49 undef, arr.getD 50 undef, arr.getD 51 undef, arr.getD 52 undef, arr.getD 53 undef, arr.getD 54 undef, arr.getD 55 undef, arr.getD 56 undef, arr.getD 57 undef, arr.getD 58 undef, arr.getD 59 undef, arr.getD 60 undef, arr.getD 61 undef, arr.getD 62 undef, arr.getD 63 undef, arr.getD 64 undef, arr.getD 65 undef, arr.getD 66 undef, arr.getD 67 undef, arr.getD 68 undef, arr.getD 69 undef, arr.getD 70 undef, arr.getD 71 undef, arr.getD 72 undef, arr.getD 73 undef, arr.getD 74 undef, arr.getD 75 undef, arr.getD 76 undef, arr.getD 77 undef, arr.getD 78 undef, arr.getD 79 undef, arr.getD 80 undef, arr.getD 81 undef, arr.getD 82 undef, arr.getD 83 undef, arr.getD 84 undef, arr.getD 85 undef, arr.getD 86 undef, arr.getD 87 undef]) : BaseGC1 B ⟨arr, []⟩ := ⟨fun i => arr.getD i undef, by rw [← h]⟩
theorem BaseGC1.put37 {B : Nat} (a : Act) (v : Value) (h : BaseGC1 B a) : BaseGC1 B (a.put (some 37) v) := by
  obtain ⟨u, rfl⟩ := h
  exact ⟨fun i => if i = 37 then v else u i, by kernel_rfl⟩
theorem BaseGC1.put38 {B : Nat} (a : Act) (v : Value) (h : BaseGC1 B a) : BaseGC1 B (a.put (some 38) v) := by
  obtain ⟨u, rfl⟩ := h
  exact ⟨fun i => if i = 38 then v else u i, by kernel_rfl⟩
theorem BaseGC1.put39 {B : Nat} (a : Act) (v : Value) (h : BaseGC1 B a) : BaseGC1 B (a.put (some 39) v) := by
  obtain ⟨u, rfl⟩ := h
  exact ⟨fun i => if i = 39 then v else u i, by kernel_rfl⟩
theorem BaseGC1.put40 {B : Nat} (a : Act) (v : Value) (h : BaseGC1 B a) : BaseGC1 B (a.put (some 40) v) := by
  obtain ⟨u, rfl⟩ := h
  exact ⟨fun i => if i = 40 then v else u i, by kernel_rfl⟩
theorem BaseGC1.put41 {B : Nat} (a : Act) (v : Value) (h : BaseGC1 B a) : BaseGC1 B (a.put (some 41) v) := by
  obtain ⟨u, rfl⟩ := h
  exact ⟨fun i => if i = 41 then v else u i, by kernel_rfl⟩
theorem BaseGC1.put42 {B : Nat} (a : Act) (v : Value) (h : BaseGC1 B a) : BaseGC1 B (a.put (some 42) v) := by
  obtain ⟨u, rfl⟩ := h
  exact ⟨fun i => if i = 42 then v else u i, by kernel_rfl⟩
theorem BaseGC1.put43 {B : Nat} (a : Act) (v : Value) (h : BaseGC1 B a) : BaseGC1 B (a.put (some 43) v) := by
  obtain ⟨u, rfl⟩ := h
  exact ⟨fun i => if i = 43 then v else u i, by kernel_rfl⟩
theorem BaseGC1.put44 {B : Nat} (a : Act) (v : Value) (h : BaseGC1 B a) : BaseGC1 B (a.put (some 44) v) := by
  obtain ⟨u, rfl⟩ := h
  exact ⟨fun i => if i = 44 then v else u i, by kernel_rfl⟩
theorem BaseGC1.put45 {B : Nat} (a : Act) (v : Value) (h : BaseGC1 B a) : BaseGC1 B (a.put (some 45) v) := by
  obtain ⟨u, rfl⟩ := h
  exact ⟨fun i => if i = 45 then v else u i, by kernel_rfl⟩
theorem BaseGC1.put46 {B : Nat} (a : Act) (v : Value) (h : BaseGC1 B a) : BaseGC1 B (a.put (some 46) v) := by
  obtain ⟨u, rfl⟩ := h
  exact ⟨fun i => if i = 46 then v else u i, by kernel_rfl⟩
theorem BaseGC1.put47 {B : Nat} (a : Act) (v : Value) (h : BaseGC1 B a) : BaseGC1 B (a.put (some 47) v) := by
  obtain ⟨u, rfl⟩ := h
  exact ⟨fun i => if i = 47 then v else u i, by kernel_rfl⟩
theorem BaseGC1.put48 {B : Nat} (a : Act) (v : Value) (h : BaseGC1 B a) : BaseGC1 B (a.put (some 48) v) := by
  obtain ⟨u, rfl⟩ := h
  exact ⟨fun i => if i = 48 then v else u i, by kernel_rfl⟩
theorem BaseGC1.put49 {B : Nat} (a : Act) (v : Value) (h : BaseGC1 B a) : BaseGC1 B (a.put (some 49) v) := by
  obtain ⟨u, rfl⟩ := h
  exact ⟨fun i => if i = 49 then v else u i, by kernel_rfl⟩
theorem BaseGC1.put50 {B : Nat} (a : Act) (v : Value) (h : BaseGC1 B a) : BaseGC1 B (a.put (some 50) v) := by
  obtain ⟨u, rfl⟩ := h
  exact ⟨fun i => if i = 50 then v else u i, by kernel_rfl⟩
theorem BaseGC1.put51 {B : Nat} (a : Act) (v : Value) (h : BaseGC1 B a) : BaseGC1 B (a.put (some 51) v) := by
  obtain ⟨u, rfl⟩ := h
  exact ⟨fun i => if i = 51 then v else u i, by kernel_rfl⟩
theorem BaseGC1.put52 {B : Nat} (a : Act) (v : Value) (h : BaseGC1 B a) : BaseGC1 B (a.put (some 52) v) := by
  obtain ⟨u, rfl⟩ := h
  exact ⟨fun i => if i = 52 then v else u i, by kernel_rfl⟩
theorem BaseGC1.put53 {B : Nat} (a : Act) (v : Value) (h : BaseGC1 B a) : BaseGC1 B (a.put (some 53) v) := by
  obtain ⟨u, rfl⟩ := h
  exact ⟨fun i => if i = 53 then v else u i, by kernel_rfl⟩
theorem BaseGC1.put54 {B : Nat} (a : Act) (v : Value) (h : BaseGC1 B a) : BaseGC1 B (a.put (some 54) v) := by
  obtain ⟨u, rfl⟩ := h
  exact ⟨fun i => if i = 54 then v else u i, by kernel_rfl⟩
theorem BaseGC1.put55 {B : Nat} (a : Act) (v : Value) (h : BaseGC1 B a) : BaseGC1 B (a.put (some 55) v) := by
  obtain ⟨u, rfl⟩ := h
  exact ⟨fun i => if i = 55 then v else u i, by kernel_rfl⟩
theorem BaseGC1.put56 {B : Nat} (a : Act) (v : Value) (h : BaseGC1 B a) : BaseGC1 B (a.put (some 56) v) := by
  obtain ⟨u, rfl⟩ := h
  exact ⟨fun i => if i = 56 then v else u i, by kernel_rfl⟩
theorem BaseGC1.put57 {B : Nat} (a : Act) (v : Value) (h : BaseGC1 B a) : BaseGC1 B (a.put (some 57) v) := by
  obtain ⟨u, rfl⟩ := h
  exact ⟨fun i => if i = 57 then v else u i, by kernel_rfl⟩
theorem BaseGC1.put58 {B : Nat} (a : Act) (v : Value) (h : BaseGC1 B a) : BaseGC1 B (a.put (some 58) v) := by
  obtain ⟨u, rfl⟩ := h
  exact ⟨fun i => if i = 58 then v else u i, by kernel_rfl⟩
theorem BaseGC1.put59 {B : Nat} (a : Act) (v : Value) (h : BaseGC1 B a) : BaseGC1 B (a.put (some 59) v) := by
  obtain ⟨u, rfl⟩ := h
  exact ⟨fun i => if i = 59 then v else u i, by kernel_rfl⟩
theorem BaseGC1.put60 {B : Nat} (a : Act) (v : Value) (h : BaseGC1 B a) : BaseGC1 B (a.put (some 60) v) := by
  obtain ⟨u, rfl⟩ := h
  exact ⟨fun i => if i = 60 then v else u i, by kernel_rfl⟩
theorem BaseGC1.put61 {B : Nat} (a : Act) (v : Value) (h : BaseGC1 B a) : BaseGC1 B (a.put (some 61) v) := by
  obtain ⟨u, rfl⟩ := h
  exact ⟨fun i => if i = 61 then v else u i, by kernel_rfl⟩
theorem BaseGC1.put62 {B : Nat} (a : Act) (v : Value) (h : BaseGC1 B a) : BaseGC1 B (a.put (some 62) v) := by
  obtain ⟨u, rfl⟩ := h
  exact ⟨fun i => if i = 62 then v else u i, by kernel_rfl⟩
theorem BaseGC1.put63 {B : Nat} (a : Act) (v : Value) (h : BaseGC1 B a) : BaseGC1 B (a.put (some 63) v) := by
  obtain ⟨u, rfl⟩ := h
  exact ⟨fun i => if i = 63 then v else u i, by kernel_rfl⟩
theorem BaseGC1.put64 {B : Nat} (a : Act) (v : Value) (h : BaseGC1 B a) : BaseGC1 B (a.put (some 64) v) := by
  obtain ⟨u, rfl⟩ := h
  exact ⟨fun i => if i = 64 then v else u i, by kernel_rfl⟩
theorem BaseGC1.put65 {B : Nat} (a : Act) (v : Value) (h : BaseGC1 B a) : BaseGC1 B (a.put (some 65) v) := by
  obtain ⟨u, rfl⟩ := h
  exact ⟨fun i => if i = 65 then v else u i, by kernel_rfl⟩
theorem BaseGC1.put66 {B : Nat} (a : Act) (v : Value) (h : BaseGC1 B a) : BaseGC1 B (a.put (some 66) v) := by
  obtain ⟨u, rfl⟩ := h
  exact ⟨fun i => if i = 66 then v else u i, by kernel_rfl⟩
theorem BaseGC1.put67 {B : Nat} (a : Act) (v : Value) (h : BaseGC1 B a) : BaseGC1 B (a.put (some 67) v) := by
  obtain ⟨u, rfl⟩ := h
  exact ⟨fun i => if i = 67 then v else u i, by kernel_rfl⟩
theorem BaseGC1.put68 {B : Nat} (a : Act) (v : Value) (h : BaseGC1 B a) : BaseGC1 B (a.put (some 68) v) := by
  obtain ⟨u, rfl⟩ := h
  exact ⟨fun i => if i = 68 then v else u i, by kernel_rfl⟩
theorem BaseGC1.put69 {B : Nat} (a : Act) (v : Value) (h : BaseGC1 B a) : BaseGC1 B (a.put (some 69) v) := by
  obtain ⟨u, rfl⟩ := h
  exact ⟨fun i => if i = 69 then v else u i, by kernel_rfl⟩
theorem BaseGC1.put70 {B : Nat} (a : Act) (v : Value) (h : BaseGC1 B a) : BaseGC1 B (a.put (some 70) v) := by
  obtain ⟨u, rfl⟩ := h
  exact ⟨fun i => if i = 70 then v else u i, by kernel_rfl⟩
theorem BaseGC1.put71 {B : Nat} (a : Act) (v : Value) (h : BaseGC1 B a) : BaseGC1 B (a.put (some 71) v) := by
  obtain ⟨u, rfl⟩ := h
  exact ⟨fun i => if i = 71 then v else u i, by kernel_rfl⟩
theorem BaseGC1.put72 {B : Nat} (a : Act) (v : Value) (h : BaseGC1 B a) : BaseGC1 B (a.put (some 72) v) := by
  obtain ⟨u, rfl⟩ := h
  exact ⟨fun i => if i = 72 then v else u i, by kernel_rfl⟩
theorem BaseGC1.put73 {B : Nat} (a : Act) (v : Value) (h : BaseGC1 B a) : BaseGC1 B (a.put (some 73) v) := by
  obtain ⟨u, rfl⟩ := h
  exact ⟨fun i => if i = 73 then v else u i, by kernel_rfl⟩
theorem BaseGC1.put74 {B : Nat} (a : Act) (v : Value) (h : BaseGC1 B a) : BaseGC1 B (a.put (some 74) v) := by
  obtain ⟨u, rfl⟩ := h
  exact ⟨fun i => if i = 74 then v else u i, by kernel_rfl⟩
theorem BaseGC1.put75 {B : Nat} (a : Act) (v : Value) (h : BaseGC1 B a) : BaseGC1 B (a.put (some 75) v) := by
  obtain ⟨u, rfl⟩ := h
  exact ⟨fun i => if i = 75 then v else u i, by kernel_rfl⟩
theorem BaseGC1.put76 {B : Nat} (a : Act) (v : Value) (h : BaseGC1 B a) : BaseGC1 B (a.put (some 76) v) := by
  obtain ⟨u, rfl⟩ := h
  exact ⟨fun i => if i = 76 then v else u i, by kernel_rfl⟩
theorem BaseGC1.put77 {B : Nat} (a : Act) (v : Value) (h : BaseGC1 B a) : BaseGC1 B (a.put (some 77) v) := by
  obtain ⟨u, rfl⟩ := h
  exact ⟨fun i => if i = 77 then v else u i, by kernel_rfl⟩
theorem BaseGC1.put78 {B : Nat} (a : Act) (v : Value) (h : BaseGC1 B a) : BaseGC1 B (a.put (some 78) v) := by
  obtain ⟨u, rfl⟩ := h
  exact ⟨fun i => if i = 78 then v else u i, by kernel_rfl⟩
theorem BaseGC1.put79 {B : Nat} (a : Act) (v : Value) (h : BaseGC1 B a) : BaseGC1 B (a.put (some 79) v) := by
  obtain ⟨u, rfl⟩ := h
  exact ⟨fun i => if i = 79 then v else u i, by kernel_rfl⟩
theorem BaseGC1.put80 {B : Nat} (a : Act) (v : Value) (h : BaseGC1 B a) : BaseGC1 B (a.put (some 80) v) := by
  obtain ⟨u, rfl⟩ := h
  exact ⟨fun i => if i = 80 then v else u i, by kernel_rfl⟩
theorem BaseGC1.put81 {B : Nat} (a : Act) (v : Value) (h : BaseGC1 B a) : BaseGC1 B (a.put (some 81) v) := by
  obtain ⟨u, rfl⟩ := h
  exact ⟨fun i => if i = 81 then v else u i, by kernel_rfl⟩
theorem BaseGC1.put82 {B : Nat} (a : Act) (v : Value) (h : BaseGC1 B a) : BaseGC1 B (a.put (some 82) v) := by
  obtain ⟨u, rfl⟩ := h
  exact ⟨fun i => if i = 82 then v else u i, by kernel_rfl⟩
theorem BaseGC1.put83 {B : Nat} (a : Act) (v : Value) (h : BaseGC1 B a) : BaseGC1 B (a.put (some 83) v) := by
  obtain ⟨u, rfl⟩ := h
  exact ⟨fun i => if i = 83 then v else u i, by kernel_rfl⟩
theorem BaseGC1.put84 {B : Nat} (a : Act) (v : Value) (h : BaseGC1 B a) : BaseGC1 B (a.put (some 84) v) := by
  obtain ⟨u, rfl⟩ := h
  exact ⟨fun i => if i = 84 then v else u i, by kernel_rfl⟩
theorem BaseGC1.put85 {B : Nat} (a : Act) (v : Value) (h : BaseGC1 B a) : BaseGC1 B (a.put (some 85) v) := by
  obtain ⟨u, rfl⟩ := h
  exact ⟨fun i => if i = 85 then v else u i, by kernel_rfl⟩
theorem BaseGC1.put86 {B : Nat} (a : Act) (v : Value) (h : BaseGC1 B a) : BaseGC1 B (a.put (some 86) v) := by
  obtain ⟨u, rfl⟩ := h
  exact ⟨fun i => if i = 86 then v else u i, by kernel_rfl⟩
theorem BaseGC1.put87 {B : Nat} (a : Act) (v : Value) (h : BaseGC1 B a) : BaseGC1 B (a.put (some 87) v) := by
  obtain ⟨u, rfl⟩ := h
  exact ⟨fun i => if i = 87 then v else u i, by kernel_rfl⟩

set_option maxHeartbeats 2000000 in
set_option maxRecDepth 100000 in
theorem rge_check_1 (b l y n s r : Int) (w : World) (h : FirstG b l y) (hs : s < 0) : Calls Try.prog 9 #[.agg (gv b l y n s r)] w (ChkT b l y n s r w) := by
  have hno : ¬ OkG b l y n s r := fun ⟨⟨h1, h2, h3, h4, h5, h6, h7, h8, h9, h10, h11, h12, h13, h14⟩, h15, h16⟩ => by omega
  unfold ChkT
  rw [chk_no hno]
  obtain ⟨h1, h2, h3, h4, h5, h6, h7⟩ := h
  have hf : (8 ≤ b ∧ b ≤ 64 ∧ 6 ≤ l ∧ l ≤ 64) ∧ (s < 0) := ⟨⟨h1, h2, h3, h4⟩, hs⟩
  have HF := Lib.hid hf
  have HC0 : Hid (CG w b l y n s r (w.alloc (.cells (gv b l y n s r) 23))) := ⟨Blk.new w _ _, (Below.refl w.heap.size w).alloc (Nat.le_refl _) _⟩
  clear hf hs hno
  go_enter Try.func9, Try.ntmps9
  unfold gv at *
  go_wp2_with fail

  rename_i K0 hK0
  refine wp_region_list3 (SV (vsGC1 w.heap.size s) []) (BaseGC1 w.heap.size) (CG w b l y n s r) Goes (RV (vsGC1 w.heap.size s) (fun _ _ _ => False)) rfl (by kernel_rfl) (RV.ext no_special6) ?_ HC0.out.drew (BaseGC1.of _ (by kernel_rfl)) ?_ ?_
  · exact ⟨BaseGC1.put37, BaseGC1.put38, BaseGC1.put39, BaseGC1.put40, BaseGC1.put41, BaseGC1.put42, BaseGC1.put43, BaseGC1.put44, BaseGC1.put45, BaseGC1.put46, BaseGC1.put47, BaseGC1.put48, BaseGC1.put49, BaseGC1.put50, BaseGC1.put51, BaseGC1.put52, BaseGC1.put53, BaseGC1.put54, BaseGC1.put55, BaseGC1.put56, BaseGC1.put57, BaseGC1.put58, BaseGC1.put59, BaseGC1.put60, BaseGC1.put61, BaseGC1.put62, BaseGC1.put63, BaseGC1.put64, BaseGC1.put65, BaseGC1.put66, BaseGC1.put67, BaseGC1.put68, BaseGC1.put69, BaseGC1.put70, BaseGC1.put71, BaseGC1.put72, BaseGC1.put73, BaseGC1.put74, BaseGC1.put75, BaseGC1.put76, BaseGC1.put77, BaseGC1.put78, BaseGC1.put79, BaseGC1.put80, BaseGC1.put81, BaseGC1.put82, BaseGC1.put83, BaseGC1.put84, BaseGC1.put85, BaseGC1.put86, BaseGC1.put87, trivial⟩
  · refine ⟨?_, ?_, ?_, ?_, ?_, ?_, ?_, ?_, ?_, ?_, ?_, ?_, ?_, ?_, ?_, ?_, ?_, ?_, ?_, ?_, ?_, ?_, ?_, ?_, ?_, ?_, ?_, ?_, ?_, ?_, ?_, ?_, ?_, ?_, ?_, ?_, ?_, ?_, ?_, ?_, ?_, ?_, ?_, ?_, ?_, ?_, ?_, ?_, ?_, ?_, ?_, trivial⟩
    all_goals
      intro a w' hC hB hR
      obtain ⟨u, rfl⟩ := hB
      have HC := Lib.hid hC
      clear hC
      clear hK0
    · clear hR
      refine if_yes (by kernel_rfl) ?_
      unfold Oper.wp
      go_simp
      exact ⟨.pointer (some ⟨w.heap.size, 4, none⟩), rfl, HC.out, Below.refl _ _, rfl⟩
    · have h37 : u 37 = .pointer (some ⟨w.heap.size, 4, none⟩) := hR ⟨0, .data⟩ (by simp) rfl
      have hc : w'.cell? ⟨w.heap.size, 4, none⟩ = some (.int .i64 s) := HC.out.1.cell 4
      clear hR
      simp only [h37]
      clear h37
      refine if_yes (by kernel_rfl) ?_
      unfold Oper.wp
      go_simp
      exact ⟨.int .i64 s, rfl, HC.out, Below.refl _ _, rfl⟩
    · have h38 : u 38 = .int .i64 s := hR ⟨1, .data⟩ (by simp) rfl
      clear hR
      simp only [h38]
      clear h38
      refine if_yes (by kernel_rfl) ?_
      have hf := HF.out
      unfold Oper.wp
      go_simp
      exact ⟨_, rfl, HC.out, Below.refl _ _, congrArg Value.bool (by first | rfl | (simp; done) | (simp; omega))⟩
    · have h39 : u 39 = .bool true := hR ⟨2, .data⟩ (by simp) rfl
      clear hR
      simp only [h39]
      clear h39
      refine if_yes (by kernel_rfl) ?_
      unfold Oper.wp
      go_simp
      exact ⟨.bool true, rfl, HC.out, Below.refl _ _, rfl⟩
    · have g40 : u 40 = .bool true := hR ⟨3, .guard⟩ (by simp) rfl
      clear hR
      simp only [g40]
      clear g40
      refine if_no (by kernel_rfl) ?_
      exact ⟨undef, rfl, HC.out, Below.refl _ _, rfl⟩
    · have g40 : u 40 = .bool true := hR ⟨3, .guard⟩ (by simp) rfl
      have h41 : u 41 = undef := hR ⟨4, .data⟩ (by simp) rfl
      clear hR
      simp only [g40, h41]
      clear g40 h41
      refine if_no (by kernel_rfl) ?_
      exact ⟨undef, rfl, HC.out, Below.refl _ _, rfl⟩
    · have g40 : u 40 = .bool true := hR ⟨3, .guard⟩ (by simp) rfl
      have h42 : u 42 = undef := hR ⟨5, .data⟩ (by simp) rfl
      clear hR
      simp only [g40, h42]
      clear g40 h42
      refine if_no (by kernel_rfl) ?_
      exact ⟨undef, rfl, HC.out, Below.refl _ _, rfl⟩
    · have h40 : u 40 = .bool true := hR ⟨3, .data⟩ (by simp) rfl
      have h43 : u 43 = undef := hR ⟨6, .data⟩ (by simp) rfl
      clear hR
      simp only [h40, h43]
      clear h40 h43
      refine if_yes (by kernel_rfl) ?_
      unfold Oper.wp
      go_simp
      exact ⟨.bool true, rfl, HC.out, Below.refl _ _, rfl⟩
    · have h44 : u 44 = .bool true := hR ⟨7, .data⟩ (by simp) rfl
      clear hR
      simp only [h44]
      clear h44
      refine if_yes (by kernel_rfl) ?_
      unfold Oper.wp
      go_simp
      exact ⟨.bool true, rfl, HC.out, Below.refl _ _, rfl⟩
    · have g45 : u 45 = .bool true := hR ⟨8, .guard⟩ (by simp) rfl
      clear hR
      simp only [g45]
      clear g45
      refine if_no (by kernel_rfl) ?_
      exact ⟨undef, rfl, HC.out, Below.refl _ _, rfl⟩
    · have g45 : u 45 = .bool true := hR ⟨8, .guard⟩ (by simp) rfl
      have h46 : u 46 = undef := hR ⟨9, .data⟩ (by simp) rfl
      clear hR
      simp only [g45, h46]
      clear g45 h46
      refine if_no (by kernel_rfl) ?_
      exact ⟨undef, rfl, HC.out, Below.refl _ _, rfl⟩
    · have g45 : u 45 = .bool true := hR ⟨8, .guard⟩ (by simp) rfl
      clear hR
      simp only [g45]
      clear g45
      refine if_no (by kernel_rfl) ?_
      exact ⟨undef, rfl, HC.out, Below.refl _ _, rfl⟩
    · have g45 : u 45 = .bool true := hR ⟨8, .guard⟩ (by simp) rfl
      have h48 : u 48 = undef := hR ⟨11, .data⟩ (by simp) rfl
      clear hR
      simp only [g45, h48]
      clear g45 h48
      refine if_no (by kernel_rfl) ?_
      exact ⟨undef, rfl, HC.out, Below.refl _ _, rfl⟩
    · have g45 : u 45 = .bool true := hR ⟨8, .guard⟩ (by simp) rfl
      have h49 : u 49 = undef := hR ⟨12, .data⟩ (by simp) rfl
      clear hR
      simp only [g45, h49]
      clear g45 h49
      refine if_no (by kernel_rfl) ?_
      exact ⟨undef, rfl, HC.out, Below.refl _ _, rfl⟩
    · have g45 : u 45 = .bool true := hR ⟨8, .guard⟩ (by simp) rfl
      have h47 : u 47 = undef := hR ⟨10, .data⟩ (by simp) rfl
      have h50 : u 50 = undef := hR ⟨13, .data⟩ (by simp) rfl
      clear hR
      simp only [g45, h47, h50]
      clear g45 h47 h50
      refine if_no (by kernel_rfl) ?_
      exact ⟨undef, rfl, HC.out, Below.refl _ _, rfl⟩
    · have h45 : u 45 = .bool true := hR ⟨8, .data⟩ (by simp) rfl
      have h51 : u 51 = undef := hR ⟨14, .data⟩ (by simp) rfl
      clear hR
      simp only [h45, h51]
      clear h45 h51
      refine if_yes (by kernel_rfl) ?_
      unfold Oper.wp
      go_simp
      exact ⟨.bool true, rfl, HC.out, Below.refl _ _, rfl⟩
    · have h52 : u 52 = .bool true := hR ⟨15, .data⟩ (by simp) rfl
      clear hR
      simp only [h52]
      clear h52
      refine if_yes (by kernel_rfl) ?_
      unfold Oper.wp
      go_simp
      exact ⟨.bool true, rfl, HC.out, Below.refl _ _, rfl⟩
    · have g53 : u 53 = .bool true := hR ⟨16, .guard⟩ (by simp) rfl
      clear hR
      simp only [g53]
      clear g53
      refine if_no (by kernel_rfl) ?_
      exact ⟨undef, rfl, HC.out, Below.refl _ _, rfl⟩
    · have g53 : u 53 = .bool true := hR ⟨16, .guard⟩ (by simp) rfl
      have h54 : u 54 = undef := hR ⟨17, .data⟩ (by simp) rfl
      clear hR
      simp only [g53, h54]
      clear g53 h54
      refine if_no (by kernel_rfl) ?_
      exact ⟨undef, rfl, HC.out, Below.refl _ _, rfl⟩
    · have g53 : u 53 = .bool true := hR ⟨16, .guard⟩ (by simp) rfl
      have h55 : u 55 = undef := hR ⟨18, .data⟩ (by simp) rfl
      clear hR
      simp only [g53, h55]
      clear g53 h55
      refine if_no (by kernel_rfl) ?_
      exact ⟨undef, rfl, HC.out, Below.refl _ _, rfl⟩
    · have h53 : u 53 = .bool true := hR ⟨16, .data⟩ (by simp) rfl
      have h56 : u 56 = undef := hR ⟨19, .data⟩ (by simp) rfl
      clear hR
      simp only [h53, h56]
      clear h53 h56
      refine if_yes (by kernel_rfl) ?_
      unfold Oper.wp
      go_simp
      exact ⟨.bool true, rfl, HC.out, Below.refl _ _, rfl⟩
    · have h57 : u 57 = .bool true := hR ⟨20, .data⟩ (by simp) rfl
      clear hR
      simp only [h57]
      clear h57
      refine if_yes (by kernel_rfl) ?_
      unfold Oper.wp
      go_simp
      exact ⟨.bool true, rfl, HC.out, Below.refl _ _, rfl⟩
    · have g58 : u 58 = .bool true := hR ⟨21, .guard⟩ (by simp) rfl
      clear hR
      simp only [g58]
      clear g58
      refine if_no (by kernel_rfl) ?_
      exact ⟨undef, rfl, HC.out, Below.refl _ _, rfl⟩
    · have g58 : u 58 = .bool true := hR ⟨21, .guard⟩ (by simp) rfl
      have h59 : u 59 = undef := hR ⟨22, .data⟩ (by simp) rfl
      clear hR
      simp only [g58, h59]
      clear g58 h59
      refine if_no (by kernel_rfl) ?_
      exact ⟨undef, rfl, HC.out, Below.refl _ _, rfl⟩
    · have g58 : u 58 = .bool true := hR ⟨21, .guard⟩ (by simp) rfl
      have h60 : u 60 = undef := hR ⟨23, .data⟩ (by simp) rfl
      clear hR
      simp only [g58, h60]
      clear g58 h60
      refine if_no (by kernel_rfl) ?_
      exact ⟨undef, rfl, HC.out, Below.refl _ _, rfl⟩
    · have h58 : u 58 = .bool true := hR ⟨21, .data⟩ (by simp) rfl
      have h61 : u 61 = undef := hR ⟨24, .data⟩ (by simp) rfl
      clear hR
      simp only [h58, h61]
      clear h58 h61
      refine if_yes (by kernel_rfl) ?_
      unfold Oper.wp
      go_simp
      exact ⟨.bool true, rfl, HC.out, Below.refl _ _, rfl⟩
    · have h62 : u 62 = .bool true := hR ⟨25, .data⟩ (by simp) rfl
      clear hR
      simp only [h62]
      clear h62
      refine if_yes (by kernel_rfl) ?_
      unfold Oper.wp
      go_simp
      exact ⟨.bool true, rfl, HC.out, Below.refl _ _, rfl⟩
    · have g63 : u 63 = .bool true := hR ⟨26, .guard⟩ (by simp) rfl
      clear hR
      simp only [g63]
      clear g63
      refine if_no (by kernel_rfl) ?_
      exact ⟨undef, rfl, HC.out, Below.refl _ _, rfl⟩
    · have g63 : u 63 = .bool true := hR ⟨26, .guard⟩ (by simp) rfl
      have h64 : u 64 = undef := hR ⟨27, .data⟩ (by simp) rfl
      clear hR
      simp only [g63, h64]
      clear g63 h64
      refine if_no (by kernel_rfl) ?_
      exact ⟨undef, rfl, HC.out, Below.refl _ _, rfl⟩
    · have g63 : u 63 = .bool true := hR ⟨26, .guard⟩ (by simp) rfl
      have h65 : u 65 = undef := hR ⟨28, .data⟩ (by simp) rfl
      clear hR
      simp only [g63, h65]
      clear g63 h65
      refine if_no (by kernel_rfl) ?_
      exact ⟨undef, rfl, HC.out, Below.refl _ _, rfl⟩
    · have h63 : u 63 = .bool true := hR ⟨26, .data⟩ (by simp) rfl
      have h66 : u 66 = undef := hR ⟨29, .data⟩ (by simp) rfl
      clear hR
      simp only [h63, h66]
      clear h63 h66
      refine if_yes (by kernel_rfl) ?_
      unfold Oper.wp
      go_simp
      exact ⟨.bool true, rfl, HC.out, Below.refl _ _, rfl⟩
    · have h67 : u 67 = .bool true := hR ⟨30, .data⟩ (by simp) rfl
      clear hR
      simp only [h67]
      clear h67
      refine if_yes (by kernel_rfl) ?_
      unfold Oper.wp
      go_simp
      exact ⟨.bool true, rfl, HC.out, Below.refl _ _, rfl⟩
    · have g68 : u 68 = .bool true := hR ⟨31, .guard⟩ (by simp) rfl
      clear hR
      simp only [g68]
      clear g68
      refine if_no (by kernel_rfl) ?_
      exact ⟨undef, rfl, HC.out, Below.refl _ _, rfl⟩
    · have g68 : u 68 = .bool true := hR ⟨31, .guard⟩ (by simp) rfl
      have h69 : u 69 = undef := hR ⟨32, .data⟩ (by simp) rfl
      clear hR
      simp only [g68, h69]
      clear g68 h69
      refine if_no (by kernel_rfl) ?_
      exact ⟨undef, rfl, HC.out, Below.refl _ _, rfl⟩
    · have g68 : u 68 = .bool true := hR ⟨31, .guard⟩ (by simp) rfl
      have h70 : u 70 = undef := hR ⟨33, .data⟩ (by simp) rfl
      clear hR
      simp only [g68, h70]
      clear g68 h70
      refine if_no (by kernel_rfl) ?_
      exact ⟨undef, rfl, HC.out, Below.refl _ _, rfl⟩
    · have h68 : u 68 = .bool true := hR ⟨31, .data⟩ (by simp) rfl
      have h71 : u 71 = undef := hR ⟨34, .data⟩ (by simp) rfl
      clear hR
      simp only [h68, h71]
      clear h68 h71
      refine if_yes (by kernel_rfl) ?_
      unfold Oper.wp
      go_simp
      exact ⟨.bool true, rfl, HC.out, Below.refl _ _, rfl⟩
    · have h72 : u 72 = .bool true := hR ⟨35, .data⟩ (by simp) rfl
      clear hR
      simp only [h72]
      clear h72
      refine if_yes (by kernel_rfl) ?_
      unfold Oper.wp
      go_simp
      exact ⟨.bool true, rfl, HC.out, Below.refl _ _, rfl⟩
    · have g73 : u 73 = .bool true := hR ⟨36, .guard⟩ (by simp) rfl
      clear hR
      simp only [g73]
      clear g73
      refine if_no (by kernel_rfl) ?_
      exact ⟨undef, rfl, HC.out, Below.refl _ _, rfl⟩
    · have g73 : u 73 = .bool true := hR ⟨36, .guard⟩ (by simp) rfl
      have h74 : u 74 = undef := hR ⟨37, .data⟩ (by simp) rfl
      clear hR
      simp only [g73, h74]
      clear g73 h74
      refine if_no (by kernel_rfl) ?_
      exact ⟨undef, rfl, HC.out, Below.refl _ _, rfl⟩
    · have g73 : u 73 = .bool true := hR ⟨36, .guard⟩ (by simp) rfl
      clear hR
      simp only [g73]
      clear g73
      refine if_no (by kernel_rfl) ?_
      exact ⟨undef, rfl, HC.out, Below.refl _ _, rfl⟩
    · have g73 : u 73 = .bool true := hR ⟨36, .guard⟩ (by simp) rfl
      have h76 : u 76 = undef := hR ⟨39, .data⟩ (by simp) rfl
      clear hR
      simp only [g73, h76]
      clear g73 h76
      refine if_no (by kernel_rfl) ?_
      exact ⟨undef, rfl, HC.out, Below.refl _ _, rfl⟩
    · have g73 : u 73 = .bool true := hR ⟨36, .guard⟩ (by simp) rfl
      have h75 : u 75 = undef := hR ⟨38, .data⟩ (by simp) rfl
      have h77 : u 77 = undef := hR ⟨40, .data⟩ (by simp) rfl
      clear hR
      simp only [g73, h75, h77]
      clear g73 h75 h77
      refine if_no (by kernel_rfl) ?_
      exact ⟨undef, rfl, HC.out, Below.refl _ _, rfl⟩
    · have h73 : u 73 = .bool true := hR ⟨36, .data⟩ (by simp) rfl
      have h78 : u 78 = undef := hR ⟨41, .data⟩ (by simp) rfl
      clear hR
      simp only [h73, h78]
      clear h73 h78
      refine if_yes (by kernel_rfl) ?_
      unfold Oper.wp
      go_simp
      exact ⟨.bool true, rfl, HC.out, Below.refl _ _, rfl⟩
    · have h79 : u 79 = .bool true := hR ⟨42, .data⟩ (by simp) rfl
      clear hR
      simp only [h79]
      clear h79
      refine if_yes (by kernel_rfl) ?_
      unfold Oper.wp
      go_simp
      exact ⟨.bool true, rfl, HC.out, Below.refl _ _, rfl⟩
    · have g80 : u 80 = .bool true := hR ⟨43, .guard⟩ (by simp) rfl
      clear hR
      simp only [g80]
      clear g80
      refine if_no (by kernel_rfl) ?_
      exact ⟨undef, rfl, HC.out, Below.refl _ _, rfl⟩
    · have g80 : u 80 = .bool true := hR ⟨43, .guard⟩ (by simp) rfl
      have h81 : u 81 = undef := hR ⟨44, .data⟩ (by simp) rfl
      clear hR
      simp only [g80, h81]
      clear g80 h81
      refine if_no (by kernel_rfl) ?_
      exact ⟨undef, rfl, HC.out, Below.refl _ _, rfl⟩
    · have g80 : u 80 = .bool true := hR ⟨43, .guard⟩ (by simp) rfl
      clear hR
      simp only [g80]
      clear g80
      refine if_no (by kernel_rfl) ?_
      exact ⟨undef, rfl, HC.out, Below.refl _ _, rfl⟩
    · have g80 : u 80 = .bool true := hR ⟨43, .guard⟩ (by simp) rfl
      have h83 : u 83 = undef := hR ⟨46, .data⟩ (by simp) rfl
      clear hR
      simp only [g80, h83]
      clear g80 h83
      refine if_no (by kernel_rfl) ?_
      exact ⟨undef, rfl, HC.out, Below.refl _ _, rfl⟩
    · have g80 : u 80 = .bool true := hR ⟨43, .guard⟩ (by simp) rfl
      have h84 : u 84 = undef := hR ⟨47, .data⟩ (by simp) rfl
      clear hR
      simp only [g80, h84]
      clear g80 h84
      refine if_no (by kernel_rfl) ?_
      exact ⟨undef, rfl, HC.out, Below.refl _ _, rfl⟩
    · have g80 : u 80 = .bool true := hR ⟨43, .guard⟩ (by simp) rfl
      have h82 : u 82 = undef := hR ⟨45, .data⟩ (by simp) rfl
      have h85 : u 85 = undef := hR ⟨48, .data⟩ (by simp) rfl
      clear hR
      simp only [g80, h82, h85]
      clear g80 h82 h85
      refine if_no (by kernel_rfl) ?_
      exact ⟨undef, rfl, HC.out, Below.refl _ _, rfl⟩
    · have h80 : u 80 = .bool true := hR ⟨43, .data⟩ (by simp) rfl
      have h86 : u 86 = undef := hR ⟨49, .data⟩ (by simp) rfl
      clear hR
      simp only [h80, h86]
      clear h80 h86
      refine if_yes (by kernel_rfl) ?_
      unfold Oper.wp
      go_simp
      exact ⟨.bool true, rfl, HC.out, Below.refl _ _, rfl⟩
  · intro a w' hC hB hR
    have h87 : a.tmps.getD 87 undef = .bool true := hR 50 (by decide)
    clear hR
    have HE := Lib.hid hC.2
    clear hC
    obtain ⟨u, rfl⟩ := hB
    have h87 : u 87 = .bool true := h87
    simp only [h87]
    clear h87
    go_wp2_with fail
    go_ret
    exact ⟨rfl, HE.out⟩

/-- what each operation of the region GC2 leaves -/
def vsGC2 (B : Nat) (s : Int) : List (Option (Tmp × Value)) :=
  [some (37, .pointer (some ⟨B, 4, none⟩)), some (38, .int .i64 s), some (39, .bool false), some (40, .bool false), some (41, .pointer (some ⟨B, 4, none⟩)), some (42, .int .i64 s), some (43, .bool true), some (44, .bool true), some (45, .bool true), some (46, undef), some (47, undef), some (48, undef), some (49, undef), some (50, undef), some (51, undef), some (52, .bool true), some (53, .bool true), some (54, undef), some (55, undef), some (56, undef), some (57, .bool true), some (58, .bool true), some (59, undef), some (60, undef), some (61, undef), some (62, .bool true), some (63, .bool true), some (64, undef), some (65, undef), some (66, undef), some (67, .bool true), some (68, .bool true), some (69, undef), some (70, undef), some (71, undef), some (72, .bool true), some (73, .bool true), some (74, undef), some (75, undef), some (76, undef), some (77, undef), some (78, undef), some (79, .bool true), some (80, .bool true), some (81, undef), some (82, undef), some (83, undef), some (84, undef), some (85, undef), some (86, undef), some (87, .bool true)]
/-- the frame while the region GC2 runs -/
def BaseGC2 (B : Nat) (a : Act) : Prop := ∃ u : Nat → Value, a = ⟨#[u 0, .pointer (some ⟨B, 0, none⟩), u 2, u 3, u 4, u 5, u 6, u 7, u 8, u 9, u 10, u 11, u 12, u 13, u 14, u 15, u 16, u 17, u 18, u 19, u 20, u 21, u 22, u 23, u 24, u 25, u 26, u 27, u 28, u 29, u 30, u 31, u 32, u 33, u 34, u 35, u 36, u 37, u 38, u 39, u 40, u 41, u 42, u 43, u 44, u 45, u 46, u 47, u 48, u 49, u 50, u 51, u 52, u 53, u 54, u 55, u 56, u 57, u 58, u 59, u 60, u 61, u 62, u 63, u 64, u 65, u 66, u 67, u 68, u 69, u 70, u 71, u 72, u 73, u 74, u 75, u 76, u 77, u 78, u 79, u 80, u 81, u 82, u 83, u 84, u 85, u 86, u 87], []⟩
theorem BaseGC2.of {B : Nat} (arr : Array Value) (h : arr = #[arr.getD 0 undef, .pointer (some ⟨B, 0, none⟩), arr.getD 2 undef, arr.getD 3 undef, arr.getD 4 undef, arr.getD 5 undef, arr.getD 6 undef, arr.getD 7 undef, arr.getD 8 undef, arr.getD 9 undef, arr.getD 10 undef, arr.getD 11 undef, arr.getD 12 undef, arr.getD 13 undef, arr.getD 14 undef, arr.getD 15 undef, arr.getD 16 undef, arr.getD 17 undef, arr.getD 18 undef, arr.getD 19 undef, arr.getD 20 undef, arr.getD 21 undef, arr.getD 22 undef, arr.getD 23 undef, arr.getD 24 undef, arr.getD 25 undef, arr.getD 26 undef, arr.getD 27 undef, arr.getD 28 undef, arr.getD 29 undef, arr.getD 30 undef, arr.getD 31 undef, arr.getD 32 undef, arr.getD 33 undef, arr.getD 34 undef, arr.getD 35 undef, arr.getD 36 undef, arr.getD 37 undef, arr.getD 38 undef, arr.getD 39 undef, arr.getD 40 undef, arr.getD 41 undef, arr.getD 42 undef, arr.getD 43 undef, arr.getD 44 undef, arr.getD 45 undef, arr.getD 46 undef, arr.getD 47 undef, arr.getD 48 undef, arr.getD 49 undef, arr.getD 50 undef, arr.getD 51 undef, arr.getD 52 undef, arr.getD 53 undef, arr.getD 54 undef, arr.getD 55 undef, arr.getD 56 undef, arr.getD 57 undef, arr.getD 58 undef, arr.getD 59 undef, arr.getD 60 undef, arr.getD 61 undef, arr.getD 62 undef, arr.getD 63 undef, arr.getD 64 undef, arr.getD 65 undef, arr.getD 66 undef, arr.getD 67 undef, arr.getD 68 undef, arr.getD 69 undef, arr.getD 70 undef, arr.getD 71 undef, arr.getD 72 undef, arr.getD 73 undef, arr.getD 74 undef, arr.getD 75 undef, arr.getD 76 undef, arr.getD 77 undef, arr.getD 78 undef, arr.getD 79 undef, arr.getD 80 undef, arr.getD 81 undef, arr.getD 82 undef, arr.getD 83 undef, arr.getD 84 undef, arr.getD 85 undef, arr.getD 86 undef, arr.getD 87 undef]) : BaseGC2 B ⟨arr, []⟩ := ⟨fun i => arr.getD i undef, by rw [← h]⟩
theorem BaseGC2.put37 {B : Nat} (a : Act) (v : Value) (h : BaseGC2 B a) : BaseGC2 B (a.put (some 37) v) := by
  obtain ⟨u, rfl⟩ := h
  exact ⟨fun i => if i = 37 then v else u i, by kernel_rfl⟩
theorem BaseGC2.put38 {B : Nat} (a : Act) (v : Value) (h : BaseGC2 B a) : BaseGC2 B (a.put (some 38) v) := by
  obtain ⟨u, rfl⟩ := h
  exact ⟨fun i => if i = 38 then v else u i, by kernel_rfl⟩
theorem BaseGC2.put39 {B : Nat} (a : Act) (v : Value) (h : BaseGC2 B a) : BaseGC2 B (a.put (some 39) v) := by
  obtain ⟨u, rfl⟩ := h
  exact ⟨fun i => if i = 39 then v else u i, by kernel_rfl⟩
theorem BaseGC2.put40 {B : Nat} (a : Act) (v : Value) (h : BaseGC2 B a) : BaseGC2 B (a.put (some 40) v) := by
  obtain ⟨u, rfl⟩ := h
  exact ⟨fun i => if i = 40 then v else u i, by kernel_rfl⟩
theorem BaseGC2.put41 {B : Nat} (a : Act) (v : Value) (h : BaseGC2 B a) : BaseGC2 B (a.put (some 41) v) := by
  obtain ⟨u, rfl⟩ := h
  exact ⟨fun i => if i = 41 then v else u i, by kernel_rfl⟩
theorem BaseGC2.put42 {B : Nat} (a : Act) (v : Value) (h : BaseGC2 B a) : BaseGC2 B (a.put (some 42) v) := by
  obtain ⟨u, rfl⟩ := h
  exact ⟨fun i => if i = 42 then v else u i, by kernel_rfl⟩
theorem BaseGC2.put43 {B : Nat} (a : Act) (v : Value) (h : BaseGC2 B a) : BaseGC2 B (a.put (some 43) v) := by
  obtain ⟨u, rfl⟩ := h
  exact ⟨fun i => if i = 43 then v else u i, by kernel_rfl⟩
theorem BaseGC2.put44 {B : Nat} (a : Act) (v : Value) (h : BaseGC2 B a) : BaseGC2 B (a.put (some 44) v) := by
  obtain ⟨u, rfl⟩ := h
  exact ⟨fun i => if i = 44 then v else u i, by kernel_rfl⟩
theorem BaseGC2.put45 {B : Nat} (a : Act) (v : Value) (h : BaseGC2 B a) : BaseGC2 B (a.put (some 45) v) := by
  obtain ⟨u, rfl⟩ := h
  exact ⟨fun i => if i = 45 then v else u i, by kernel_rfl⟩
theorem BaseGC2.put46 {B : Nat} (a : Act) (v : Value) (h : BaseGC2 B a) : BaseGC2 B (a.put (some 46) v) := by
  obtain ⟨u, rfl⟩ := h
  exact ⟨fun i => if i = 46 then v else u i, by kernel_rfl⟩
theorem BaseGC2.put47 {B : Nat} (a : Act) (v : Value) (h : BaseGC2 B a) : BaseGC2 B (a.put (some 47) v) := by
  obtain ⟨u, rfl⟩ := h
  exact ⟨fun i => if i = 47 then v else u i, by kernel_rfl⟩
theorem BaseGC2.put48 {B : Nat} (a : Act) (v : Value) (h : BaseGC2 B a) : BaseGC2 B (a.put (some 48) v) := by
  obtain ⟨u, rfl⟩ := h
  exact ⟨fun i => if i = 48 then v else u i, by kernel_rfl⟩
theorem BaseGC2.put49 {B : Nat} (a : Act) (v : Value) (h : BaseGC2 B a) : BaseGC2 B (a.put (some 49) v) := by
  obtain ⟨u, rfl⟩ := h
  exact ⟨fun i => if i = 49 then v else u i, by kernel_rfl⟩
theorem BaseGC2.put50 {B : Nat} (a : Act) (v : Value) (h : BaseGC2 B a) : BaseGC2 B (a.put (some 50) v) := by
  obtain ⟨u, rfl⟩ := h
  exact ⟨fun i => if i = 50 then v else u i, by kernel_rfl⟩
theorem BaseGC2.put51 {B : Nat} (a : Act) (v : Value) (h : BaseGC2 B a) : BaseGC2 B (a.put (some 51) v) := by
  obtain ⟨u, rfl⟩ := h
  exact ⟨fun i => if i = 51 then v else u i, by kernel_rfl⟩
theorem BaseGC2.put52 {B : Nat} (a : Act) (v : Value) (h : BaseGC2 B a) : BaseGC2 B (a.put (some 52) v) := by
  obtain ⟨u, rfl⟩ := h
  exact ⟨fun i => if i = 52 then v else u i, by kernel_rfl⟩
theorem BaseGC2.put53 {B : Nat} (a : Act) (v : Value) (h : BaseGC2 B a) : BaseGC2 B (a.put (some 53) v) := by
  obtain ⟨u, rfl⟩ := h
  exact ⟨fun i => if i = 53 then v else u i, by kernel_rfl⟩
theorem BaseGC2.put54 {B : Nat} (a : Act) (v : Value) (h : BaseGC2 B a) : BaseGC2 B (a.put (some 54) v) := by
  obtain ⟨u, rfl⟩ := h
  exact ⟨fun i => if i = 54 then v else u i, by kernel_rfl⟩
theorem BaseGC2.put55 {B : Nat} (a : Act) (v : Value) (h : BaseGC2 B a) : BaseGC2 B (a.put (some 55) v) := by
  obtain ⟨u, rfl⟩ := h
  exact ⟨fun i => if i = 55 then v else u i, by kernel_rfl⟩
theorem BaseGC2.put56 {B : Nat} (a : Act) (v : Value) (h : BaseGC2 B a) : BaseGC2 B (a.put (some 56) v) := by
  obtain ⟨u, rfl⟩ := h
  exact ⟨fun i => if i = 56 then v else u i, by kernel_rfl⟩
theorem BaseGC2.put57 {B : Nat} (a : Act) (v : Value) (h : BaseGC2 B a) : BaseGC2 B (a.put (some 57) v) := by
  obtain ⟨u, rfl⟩ := h
  exact ⟨fun i => if i = 57 then v else u i, by kernel_rfl⟩
theorem BaseGC2.put58 {B : Nat} (a : Act) (v : Value) (h : BaseGC2 B a) : BaseGC2 B (a.put (some 58) v) := by
  obtain ⟨u, rfl⟩ := h
  exact ⟨fun i => if i = 58 then v else u i, by kernel_rfl⟩
theorem BaseGC2.put59 {B : Nat} (a : Act) (v : Value) (h : BaseGC2 B a) : BaseGC2 B (a.put (some 59) v) := by
  obtain ⟨u, rfl⟩ := h
  exact ⟨fun i => if i = 59 then v else u i, by kernel_rfl⟩
theorem BaseGC2.put60 {B : Nat} (a : Act) (v : Value) (h : BaseGC2 B a) : BaseGC2 B (a.put (some 60) v) := by
  obtain ⟨u, rfl⟩ := h
  exact ⟨fun i => if i = 60 then v else u i, by kernel_rfl⟩
theorem BaseGC2.put61 {B : Nat} (a : Act) (v : Value) (h : BaseGC2 B a) : BaseGC2 B (a.put (some 61) v) := by
  obtain ⟨u, rfl⟩ := h
  exact ⟨fun i => if i = 61 then v else u i, by kernel_rfl⟩
theorem BaseGC2.put62 {B : Nat} (a : Act) (v : Value) (h : BaseGC2 B a) : BaseGC2 B (a.put (some 62) v) := by
  obtain ⟨u, rfl⟩ := h
  exact ⟨fun i => if i = 62 then v else u i, by kernel_rfl⟩
theorem BaseGC2.put63 {B : Nat} (a : Act) (v : Value) (h : BaseGC2 B a) : BaseGC2 B (a.put (some 63) v) := by
  obtain ⟨u, rfl⟩ := h
  exact ⟨fun i => if i = 63 then v else u i, by kernel_rfl⟩
theorem BaseGC2.put64 {B : Nat} (a : Act) (v : Value) (h : BaseGC2 B a) : BaseGC2 B (a.put (some 64) v) := by
  obtain ⟨u, rfl⟩ := h
  exact ⟨fun i => if i = 64 then v else u i, by kernel_rfl⟩
theorem BaseGC2.put65 {B : Nat} (a : Act) (v : Value) (h : BaseGC2 B a) : BaseGC2 B (a.put (some 65) v) := by
  obtain ⟨u, rfl⟩ := h
  exact ⟨fun i => if i = 65 then v else u i, by kernel_rfl⟩
theorem BaseGC2.put66 {B : Nat} (a : Act) (v : Value) (h : BaseGC2 B a) : BaseGC2 B (a.put (some 66) v) := by
  obtain ⟨u, rfl⟩ := h
  exact ⟨fun i => if i = 66 then v else u i, by kernel_rfl⟩
theorem BaseGC2.put67 {B : Nat} (a : Act) (v : Value) (h : BaseGC2 B a) : BaseGC2 B (a.put (some 67) v) := by
  obtain ⟨u, rfl⟩ := h
  exact ⟨fun i => if i = 67 then v else u i, by kernel_rfl⟩
theorem BaseGC2.put68 {B : Nat} (a : Act) (v : Value) (h : BaseGC2 B a) : BaseGC2 B (a.put (some 68) v) := by
  obtain ⟨u, rfl⟩ := h
  exact ⟨fun i => if i = 68 then v else u i, by kernel_rfl⟩
theorem BaseGC2.put69 {B : Nat} (a : Act) (v : Value) (h : BaseGC2 B a) : BaseGC2 B (a.put (some 69) v) := by
  obtain ⟨u, rfl⟩ := h
  exact ⟨fun i => if i = 69 then v else u i, by kernel_rfl⟩
theorem BaseGC2.put70 {B : Nat} (a : Act) (v : Value) (h : BaseGC2 B a) : BaseGC2 B (a.put (some 70) v) := by
  obtain ⟨u, rfl⟩ := h
  exact ⟨fun i => if i = 70 then v else u i, by kernel_rfl⟩
theorem BaseGC2.put71 {B : Nat} (a : Act) (v : Value) (h : BaseGC2 B a) : BaseGC2 B (a.put (some 71) v) := by
  obtain ⟨u, rfl⟩ := h
  exact ⟨fun i => if i = 71 then v else u i, by kernel_rfl⟩
theorem BaseGC2.put72 {B : Nat} (a : Act) (v : Value) (h : BaseGC2 B a) : BaseGC2 B (a.put (some 72) v) := by
  obtain ⟨u, rfl⟩ := h
  exact ⟨fun i => if i = 72 then v else u i, by kernel_rfl⟩
theorem BaseGC2.put73 {B : Nat} (a : Act) (v : Value) (h : BaseGC2 B a) : BaseGC2 B (a.put (some 73) v) := by
  obtain ⟨u, rfl⟩ := h
  exact ⟨fun i => if i = 73 then v else u i, by kernel_rfl⟩
theorem BaseGC2.put74 {B : Nat} (a : Act) (v : Value) (h : BaseGC2 B a) : BaseGC2 B (a.put (some 74) v) := by
  obtain ⟨u, rfl⟩ := h
  exact ⟨fun i => if i = 74 then v else u i, by kernel_rfl⟩
theorem BaseGC2.put75 {B : Nat} (a : Act) (v : Value) (h : BaseGC2 B a) : BaseGC2 B (a.put (some 75) v) := by
  obtain ⟨u, rfl⟩ := h
  exact ⟨fun i => if i = 75 then v else u i, by kernel_rfl⟩
theorem BaseGC2.put76 {B : Nat} (a : Act) (v : Value) (h : BaseGC2 B a) : BaseGC2 B (a.put (some 76) v) := by
  obtain ⟨u, rfl⟩ := h
  exact ⟨fun i => if i = 76 then v else u i, by kernel_rfl⟩
theorem BaseGC2.put77 {B : Nat} (a : Act) (v : Value) (h : BaseGC2 B a) : BaseGC2 B (a.put (some 77) v) := by
  obtain ⟨u, rfl⟩ := h
  exact ⟨fun i => if i = 77 then v else u i, by kernel_rfl⟩
theorem BaseGC2.put78 {B : Nat} (a : Act) (v : Value) (h : BaseGC2 B a) : BaseGC2 B (a.put (some 78) v) := by
  obtain ⟨u, rfl⟩ := h
  exact ⟨fun i => if i = 78 then v else u i, by kernel_rfl⟩
theorem BaseGC2.put79 {B : Nat} (a : Act) (v : Value) (h : BaseGC2 B a) : BaseGC2 B (a.put (some 79) v) := by
  obtain ⟨u, rfl⟩ := h
  exact ⟨fun i => if i = 79 then v else u i, by kernel_rfl⟩
theorem BaseGC2.put80 {B : Nat} (a : Act) (v : Value) (h : BaseGC2 B a) : BaseGC2 B (a.put (some 80) v) := by
  obtain ⟨u, rfl⟩ := h
  exact ⟨fun i => if i = 80 then v else u i, by kernel_rfl⟩
theorem BaseGC2.put81 {B : Nat} (a : Act) (v : Value) (h : BaseGC2 B a) : BaseGC2 B (a.put (some 81) v) := by
  obtain ⟨u, rfl⟩ := h
  exact ⟨fun i => if i = 81 then v else u i, by kernel_rfl⟩
theorem BaseGC2.put82 {B : Nat} (a : Act) (v : Value) (h : BaseGC2 B a) : BaseGC2 B (a.put (some 82) v) := by
  obtain ⟨u, rfl⟩ := h
  exact ⟨fun i => if i = 82 then v else u i, by kernel_rfl⟩
theorem BaseGC2.put83 {B : Nat} (a : Act) (v : Value) (h : BaseGC2 B a) : BaseGC2 B (a.put (some 83) v) := by
  obtain ⟨u, rfl⟩ := h
  exact ⟨fun i => if i = 83 then v else u i, by kernel_rfl⟩
theorem BaseGC2.put84 {B : Nat} (a : Act) (v : Value) (h : BaseGC2 B a) : BaseGC2 B (a.put (some 84) v) := by
  obtain ⟨u, rfl⟩ := h
  exact ⟨fun i => if i = 84 then v else u i, by kernel_rfl⟩
theorem BaseGC2.put85 {B : Nat} (a : Act) (v : Value) (h : BaseGC2 B a) : BaseGC2 B (a.put (some 85) v) := by
  obtain ⟨u, rfl⟩ := h
  exact ⟨fun i => if i = 85 then v else u i, by kernel_rfl⟩
theorem BaseGC2.put86 {B : Nat} (a : Act) (v : Value) (h : BaseGC2 B a) : BaseGC2 B (a.put (some 86) v) := by
  obtain ⟨u, rfl⟩ := h
  exact ⟨fun i => if i = 86 then v else u i, by kernel_rfl⟩
theorem BaseGC2.put87 {B : Nat} (a : Act) (v : Value) (h : BaseGC2 B a) : BaseGC2 B (a.put (some 87) v) := by
  obtain ⟨u, rfl⟩ := h
  exact ⟨fun i => if i = 87 then v else u i, by kernel_rfl⟩

set_option maxHeartbeats 2000000 in
set_option maxRecDepth 100000 in
theorem rge_check_2 (b l y n s r : Int) (w : World) (h : FirstG b l y) (hs : 0 ≤ s ∧ 16 < s) : Calls Try.prog 9 #[.agg (gv b l y n s r)] w (ChkT b l y n s r w) := by
  have hno : ¬ OkG b l y n s r := fun ⟨⟨h1, h2, h3, h4, h5, h6, h7, h8, h9, h10, h11, h12, h13, h14⟩, h15, h16⟩ => by omega
  unfold ChkT
  rw [chk_no hno]
  obtain ⟨h1, h2, h3, h4, h5, h6, h7⟩ := h
  have hf : (8 ≤ b ∧ b ≤ 64 ∧ 6 ≤ l ∧ l ≤ 64) ∧ (0 ≤ s ∧ 16 < s) := ⟨⟨h1, h2, h3, h4⟩, hs⟩
  have HF := Lib.hid hf
  have HC0 : Hid (CG w b l y n s r (w.alloc (.cells (gv b l y n s r) 23))) := ⟨Blk.new w _ _, (Below.refl w.heap.size w).alloc (Nat.le_refl _) _⟩
  clear hf hs hno
  go_enter Try.func9, Try.ntmps9
  unfold gv at *
  go_wp2_with fail

  rename_i K0 hK0
  refine wp_region_list3 (SV (vsGC2 w.heap.size s) []) (BaseGC2 w.heap.size) (CG w b l y n s r) Goes (RV (vsGC2 w.heap.size s) (fun _ _ _ => False)) rfl (by kernel_rfl) (RV.ext no_special6) ?_ HC0.out.drew (BaseGC2.of _ (by kernel_rfl)) ?_ ?_
  · exact ⟨BaseGC2.put37, BaseGC2.put38, BaseGC2.put39, BaseGC2.put40, BaseGC2.put41, BaseGC2.put42, BaseGC2.put43, BaseGC2.put44, BaseGC2.put45, BaseGC2.put46, BaseGC2.put47, BaseGC2.put48, BaseGC2.put49, BaseGC2.put50, BaseGC2.put51, BaseGC2.put52, BaseGC2.put53, BaseGC2.put54, BaseGC2.put55, BaseGC2.put56, BaseGC2.put57, BaseGC2.put58, BaseGC2.put59, BaseGC2.put60, BaseGC2.put61, BaseGC2.put62, BaseGC2.put63, BaseGC2.put64, BaseGC2.put65, BaseGC2.put66, BaseGC2.put67, BaseGC2.put68, BaseGC2.put69, BaseGC2.put70, BaseGC2.put71, BaseGC2.put72, BaseGC2.put73, BaseGC2.put74, BaseGC2.put75, BaseGC2.put76, BaseGC2.put77, BaseGC2.put78, BaseGC2.put79, BaseGC2.put80, BaseGC2.put81, BaseGC2.put82, BaseGC2.put83, BaseGC2.put84, BaseGC2.put85, BaseGC2.put86, BaseGC2.put87, trivial⟩
  · refine ⟨?_, ?_, ?_, ?_, ?_, ?_, ?_, ?_, ?_, ?_, ?_, ?_, ?_, ?_, ?_, ?_, ?_, ?_, ?_, ?_, ?_, ?_, ?_, ?_, ?_, ?_, ?_, ?_, ?_, ?_, ?_, ?_, ?_, ?_, ?_, ?_, ?_, ?_, ?_, ?_, ?_, ?_, ?_, ?_, ?_, ?_, ?_, ?_, ?_, ?_, ?_, trivial⟩
    all_goals
      intro a w' hC hB hR
      obtain ⟨u, rfl⟩ := hB
      have HC := Lib.hid hC
      clear hC
      clear hK0
    · clear hR
      refine if_yes (by kernel_rfl) ?_
      unfold Oper.wp
      go_simp
      exact ⟨.pointer (some ⟨w.heap.size, 4, none⟩), rfl, HC.out, Below.refl _ _, rfl⟩
    · have h37 : u 37 = .pointer (some ⟨w.heap.size, 4, none⟩) := hR ⟨0, .data⟩ (by simp) rfl
      have hc : w'.cell? ⟨w.heap.size, 4, none⟩ = some (.int .i64 s) := HC.out.1.cell 4
      clear hR
      simp only [h37]
      clear h37
      refine if_yes (by kernel_rfl) ?_
      unfold Oper.wp
      go_simp
      exact ⟨.int .i64 s, rfl, HC.out, Below.refl _ _, rfl⟩
    · have h38 : u 38 = .int .i64 s := hR ⟨1, .data⟩ (by simp) rfl
      clear hR
      simp only [h38]
      clear h38
      refine if_yes (by kernel_rfl) ?_
      have hf := HF.out
      unfold Oper.wp
      go_simp
      exact ⟨_, rfl, HC.out, Below.refl _ _, congrArg Value.bool (by first | rfl | (simp; done) | (simp; omega))⟩
    · have h39 : u 39 = .bool false := hR ⟨2, .data⟩ (by simp) rfl
      clear hR
      simp only [h39]
      clear h39
      refine if_yes (by kernel_rfl) ?_
      unfold Oper.wp
      go_simp
      exact ⟨.bool false, rfl, HC.out, Below.refl _ _, rfl⟩
    · have g40 : u 40 = .bool false := hR ⟨3, .guard⟩ (by simp) rfl
      clear hR
      simp only [g40]
      clear g40
      refine if_yes (by kernel_rfl) ?_
      unfold Oper.wp
      go_simp
      exact ⟨.pointer (some ⟨w.heap.size, 4, none⟩), rfl, HC.out, Below.refl _ _, rfl⟩
    · have g40 : u 40 = .bool false := hR ⟨3, .guard⟩ (by simp) rfl
      have h41 : u 41 = .pointer (some ⟨w.heap.size, 4, none⟩) := hR ⟨4, .data⟩ (by simp) rfl
      have hc : w'.cell? ⟨w.heap.size, 4, none⟩ = some (.int .i64 s) := HC.out.1.cell 4
      clear hR
      simp only [g40, h41]
      clear g40 h41
      refine if_yes (by kernel_rfl) ?_
      unfold Oper.wp
      go_simp
      exact ⟨.int .i64 s, rfl, HC.out, Below.refl _ _, rfl⟩
    · have g40 : u 40 = .bool false := hR ⟨3, .guard⟩ (by simp) rfl
      have h42 : u 42 = .int .i64 s := hR ⟨5, .data⟩ (by simp) rfl
      clear hR
      simp only [g40, h42]
      clear g40 h42
      refine if_yes (by kernel_rfl) ?_
      have hf := HF.out
      unfold Oper.wp
      go_simp
      exact ⟨_, rfl, HC.out, Below.refl _ _, congrArg Value.bool (by first | rfl | (simp; done) | (simp; omega))⟩
    · have h40 : u 40 = .bool false := hR ⟨3, .data⟩ (by simp) rfl
      have h43 : u 43 = .bool true := hR ⟨6, .data⟩ (by simp) rfl
      clear hR
      simp only [h40, h43]
      clear h40 h43
      refine if_yes (by kernel_rfl) ?_
      unfold Oper.wp
      go_simp
      exact ⟨.bool true, rfl, HC.out, Below.refl _ _, rfl⟩
    · have h44 : u 44 = .bool true := hR ⟨7, .data⟩ (by simp) rfl
      clear hR
      simp only [h44]
      clear h44
      refine if_yes (by kernel_rfl) ?_
      unfold Oper.wp
      go_simp
      exact ⟨.bool true, rfl, HC.out, Below.refl _ _, rfl⟩
    · have g45 : u 45 = .bool true := hR ⟨8, .guard⟩ (by simp) rfl
      clear hR
      simp only [g45]
      clear g45
      refine if_no (by kernel_rfl) ?_
      exact ⟨undef, rfl, HC.out, Below.refl _ _, rfl⟩
    · have g45 : u 45 = .bool true := hR ⟨8, .guard⟩ (by simp) rfl
      have h46 : u 46 = undef := hR ⟨9, .data⟩ (by simp) rfl
      clear hR
      simp only [g45, h46]
      clear g45 h46
      refine if_no (by kernel_rfl) ?_
      exact ⟨undef, rfl, HC.out, Below.refl _ _, rfl⟩
    · have g45 : u 45 = .bool true := hR ⟨8, .guard⟩ (by simp) rfl
      clear hR
      simp only [g45]
      clear g45
      refine if_no (by kernel_rfl) ?_
      exact ⟨undef, rfl, HC.out, Below.refl _ _, rfl⟩
    · have g45 : u 45 = .bool true := hR ⟨8, .guard⟩ (by simp) rfl
      have h48 : u 48 = undef := hR ⟨11, .data⟩ (by simp) rfl
      clear hR
      simp only [g45, h48]
      clear g45 h48
      refine if_no (by kernel_rfl) ?_
      exact ⟨undef, rfl, HC.out, Below.refl _ _, rfl⟩
    · have g45 : u 45 = .bool true := hR ⟨8, .guard⟩ (by simp) rfl
      have h49 : u 49 = undef := hR ⟨12, .data⟩ (by simp) rfl
      clear hR
      simp only [g45, h49]
      clear g45 h49
      refine if_no (by kernel_rfl) ?_
      exact ⟨undef, rfl, HC.out, Below.refl _ _, rfl⟩
    · have g45 : u 45 = .bool true := hR ⟨8, .guard⟩ (by simp) rfl
      have h47 : u 47 = undef := hR ⟨10, .data⟩ (by simp) rfl
      have h50 : u 50 = undef := hR ⟨13, .data⟩ (by simp) rfl
      clear hR
      simp only [g45, h47, h50]
      clear g45 h47 h50
      refine if_no (by kernel_rfl) ?_
      exact ⟨undef, rfl, HC.out, Below.refl _ _, rfl⟩
    · have h45 : u 45 = .bool true := hR ⟨8, .data⟩ (by simp) rfl
      have h51 : u 51 = undef := hR ⟨14, .data⟩ (by simp) rfl
      clear hR
      simp only [h45, h51]
      clear h45 h51
      refine if_yes (by kernel_rfl) ?_
      unfold Oper.wp
      go_simp
      exact ⟨.bool true, rfl, HC.out, Below.refl _ _, rfl⟩
    · have h52 : u 52 = .bool true := hR ⟨15, .data⟩ (by simp) rfl
      clear hR
      simp only [h52]
      clear h52
      refine if_yes (by kernel_rfl) ?_
      unfold Oper.wp
      go_simp
      exact ⟨.bool true, rfl, HC.out, Below.refl _ _, rfl⟩
    · have g53 : u 53 = .bool true := hR ⟨16, .guard⟩ (by simp) rfl
      clear hR
      simp only [g53]
      clear g53
      refine if_no (by kernel_rfl) ?_
      exact ⟨undef, rfl, HC.out, Below.refl _ _, rfl⟩
    · have g53 : u 53 = .bool true := hR ⟨16, .guard⟩ (by simp) rfl
      have h54 : u 54 = undef := hR ⟨17, .data⟩ (by simp) rfl
      clear hR
      simp only [g53, h54]
      clear g53 h54
      refine if_no (by kernel_rfl) ?_
      exact ⟨undef, rfl, HC.out, Below.refl _ _, rfl⟩
    · have g53 : u 53 = .bool true := hR ⟨16, .guard⟩ (by simp) rfl
      have h55 : u 55 = undef := hR ⟨18, .data⟩ (by simp) rfl
      clear hR
      simp only [g53, h55]
      clear g53 h55
      refine if_no (by kernel_rfl) ?_
      exact ⟨undef, rfl, HC.out, Below.refl _ _, rfl⟩
    · have h53 : u 53 = .bool true := hR ⟨16, .data⟩ (by simp) rfl
      have h56 : u 56 = undef := hR ⟨19, .data⟩ (by simp) rfl
      clear hR
      simp only [h53, h56]
      clear h53 h56
      refine if_yes (by kernel_rfl) ?_
      unfold Oper.wp
      go_simp
      exact ⟨.bool true, rfl, HC.out, Below.refl _ _, rfl⟩
    · have h57 : u 57 = .bool true := hR ⟨20, .data⟩ (by simp) rfl
      clear hR
      simp only [h57]
      clear h57
      refine if_yes (by kernel_rfl) ?_
      unfold Oper.wp
      go_simp
      exact ⟨.bool true, rfl, HC.out, Below.refl _ _, rfl⟩
    · have g58 : u 58 = .bool true := hR ⟨21, .guard⟩ (by simp) rfl
      clear hR
      simp only [g58]
      clear g58
      refine if_no (by kernel_rfl) ?_
      exact ⟨undef, rfl, HC.out, Below.refl _ _, rfl⟩
    · have g58 : u 58 = .bool true := hR ⟨21, .guard⟩ (by simp) rfl
      have h59 : u 59 = undef := hR ⟨22, .data⟩ (by simp) rfl
      clear hR
      simp only [g58, h59]
      clear g58 h59
      refine if_no (by kernel_rfl) ?_
      exact ⟨undef, rfl, HC.out, Below.refl _ _, rfl⟩
    · have g58 : u 58 = .bool true := hR ⟨21, .guard⟩ (by simp) rfl
      have h60 : u 60 = undef := hR ⟨23, .data⟩ (by simp) rfl
      clear hR
      simp only [g58, h60]
      clear g58 h60
      refine if_no (by kernel_rfl) ?_
      exact ⟨undef, rfl, HC.out, Below.refl _ _, rfl⟩
    · have h58 : u 58 = .bool true := hR ⟨21, .data⟩ (by simp) rfl
      have h61 : u 61 = undef := hR ⟨24, .data⟩ (by simp) rfl
      clear hR
      simp only [h58, h61]
      clear h58 h61
      refine if_yes (by kernel_rfl) ?_
      unfold Oper.wp
      go_simp
      exact ⟨.bool true, rfl, HC.out, Below.refl _ _, rfl⟩
    · have h62 : u 62 = .bool true := hR ⟨25, .data⟩ (by simp) rfl
      clear hR
      simp only [h62]
      clear h62
      refine if_yes (by kernel_rfl) ?_
      unfold Oper.wp
      go_simp
      exact ⟨.bool true, rfl, HC.out, Below.refl _ _, rfl⟩
    · have g63 : u 63 = .bool true := hR ⟨26, .guard⟩ (by simp) rfl
      clear hR
      simp only [g63]
      clear g63
      refine if_no (by kernel_rfl) ?_
      exact ⟨undef, rfl, HC.out, Below.refl _ _, rfl⟩
    · have g63 : u 63 = .bool true := hR ⟨26, .guard⟩ (by simp) rfl
      have h64 : u 64 = undef := hR ⟨27, .data⟩ (by simp) rfl
      clear hR
      simp only [g63, h64]
      clear g63 h64
      refine if_no (by kernel_rfl) ?_
      exact ⟨undef, rfl, HC.out, Below.refl _ _, rfl⟩
    · have g63 : u 63 = .bool true := hR ⟨26, .guard⟩ (by simp) rfl
      have h65 : u 65 = undef := hR ⟨28, .data⟩ (by simp) rfl
      clear hR
      simp only [g63, h65]
      clear g63 h65
      refine if_no (by kernel_rfl) ?_
      exact ⟨undef, rfl, HC.out, Below.refl _ _, rfl⟩
    · have h63 : u 63 = .bool true := hR ⟨26, .data⟩ (by simp) rfl
      have h66 : u 66 = undef := hR ⟨29, .data⟩ (by simp) rfl
      clear hR
      simp only [h63, h66]
      clear h63 h66
      refine if_yes (by kernel_rfl) ?_
      unfold Oper.wp
      go_simp
      exact ⟨.bool true, rfl, HC.out, Below.refl _ _, rfl⟩
    · have h67 : u 67 = .bool true := hR ⟨30, .data⟩ (by simp) rfl
      clear hR
      simp only [h67]
      clear h67
      refine if_yes (by kernel_rfl) ?_
      unfold Oper.wp
      go_simp
      exact ⟨.bool true, rfl, HC.out, Below.refl _ _, rfl⟩
    · have g68 : u 68 = .bool true := hR ⟨31, .guard⟩ (by simp) rfl
      clear hR
      simp only [g68]
      clear g68
      refine if_no (by kernel_rfl) ?_
      exact ⟨undef, rfl, HC.out, Below.refl _ _, rfl⟩
    · have g68 : u 68 = .bool true := hR ⟨31, .guard⟩ (by simp) rfl
      have h69 : u 69 = undef := hR ⟨32, .data⟩ (by simp) rfl
      clear hR
      simp only [g68, h69]
      clear g68 h69
      refine if_no (by kernel_rfl) ?_
      exact ⟨undef, rfl, HC.out, Below.refl _ _, rfl⟩
    · have g68 : u 68 = .bool true := hR ⟨31, .guard⟩ (by simp) rfl
      have h70 : u 70 = undef := hR ⟨33, .data⟩ (by simp) rfl
      clear hR
      simp only [g68, h70]
      clear g68 h70
      refine if_no (by kernel_rfl) ?_
      exact ⟨undef, rfl, HC.out, Below.refl _ _, rfl⟩
    · have h68 : u 68 = .bool true := hR ⟨31, .data⟩ (by simp) rfl
      have h71 : u 71 = undef := hR ⟨34, .data⟩ (by simp) rfl
      clear hR
      simp only [h68, h71]
      clear h68 h71
      refine if_yes (by kernel_rfl) ?_
      unfold Oper.wp
      go_simp
      exact ⟨.bool true, rfl, HC.out, Below.refl _ _, rfl⟩
    · have h72 : u 72 = .bool true := hR ⟨35, .data⟩ (by simp) rfl
      clear hR
      simp only [h72]
      clear h72
      refine if_yes (by kernel_rfl) ?_
      unfold Oper.wp
      go_simp
      exact ⟨.bool true, rfl, HC.out, Below.refl _ _, rfl⟩
    · have g73 : u 73 = .bool true := hR ⟨36, .guard⟩ (by simp) rfl
      clear hR
      simp only [g73]
      clear g73
      refine if_no (by kernel_rfl) ?_
      exact ⟨undef, rfl, HC.out, Below.refl _ _, rfl⟩
    · have g73 : u 73 = .bool true := hR ⟨36, .guard⟩ (by simp) rfl
      have h74 : u 74 = undef := hR ⟨37, .data⟩ (by simp) rfl
      clear hR
      simp only [g73, h74]
      clear g73 h74
      refine if_no (by kernel_rfl) ?_
      exact ⟨undef, rfl, HC.out, Below.refl _ _, rfl⟩
    · have g73 : u 73 = .bool true := hR ⟨36, .guard⟩ (by simp) rfl
      clear hR
      simp only [g73]
      clear g73
      refine if_no (by kernel_rfl) ?_
      exact ⟨undef, rfl, HC.out, Below.refl _ _, rfl⟩
    · have g73 : u 73 = .bool true := hR ⟨36, .guard⟩ (by simp) rfl
      have h76 : u 76 = undef := hR ⟨39, .data⟩ (by simp) rfl
      clear hR
      simp only [g73, h76]
      clear g73 h76
      refine if_no (by kernel_rfl) ?_
      exact ⟨undef, rfl, HC.out, Below.refl _ _, rfl⟩
    · have g73 : u 73 = .bool true := hR ⟨36, .guard⟩ (by simp) rfl
      have h75 : u 75 = undef := hR ⟨38, .data⟩ (by simp) rfl
      have h77 : u 77 = undef := hR ⟨40, .data⟩ (by simp) rfl
      clear hR
      simp only [g73, h75, h77]
      clear g73 h75 h77
      refine if_no (by kernel_rfl) ?_
      exact ⟨undef, rfl, HC.out, Below.refl _ _, rfl⟩
    · have h73 : u 73 = .bool true := hR ⟨36, .data⟩ (by simp) rfl
      have h78 : u 78 = undef := hR ⟨41, .data⟩ (by simp) rfl
      clear hR
      simp only [h73, h78]
      clear h73 h78
      refine if_yes (by kernel_rfl) ?_
      unfold Oper.wp
      go_simp
      exact ⟨.bool true, rfl, HC.out, Below.refl _ _, rfl⟩
    · have h79 : u 79 = .bool true := hR ⟨42, .data⟩ (by simp) rfl
      clear hR
      simp only [h79]
      clear h79
      refine if_yes (by kernel_rfl) ?_
      unfold Oper.wp
      go_simp
      exact ⟨.bool true, rfl, HC.out, Below.refl _ _, rfl⟩
    · have g80 : u 80 = .bool true := hR ⟨43, .guard⟩ (by simp) rfl
      clear hR
      simp only [g80]
      clear g80
      refine if_no (by kernel_rfl) ?_
      exact ⟨undef, rfl, HC.out, Below.refl _ _, rfl⟩
    · have g80 : u 80 = .bool true := hR ⟨43, .guard⟩ (by simp) rfl
      have h81 : u 81 = undef := hR ⟨44, .data⟩ (by simp) rfl
      clear hR
      simp only [g80, h81]
      clear g80 h81
      refine if_no (by kernel_rfl) ?_
      exact ⟨undef, rfl, HC.out, Below.refl _ _, rfl⟩
    · have g80 : u 80 = .bool true := hR ⟨43, .guard⟩ (by simp) rfl
      clear hR
      simp only [g80]
      clear g80
      refine if_no (by kernel_rfl) ?_
      exact ⟨undef, rfl, HC.out, Below.refl _ _, rfl⟩
    · have g80 : u 80 = .bool true := hR ⟨43, .guard⟩ (by simp) rfl
      have h83 : u 83 = undef := hR ⟨46, .data⟩ (by simp) rfl
      clear hR
      simp only [g80, h83]
      clear g80 h83
      refine if_no (by kernel_rfl) ?_
      exact ⟨undef, rfl, HC.out, Below.refl _ _, rfl⟩
    · have g80 : u 80 = .bool true := hR ⟨43, .guard⟩ (by simp) rfl
      have h84 : u 84 = undef := hR ⟨47, .data⟩ (by simp) rfl
      clear hR
      simp only [g80, h84]
      clear g80 h84
      refine if_no (by kernel_rfl) ?_
      exact ⟨undef, rfl, HC.out, Below.refl _ _, rfl⟩
    · have g80 : u 80 = .bool true := hR ⟨43, .guard⟩ (by simp) rfl
      have h82 : u 82 = undef := hR ⟨45, .data⟩ (by simp) rfl
      have h85 : u 85 = undef := hR ⟨48, .data⟩ (by simp) rfl
      clear hR
      simp only [g80, h82, h85]
      clear g80 h82 h85
      refine if_no (by kernel_rfl) ?_
      exact ⟨undef, rfl, HC.out, Below.refl _ _, rfl⟩
    · have h80 : u 80 = .bool true := hR ⟨43, .data⟩ (by simp) rfl
      have h86 : u 86 = undef := hR ⟨49, .data⟩ (by simp) rfl
      clear hR
      simp only [h80, h86]
      clear h80 h86
      refine if_yes (by kernel_rfl) ?_
      unfold Oper.wp
      go_simp
      exact ⟨.bool true, rfl, HC.out, Below.refl _ _, rfl⟩
  · intro a w' hC hB hR
    have h87 : a.tmps.getD 87 undef = .bool true := hR 50 (by decide)
    clear hR
    have HE := Lib.hid hC.2
    clear hC
    obtain ⟨u, rfl⟩ := hB
    have h87 : u 87 = .bool true := h87
    simp only [h87]
    clear h87
    go_wp2_with fail
    go_ret
    exact ⟨rfl, HE.out⟩

/-- what each operation of the region GC3 leaves -/
def vsGC3 (B : Nat) (b s : Int) : List (Option (Tmp × Value)) :=
  [some (37, .pointer (some ⟨B, 4, none⟩)), some (38, .int .i64 s), some (39, .bool false), some (40, .bool false), some (41, .pointer (some ⟨B, 4, none⟩)), some (42, .int .i64 s), some (43, .bool false), some (44, .bool false), some (45, .bool false), some (46, .pointer (some ⟨B, 4, none⟩)), some (47, .int .i64 s), some (48, .pointer (some ⟨B, 0, none⟩)), some (49, .int .i64 b), some (50, .int .i64 (b - 8)), some (51, .bool true), some (52, .bool true), some (53, .bool true), some (54, undef), some (55, undef), some (56, undef), some (57, .bool true), some (58, .bool true), some (59, undef), some (60, undef), some (61, undef), some (62, .bool true), some (63, .bool true), some (64, undef), some (65, undef), some (66, undef), some (67, .bool true), some (68, .bool true), some (69, undef), some (70, undef), some (71, undef), some (72, .bool true), some (73, .bool true), some (74, undef), some (75, undef), some (76, undef), some (77, undef), some (78, undef), some (79, .bool true), some (80, .bool true), some (81, undef), some (82, undef), some (83, undef), some (84, undef), some (85, undef), some (86, undef), some (87, .bool true)]
/-- the frame while the region GC3 runs -/
def BaseGC3 (B : Nat) (a : Act) : Prop := ∃ u : Nat → Value, a = ⟨#[u 0, .pointer (some ⟨B, 0, none⟩), u 2, u 3, u 4, u 5, u 6, u 7, u 8, u 9, u 10, u 11, u 12, u 13, u 14, u 15, u 16, u 17, u 18, u 19, u 20, u 21, u 22, u 23, u 24, u 25, u 26, u 27, u 28, u 29, u 30, u 31, u 32, u 33, u 34, u 35, u 36, u 37, u 38, u 39, u 40, u 41, u 42, u 43, u 44, u 45, u 46, u 47, u 48, u 49, u 50, u 51, u 52, u 53, u 54, u 55, u 56, u 57, u 58, u 59, u 60, u 61, u 62, u 63, u 64, u 65, u 66, u 67, u 68, u 69, u 70, u 71, u 72, u 73, u 74, u 75, u 76, u 77, u 78, u 79, u 80, u 81, u 82, u 83, u 84, u 85, u 86, u 87], []⟩
theorem BaseGC3.of {B : Nat} (arr : Array Value) (h : arr = #[arr.getD 0 undef, .pointer (some ⟨B, 0, none⟩), arr.getD 2 undef, arr.getD 3 undef, arr.getD 4 undef, arr.getD 5 undef, arr.getD 6 undef, arr.getD 7 undef, arr.getD 8 undef, arr.getD 9 undef, arr.getD 10 undef, arr.getD 11 undef, arr.getD 12 undef, arr.getD 13 undef, arr.getD 14 undef, arr.getD 15 undef, arr.getD 16 undef, arr.getD 17 undef, arr.getD 18 undef, arr.getD 19 undef, arr.getD 20 undef, arr.getD 21 undef, arr.getD 22 undef, arr.getD 23 undef, arr.getD 24 undef, arr.getD 25 undef, arr.getD 26 undef, arr.getD 27 undef, arr.getD 28 undef, arr.getD 29 undef, arr.getD 30 undef, arr.getD 31 undef, arr.getD 32 undef, arr.getD 33 undef, arr.getD 34 undef, arr.getD 35 undef, arr.getD 36 undef, arr.getD 37 undef, arr.getD 38 undef, arr.getD 39 undef, arr.getD 40 undef, arr.getD 41 undef, arr.getD 42 undef, arr.getD 43 undef, arr.getD 44 undef, arr.getD 45 undef, arr.getD 46 undef, arr.getD 47 undef, arr.getD 48 undef, arr.getD 49 undef, arr.getD 50 undef, arr.getD 51 undef, arr.getD 52 undef, arr.getD 53 undef, arr.getD 54 undef, arr.getD 55 undef, arr.getD 56 undef, arr.getD 57 undef, arr.getD 58 undef, arr.getD 59 undef, arr.getD 60 undef, arr.getD 61 undef, arr.getD 62 undef, arr.getD 63 undef, arr.getD 64 undef, arr.getD 65 undef, arr.getD 66 undef, arr.getD 67 undef, arr.getD 68 undef, arr.getD 69 undef, arr.getD 70 undef, arr.getD 71 undef, arr.getD 72 undef, arr.getD 73 undef, arr.getD 74 undef, arr.getD 75 undef, arr.getD 76 undef, arr.getD 77 undef, arr.getD 78 undef, arr.getD 79 undef, arr.getD 80 undef, arr.getD 81 undef, arr.getD 82 undef, arr.getD 83 undef, arr.getD 84 undef, arr.getD 85 undef, arr.getD 86 undef, arr.getD 87 undef]) : BaseGC3 B ⟨arr, []⟩ := ⟨fun i => arr.getD i undef, by rw [← h]⟩
theorem BaseGC3.put37 {B : Nat} (a : Act) (v : Value) (h : BaseGC3 B a) : BaseGC3 B (a.put (some 37) v) := by
  obtain ⟨u, rfl⟩ := h
  exact ⟨fun i => if i = 37 then v else u i, by kernel_rfl⟩
theorem BaseGC3.put38 {B : Nat} (a : Act) (v : Value) (h : BaseGC3 B a) : BaseGC3 B (a.put (some 38) v) := by
  obtain ⟨u, rfl⟩ := h
  exact ⟨fun i => if i = 38 then v else u i, by kernel_rfl⟩
theorem BaseGC3.put39 {B : Nat} (a : Act) (v : Value) (h : BaseGC3 B a) : BaseGC3 B (a.put (some 39) v) := by
  obtain ⟨u, rfl⟩ := h
  exact ⟨fun i => if i = 39 then v else u i, by kernel_rfl⟩
theorem BaseGC3.put40 {B : Nat} (a : Act) (v : Value) (h : BaseGC3 B a) : BaseGC3 B (a.put (some 40) v) := by
  obtain ⟨u, rfl⟩ := h
  exact ⟨fun i => if i = 40 then v else u i, by kernel_rfl⟩
theorem BaseGC3.put41 {B : Nat} (a : Act) (v : Value) (h : BaseGC3 B a) : BaseGC3 B (a.put (some 41) v) := by
  obtain ⟨u, rfl⟩ := h
  exact ⟨fun i => if i = 41 then v else u i, by kernel_rfl⟩
theorem BaseGC3.put42 {B : Nat} (a : Act) (v : Value) (h : BaseGC3 B a) : BaseGC3 B (a.put (some 42) v) := by
  obtain ⟨u, rfl⟩ := h
  exact ⟨fun i => if i = 42 then v else u i, by kernel_rfl⟩
theorem BaseGC3.put43 {B : Nat} (a : Act) (v : Value) (h : BaseGC3 B a) : BaseGC3 B (a.put (some 43) v) := by
  obtain ⟨u, rfl⟩ := h
  exact ⟨fun i => if i = 43 then v else u i, by kernel_rfl⟩
theorem BaseGC3.put44 {B : Nat} (a : Act) (v : Value) (h : BaseGC3 B a) : BaseGC3 B (a.put (some 44) v) := by
  obtain ⟨u, rfl⟩ := h
  exact ⟨fun i => if i = 44 then v else u i, by kernel_rfl⟩
theorem BaseGC3.put45 {B : Nat} (a : Act) (v : Value) (h : BaseGC3 B a) : BaseGC3 B (a.put (some 45) v) := by
  obtain ⟨u, rfl⟩ := h
  exact ⟨fun i => if i = 45 then v else u i, by kernel_rfl⟩
theorem BaseGC3.put46 {B : Nat} (a : Act) (v : Value) (h : BaseGC3 B a) : BaseGC3 B (a.put (some 46) v) := by
  obtain ⟨u, rfl⟩ := h
  exact ⟨fun i => if i = 46 then v else u i, by kernel_rfl⟩
theorem BaseGC3.put47 {B : Nat} (a : Act) (v : Value) (h : BaseGC3 B a) : BaseGC3 B (a.put (some 47) v) := by
  obtain ⟨u, rfl⟩ := h
  exact ⟨fun i => if i = 47 then v else u i, by kernel_rfl⟩
theorem BaseGC3.put48 {B : Nat} (a : Act) (v : Value) (h : BaseGC3 B a) : BaseGC3 B (a.put (some 48) v) := by
  obtain ⟨u, rfl⟩ := h
  exact ⟨fun i => if i = 48 then v else u i, by kernel_rfl⟩
theorem BaseGC3.put49 {B : Nat} (a : Act) (v : Value) (h : BaseGC3 B a) : BaseGC3 B (a.put (some 49) v) := by
  obtain ⟨u, rfl⟩ := h
  exact ⟨fun i => if i = 49 then v else u i, by kernel_rfl⟩
theorem BaseGC3.put50 {B : Nat} (a : Act) (v : Value) (h : BaseGC3 B a) : BaseGC3 B (a.put (some 50) v) := by
  obtain ⟨u, rfl⟩ := h
  exact ⟨fun i => if i = 50 then v else u i, by kernel_rfl⟩
theorem BaseGC3.put51 {B : Nat} (a : Act) (v : Value) (h : BaseGC3 B a) : BaseGC3 B (a.put (some 51) v) := by
  obtain ⟨u, rfl⟩ := h
  exact ⟨fun i => if i = 51 then v else u i, by kernel_rfl⟩
theorem BaseGC3.put52 {B : Nat} (a : Act) (v : Value) (h : BaseGC3 B a) : BaseGC3 B (a.put (some 52) v) := by
  obtain ⟨u, rfl⟩ := h
  exact ⟨fun i => if i = 52 then v else u i, by kernel_rfl⟩
theorem BaseGC3.put53 {B : Nat} (a : Act) (v : Value) (h : BaseGC3 B a) : BaseGC3 B (a.put (some 53) v) := by
  obtain ⟨u, rfl⟩ := h
  exact ⟨fun i => if i = 53 then v else u i, by kernel_rfl⟩
theorem BaseGC3.put54 {B : Nat} (a : Act) (v : Value) (h : BaseGC3 B a) : BaseGC3 B (a.put (some 54) v) := by
  obtain ⟨u, rfl⟩ := h
  exact ⟨fun i => if i = 54 then v else u i, by kernel_rfl⟩
theorem BaseGC3.put55 {B : Nat} (a : Act) (v : Value) (h : BaseGC3 B a) : BaseGC3 B (a.put (some 55) v) := by
  obtain ⟨u, rfl⟩ := h
  exact ⟨fun i => if i = 55 then v else u i, by kernel_rfl⟩
theorem BaseGC3.put56 {B : Nat} (a : Act) (v : Value) (h : BaseGC3 B a) : BaseGC3 B (a.put (some 56) v) := by
  obtain ⟨u, rfl⟩ := h
  exact ⟨fun i => if i = 56 then v else u i, by kernel_rfl⟩
theorem BaseGC3.put57 {B : Nat} (a : Act) (v : Value) (h : BaseGC3 B a) : BaseGC3 B (a.put (some 57) v) := by
  obtain ⟨u, rfl⟩ := h
  exact ⟨fun i => if i = 57 then v else u i, by kernel_rfl⟩
theorem BaseGC3.put58 {B : Nat} (a : Act) (v : Value) (h : BaseGC3 B a) : BaseGC3 B (a.put (some 58) v) := by
  obtain ⟨u, rfl⟩ := h
  exact ⟨fun i => if i = 58 then v else u i, by kernel_rfl⟩
theorem BaseGC3.put59 {B : Nat} (a : Act) (v : Value) (h : BaseGC3 B a) : BaseGC3 B (a.put (some 59) v) := by
  obtain ⟨u, rfl⟩ := h
  exact ⟨fun i => if i = 59 then v else u i, by kernel_rfl⟩
theorem BaseGC3.put60 {B : Nat} (a : Act) (v : Value) (h : BaseGC3 B a) : BaseGC3 B (a.put (some 60) v) := by
  obtain ⟨u, rfl⟩ := h
  exact ⟨fun i => if i = 60 then v else u i, by kernel_rfl⟩
theorem BaseGC3.put61 {B : Nat} (a : Act) (v : Value) (h : BaseGC3 B a) : BaseGC3 B (a.put (some 61) v) := by
  obtain ⟨u, rfl⟩ := h
  exact ⟨fun i => if i = 61 then v else u i, by kernel_rfl⟩
theorem BaseGC3.put62 {B : Nat} (a : Act) (v : Value) (h : BaseGC3 B a) : BaseGC3 B (a.put (some 62) v) := by
  obtain ⟨u, rfl⟩ := h
  exact ⟨fun i => if i = 62 then v else u i, by kernel_rfl⟩
theorem BaseGC3.put63 {B : Nat} (a : Act) (v : Value) (h : BaseGC3 B a) : BaseGC3 B (a.put (some 63) v) := by
  obtain ⟨u, rfl⟩ := h
  exact ⟨fun i => if i = 63 then v else u i, by kernel_rfl⟩
theorem BaseGC3.put64 {B : Nat} (a : Act) (v : Value) (h : BaseGC3 B a) : BaseGC3 B (a.put (some 64) v) := by
  obtain ⟨u, rfl⟩ := h
  exact ⟨fun i => if i = 64 then v else u i, by kernel_rfl⟩
theorem BaseGC3.put65 {B : Nat} (a : Act) (v : Value) (h : BaseGC3 B a) : BaseGC3 B (a.put (some 65) v) := by
  obtain ⟨u, rfl⟩ := h
  exact ⟨fun i => if i = 65 then v else u i, by kernel_rfl⟩
theorem BaseGC3.put66 {B : Nat} (a : Act) (v : Value) (h : BaseGC3 B a) : BaseGC3 B (a.put (some 66) v) := by
  obtain ⟨u, rfl⟩ := h
  exact ⟨fun i => if i = 66 then v else u i, by kernel_rfl⟩
theorem BaseGC3.put67 {B : Nat} (a : Act) (v : Value) (h : BaseGC3 B a) : BaseGC3 B (a.put (some 67) v) := by
  obtain ⟨u, rfl⟩ := h
  exact ⟨fun i => if i = 67 then v else u i, by kernel_rfl⟩
theorem BaseGC3.put68 {B : Nat} (a : Act) (v : Value) (h : BaseGC3 B a) : BaseGC3 B (a.put (some 68) v) := by
  obtain ⟨u, rfl⟩ := h
  exact ⟨fun i => if i = 68 then v else u i, by kernel_rfl⟩
theorem BaseGC3.put69 {B : Nat} (a : Act) (v : Value) (h : BaseGC3 B a) : BaseGC3 B (a.put (some 69) v) := by
  obtain ⟨u, rfl⟩ := h
  exact ⟨fun i => if i = 69 then v else u i, by kernel_rfl⟩
theorem BaseGC3.put70 {B : Nat} (a : Act) (v : Value) (h : BaseGC3 B a) : BaseGC3 B (a.put (some 70) v) := by
  obtain ⟨u, rfl⟩ := h
  exact ⟨fun i => if i = 70 then v else u i, by kernel_rfl⟩
theorem BaseGC3.put71 {B : Nat} (a : Act) (v : Value) (h : BaseGC3 B a) : BaseGC3 B (a.put (some 71) v) := by
  obtain ⟨u, rfl⟩ := h
  exact ⟨fun i => if i = 71 then v else u i, by kernel_rfl⟩
theorem BaseGC3.put72 {B : Nat} (a : Act) (v : Value) (h : BaseGC3 B a) : BaseGC3 B (a.put (some 72) v) := by
  obtain ⟨u, rfl⟩ := h
  exact ⟨fun i => if i = 72 then v else u i, by kernel_rfl⟩
theorem BaseGC3.put73 {B : Nat} (a : Act) (v : Value) (h : BaseGC3 B a) : BaseGC3 B (a.put (some 73) v) := by
  obtain ⟨u, rfl⟩ := h
  exact ⟨fun i => if i = 73 then v else u i, by kernel_rfl⟩
theorem BaseGC3.put74 {B : Nat} (a : Act) (v : Value) (h : BaseGC3 B a) : BaseGC3 B (a.put (some 74) v) := by
  obtain ⟨u, rfl⟩ := h
  exact ⟨fun i => if i = 74 then v else u i, by kernel_rfl⟩
theorem BaseGC3.put75 {B : Nat} (a : Act) (v : Value) (h : BaseGC3 B a) : BaseGC3 B (a.put (some 75) v) := by
  obtain ⟨u, rfl⟩ := h
  exact ⟨fun i => if i = 75 then v else u i, by kernel_rfl⟩
theorem BaseGC3.put76 {B : Nat} (a : Act) (v : Value) (h : BaseGC3 B a) : BaseGC3 B (a.put (some 76) v) := by
  obtain ⟨u, rfl⟩ := h
  exact ⟨fun i => if i = 76 then v else u i, by kernel_rfl⟩
theorem BaseGC3.put77 {B : Nat} (a : Act) (v : Value) (h : BaseGC3 B a) : BaseGC3 B (a.put (some 77) v) := by
  obtain ⟨u, rfl⟩ := h
  exact ⟨fun i => if i = 77 then v else u i, by kernel_rfl⟩
theorem BaseGC3.put78 {B : Nat} (a : Act) (v : Value) (h : BaseGC3 B a) : BaseGC3 B (a.put (some 78) v) := by
  obtain ⟨u, rfl⟩ := h
  exact ⟨fun i => if i = 78 then v else u i, by kernel_rfl⟩
theorem BaseGC3.put79 {B : Nat} (a : Act) (v : Value) (h : BaseGC3 B a) : BaseGC3 B (a.put (some 79) v) := by
  obtain ⟨u, rfl⟩ := h
  exact ⟨fun i => if i = 79 then v else u i, by kernel_rfl⟩
theorem BaseGC3.put80 {B : Nat} (a : Act) (v : Value) (h : BaseGC3 B a) : BaseGC3 B (a.put (some 80) v) := by
  obtain ⟨u, rfl⟩ := h
  exact ⟨fun i => if i = 80 then v else u i, by kernel_rfl⟩
theorem BaseGC3.put81 {B : Nat} (a : Act) (v : Value) (h : BaseGC3 B a) : BaseGC3 B (a.put (some 81) v) := by
  obtain ⟨u, rfl⟩ := h
  exact ⟨fun i => if i = 81 then v else u i, by kernel_rfl⟩
theorem BaseGC3.put82 {B : Nat} (a : Act) (v : Value) (h : BaseGC3 B a) : BaseGC3 B (a.put (some 82) v) := by
  obtain ⟨u, rfl⟩ := h
  exact ⟨fun i => if i = 82 then v else u i, by kernel_rfl⟩
theorem BaseGC3.put83 {B : Nat} (a : Act) (v : Value) (h : BaseGC3 B a) : BaseGC3 B (a.put (some 83) v) := by
  obtain ⟨u, rfl⟩ := h
  exact ⟨fun i => if i = 83 then v else u i, by kernel_rfl⟩
theorem BaseGC3.put84 {B : Nat} (a : Act) (v : Value) (h : BaseGC3 B a) : BaseGC3 B (a.put (some 84) v) := by
  obtain ⟨u, rfl⟩ := h
  exact ⟨fun i => if i = 84 then v else u i, by kernel_rfl⟩
theorem BaseGC3.put85 {B : Nat} (a : Act) (v : Value) (h : BaseGC3 B a) : BaseGC3 B (a.put (some 85) v) := by
  obtain ⟨u, rfl⟩ := h
  exact ⟨fun i => if i = 85 then v else u i, by kernel_rfl⟩
theorem BaseGC3.put86 {B : Nat} (a : Act) (v : Value) (h : BaseGC3 B a) : BaseGC3 B (a.put (some 86) v) := by
  obtain ⟨u, rfl⟩ := h
  exact ⟨fun i => if i = 86 then v else u i, by kernel_rfl⟩
theorem BaseGC3.put87 {B : Nat} (a : Act) (v : Value) (h : BaseGC3 B a) : BaseGC3 B (a.put (some 87) v) := by
  obtain ⟨u, rfl⟩ := h
  exact ⟨fun i => if i = 87 then v else u i, by kernel_rfl⟩

set_option maxHeartbeats 2000000 in
set_option maxRecDepth 100000 in
theorem rge_check_3 (b l y n s r : Int) (w : World) (h : FirstG b l y) (hs : 0 ≤ s ∧ s ≤ 16 ∧ b - 8 < s) : Calls Try.prog 9 #[.agg (gv b l y n s r)] w (ChkT b l y n s r w) := by
  have hno : ¬ OkG b l y n s r := fun ⟨⟨h1, h2, h3, h4, h5, h6, h7, h8, h9, h10, h11, h12, h13, h14⟩, h15, h16⟩ => by omega
  unfold ChkT
  rw [chk_no hno]
  obtain ⟨h1, h2, h3, h4, h5, h6, h7⟩ := h
  have hf : (8 ≤ b ∧ b ≤ 64 ∧ 6 ≤ l ∧ l ≤ 64) ∧ (0 ≤ s ∧ s ≤ 16 ∧ b - 8 < s) := ⟨⟨h1, h2, h3, h4⟩, hs⟩
  have HF := Lib.hid hf
  have HC0 : Hid (CG w b l y n s r (w.alloc (.cells (gv b l y n s r) 23))) := ⟨Blk.new w _ _, (Below.refl w.heap.size w).alloc (Nat.le_refl _) _⟩
  clear hf hs hno
  go_enter Try.func9, Try.ntmps9
  unfold gv at *
  go_wp2_with fail

  rename_i K0 hK0
  refine wp_region_list3 (SV (vsGC3 w.heap.size b s) []) (BaseGC3 w.heap.size) (CG w b l y n s r) Goes (RV (vsGC3 w.heap.size b s) (fun _ _ _ => False)) rfl (by kernel_rfl) (RV.ext no_special6) ?_ HC0.out.drew (BaseGC3.of _ (by kernel_rfl)) ?_ ?_
  · exact ⟨BaseGC3.put37, BaseGC3.put38, BaseGC3.put39, BaseGC3.put40, BaseGC3.put41, BaseGC3.put42, BaseGC3.put43, BaseGC3.put44, BaseGC3.put45, BaseGC3.put46, BaseGC3.put47, BaseGC3.put48, BaseGC3.put49, BaseGC3.put50, BaseGC3.put51, BaseGC3.put52, BaseGC3.put53, BaseGC3.put54, BaseGC3.put55, BaseGC3.put56, BaseGC3.put57, BaseGC3.put58, BaseGC3.put59, BaseGC3.put60, BaseGC3.put61, BaseGC3.put62, BaseGC3.put63, BaseGC3.put64, BaseGC3.put65, BaseGC3.put66, BaseGC3.put67, BaseGC3.put68, BaseGC3.put69, BaseGC3.put70, BaseGC3.put71, BaseGC3.put72, BaseGC3.put73, BaseGC3.put74, BaseGC3.put75, BaseGC3.put76, BaseGC3.put77, BaseGC3.put78, BaseGC3.put79, BaseGC3.put80, BaseGC3.put81, BaseGC3.put82, BaseGC3.put83, BaseGC3.put84, BaseGC3.put85, BaseGC3.put86, BaseGC3.put87, trivial⟩
  · refine ⟨?_, ?_, ?_, ?_, ?_, ?_, ?_, ?_, ?_, ?_, ?_, ?_, ?_, ?_, ?_, ?_, ?_, ?_, ?_, ?_, ?_, ?_, ?_, ?_, ?_, ?_, ?_, ?_, ?_, ?_, ?_, ?_, ?_, ?_, ?_, ?_, ?_, ?_, ?_, ?_, ?_, ?_, ?_, ?_, ?_, ?_, ?_, ?_, ?_, ?_, ?_, trivial⟩
    all_goals
      intro a w' hC hB hR
      obtain ⟨u, rfl⟩ := hB
      have HC := Lib.hid hC
      clear hC
      clear hK0
    · clear hR
      refine if_yes (by kernel_rfl) ?_
      unfold Oper.wp
      go_simp
      exact ⟨.pointer (some ⟨w.heap.size, 4, none⟩), rfl, HC.out, Below.refl _ _, rfl⟩
    · have h37 : u 37 = .pointer (some ⟨w.heap.size, 4, none⟩) := hR ⟨0, .data⟩ (by simp) rfl
      have hc : w'.cell? ⟨w.heap.size, 4, none⟩ = some (.int .i64 s) := HC.out.1.cell 4
      clear hR
      simp only [h37]
      clear h37
      refine if_yes (by kernel_rfl) ?_
      unfold Oper.wp
      go_simp
      exact ⟨.int .i64 s, rfl, HC.out, Below.refl _ _, rfl⟩
    · have h38 : u 38 = .int .i64 s := hR ⟨1, .data⟩ (by simp) rfl
      clear hR
      simp only [h38]
      clear h38
      refine if_yes (by kernel_rfl) ?_
      have hf := HF.out
      unfold Oper.wp
      go_simp
      exact ⟨_, rfl, HC.out, Below.refl _ _, congrArg Value.bool (by first | rfl | (simp; done) | (simp; omega))⟩
    · have h39 : u 39 = .bool false := hR ⟨2, .data⟩ (by simp) rfl
      clear hR
      simp only [h39]
      clear h39
      refine if_yes (by kernel_rfl) ?_
      unfold Oper.wp
      go_simp
      exact ⟨.bool false, rfl, HC.out, Below.refl _ _, rfl⟩
    · have g40 : u 40 = .bool false := hR ⟨3, .guard⟩ (by simp) rfl
      clear hR
      simp only [g40]
      clear g40
      refine if_yes (by kernel_rfl) ?_
      unfold Oper.wp
      go_simp
      exact ⟨.pointer (some ⟨w.heap.size, 4, none⟩), rfl, HC.out, Below.refl _ _, rfl⟩
    · have g40 : u 40 = .bool false := hR ⟨3, .guard⟩ (by simp) rfl
      have h41 : u 41 = .pointer (some ⟨w.heap.size, 4, none⟩) := hR ⟨4, .data⟩ (by simp) rfl
      have hc : w'.cell? ⟨w.heap.size, 4, none⟩ = some (.int .i64 s) := HC.out.1.cell 4
      clear hR
      simp only [g40, h41]
      clear g40 h41
      refine if_yes (by kernel_rfl) ?_
      unfold Oper.wp
      go_simp
      exact ⟨.int .i64 s, rfl, HC.out, Below.refl _ _, rfl⟩
    · have g40 : u 40 = .bool false := hR ⟨3, .guard⟩ (by simp) rfl
      have h42 : u 42 = .int .i64 s := hR ⟨5, .data⟩ (by simp) rfl
      clear hR
      simp only [g40, h42]
      clear g40 h42
      refine if_yes (by kernel_rfl) ?_
      have hf := HF.out
      unfold Oper.wp
      go_simp
      exact ⟨_, rfl, HC.out, Below.refl _ _, congrArg Value.bool (by first | rfl | (simp; done) | (simp; omega))⟩
    · have h40 : u 40 = .bool false := hR ⟨3, .data⟩ (by simp) rfl
      have h43 : u 43 = .bool false := hR ⟨6, .data⟩ (by simp) rfl
      clear hR
      simp only [h40, h43]
      clear h40 h43
      refine if_yes (by kernel_rfl) ?_
      unfold Oper.wp
      go_simp
      exact ⟨.bool false, rfl, HC.out, Below.refl _ _, rfl⟩
    · have h44 : u 44 = .bool false := hR ⟨7, .data⟩ (by simp) rfl
      clear hR
      simp only [h44]
      clear h44
      refine if_yes (by kernel_rfl) ?_
      unfold Oper.wp
      go_simp
      exact ⟨.bool false, rfl, HC.out, Below.refl _ _, rfl⟩
    · have g45 : u 45 = .bool false := hR ⟨8, .guard⟩ (by simp) rfl
      clear hR
      simp only [g45]
      clear g45
      refine if_yes (by kernel_rfl) ?_
      unfold Oper.wp
      go_simp
      exact ⟨.pointer (some ⟨w.heap.size, 4, none⟩), rfl, HC.out, Below.refl _ _, rfl⟩
    · have g45 : u 45 = .bool false := hR ⟨8, .guard⟩ (by simp) rfl
      have h46 : u 46 = .pointer (some ⟨w.heap.size, 4, none⟩) := hR ⟨9, .data⟩ (by simp) rfl
      have hc : w'.cell? ⟨w.heap.size, 4, none⟩ = some (.int .i64 s) := HC.out.1.cell 4
      clear hR
      simp only [g45, h46]
      clear g45 h46
      refine if_yes (by kernel_rfl) ?_
      unfold Oper.wp
      go_simp
      exact ⟨.int .i64 s, rfl, HC.out, Below.refl _ _, rfl⟩
    · have g45 : u 45 = .bool false := hR ⟨8, .guard⟩ (by simp) rfl
      clear hR
      simp only [g45]
      clear g45
      refine if_yes (by kernel_rfl) ?_
      unfold Oper.wp
      go_simp
      exact ⟨.pointer (some ⟨w.heap.size, 0, none⟩), rfl, HC.out, Below.refl _ _, rfl⟩
    · have g45 : u 45 = .bool false := hR ⟨8, .guard⟩ (by simp) rfl
      have h48 : u 48 = .pointer (some ⟨w.heap.size, 0, none⟩) := hR ⟨11, .data⟩ (by simp) rfl
      have hc : w'.cell? ⟨w.heap.size, 0, none⟩ = some (.int .i64 b) := HC.out.1.cell 0
      clear hR
      simp only [g45, h48]
      clear g45 h48
      refine if_yes (by kernel_rfl) ?_
      unfold Oper.wp
      go_simp
      exact ⟨.int .i64 b, rfl, HC.out, Below.refl _ _, rfl⟩
    · have g45 : u 45 = .bool false := hR ⟨8, .guard⟩ (by simp) rfl
      have h49 : u 49 = .int .i64 b := hR ⟨12, .data⟩ (by simp) rfl
      have hf := HF.out
      have hw : IntKind.i64.wrap (b - 8) = b - 8 := by rw [IntKind.wrap_i64]; omega
      clear hf
      clear hR
      simp only [g45, h49]
      clear g45 h49
      refine if_yes (by kernel_rfl) ?_
      unfold Oper.wp
      go_simp
      exact ⟨.int .i64 (b - 8), rfl, HC.out, Below.refl _ _, rfl⟩
    · have g45 : u 45 = .bool false := hR ⟨8, .guard⟩ (by simp) rfl
      have h47 : u 47 = .int .i64 s := hR ⟨10, .data⟩ (by simp) rfl
      have h50 : u 50 = .int .i64 (b - 8) := hR ⟨13, .data⟩ (by simp) rfl
      clear hR
      simp only [g45, h47, h50]
      clear g45 h47 h50
      refine if_yes (by kernel_rfl) ?_
      have hf := HF.out
      unfold Oper.wp
      go_simp
      exact ⟨_, rfl, HC.out, Below.refl _ _, congrArg Value.bool (by first | rfl | (simp; done) | (simp; omega))⟩
    · have h45 : u 45 = .bool false := hR ⟨8, .data⟩ (by simp) rfl
      have h51 : u 51 = .bool true := hR ⟨14, .data⟩ (by simp) rfl
      clear hR
      simp only [h45, h51]
      clear h45 h51
      refine if_yes (by kernel_rfl) ?_
      unfold Oper.wp
      go_simp
      exact ⟨.bool true, rfl, HC.out, Below.refl _ _, rfl⟩
    · have h52 : u 52 = .bool true := hR ⟨15, .data⟩ (by simp) rfl
      clear hR
      simp only [h52]
      clear h52
      refine if_yes (by kernel_rfl) ?_
      unfold Oper.wp
      go_simp
      exact ⟨.bool true, rfl, HC.out, Below.refl _ _, rfl⟩
    · have g53 : u 53 = .bool true := hR ⟨16, .guard⟩ (by simp) rfl
      clear hR
      simp only [g53]
      clear g53
      refine if_no (by kernel_rfl) ?_
      exact ⟨undef, rfl, HC.out, Below.refl _ _, rfl⟩
    · have g53 : u 53 = .bool true := hR ⟨16, .guard⟩ (by simp) rfl
      have h54 : u 54 = undef := hR ⟨17, .data⟩ (by simp) rfl
      clear hR
      simp only [g53, h54]
      clear g53 h54
      refine if_no (by kernel_rfl) ?_
      exact ⟨undef, rfl, HC.out, Below.refl _ _, rfl⟩
    · have g53 : u 53 = .bool true := hR ⟨16, .guard⟩ (by simp) rfl
      have h55 : u 55 = undef := hR ⟨18, .data⟩ (by simp) rfl
      clear hR
      simp only [g53, h55]
      clear g53 h55
      refine if_no (by kernel_rfl) ?_
      exact ⟨undef, rfl, HC.out, Below.refl _ _, rfl⟩
    · have h53 : u 53 = .bool true := hR ⟨16, .data⟩ (by simp) rfl
      have h56 : u 56 = undef := hR ⟨19, .data⟩ (by simp) rfl
      clear hR
      simp only [h53, h56]
      clear h53 h56
      refine if_yes (by kernel_rfl) ?_
      unfold Oper.wp
      go_simp
      exact ⟨.bool true, rfl, HC.out, Below.refl _ _, rfl⟩
    · have h57 : u 57 = .bool true := hR ⟨20, .data⟩ (by simp) rfl
      clear hR
      simp only [h57]
      clear h57
      refine if_yes (by kernel_rfl) ?_
      unfold Oper.wp
      go_simp
      exact ⟨.bool true, rfl, HC.out, Below.refl _ _, rfl⟩
    · have g58 : u 58 = .bool true := hR ⟨21, .guard⟩ (by simp) rfl
      clear hR
      simp only [g58]
      clear g58
      refine if_no (by kernel_rfl) ?_
      exact ⟨undef, rfl, HC.out, Below.refl _ _, rfl⟩
    · have g58 : u 58 = .bool true := hR ⟨21, .guard⟩ (by simp) rfl
      have h59 : u 59 = undef := hR ⟨22, .data⟩ (by simp) rfl
      clear hR
      simp only [g58, h59]
      clear g58 h59
      refine if_no (by kernel_rfl) ?_
      exact ⟨undef, rfl, HC.out, Below.refl _ _, rfl⟩
    · have g58 : u 58 = .bool true := hR ⟨21, .guard⟩ (by simp) rfl
      have h60 : u 60 = undef := hR ⟨23, .data⟩ (by simp) rfl
      clear hR
      simp only [g58, h60]
      clear g58 h60
      refine if_no (by kernel_rfl) ?_
      exact ⟨undef, rfl, HC.out, Below.refl _ _, rfl⟩
    · have h58 : u 58 = .bool true := hR ⟨21, .data⟩ (by simp) rfl
      have h61 : u 61 = undef := hR ⟨24, .data⟩ (by simp) rfl
      clear hR
      simp only [h58, h61]
      clear h58 h61
      refine if_yes (by kernel_rfl) ?_
      unfold Oper.wp
      go_simp
      exact ⟨.bool true, rfl, HC.out, Below.refl _ _, rfl⟩
    · have h62 : u 62 = .bool true := hR ⟨25, .data⟩ (by simp) rfl
      clear hR
      simp only [h62]
      clear h62
      refine if_yes (by kernel_rfl) ?_
      unfold Oper.wp
      go_simp
      exact ⟨.bool true, rfl, HC.out, Below.refl _ _, rfl⟩
    · have g63 : u 63 = .bool true := hR ⟨26, .guard⟩ (by simp) rfl
      clear hR
      simp only [g63]
      clear g63
      refine if_no (by kernel_rfl) ?_
      exact ⟨undef, rfl, HC.out, Below.refl _ _, rfl⟩
    · have g63 : u 63 = .bool true := hR ⟨26, .guard⟩ (by simp) rfl
      have h64 : u 64 = undef := hR ⟨27, .data⟩ (by simp) rfl
      clear hR
      simp only [g63, h64]
      clear g63 h64
      refine if_no (by kernel_rfl) ?_
      exact ⟨undef, rfl, HC.out, Below.refl _ _, rfl⟩
    · have g63 : u 63 = .bool true := hR ⟨26, .guard⟩ (by simp) rfl
      have h65 : u 65 = undef := hR ⟨28, .data⟩ (by simp) rfl
      clear hR
      simp only [g63, h65]
      clear g63 h65
      refine if_no (by kernel_rfl) ?_
      exact ⟨undef, rfl, HC.out, Below.refl _ _, rfl⟩
    · have h63 : u 63 = .bool true := hR ⟨26, .data⟩ (by simp) rfl
      have h66 : u 66 = undef := hR ⟨29, .data⟩ (by simp) rfl
      clear hR
      simp only [h63, h66]
      clear h63 h66
      refine if_yes (by kernel_rfl) ?_
      unfold Oper.wp
      go_simp
      exact ⟨.bool true, rfl, HC.out, Below.refl _ _, rfl⟩
    · have h67 : u 67 = .bool true := hR ⟨30, .data⟩ (by simp) rfl
      clear hR
      simp only [h67]
      clear h67
      refine if_yes (by kernel_rfl) ?_
      unfold Oper.wp
      go_simp
      exact ⟨.bool true, rfl, HC.out, Below.refl _ _, rfl⟩
    · have g68 : u 68 = .bool true := hR ⟨31, .guard⟩ (by simp) rfl
      clear hR
      simp only [g68]
      clear g68
      refine if_no (by kernel_rfl) ?_
      exact ⟨undef, rfl, HC.out, Below.refl _ _, rfl⟩
    · have g68 : u 68 = .bool true := hR ⟨31, .guard⟩ (by simp) rfl
      have h69 : u 69 = undef := hR ⟨32, .data⟩ (by simp) rfl
      clear hR
      simp only [g68, h69]
      clear g68 h69
      refine if_no (by kernel_rfl) ?_
      exact ⟨undef, rfl, HC.out, Below.refl _ _, rfl⟩
    · have g68 : u 68 = .bool true := hR ⟨31, .guard⟩ (by simp) rfl
      have h70 : u 70 = undef := hR ⟨33, .data⟩ (by simp) rfl
      clear hR
      simp only [g68, h70]
      clear g68 h70
      refine if_no (by kernel_rfl) ?_
      exact ⟨undef, rfl, HC.out, Below.refl _ _, rfl⟩
    · have h68 : u 68 = .bool true := hR ⟨31, .data⟩ (by simp) rfl
      have h71 : u 71 = undef := hR ⟨34, .data⟩ (by simp) rfl
      clear hR
      simp only [h68, h71]
      clear h68 h71
      refine if_yes (by kernel_rfl) ?_
      unfold Oper.wp
      go_simp
      exact ⟨.bool true, rfl, HC.out, Below.refl _ _, rfl⟩
    · have h72 : u 72 = .bool true := hR ⟨35, .data⟩ (by simp) rfl
      clear hR
      simp only [h72]
      clear h72
      refine if_yes (by kernel_rfl) ?_
      unfold Oper.wp
      go_simp
      exact ⟨.bool true, rfl, HC.out, Below.refl _ _, rfl⟩
    · have g73 : u 73 = .bool true := hR ⟨36, .guard⟩ (by simp) rfl
      clear hR
      simp only [g73]
      clear g73
      refine if_no (by kernel_rfl) ?_
      exact ⟨undef, rfl, HC.out, Below.refl _ _, rfl⟩
    · have g73 : u 73 = .bool true := hR ⟨36, .guard⟩ (by simp) rfl
      have h74 : u 74 = undef := hR ⟨37, .data⟩ (by simp) rfl
      clear hR
      simp only [g73, h74]
      clear g73 h74
      refine if_no (by kernel_rfl) ?_
      exact ⟨undef, rfl, HC.out, Below.refl _ _, rfl⟩
    · have g73 : u 73 = .bool true := hR ⟨36, .guard⟩ (by simp) rfl
      clear hR
      simp only [g73]
      clear g73
      refine if_no (by kernel_rfl) ?_
      exact ⟨undef, rfl, HC.out, Below.refl _ _, rfl⟩
    · have g73 : u 73 = .bool true := hR ⟨36, .guard⟩ (by simp) rfl
      have h76 : u 76 = undef := hR ⟨39, .data⟩ (by simp) rfl
      clear hR
      simp only [g73, h76]
      clear g73 h76
      refine if_no (by kernel_rfl) ?_
      exact ⟨undef, rfl, HC.out, Below.refl _ _, rfl⟩
    · have g73 : u 73 = .bool true := hR ⟨36, .guard⟩ (by simp) rfl
      have h75 : u 75 = undef := hR ⟨38, .data⟩ (by simp) rfl
      have h77 : u 77 = undef := hR ⟨40, .data⟩ (by simp) rfl
      clear hR
      simp only [g73, h75, h77]
      clear g73 h75 h77
      refine if_no (by kernel_rfl) ?_
      exact ⟨undef, rfl, HC.out, Below.refl _ _, rfl⟩
    · have h73 : u 73 = .bool true := hR ⟨36, .data⟩ (by simp) rfl
      have h78 : u 78 = undef := hR ⟨41, .data⟩ (by simp) rfl
      clear hR
      simp only [h73, h78]
      clear h73 h78
      refine if_yes (by kernel_rfl) ?_
      unfold Oper.wp
      go_simp
      exact ⟨.bool true, rfl, HC.out, Below.refl _ _, rfl⟩
    · have h79 : u 79 = .bool true := hR ⟨42, .data⟩ (by simp) rfl
      clear hR
      simp only [h79]
      clear h79
      refine if_yes (by kernel_rfl) ?_
      unfold Oper.wp
      go_simp
      exact ⟨.bool true, rfl, HC.out, Below.refl _ _, rfl⟩
    · have g80 : u 80 = .bool true := hR ⟨43, .guard⟩ (by simp) rfl
      clear hR
      simp only [g80]
      clear g80
      refine if_no (by kernel_rfl) ?_
      exact ⟨undef, rfl, HC.out, Below.refl _ _, rfl⟩
    · have g80 : u 80 = .bool true := hR ⟨43, .guard⟩ (by simp) rfl
      have h81 : u 81 = undef := hR ⟨44, .data⟩ (by simp) rfl
      clear hR
      simp only [g80, h81]
      clear g80 h81
      refine if_no (by kernel_rfl) ?_
      exact ⟨undef, rfl, HC.out, Below.refl _ _, rfl⟩
    · have g80 : u 80 = .bool true := hR ⟨43, .guard⟩ (by simp) rfl
      clear hR
      simp only [g80]
      clear g80
      refine if_no (by kernel_rfl) ?_
      exact ⟨undef, rfl, HC.out, Below.refl _ _, rfl⟩
    · have g80 : u 80 = .bool true := hR ⟨43, .guard⟩ (by simp) rfl
      have h83 : u 83 = undef := hR ⟨46, .data⟩ (by simp) rfl
      clear hR
      simp only [g80, h83]
      clear g80 h83
      refine if_no (by kernel_rfl) ?_
      exact ⟨undef, rfl, HC.out, Below.refl _ _, rfl⟩
    · have g80 : u 80 = .bool true := hR ⟨43, .guard⟩ (by simp) rfl
      have h84 : u 84 = undef := hR ⟨47, .data⟩ (by simp) rfl
      clear hR
      simp only [g80, h84]
      clear g80 h84
      refine if_no (by kernel_rfl) ?_
      exact ⟨undef, rfl, HC.out, Below.refl _ _, rfl⟩
    · have g80 : u 80 = .bool true := hR ⟨43, .guard⟩ (by simp) rfl
      have h82 : u 82 = undef := hR ⟨45, .data⟩ (by simp) rfl
      have h85 : u 85 = undef := hR ⟨48, .data⟩ (by simp) rfl
      clear hR
      simp only [g80, h82, h85]
      clear g80 h82 h85
      refine if_no (by kernel_rfl) ?_
      exact ⟨undef, rfl, HC.out, Below.refl _ _, rfl⟩
    · have h80 : u 80 = .bool true := hR ⟨43, .data⟩ (by simp) rfl
      have h86 : u 86 = undef := hR ⟨49, .data⟩ (by simp) rfl
      clear hR
      simp only [h80, h86]
      clear h80 h86
      refine if_yes (by kernel_rfl) ?_
      unfold Oper.wp
      go_simp
      exact ⟨.bool true, rfl, HC.out, Below.refl _ _, rfl⟩
  · intro a w' hC hB hR
    have h87 : a.tmps.getD 87 undef = .bool true := hR 50 (by decide)
    clear hR
    have HE := Lib.hid hC.2
    clear hC
    obtain ⟨u, rfl⟩ := hB
    have h87 : u 87 = .bool true := h87
    simp only [h87]
    clear h87
    go_wp2_with fail
    go_ret
    exact ⟨rfl, HE.out⟩

/-- what each operation of the region GC4 leaves -/
def vsGC4 (B : Nat) (b s r : Int) : List (Option (Tmp × Value)) :=
  [some (37, .pointer (some ⟨B, 4, none⟩)), some (38, .int .i64 s), some (39, .bool false), some (40, .bool false), some (41, .pointer (some ⟨B, 4, none⟩)), some (42, .int .i64 s), some (43, .bool false), some (44, .bool false), some (45, .bool false), some (46, .pointer (some ⟨B, 4, none⟩)), some (47, .int .i64 s), some (48, .pointer (some ⟨B, 0, none⟩)), some (49, .int .i64 b), some (50, .int .i64 (b - 8)), some (51, .bool false), some (52, .bool false), some (53, .bool false), some (54, .pointer (some ⟨B, 5, none⟩)), some (55, .int .i64 r), some (56, .bool true), some (57, .bool true), some (58, .bool true), some (59, undef), some (60, undef), some (61, undef), some (62, .bool true), some (63, .bool true), some (64, undef), some (65, undef), some (66, undef), some (67, .bool true), some (68, .bool true), some (69, undef), some (70, undef), some (71, undef), some (72, .bool true), some (73, .bool true), some (74, undef), some (75, undef), some (76, undef), some (77, undef), some (78, undef), some (79, .bool true), some (80, .bool true), some (81, undef), some (82, undef), some (83, undef), some (84, undef), some (85, undef), some (86, undef), some (87, .bool true)]
/-- the frame while the region GC4 runs -/
def BaseGC4 (B : Nat) (a : Act) : Prop := ∃ u : Nat → Value, a = ⟨#[u 0, .pointer (some ⟨B, 0, none⟩), u 2, u 3, u 4, u 5, u 6, u 7, u 8, u 9, u 10, u 11, u 12, u 13, u 14, u 15, u 16, u 17, u 18, u 19, u 20, u 21, u 22, u 23, u 24, u 25, u 26, u 27, u 28, u 29, u 30, u 31, u 32, u 33, u 34, u 35, u 36, u 37, u 38, u 39, u 40, u 41, u 42, u 43, u 44, u 45, u 46, u 47, u 48, u 49, u 50, u 51, u 52, u 53, u 54, u 55, u 56, u 57, u 58, u 59, u 60, u 61, u 62, u 63, u 64, u 65, u 66, u 67, u 68, u 69, u 70, u 71, u 72, u 73, u 74, u 75, u 76, u 77, u 78, u 79, u 80, u 81, u 82, u 83, u 84, u 85, u 86, u 87], []⟩
theorem BaseGC4.of {B : Nat} (arr : Array Value) (h : arr = #[arr.getD 0 undef, .pointer (some ⟨B, 0, none⟩), arr.getD 2 undef, arr.getD 3 undef, arr.getD 4 undef, arr.getD 5 undef, arr.getD 6 undef, arr.getD 7 undef, arr.getD 8 undef, arr.getD 9 undef, arr.getD 10 undef, arr.getD 11 undef, arr.getD 12 undef, arr.getD 13 undef, arr.getD 14 undef, arr.getD 15 undef, arr.getD 16 undef, arr.getD 17 undef, arr.getD 18 undef, arr.getD 19 undef, arr.getD 20 undef, arr.getD 21 undef, arr.getD 22 undef, arr.getD 23 undef, arr.getD 24 undef, arr.getD 25 undef, arr.getD 26 undef, arr.getD 27 undef, arr.getD 28 undef, arr.getD 29 undef, arr.getD 30 undef, arr.getD 31 undef, arr.getD 32 undef, arr.getD 33 undef, arr.getD 34 undef, arr.getD 35 undef, arr.getD 36 undef, arr.getD 37 undef, arr.getD 38 undef, arr.getD 39 undef, arr.getD 40 undef, arr.getD 41 undef, arr.getD 42 undef, arr.getD 43 undef, arr.getD 44 undef, arr.getD 45 undef, arr.getD 46 undef, arr.getD 47 undef, arr.getD 48 undef, arr.getD 49 undef, arr.getD 50 undef, arr.getD 51 undef, arr.getD 52 undef, arr.getD 53 undef, arr.getD 54 undef, arr.getD 55 undef, arr.getD 56 undef, arr.getD 57 undef, arr.getD 58 undef, arr.getD 59 undef, arr.getD 60 undef, arr.getD 61 undef, arr.getD 62 undef, arr.getD 63 undef, arr.getD 64 undef, arr.getD 65 undef, arr.getD 66 undef, arr.getD 67 undef, arr.getD 68 undef, arr.getD 69 undef, arr.getD 70 undef, arr.getD 71 undef, arr.getD 72 undef, arr.getD 73 undef, arr.getD 74 undef, arr.getD 75 undef, arr.getD 76 undef, arr.getD 77 undef, arr.getD 78 undef, arr.getD 79 undef, arr.getD 80 undef, arr.getD 81 undef, arr.getD 82 undef, arr.getD 83 undef, arr.getD 84 undef, arr.getD 85 undef, arr.getD 86 undef, arr.getD 87 undef]) : BaseGC4 B ⟨arr, []⟩ := ⟨fun i => arr.getD i undef, by rw [← h]⟩
theorem BaseGC4.put37 {B : Nat} (a : Act) (v : Value) (h : BaseGC4 B a) : BaseGC4 B (a.put (some 37) v) := by
  obtain ⟨u, rfl⟩ := h
  exact ⟨fun i => if i = 37 then v else u i, by kernel_rfl⟩
theorem BaseGC4.put38 {B : Nat} (a : Act) (v : Value) (h : BaseGC4 B a) : BaseGC4 B (a.put (some 38) v) := by
  obtain ⟨u, rfl⟩ := h
  exact ⟨fun i => if i = 38 then v else u i, by kernel_rfl⟩
theorem BaseGC4.put39 {B : Nat} (a : Act) (v : Value) (h : BaseGC4 B a) : BaseGC4 B (a.put (some 39) v) := by
  obtain ⟨u, rfl⟩ := h
  exact ⟨fun i => if i = 39 then v else u i, by kernel_rfl⟩
theorem BaseGC4.put40 {B : Nat} (a : Act) (v : Value) (h : BaseGC4 B a) : BaseGC4 B (a.put (some 40) v) := by
  obtain ⟨u, rfl⟩ := h
  exact ⟨fun i => if i = 40 then v else u i, by kernel_rfl⟩
theorem BaseGC4.put41 {B : Nat} (a : Act) (v : Value) (h : BaseGC4 B a) : BaseGC4 B (a.put (some 41) v) := by
  obtain ⟨u, rfl⟩ := h
  exact ⟨fun i => if i = 41 then v else u i, by kernel_rfl⟩
theorem BaseGC4.put42 {B : Nat} (a : Act) (v : Value) (h : BaseGC4 B a) : BaseGC4 B (a.put (some 42) v) := by
  obtain ⟨u, rfl⟩ := h
  exact ⟨fun i => if i = 42 then v else u i, by kernel_rfl⟩
theorem BaseGC4.put43 {B : Nat} (a : Act) (v : Value) (h : BaseGC4 B a) : BaseGC4 B (a.put (some 43) v) := by
  obtain ⟨u, rfl⟩ := h
  exact ⟨fun i => if i = 43 then v else u i, by kernel_rfl⟩
theorem BaseGC4.put44 {B : Nat} (a : Act) (v : Value) (h : BaseGC4 B a) : BaseGC4 B (a.put (some 44) v) := by
  obtain ⟨u, rfl⟩ := h
  exact ⟨fun i => if i = 44 then v else u i, by kernel_rfl⟩
theorem BaseGC4.put45 {B : Nat} (a : Act) (v : Value) (h : BaseGC4 B a) : BaseGC4 B (a.put (some 45) v) := by
  obtain ⟨u, rfl⟩ := h
  exact ⟨fun i => if i = 45 then v else u i, by kernel_rfl⟩
theorem BaseGC4.put46 {B : Nat} (a : Act) (v : Value) (h : BaseGC4 B a) : BaseGC4 B (a.put (some 46) v) := by
  obtain ⟨u, rfl⟩ := h
  exact ⟨fun i => if i = 46 then v else u i, by kernel_rfl⟩
theorem BaseGC4.put47 {B : Nat} (a : Act) (v : Value) (h : BaseGC4 B a) : BaseGC4 B (a.put (some 47) v) := by
  obtain ⟨u, rfl⟩ := h
  exact ⟨fun i => if i = 47 then v else u i, by kernel_rfl⟩
theorem BaseGC4.put48 {B : Nat} (a : Act) (v : Value) (h : BaseGC4 B a) : BaseGC4 B (a.put (some 48) v) := by
  obtain ⟨u, rfl⟩ := h
  exact ⟨fun i => if i = 48 then v else u i, by kernel_rfl⟩
theorem BaseGC4.put49 {B : Nat} (a : Act) (v : Value) (h : BaseGC4 B a) : BaseGC4 B (a.put (some 49) v) := by
  obtain ⟨u, rfl⟩ := h
  exact ⟨fun i => if i = 49 then v else u i, by kernel_rfl⟩
theorem BaseGC4.put50 {B : Nat} (a : Act) (v : Value) (h : BaseGC4 B a) : BaseGC4 B (a.put (some 50) v) := by
  obtain ⟨u, rfl⟩ := h
  exact ⟨fun i => if i = 50 then v else u i, by kernel_rfl⟩
theorem BaseGC4.put51 {B : Nat} (a : Act) (v : Value) (h : BaseGC4 B a) : BaseGC4 B (a.put (some 51) v) := by
  obtain ⟨u, rfl⟩ := h
  exact ⟨fun i => if i = 51 then v else u i, by kernel_rfl⟩
theorem BaseGC4.put52 {B : Nat} (a : Act) (v : Value) (h : BaseGC4 B a) : BaseGC4 B (a.put (some 52) v) := by
  obtain ⟨u, rfl⟩ := h
  exact ⟨fun i => if i = 52 then v else u i, by kernel_rfl⟩
theorem BaseGC4.put53 {B : Nat} (a : Act) (v : Value) (h : BaseGC4 B a) : BaseGC4 B (a.put (some 53) v) := by
  obtain ⟨u, rfl⟩ := h
  exact ⟨fun i => if i = 53 then v else u i, by kernel_rfl⟩
theorem BaseGC4.put54 {B : Nat} (a : Act) (v : Value) (h : BaseGC4 B a) : BaseGC4 B (a.put (some 54) v) := by
  obtain ⟨u, rfl⟩ := h
  exact ⟨fun i => if i = 54 then v else u i, by kernel_rfl⟩
theorem BaseGC4.put55 {B : Nat} (a : Act) (v : Value) (h : BaseGC4 B a) : BaseGC4 B (a.put (some 55) v) := by
  obtain ⟨u, rfl⟩ := h
  exact ⟨fun i => if i = 55 then v else u i, by kernel_rfl⟩
theorem BaseGC4.put56 {B : Nat} (a : Act) (v : Value) (h : BaseGC4 B a) : BaseGC4 B (a.put (some 56) v) := by
  obtain ⟨u, rfl⟩ := h
  exact ⟨fun i => if i = 56 then v else u i, by kernel_rfl⟩
theorem BaseGC4.put57 {B : Nat} (a : Act) (v : Value) (h : BaseGC4 B a) : BaseGC4 B (a.put (some 57) v) := by
  obtain ⟨u, rfl⟩ := h
  exact ⟨fun i => if i = 57 then v else u i, by kernel_rfl⟩
theorem BaseGC4.put58 {B : Nat} (a : Act) (v : Value) (h : BaseGC4 B a) : BaseGC4 B (a.put (some 58) v) := by
  obtain ⟨u, rfl⟩ := h
  exact ⟨fun i => if i = 58 then v else u i, by kernel_rfl⟩
theorem BaseGC4.put59 {B : Nat} (a : Act) (v : Value) (h : BaseGC4 B a) : BaseGC4 B (a.put (some 59) v) := by
  obtain ⟨u, rfl⟩ := h
  exact ⟨fun i => if i = 59 then v else u i, by kernel_rfl⟩
theorem BaseGC4.put60 {B : Nat} (a : Act) (v : Value) (h : BaseGC4 B a) : BaseGC4 B (a.put (some 60) v) := by
  obtain ⟨u, rfl⟩ := h
  exact ⟨fun i => if i = 60 then v else u i, by kernel_rfl⟩
theorem BaseGC4.put61 {B : Nat} (a : Act) (v : Value) (h : BaseGC4 B a) : BaseGC4 B (a.put (some 61) v) := by
  obtain ⟨u, rfl⟩ := h
  exact ⟨fun i => if i = 61 then v else u i, by kernel_rfl⟩
theorem BaseGC4.put62 {B : Nat} (a : Act) (v : Value) (h : BaseGC4 B a) : BaseGC4 B (a.put (some 62) v) := by
  obtain ⟨u, rfl⟩ := h
  exact ⟨fun i => if i = 62 then v else u i, by kernel_rfl⟩
theorem BaseGC4.put63 {B : Nat} (a : Act) (v : Value) (h : BaseGC4 B a) : BaseGC4 B (a.put (some 63) v) := by
  obtain ⟨u, rfl⟩ := h
  exact ⟨fun i => if i = 63 then v else u i, by kernel_rfl⟩
theorem BaseGC4.put64 {B : Nat} (a : Act) (v : Value) (h : BaseGC4 B a) : BaseGC4 B (a.put (some 64) v) := by
  obtain ⟨u, rfl⟩ := h
  exact ⟨fun i => if i = 64 then v else u i, by kernel_rfl⟩
theorem BaseGC4.put65 {B : Nat} (a : Act) (v : Value) (h : BaseGC4 B a) : BaseGC4 B (a.put (some 65) v) := by
  obtain ⟨u, rfl⟩ := h
  exact ⟨fun i => if i = 65 then v else u i, by kernel_rfl⟩
theorem BaseGC4.put66 {B : Nat} (a : Act) (v : Value) (h : BaseGC4 B a) : BaseGC4 B (a.put (some 66) v) := by
  obtain ⟨u, rfl⟩ := h
  exact ⟨fun i => if i = 66 then v else u i, by kernel_rfl⟩
theorem BaseGC4.put67 {B : Nat} (a : Act) (v : Value) (h : BaseGC4 B a) : BaseGC4 B (a.put (some 67) v) := by
  obtain ⟨u, rfl⟩ := h
  exact ⟨fun i => if i = 67 then v else u i, by kernel_rfl⟩
theorem BaseGC4.put68 {B : Nat} (a : Act) (v : Value) (h : BaseGC4 B a) : BaseGC4 B (a.put (some 68) v) := by
  obtain ⟨u, rfl⟩ := h
  exact ⟨fun i => if i = 68 then v else u i, by kernel_rfl⟩
theorem BaseGC4.put69 {B : Nat} (a : Act) (v : Value) (h : BaseGC4 B a) : BaseGC4 B (a.put (some 69) v) := by
  obtain ⟨u, rfl⟩ := h
  exact ⟨fun i => if i = 69 then v else u i, by kernel_rfl⟩
theorem BaseGC4.put70 {B : Nat} (a : Act) (v : Value) (h : BaseGC4 B a) : BaseGC4 B (a.put (some 70) v) := by
  obtain ⟨u, rfl⟩ := h
  exact ⟨fun i => if i = 70 then v else u i, by kernel_rfl⟩
theorem BaseGC4.put71 {B : Nat} (a : Act) (v : Value) (h : BaseGC4 B a) : BaseGC4 B (a.put (some 71) v) := by
  obtain ⟨u, rfl⟩ := h
  exact ⟨fun i => if i = 71 then v else u i, by kernel_rfl⟩
theorem BaseGC4.put72 {B : Nat} (a : Act) (v : Value) (h : BaseGC4 B a) : BaseGC4 B (a.put (some 72) v) := by
  obtain ⟨u, rfl⟩ := h
  exact ⟨fun i => if i = 72 then v else u i, by kernel_rfl⟩
theorem BaseGC4.put73 {B : Nat} (a : Act) (v : Value) (h : BaseGC4 B a) : BaseGC4 B (a.put (some 73) v) := by
  obtain ⟨u, rfl⟩ := h
  exact ⟨fun i => if i = 73 then v else u i, by kernel_rfl⟩
theorem BaseGC4.put74 {B : Nat} (a : Act) (v : Value) (h : BaseGC4 B a) : BaseGC4 B (a.put (some 74) v) := by
  obtain ⟨u, rfl⟩ := h
  exact ⟨fun i => if i = 74 then v else u i, by kernel_rfl⟩
theorem BaseGC4.put75 {B : Nat} (a : Act) (v : Value) (h : BaseGC4 B a) : BaseGC4 B (a.put (some 75) v) := by
  obtain ⟨u, rfl⟩ := h
  exact ⟨fun i => if i = 75 then v else u i, by kernel_rfl⟩
theorem BaseGC4.put76 {B : Nat} (a : Act) (v : Value) (h : BaseGC4 B a) : BaseGC4 B (a.put (some 76) v) := by
  obtain ⟨u, rfl⟩ := h
  exact ⟨fun i => if i = 76 then v else u i, by kernel_rfl⟩
theorem BaseGC4.put77 {B : Nat} (a : Act) (v : Value) (h : BaseGC4 B a) : BaseGC4 B (a.put (some 77) v) := by
  obtain ⟨u, rfl⟩ := h
  exact ⟨fun i => if i = 77 then v else u i, by kernel_rfl⟩
theorem BaseGC4.put78 {B : Nat} (a : Act) (v : Value) (h : BaseGC4 B a) : BaseGC4 B (a.put (some 78) v) := by
  obtain ⟨u, rfl⟩ := h
  exact ⟨fun i => if i = 78 then v else u i, by kernel_rfl⟩
theorem BaseGC4.put79 {B : Nat} (a : Act) (v : Value) (h : BaseGC4 B a) : BaseGC4 B (a.put (some 79) v) := by
  obtain ⟨u, rfl⟩ := h
  exact ⟨fun i => if i = 79 then v else u i, by kernel_rfl⟩
theorem BaseGC4.put80 {B : Nat} (a : Act) (v : Value) (h : BaseGC4 B a) : BaseGC4 B (a.put (some 80) v) := by
  obtain ⟨u, rfl⟩ := h
  exact ⟨fun i => if i = 80 then v else u i, by kernel_rfl⟩
theorem BaseGC4.put81 {B : Nat} (a : Act) (v : Value) (h : BaseGC4 B a) : BaseGC4 B (a.put (some 81) v) := by
  obtain ⟨u, rfl⟩ := h
  exact ⟨fun i => if i = 81 then v else u i, by kernel_rfl⟩
theorem BaseGC4.put82 {B : Nat} (a : Act) (v : Value) (h : BaseGC4 B a) : BaseGC4 B (a.put (some 82) v) := by
  obtain ⟨u, rfl⟩ := h
  exact ⟨fun i => if i = 82 then v else u i, by kernel_rfl⟩
theorem BaseGC4.put83 {B : Nat} (a : Act) (v : Value) (h : BaseGC4 B a) : BaseGC4 B (a.put (some 83) v) := by
  obtain ⟨u, rfl⟩ := h
  exact ⟨fun i => if i = 83 then v else u i, by kernel_rfl⟩
theorem BaseGC4.put84 {B : Nat} (a : Act) (v : Value) (h : BaseGC4 B a) : BaseGC4 B (a.put (some 84) v) := by
  obtain ⟨u, rfl⟩ := h
  exact ⟨fun i => if i = 84 then v else u i, by kernel_rfl⟩
theorem BaseGC4.put85 {B : Nat} (a : Act) (v : Value) (h : BaseGC4 B a) : BaseGC4 B (a.put (some 85) v) := by
  obtain ⟨u, rfl⟩ := h
  exact ⟨fun i => if i = 85 then v else u i, by kernel_rfl⟩
theorem BaseGC4.put86 {B : Nat} (a : Act) (v : Value) (h : BaseGC4 B a) : BaseGC4 B (a.put (some 86) v) := by
  obtain ⟨u, rfl⟩ := h
  exact ⟨fun i => if i = 86 then v else u i, by kernel_rfl⟩
theorem BaseGC4.put87 {B : Nat} (a : Act) (v : Value) (h : BaseGC4 B a) : BaseGC4 B (a.put (some 87) v) := by
  obtain ⟨u, rfl⟩ := h
  exact ⟨fun i => if i = 87 then v else u i, by kernel_rfl⟩

set_option maxHeartbeats 2000000 in
set_option maxRecDepth 100000 in
theorem rge_check_4 (b l y n s r : Int) (w : World) (h : FirstG b l y) (hs : 0 ≤ s ∧ s ≤ 16 ∧ s ≤ b - 8 ∧ r < 2) : Calls Try.prog 9 #[.agg (gv b l y n s r)] w (ChkT b l y n s r w) := by
  have hno : ¬ OkG b l y n s r := fun ⟨⟨h1, h2, h3, h4, h5, h6, h7, h8, h9, h10, h11, h12, h13, h14⟩, h15, h16⟩ => by omega
  unfold ChkT
  rw [chk_no hno]
  obtain ⟨h1, h2, h3, h4, h5, h6, h7⟩ := h
  have hf : (8 ≤ b ∧ b ≤ 64 ∧ 6 ≤ l ∧ l ≤ 64) ∧ (0 ≤ s ∧ s ≤ 16 ∧ s ≤ b - 8 ∧ r < 2) := ⟨⟨h1, h2, h3, h4⟩, hs⟩
  have HF := Lib.hid hf
  have HC0 : Hid (CG w b l y n s r (w.alloc (.cells (gv b l y n s r) 23))) := ⟨Blk.new w _ _, (Below.refl w.heap.size w).alloc (Nat.le_refl _) _⟩
  clear hf hs hno
  go_enter Try.func9, Try.ntmps9
  unfold gv at *
  go_wp2_with fail

  rename_i K0 hK0
  refine wp_region_list3 (SV (vsGC4 w.heap.size b s r) []) (BaseGC4 w.heap.size) (CG w b l y n s r) Goes (RV (vsGC4 w.heap.size b s r) (fun _ _ _ => False)) rfl (by kernel_rfl) (RV.ext no_special6) ?_ HC0.out.drew (BaseGC4.of _ (by kernel_rfl)) ?_ ?_
  · exact ⟨BaseGC4.put37, BaseGC4.put38, BaseGC4.put39, BaseGC4.put40, BaseGC4.put41, BaseGC4.put42, BaseGC4.put43, BaseGC4.put44, BaseGC4.put45, BaseGC4.put46, BaseGC4.put47, BaseGC4.put48, BaseGC4.put49, BaseGC4.put50, BaseGC4.put51, BaseGC4.put52, BaseGC4.put53, BaseGC4.put54, BaseGC4.put55, BaseGC4.put56, BaseGC4.put57, BaseGC4.put58, BaseGC4.put59, BaseGC4.put60, BaseGC4.put61, BaseGC4.put62, BaseGC4.put63, BaseGC4.put64, BaseGC4.put65, BaseGC4.put66, BaseGC4.put67, BaseGC4.put68, BaseGC4.put69, BaseGC4.put70, BaseGC4.put71, BaseGC4.put72, BaseGC4.put73, BaseGC4.put74, BaseGC4.put75, BaseGC4.put76, BaseGC4.put77, BaseGC4.put78, BaseGC4.put79, BaseGC4.put80, BaseGC4.put81, BaseGC4.put82, BaseGC4.put83, BaseGC4.put84, BaseGC4.put85, BaseGC4.put86, BaseGC4.put87, trivial⟩
  · refine ⟨?_, ?_, ?_, ?_, ?_, ?_, ?_, ?_, ?_, ?_, ?_, ?_, ?_, ?_, ?_, ?_, ?_, ?_, ?_, ?_, ?_, ?_, ?_, ?_, ?_, ?_, ?_, ?_, ?_, ?_, ?_, ?_, ?_, ?_, ?_, ?_, ?_, ?_, ?_, ?_, ?_, ?_, ?_, ?_, ?_, ?_, ?_, ?_, ?_, ?_, ?_, trivial⟩
    all_goals
      intro a w' hC hB hR
      obtain ⟨u, rfl⟩ := hB
      have HC := Lib.hid hC
      clear hC
      clear hK0
    · clear hR
      refine if_yes (by kernel_rfl) ?_
      unfold Oper.wp
      go_simp
      exact ⟨.pointer (some ⟨w.heap.size, 4, none⟩), rfl, HC.out, Below.refl _ _, rfl⟩
    · have h37 : u 37 = .pointer (some ⟨w.heap.size, 4, none⟩) := hR ⟨0, .data⟩ (by simp) rfl
      have hc : w'.cell? ⟨w.heap.size, 4, none⟩ = some (.int .i64 s) := HC.out.1.cell 4
      clear hR
      simp only [h37]
      clear h37
      refine if_yes (by kernel_rfl) ?_
      unfold Oper.wp
      go_simp
      exact ⟨.int .i64 s, rfl, HC.out, Below.refl _ _, rfl⟩
    · have h38 : u 38 = .int .i64 s := hR ⟨1, .data⟩ (by simp) rfl
      clear hR
      simp only [h38]
      clear h38
      refine if_yes (by kernel_rfl) ?_
      have hf := HF.out
      unfold Oper.wp
      go_simp
      exact ⟨_, rfl, HC.out, Below.refl _ _, congrArg Value.bool (by first | rfl | (simp; done) | (simp; omega))⟩
    · have h39 : u 39 = .bool false := hR ⟨2, .data⟩ (by simp) rfl
      clear hR
      simp only [h39]
      clear h39
      refine if_yes (by kernel_rfl) ?_
      unfold Oper.wp
      go_simp
      exact ⟨.bool false, rfl, HC.out, Below.refl _ _, rfl⟩
    · have g40 : u 40 = .bool false := hR ⟨3, .guard⟩ (by simp) rfl
      clear hR
      simp only [g40]
      clear g40
      refine if_yes (by kernel_rfl) ?_
      unfold Oper.wp
      go_simp
      exact ⟨.pointer (some ⟨w.heap.size, 4, none⟩), rfl, HC.out, Below.refl _ _, rfl⟩
    · have g40 : u 40 = .bool false := hR ⟨3, .guard⟩ (by simp) rfl
      have h41 : u 41 = .pointer (some ⟨w.heap.size, 4, none⟩) := hR ⟨4, .data⟩ (by simp) rfl
      have hc : w'.cell? ⟨w.heap.size, 4, none⟩ = some (.int .i64 s) := HC.out.1.cell 4
      clear hR
      simp only [g40, h41]
      clear g40 h41
      refine if_yes (by kernel_rfl) ?_
      unfold Oper.wp
      go_simp
      exact ⟨.int .i64 s, rfl, HC.out, Below.refl _ _, rfl⟩
    · have g40 : u 40 = .bool false := hR ⟨3, .guard⟩ (by simp) rfl
      have h42 : u 42 = .int .i64 s := hR ⟨5, .data⟩ (by simp) rfl
      clear hR
      simp only [g40, h42]
      clear g40 h42
      refine if_yes (by kernel_rfl) ?_
      have hf := HF.out
      unfold Oper.wp
      go_simp
      exact ⟨_, rfl, HC.out, Below.refl _ _, congrArg Value.bool (by first | rfl | (simp; done) | (simp; omega))⟩
    · have h40 : u 40 = .bool false := hR ⟨3, .data⟩ (by simp) rfl
      have h43 : u 43 = .bool false := hR ⟨6, .data⟩ (by simp) rfl
      clear hR
      simp only [h40, h43]
      clear h40 h43
      refine if_yes (by kernel_rfl) ?_
      unfold Oper.wp
      go_simp
      exact ⟨.bool false, rfl, HC.out, Below.refl _ _, rfl⟩
    · have h44 : u 44 = .bool false := hR ⟨7, .data⟩ (by simp) rfl
      clear hR
      simp only [h44]
      clear h44
      refine if_yes (by kernel_rfl) ?_
      unfold Oper.wp
      go_simp
      exact ⟨.bool false, rfl, HC.out, Below.refl _ _, rfl⟩
    · have g45 : u 45 = .bool false := hR ⟨8, .guard⟩ (by simp) rfl
      clear hR
      simp only [g45]
      clear g45
      refine if_yes (by kernel_rfl) ?_
      unfold Oper.wp
      go_simp
      exact ⟨.pointer (some ⟨w.heap.size, 4, none⟩), rfl, HC.out, Below.refl _ _, rfl⟩
    · have g45 : u 45 = .bool false := hR ⟨8, .guard⟩ (by simp) rfl
      have h46 : u 46 = .pointer (some ⟨w.heap.size, 4, none⟩) := hR ⟨9, .data⟩ (by simp) rfl
      have hc : w'.cell? ⟨w.heap.size, 4, none⟩ = some (.int .i64 s) := HC.out.1.cell 4
      clear hR
      simp only [g45, h46]
      clear g45 h46
      refine if_yes (by kernel_rfl) ?_
      unfold Oper.wp
      go_simp
      exact ⟨.int .i64 s, rfl, HC.out, Below.refl _ _, rfl⟩
    · have g45 : u 45 = .bool false := hR ⟨8, .guard⟩ (by simp) rfl
      clear hR
      simp only [g45]
      clear g45
      refine if_yes (by kernel_rfl) ?_
      unfold Oper.wp
      go_simp
      exact ⟨.pointer (some ⟨w.heap.size, 0, none⟩), rfl, HC.out, Below.refl _ _, rfl⟩
    · have g45 : u 45 = .bool false := hR ⟨8, .guard⟩ (by simp) rfl
      have h48 : u 48 = .pointer (some ⟨w.heap.size, 0, none⟩) := hR ⟨11, .data⟩ (by simp) rfl
      have hc : w'.cell? ⟨w.heap.size, 0, none⟩ = some (.int .i64 b) := HC.out.1.cell 0
      clear hR
      simp only [g45, h48]
      clear g45 h48
      refine if_yes (by kernel_rfl) ?_
      unfold Oper.wp
      go_simp
      exact ⟨.int .i64 b, rfl, HC.out, Below.refl _ _, rfl⟩
    · have g45 : u 45 = .bool false := hR ⟨8, .guard⟩ (by simp) rfl
      have h49 : u 49 = .int .i64 b := hR ⟨12, .data⟩ (by simp) rfl
      have hf := HF.out
      have hw : IntKind.i64.wrap (b - 8) = b - 8 := by rw [IntKind.wrap_i64]; omega
      clear hf
      clear hR
      simp only [g45, h49]
      clear g45 h49
      refine if_yes (by kernel_rfl) ?_
      unfold Oper.wp
      go_simp
      exact ⟨.int .i64 (b - 8), rfl, HC.out, Below.refl _ _, rfl⟩
    · have g45 : u 45 = .bool false := hR ⟨8, .guard⟩ (by simp) rfl
      have h47 : u 47 = .int .i64 s := hR ⟨10, .data⟩ (by simp) rfl
      have h50 : u 50 = .int .i64 (b - 8) := hR ⟨13, .data⟩ (by simp) rfl
      clear hR
      simp only [g45, h47, h50]
      clear g45 h47 h50
      refine if_yes (by kernel_rfl) ?_
      have hf := HF.out
      unfold Oper.wp
      go_simp
      exact ⟨_, rfl, HC.out, Below.refl _ _, congrArg Value.bool (by first | rfl | (simp; done) | (simp; omega))⟩
    · have h45 : u 45 = .bool false := hR ⟨8, .data⟩ (by simp) rfl
      have h51 : u 51 = .bool false := hR ⟨14, .data⟩ (by simp) rfl
      clear hR
      simp only [h45, h51]
      clear h45 h51
      refine if_yes (by kernel_rfl) ?_
      unfold Oper.wp
      go_simp
      exact ⟨.bool false, rfl, HC.out, Below.refl _ _, rfl⟩
    · have h52 : u 52 = .bool false := hR ⟨15, .data⟩ (by simp) rfl
      clear hR
      simp only [h52]
      clear h52
      refine if_yes (by kernel_rfl) ?_
      unfold Oper.wp
      go_simp
      exact ⟨.bool false, rfl, HC.out, Below.refl _ _, rfl⟩
    · have g53 : u 53 = .bool false := hR ⟨16, .guard⟩ (by simp) rfl
      clear hR
      simp only [g53]
      clear g53
      refine if_yes (by kernel_rfl) ?_
      unfold Oper.wp
      go_simp
      exact ⟨.pointer (some ⟨w.heap.size, 5, none⟩), rfl, HC.out, Below.refl _ _, rfl⟩
    · have g53 : u 53 = .bool false := hR ⟨16, .guard⟩ (by simp) rfl
      have h54 : u 54 = .pointer (some ⟨w.heap.size, 5, none⟩) := hR ⟨17, .data⟩ (by simp) rfl
      have hc : w'.cell? ⟨w.heap.size, 5, none⟩ = some (.int .i64 r) := HC.out.1.cell 5
      clear hR
      simp only [g53, h54]
      clear g53 h54
      refine if_yes (by kernel_rfl) ?_
      unfold Oper.wp
      go_simp
      exact ⟨.int .i64 r, rfl, HC.out, Below.refl _ _, rfl⟩
    · have g53 : u 53 = .bool false := hR ⟨16, .guard⟩ (by simp) rfl
      have h55 : u 55 = .int .i64 r := hR ⟨18, .data⟩ (by simp) rfl
      clear hR
      simp only [g53, h55]
      clear g53 h55
      refine if_yes (by kernel_rfl) ?_
      have hf := HF.out
      unfold Oper.wp
      go_simp
      exact ⟨_, rfl, HC.out, Below.refl _ _, congrArg Value.bool (by first | rfl | (simp; done) | (simp; omega))⟩
    · have h53 : u 53 = .bool false := hR ⟨16, .data⟩ (by simp) rfl
      have h56 : u 56 = .bool true := hR ⟨19, .data⟩ (by simp) rfl
      clear hR
      simp only [h53, h56]
      clear h53 h56
      refine if_yes (by kernel_rfl) ?_
      unfold Oper.wp
      go_simp
      exact ⟨.bool true, rfl, HC.out, Below.refl _ _, rfl⟩
    · have h57 : u 57 = .bool true := hR ⟨20, .data⟩ (by simp) rfl
      clear hR
      simp only [h57]
      clear h57
      refine if_yes (by kernel_rfl) ?_
      unfold Oper.wp
      go_simp
      exact ⟨.bool true, rfl, HC.out, Below.refl _ _, rfl⟩
    · have g58 : u 58 = .bool true := hR ⟨21, .guard⟩ (by simp) rfl
      clear hR
      simp only [g58]
      clear g58
      refine if_no (by kernel_rfl) ?_
      exact ⟨undef, rfl, HC.out, Below.refl _ _, rfl⟩
    · have g58 : u 58 = .bool true := hR ⟨21, .guard⟩ (by simp) rfl
      have h59 : u 59 = undef := hR ⟨22, .data⟩ (by simp) rfl
      clear hR
      simp only [g58, h59]
      clear g58 h59
      refine if_no (by kernel_rfl) ?_
      exact ⟨undef, rfl, HC.out, Below.refl _ _, rfl⟩
    · have g58 : u 58 = .bool true := hR ⟨21, .guard⟩ (by simp) rfl
      have h60 : u 60 = undef := hR ⟨23, .data⟩ (by simp) rfl
      clear hR
      simp only [g58, h60]
      clear g58 h60
      refine if_no (by kernel_rfl) ?_
      exact ⟨undef, rfl, HC.out, Below.refl _ _, rfl⟩
    · have h58 : u 58 = .bool true := hR ⟨21, .data⟩ (by simp) rfl
      have h61 : u 61 = undef := hR ⟨24, .data⟩ (by simp) rfl
      clear hR
      simp only [h58, h61]
      clear h58 h61
      refine if_yes (by kernel_rfl) ?_
      unfold Oper.wp
      go_simp
      exact ⟨.bool true, rfl, HC.out, Below.refl _ _, rfl⟩
    · have h62 : u 62 = .bool true := hR ⟨25, .data⟩ (by simp) rfl
      clear hR
      simp only [h62]
      clear h62
      refine if_yes (by kernel_rfl) ?_
      unfold Oper.wp
      go_simp
      exact ⟨.bool true, rfl, HC.out, Below.refl _ _, rfl⟩
    · have g63 : u 63 = .bool true := hR ⟨26, .guard⟩ (by simp) rfl
      clear hR
      simp only [g63]
      clear g63
      refine if_no (by kernel_rfl) ?_
      exact ⟨undef, rfl, HC.out, Below.refl _ _, rfl⟩
    · have g63 : u 63 = .bool true := hR ⟨26, .guard⟩ (by simp) rfl
      have h64 : u 64 = undef := hR ⟨27, .data⟩ (by simp) rfl
      clear hR
      simp only [g63, h64]
      clear g63 h64
      refine if_no (by kernel_rfl) ?_
      exact ⟨undef, rfl, HC.out, Below.refl _ _, rfl⟩
    · have g63 : u 63 = .bool true := hR ⟨26, .guard⟩ (by simp) rfl
      have h65 : u 65 = undef := hR ⟨28, .data⟩ (by simp) rfl
      clear hR
      simp only [g63, h65]
      clear g63 h65
      refine if_no (by kernel_rfl) ?_
      exact ⟨undef, rfl, HC.out, Below.refl _ _, rfl⟩
    · have h63 : u 63 = .bool true := hR ⟨26, .data⟩ (by simp) rfl
      have h66 : u 66 = undef := hR ⟨29, .data⟩ (by simp) rfl
      clear hR
      simp only [h63, h66]
      clear h63 h66
      refine if_yes (by kernel_rfl) ?_
      unfold Oper.wp
      go_simp
      exact ⟨.bool true, rfl, HC.out, Below.refl _ _, rfl⟩
    · have h67 : u 67 = .bool true := hR ⟨30, .data⟩ (by simp) rfl
      clear hR
      simp only [h67]
      clear h67
      refine if_yes (by kernel_rfl) ?_
      unfold Oper.wp
      go_simp
      exact ⟨.bool true, rfl, HC.out, Below.refl _ _, rfl⟩
    · have g68 : u 68 = .bool true := hR ⟨31, .guard⟩ (by simp) rfl
      clear hR
      simp only [g68]
      clear g68
      refine if_no (by kernel_rfl) ?_
      exact ⟨undef, rfl, HC.out, Below.refl _ _, rfl⟩
    · have g68 : u 68 = .bool true := hR ⟨31, .guard⟩ (by simp) rfl
      have h69 : u 69 = undef := hR ⟨32, .data⟩ (by simp) rfl
      clear hR
      simp only [g68, h69]
      clear g68 h69
      refine if_no (by kernel_rfl) ?_
      exact ⟨undef, rfl, HC.out, Below.refl _ _, rfl⟩
    · have g68 : u 68 = .bool true := hR ⟨31, .guard⟩ (by simp) rfl
      have h70 : u 70 = undef := hR ⟨33, .data⟩ (by simp) rfl
      clear hR
      simp only [g68, h70]
      clear g68 h70
      refine if_no (by kernel_rfl) ?_
      exact ⟨undef, rfl, HC.out, Below.refl _ _, rfl⟩
    · have h68 : u 68 = .bool true := hR ⟨31, .data⟩ (by simp) rfl
      have h71 : u 71 = undef := hR ⟨34, .data⟩ (by simp) rfl
      clear hR
      simp only [h68, h71]
      clear h68 h71
      refine if_yes (by kernel_rfl) ?_
      unfold Oper.wp
      go_simp
      exact ⟨.bool true, rfl, HC.out, Below.refl _ _, rfl⟩
    · have h72 : u 72 = .bool true := hR ⟨35, .data⟩ (by simp) rfl
      clear hR
      simp only [h72]
      clear h72
      refine if_yes (by kernel_rfl) ?_
      unfold Oper.wp
      go_simp
      exact ⟨.bool true, rfl, HC.out, Below.refl _ _, rfl⟩
    · have g73 : u 73 = .bool true := hR ⟨36, .guard⟩ (by simp) rfl
      clear hR
      simp only [g73]
      clear g73
      refine if_no (by kernel_rfl) ?_
      exact ⟨undef, rfl, HC.out, Below.refl _ _, rfl⟩
    · have g73 : u 73 = .bool true := hR ⟨36, .guard⟩ (by simp) rfl
      have h74 : u 74 = undef := hR ⟨37, .data⟩ (by simp) rfl
      clear hR
      simp only [g73, h74]
      clear g73 h74
      refine if_no (by kernel_rfl) ?_
      exact ⟨undef, rfl, HC.out, Below.refl _ _, rfl⟩
    · have g73 : u 73 = .bool true := hR ⟨36, .guard⟩ (by simp) rfl
      clear hR
      simp only [g73]
      clear g73
      refine if_no (by kernel_rfl) ?_
      exact ⟨undef, rfl, HC.out, Below.refl _ _, rfl⟩
    · have g73 : u 73 = .bool true := hR ⟨36, .guard⟩ (by simp) rfl
      have h76 : u 76 = undef := hR ⟨39, .data⟩ (by simp) rfl
      clear hR
      simp only [g73, h76]
      clear g73 h76
      refine if_no (by kernel_rfl) ?_
      exact ⟨undef, rfl, HC.out, Below.refl _ _, rfl⟩
    · have g73 : u 73 = .bool true := hR ⟨36, .guard⟩ (by simp) rfl
      have h75 : u 75 = undef := hR ⟨38, .data⟩ (by simp) rfl
      have h77 : u 77 = undef := hR ⟨40, .data⟩ (by simp) rfl
      clear hR
      simp only [g73, h75, h77]
      clear g73 h75 h77
      refine if_no (by kernel_rfl) ?_
      exact ⟨undef, rfl, HC.out, Below.refl _ _, rfl⟩
    · have h73 : u 73 = .bool true := hR ⟨36, .data⟩ (by simp) rfl
      have h78 : u 78 = undef := hR ⟨41, .data⟩ (by simp) rfl
      clear hR
      simp only [h73, h78]
      clear h73 h78
      refine if_yes (by kernel_rfl) ?_
      unfold Oper.wp
      go_simp
      exact ⟨.bool true, rfl, HC.out, Below.refl _ _, rfl⟩
    · have h79 : u 79 = .bool true := hR ⟨42, .data⟩ (by simp) rfl
      clear hR
      simp only [h79]
      clear h79
      refine if_yes (by kernel_rfl) ?_
      unfold Oper.wp
      go_simp
      exact ⟨.bool true, rfl, HC.out, Below.refl _ _, rfl⟩
    · have g80 : u 80 = .bool true := hR ⟨43, .guard⟩ (by simp) rfl
      clear hR
      simp only [g80]
      clear g80
      refine if_no (by kernel_rfl) ?_
      exact ⟨undef, rfl, HC.out, Below.refl _ _, rfl⟩
    · have g80 : u 80 = .bool true := hR ⟨43, .guard⟩ (by simp) rfl
      have h81 : u 81 = undef := hR ⟨44, .data⟩ (by simp) rfl
      clear hR
      simp only [g80, h81]
      clear g80 h81
      refine if_no (by kernel_rfl) ?_
      exact ⟨undef, rfl, HC.out, Below.refl _ _, rfl⟩
    · have g80 : u 80 = .bool true := hR ⟨43, .guard⟩ (by simp) rfl
      clear hR
      simp only [g80]
      clear g80
      refine if_no (by kernel_rfl) ?_
      exact ⟨undef, rfl, HC.out, Below.refl _ _, rfl⟩
    · have g80 : u 80 = .bool true := hR ⟨43, .guard⟩ (by simp) rfl
      have h83 : u 83 = undef := hR ⟨46, .data⟩ (by simp) rfl
      clear hR
      simp only [g80, h83]
      clear g80 h83
      refine if_no (by kernel_rfl) ?_
      exact ⟨undef, rfl, HC.out, Below.refl _ _, rfl⟩
    · have g80 : u 80 = .bool true := hR ⟨43, .guard⟩ (by simp) rfl
      have h84 : u 84 = undef := hR ⟨47, .data⟩ (by simp) rfl
      clear hR
      simp only [g80, h84]
      clear g80 h84
      refine if_no (by kernel_rfl) ?_
      exact ⟨undef, rfl, HC.out, Below.refl _ _, rfl⟩
    · have g80 : u 80 = .bool true := hR ⟨43, .guard⟩ (by simp) rfl
      have h82 : u 82 = undef := hR ⟨45, .data⟩ (by simp) rfl
      have h85 : u 85 = undef := hR ⟨48, .data⟩ (by simp) rfl
      clear hR
      simp only [g80, h82, h85]
      clear g80 h82 h85
      refine if_no (by kernel_rfl) ?_
      exact ⟨undef, rfl, HC.out, Below.refl _ _, rfl⟩
    · have h80 : u 80 = .bool true := hR ⟨43, .data⟩ (by simp) rfl
      have h86 : u 86 = undef := hR ⟨49, .data⟩ (by simp) rfl
      clear hR
      simp only [h80, h86]
      clear h80 h86
      refine if_yes (by kernel_rfl) ?_
      unfold Oper.wp
      go_simp
      exact ⟨.bool true, rfl, HC.out, Below.refl _ _, rfl⟩
  · intro a w' hC hB hR
    have h87 : a.tmps.getD 87 undef = .bool true := hR 50 (by decide)
    clear hR
    have HE := Lib.hid hC.2
    clear hC
    obtain ⟨u, rfl⟩ := hB
    have h87 : u 87 = .bool true := h87
    simp only [h87]
    clear h87
    go_wp2_with fail
    go_ret
    exact ⟨rfl, HE.out⟩

/-- what each operation of the region GC5 leaves -/
def vsGC5 (B : Nat) (b s r : Int) : List (Option (Tmp × Value)) :=
  [some (37, .pointer (some ⟨B, 4, none⟩)), some (38, .int .i64 s), some (39, .bool false), some (40, .bool false), some (41, .pointer (some ⟨B, 4, none⟩)), some (42, .int .i64 s), some (43, .bool false), some (44, .bool false), some (45, .bool false), some (46, .pointer (some ⟨B, 4, none⟩)), some (47, .int .i64 s), some (48, .pointer (some ⟨B, 0, none⟩)), some (49, .int .i64 b), some (50, .int .i64 (b - 8)), some (51, .bool false), some (52, .bool false), some (53, .bool false), some (54, .pointer (some ⟨B, 5, none⟩)), some (55, .int .i64 r), some (56, .bool false), some (57, .bool false), some (58, .bool false), some (59, .pointer (some ⟨B, 5, none⟩)), some (60, .int .i64 r), some (61, .bool true), some (62, .bool true), some (63, .bool true), some (64, undef), some (65, undef), some (66, undef), some (67, .bool true), some (68, .bool true), some (69, undef), some (70, undef), some (71, undef), some (72, .bool true), some (73, .bool true), some (74, undef), some (75, undef), some (76, undef), some (77, undef), some (78, undef), some (79, .bool true), some (80, .bool true), some (81, undef), some (82, undef), some (83, undef), some (84, undef), some (85, undef), some (86, undef), some (87, .bool true)]
/-- the frame while the region GC5 runs -/
def BaseGC5 (B : Nat) (a : Act) : Prop := ∃ u : Nat → Value, a = ⟨#[u 0, .pointer (some ⟨B, 0, none⟩), u 2, u 3, u 4, u 5, u 6, u 7, u 8, u 9, u 10, u 11, u 12, u 13, u 14, u 15, u 16, u 17, u 18, u 19, u 20, u 21, u 22, u 23, u 24, u 25, u 26, u 27, u 28, u 29, u 30, u 31, u 32, u 33, u 34, u 35, u 36, u 37, u 38, u 39, u 40, u 41, u 42, u 43, u 44, u 45, u 46, u 47, u 48, u 49, u 50, u 51, u 52, u 53, u 54, u 55, u 56, u 57, u 58, u 59, u 60, u 61, u 62, u 63, u 64, u 65, u 66, u 67, u 68, u 69, u 70, u 71, u 72, u 73, u 74, u 75, u 76, u 77, u 78, u 79, u 80, u 81, u 82, u 83, u 84, u 85, u 86, u 87], []⟩
theorem BaseGC5.of {B : Nat} (arr : Array Value) (h : arr = #[arr.getD 0 undef, .pointer (some ⟨B, 0, none⟩), arr.getD 2 undef, arr.getD 3 undef, arr.getD 4 undef, arr.getD 5 undef, arr.getD 6 undef, arr.getD 7 undef, arr.getD 8 undef, arr.getD 9 undef, arr.getD 10 undef, arr.getD 11 undef, arr.getD 12 undef, arr.getD 13 undef, arr.getD 14 undef, arr.getD 15 undef, arr.getD 16 undef, arr.getD 17 undef, arr.getD 18 undef, arr.getD 19 undef, arr.getD 20 undef, arr.getD 21 undef, arr.getD 22 undef, arr.getD 23 undef, arr.getD 24 undef, arr.getD 25 undef, arr.getD 26 undef, arr.getD 27 undef, arr.getD 28 undef, arr.getD 29 undef, arr.getD 30 undef, arr.getD 31 undef, arr.getD 32 undef, arr.getD 33 undef, arr.getD 34 undef, arr.getD 35 undef, arr.getD 36 undef, arr.getD 37 undef, arr.getD 38 undef, arr.getD 39 undef, arr.getD 40 undef, arr.getD 41 undef, arr.getD 42 undef, arr.getD 43 undef, arr.getD 44 undef, arr.getD 45 undef, arr.getD 46 undef, arr.getD 47 undef, arr.getD 48 undef, arr.getD 49 undef, arr.getD 50 undef, arr.getD 51 undef, arr.getD 52 undef, arr.getD 53 undef, arr.getD 54 undef, arr.getD 55 undef, arr.getD 56 undef, arr.getD 57 undef, arr.getD 58 undef, arr.getD 59 undef, arr.getD 60 undef, arr.getD 61 undef, arr.getD 62 undef, arr.getD 63 undef, arr.getD 64 undef, arr.getD 65 undef, arr.getD 66 undef, arr.getD 67 undef, arr.getD 68 undef, arr.getD 69 undef, arr.getD 70 undef, arr.getD 71 undef, arr.getD 72 undef, arr.getD 73 undef, arr.getD 74 undef, arr.getD 75 undef, arr.getD 76 undef, arr.getD 77 undef, arr.getD 78 undef, arr.getD 79 undef, arr.getD 80 undef, arr.getD 81 undef, arr.getD 82 undef, arr.getD 83 undef, arr.getD 84 undef, arr.getD 85 undef, arr.getD 86 undef, arr.getD 87 undef]) : BaseGC5 B ⟨arr, []⟩ := ⟨fun i => arr.getD i undef, by rw [← h]⟩
theorem BaseGC5.put37 {B : Nat} (a : Act) (v : Value) (h : BaseGC5 B a) : BaseGC5 B (a.put (some 37) v) := by
  obtain ⟨u, rfl⟩ := h
  exact ⟨fun i => if i = 37 then v else u i, by kernel_rfl⟩
theorem BaseGC5.put38 {B : Nat} (a : Act) (v : Value) (h : BaseGC5 B a) : BaseGC5 B (a.put (some 38) v) := by
  obtain ⟨u, rfl⟩ := h
  exact ⟨fun i => if i = 38 then v else u i, by kernel_rfl⟩
theorem BaseGC5.put39 {B : Nat} (a : Act) (v : Value) (h : BaseGC5 B a) : BaseGC5 B (a.put (some 39) v) := by
  obtain ⟨u, rfl⟩ := h
  exact ⟨fun i => if i = 39 then v else u i, by kernel_rfl⟩
theorem BaseGC5.put40 {B : Nat} (a : Act) (v : Value) (h : BaseGC5 B a) : BaseGC5 B (a.put (some 40) v) := by
  obtain ⟨u, rfl⟩ := h
  exact ⟨fun i => if i = 40 then v else u i, by kernel_rfl⟩
theorem BaseGC5.put41 {B : Nat} (a : Act) (v : Value) (h : BaseGC5 B a) : BaseGC5 B (a.put (some 41) v) := by
  obtain ⟨u, rfl⟩ := h
  exact ⟨fun i => if i = 41 then v else u i, by kernel_rfl⟩
theorem BaseGC5.put42 {B : Nat} (a : Act) (v : Value) (h : BaseGC5 B a) : BaseGC5 B (a.put (some 42) v) := by
  obtain ⟨u, rfl⟩ := h
  exact ⟨fun i => if i = 42 then v else u i, by kernel_rfl⟩
theorem BaseGC5.put43 {B : Nat} (a : Act) (v : Value) (h : BaseGC5 B a) : BaseGC5 B (a.put (some 43) v) := by
  obtain ⟨u, rfl⟩ := h
  exact ⟨fun i => if i = 43 then v else u i, by kernel_rfl⟩
theorem BaseGC5.put44 {B : Nat} (a : Act) (v : Value) (h : BaseGC5 B a) : BaseGC5 B (a.put (some 44) v) := by
  obtain ⟨u, rfl⟩ := h
  exact ⟨fun i => if i = 44 then v else u i, by kernel_rfl⟩
theorem BaseGC5.put45 {B : Nat} (a : Act) (v : Value) (h : BaseGC5 B a) : BaseGC5 B (a.put (some 45) v) := by
  obtain ⟨u, rfl⟩ := h
  exact ⟨fun i => if i = 45 then v else u i, by kernel_rfl⟩
theorem BaseGC5.put46 {B : Nat} (a : Act) (v : Value) (h : BaseGC5 B a) : BaseGC5 B (a.put (some 46) v) := by
  obtain ⟨u, rfl⟩ := h
  exact ⟨fun i => if i = 46 then v else u i, by kernel_rfl⟩
theorem BaseGC5.put47 {B : Nat} (a : Act) (v : Value) (h : BaseGC5 B a) : BaseGC5 B (a.put (some 47) v) := by
  obtain ⟨u, rfl⟩ := h
  exact ⟨fun i => if i = 47 then v else u i, by kernel_rfl⟩
theorem BaseGC5.put48 {B : Nat} (a : Act) (v : Value) (h : BaseGC5 B a) : BaseGC5 B (a.put (some 48) v) := by
  obtain ⟨u, rfl⟩ := h
  exact ⟨fun i => if i = 48 then v else u i, by kernel_rfl⟩
theorem BaseGC5.put49 {B : Nat} (a : Act) (v : Value) (h : BaseGC5 B a) : BaseGC5 B (a.put (some 49) v) := by
  obtain ⟨u, rfl⟩ := h
  exact ⟨fun i => if i = 49 then v else u i, by kernel_rfl⟩
theorem BaseGC5.put50 {B : Nat} (a : Act) (v : Value) (h : BaseGC5 B a) : BaseGC5 B (a.put (some 50) v) := by
  obtain ⟨u, rfl⟩ := h
  exact ⟨fun i => if i = 50 then v else u i, by kernel_rfl⟩
theorem BaseGC5.put51 {B : Nat} (a : Act) (v : Value) (h : BaseGC5 B a) : BaseGC5 B (a.put (some 51) v) := by
  obtain ⟨u, rfl⟩ := h
  exact ⟨fun i => if i = 51 then v else u i, by kernel_rfl⟩
theorem BaseGC5.put52 {B : Nat} (a : Act) (v : Value) (h : BaseGC5 B a) : BaseGC5 B (a.put (some 52) v) := by
  obtain ⟨u, rfl⟩ := h
  exact ⟨fun i => if i = 52 then v else u i, by kernel_rfl⟩
theorem BaseGC5.put53 {B : Nat} (a : Act) (v : Value) (h : BaseGC5 B a) : BaseGC5 B (a.put (some 53) v) := by
  obtain ⟨u, rfl⟩ := h
  exact ⟨fun i => if i = 53 then v else u i, by kernel_rfl⟩
theorem BaseGC5.put54 {B : Nat} (a : Act) (v : Value) (h : BaseGC5 B a) : BaseGC5 B (a.put (some 54) v) := by
  obtain ⟨u, rfl⟩ := h
  exact ⟨fun i => if i = 54 then v else u i, by kernel_rfl⟩
theorem BaseGC5.put55 {B : Nat} (a : Act) (v : Value) (h : BaseGC5 B a) : BaseGC5 B (a.put (some 55) v) := by
  obtain ⟨u, rfl⟩ := h
  exact ⟨fun i => if i = 55 then v else u i, by kernel_rfl⟩
theorem BaseGC5.put56 {B : Nat} (a : Act) (v : Value) (h : BaseGC5 B a) : BaseGC5 B (a.put (some 56) v) := by
  obtain ⟨u, rfl⟩ := h
  exact ⟨fun i => if i = 56 then v else u i, by kernel_rfl⟩
theorem BaseGC5.put57 {B : Nat} (a : Act) (v : Value) (h : BaseGC5 B a) : BaseGC5 B (a.put (some 57) v) := by
  obtain ⟨u, rfl⟩ := h
  exact ⟨fun i => if i = 57 then v else u i, by kernel_rfl⟩
theorem BaseGC5.put58 {B : Nat} (a : Act) (v : Value) (h : BaseGC5 B a) : BaseGC5 B (a.put (some 58) v) := by
  obtain ⟨u, rfl⟩ := h
  exact ⟨fun i => if i = 58 then v else u i, by kernel_rfl⟩
theorem BaseGC5.put59 {B : Nat} (a : Act) (v : Value) (h : BaseGC5 B a) : BaseGC5 B (a.put (some 59) v) := by
  obtain ⟨u, rfl⟩ := h
  exact ⟨fun i => if i = 59 then v else u i, by kernel_rfl⟩
theorem BaseGC5.put60 {B : Nat} (a : Act) (v : Value) (h : BaseGC5 B a) : BaseGC5 B (a.put (some 60) v) := by
  obtain ⟨u, rfl⟩ := h
  exact ⟨fun i => if i = 60 then v else u i, by kernel_rfl⟩
theorem BaseGC5.put61 {B : Nat} (a : Act) (v : Value) (h : BaseGC5 B a) : BaseGC5 B (a.put (some 61) v) := by
  obtain ⟨u, rfl⟩ := h
  exact ⟨fun i => if i = 61 then v else u i, by kernel_rfl⟩
theorem BaseGC5.put62 {B : Nat} (a : Act) (v : Value) (h : BaseGC5 B a) : BaseGC5 B (a.put (some 62) v) := by
  obtain ⟨u, rfl⟩ := h
  exact ⟨fun i => if i = 62 then v else u i, by kernel_rfl⟩
theorem BaseGC5.put63 {B : Nat} (a : Act) (v : Value) (h : BaseGC5 B a) : BaseGC5 B (a.put (some 63) v) := by
  obtain ⟨u, rfl⟩ := h
  exact ⟨fun i => if i = 63 then v else u i, by kernel_rfl⟩
theorem BaseGC5.put64 {B : Nat} (a : Act) (v : Value) (h : BaseGC5 B a) : BaseGC5 B (a.put (some 64) v) := by
  obtain ⟨u, rfl⟩ := h
  exact ⟨fun i => if i = 64 then v else u i, by kernel_rfl⟩
theorem BaseGC5.put65 {B : Nat} (a : Act) (v : Value) (h : BaseGC5 B a) : BaseGC5 B (a.put (some 65) v) := by
  obtain ⟨u, rfl⟩ := h
  exact ⟨fun i => if i = 65 then v else u i, by kernel_rfl⟩
theorem BaseGC5.put66 {B : Nat} (a : Act) (v : Value) (h : BaseGC5 B a) : BaseGC5 B (a.put (some 66) v) := by
  obtain ⟨u, rfl⟩ := h
  exact ⟨fun i => if i = 66 then v else u i, by kernel_rfl⟩
theorem BaseGC5.put67 {B : Nat} (a : Act) (v : Value) (h : BaseGC5 B a) : BaseGC5 B (a.put (some 67) v) := by
  obtain ⟨u, rfl⟩ := h
  exact ⟨fun i => if i = 67 then v else u i, by kernel_rfl⟩
theorem BaseGC5.put68 {B : Nat} (a : Act) (v : Value) (h : BaseGC5 B a) : BaseGC5 B (a.put (some 68) v) := by
  obtain ⟨u, rfl⟩ := h
  exact ⟨fun i => if i = 68 then v else u i, by kernel_rfl⟩
theorem BaseGC5.put69 {B : Nat} (a : Act) (v : Value) (h : BaseGC5 B a) : BaseGC5 B (a.put (some 69) v) := by
  obtain ⟨u, rfl⟩ := h
  exact ⟨fun i => if i = 69 then v else u i, by kernel_rfl⟩
theorem BaseGC5.put70 {B : Nat} (a : Act) (v : Value) (h : BaseGC5 B a) : BaseGC5 B (a.put (some 70) v) := by
  obtain ⟨u, rfl⟩ := h
  exact ⟨fun i => if i = 70 then v else u i, by kernel_rfl⟩
theorem BaseGC5.put71 {B : Nat} (a : Act) (v : Value) (h : BaseGC5 B a) : BaseGC5 B (a.put (some 71) v) := by
  obtain ⟨u, rfl⟩ := h
  exact ⟨fun i => if i = 71 then v else u i, by kernel_rfl⟩
theorem BaseGC5.put72 {B : Nat} (a : Act) (v : Value) (h : BaseGC5 B a) : BaseGC5 B (a.put (some 72) v) := by
  obtain ⟨u, rfl⟩ := h
  exact ⟨fun i => if i = 72 then v else u i, by kernel_rfl⟩
theorem BaseGC5.put73 {B : Nat} (a : Act) (v : Value) (h : BaseGC5 B a) : BaseGC5 B (a.put (some 73) v) := by
  obtain ⟨u, rfl⟩ := h
  exact ⟨fun i => if i = 73 then v else u i, by kernel_rfl⟩
theorem BaseGC5.put74 {B : Nat} (a : Act) (v : Value) (h : BaseGC5 B a) : BaseGC5 B (a.put (some 74) v) := by
  obtain ⟨u, rfl⟩ := h
  exact ⟨fun i => if i = 74 then v else u i, by kernel_rfl⟩
theorem BaseGC5.put75 {B : Nat} (a : Act) (v : Value) (h : BaseGC5 B a) : BaseGC5 B (a.put (some 75) v) := by
  obtain ⟨u, rfl⟩ := h
  exact ⟨fun i => if i = 75 then v else u i, by kernel_rfl⟩
theorem BaseGC5.put76 {B : Nat} (a : Act) (v : Value) (h : BaseGC5 B a) : BaseGC5 B (a.put (some 76) v) := by
  obtain ⟨u, rfl⟩ := h
  exact ⟨fun i => if i = 76 then v else u i, by kernel_rfl⟩
theorem BaseGC5.put77 {B : Nat} (a : Act) (v : Value) (h : BaseGC5 B a) : BaseGC5 B (a.put (some 77) v) := by
  obtain ⟨u, rfl⟩ := h
  exact ⟨fun i => if i = 77 then v else u i, by kernel_rfl⟩
theorem BaseGC5.put78 {B : Nat} (a : Act) (v : Value) (h : BaseGC5 B a) : BaseGC5 B (a.put (some 78) v) := by
  obtain ⟨u, rfl⟩ := h
  exact ⟨fun i => if i = 78 then v else u i, by kernel_rfl⟩
theorem BaseGC5.put79 {B : Nat} (a : Act) (v : Value) (h : BaseGC5 B a) : BaseGC5 B (a.put (some 79) v) := by
  obtain ⟨u, rfl⟩ := h
  exact ⟨fun i => if i = 79 then v else u i, by kernel_rfl⟩
theorem BaseGC5.put80 {B : Nat} (a : Act) (v : Value) (h : BaseGC5 B a) : BaseGC5 B (a.put (some 80) v) := by
  obtain ⟨u, rfl⟩ := h
  exact ⟨fun i => if i = 80 then v else u i, by kernel_rfl⟩
theorem BaseGC5.put81 {B : Nat} (a : Act) (v : Value) (h : BaseGC5 B a) : BaseGC5 B (a.put (some 81) v) := by
  obtain ⟨u, rfl⟩ := h
  exact ⟨fun i => if i = 81 then v else u i, by kernel_rfl⟩
theorem BaseGC5.put82 {B : Nat} (a : Act) (v : Value) (h : BaseGC5 B a) : BaseGC5 B (a.put (some 82) v) := by
  obtain ⟨u, rfl⟩ := h
  exact ⟨fun i => if i = 82 then v else u i, by kernel_rfl⟩
theorem BaseGC5.put83 {B : Nat} (a : Act) (v : Value) (h : BaseGC5 B a) : BaseGC5 B (a.put (some 83) v) := by
  obtain ⟨u, rfl⟩ := h
  exact ⟨fun i => if i = 83 then v else u i, by kernel_rfl⟩
theorem BaseGC5.put84 {B : Nat} (a : Act) (v : Value) (h : BaseGC5 B a) : BaseGC5 B (a.put (some 84) v) := by
  obtain ⟨u, rfl⟩ := h
  exact ⟨fun i => if i = 84 then v else u i, by kernel_rfl⟩
theorem BaseGC5.put85 {B : Nat} (a : Act) (v : Value) (h : BaseGC5 B a) : BaseGC5 B (a.put (some 85) v) := by
  obtain ⟨u, rfl⟩ := h
  exact ⟨fun i => if i = 85 then v else u i, by kernel_rfl⟩
theorem BaseGC5.put86 {B : Nat} (a : Act) (v : Value) (h : BaseGC5 B a) : BaseGC5 B (a.put (some 86) v) := by
  obtain ⟨u, rfl⟩ := h
  exact ⟨fun i => if i = 86 then v else u i, by kernel_rfl⟩
theorem BaseGC5.put87 {B : Nat} (a : Act) (v : Value) (h : BaseGC5 B a) : BaseGC5 B (a.put (some 87) v) := by
  obtain ⟨u, rfl⟩ := h
  exact ⟨fun i => if i = 87 then v else u i, by kernel_rfl⟩

set_option maxHeartbeats 2000000 in
set_option maxRecDepth 100000 in
theorem rge_check_5 (b l y n s r : Int) (w : World) (h : FirstG b l y) (hs : 0 ≤ s ∧ s ≤ 16 ∧ s ≤ b - 8 ∧ 2 ≤ r ∧ 1000 < r) : Calls Try.prog 9 #[.agg (gv b l y n s r)] w (ChkT b l y n s r w) := by
  have hno : ¬ OkG b l y n s r := fun ⟨⟨h1, h2, h3, h4, h5, h6, h7, h8, h9, h10, h11, h12, h13, h14⟩, h15, h16⟩ => by omega
  unfold ChkT
  rw [chk_no hno]
  obtain ⟨h1, h2, h3, h4, h5, h6, h7⟩ := h
  have hf : (8 ≤ b ∧ b ≤ 64 ∧ 6 ≤ l ∧ l ≤ 64) ∧ (0 ≤ s ∧ s ≤ 16 ∧ s ≤ b - 8 ∧ 2 ≤ r ∧ 1000 < r) := ⟨⟨h1, h2, h3, h4⟩, hs⟩
  have HF := Lib.hid hf
  have HC0 : Hid (CG w b l y n s r (w.alloc (.cells (gv b l y n s r) 23))) := ⟨Blk.new w _ _, (Below.refl w.heap.size w).alloc (Nat.le_refl _) _⟩
  clear hf hs hno
  go_enter Try.func9, Try.ntmps9
  unfold gv at *
  go_wp2_with fail

  rename_i K0 hK0
  refine wp_region_list3 (SV (vsGC5 w.heap.size b s r) []) (BaseGC5 w.heap.size) (CG w b l y n s r) Goes (RV (vsGC5 w.heap.size b s r) (fun _ _ _ => False)) rfl (by kernel_rfl) (RV.ext no_special6) ?_ HC0.out.drew (BaseGC5.of _ (by kernel_rfl)) ?_ ?_
  · exact ⟨BaseGC5.put37, BaseGC5.put38, BaseGC5.put39, BaseGC5.put40, BaseGC5.put41, BaseGC5.put42, BaseGC5.put43, BaseGC5.put44, BaseGC5.put45, BaseGC5.put46, BaseGC5.put47, BaseGC5.put48, BaseGC5.put49, BaseGC5.put50, BaseGC5.put51, BaseGC5.put52, BaseGC5.put53, BaseGC5.put54, BaseGC5.put55, BaseGC5.put56, BaseGC5.put57, BaseGC5.put58, BaseGC5.put59, BaseGC5.put60, BaseGC5.put61, BaseGC5.put62, BaseGC5.put63, BaseGC5.put64, BaseGC5.put65, BaseGC5.put66, BaseGC5.put67, BaseGC5.put68, BaseGC5.put69, BaseGC5.put70, BaseGC5.put71, BaseGC5.put72, BaseGC5.put73, BaseGC5.put74, BaseGC5.put75, BaseGC5.put76, BaseGC5.put77, BaseGC5.put78, BaseGC5.put79, BaseGC5.put80, BaseGC5.put81, BaseGC5.put82, BaseGC5.put83, BaseGC5.put84, BaseGC5.put85, BaseGC5.put86, BaseGC5.put87, trivial⟩
  · refine ⟨?_, ?_, ?_, ?_, ?_, ?_, ?_, ?_, ?_, ?_, ?_, ?_, ?_, ?_, ?_, ?_, ?_, ?_, ?_, ?_, ?_, ?_, ?_, ?_, ?_, ?_, ?_, ?_, ?_, ?_, ?_, ?_, ?_, ?_, ?_, ?_, ?_, ?_, ?_, ?_, ?_, ?_, ?_, ?_, ?_, ?_, ?_, ?_, ?_, ?_, ?_, trivial⟩
    all_goals
      intro a w' hC hB hR
      obtain ⟨u, rfl⟩ := hB
      have HC := Lib.hid hC
      clear hC
      clear hK0
    · clear hR
      refine if_yes (by kernel_rfl) ?_
      unfold Oper.wp
      go_simp
      exact ⟨.pointer (some ⟨w.heap.size, 4, none⟩), rfl, HC.out, Below.refl _ _, rfl⟩
    · have h37 : u 37 = .pointer (some ⟨w.heap.size, 4, none⟩) := hR ⟨0, .data⟩ (by simp) rfl
      have hc : w'.cell? ⟨w.heap.size, 4, none⟩ = some (.int .i64 s) := HC.out.1.cell 4
      clear hR
      simp only [h37]
      clear h37
      refine if_yes (by kernel_rfl) ?_
      unfold Oper.wp
      go_simp
      exact ⟨.int .i64 s, rfl, HC.out, Below.refl _ _, rfl⟩
    · have h38 : u 38 = .int .i64 s := hR ⟨1, .data⟩ (by simp) rfl
      clear hR
      simp only [h38]
      clear h38
      refine if_yes (by kernel_rfl) ?_
      have hf := HF.out
      unfold Oper.wp
      go_simp
      exact ⟨_, rfl, HC.out, Below.refl _ _, congrArg Value.bool (by first | rfl | (simp; done) | (simp; omega))⟩
    · have h39 : u 39 = .bool false := hR ⟨2, .data⟩ (by simp) rfl
      clear hR
      simp only [h39]
      clear h39
      refine if_yes (by kernel_rfl) ?_
      unfold Oper.wp
      go_simp
      exact ⟨.bool false, rfl, HC.out, Below.refl _ _, rfl⟩
    · have g40 : u 40 = .bool false := hR ⟨3, .guard⟩ (by simp) rfl
      clear hR
      simp only [g40]
      clear g40
      refine if_yes (by kernel_rfl) ?_
      unfold Oper.wp
      go_simp
      exact ⟨.pointer (some ⟨w.heap.size, 4, none⟩), rfl, HC.out, Below.refl _ _, rfl⟩
    · have g40 : u 40 = .bool false := hR ⟨3, .guard⟩ (by simp) rfl
      have h41 : u 41 = .pointer (some ⟨w.heap.size, 4, none⟩) := hR ⟨4, .data⟩ (by simp) rfl
      have hc : w'.cell? ⟨w.heap.size, 4, none⟩ = some (.int .i64 s) := HC.out.1.cell 4
      clear hR
      simp only [g40, h41]
      clear g40 h41
      refine if_yes (by kernel_rfl) ?_
      unfold Oper.wp
      go_simp
      exact ⟨.int .i64 s, rfl, HC.out, Below.refl _ _, rfl⟩
    · have g40 : u 40 = .bool false := hR ⟨3, .guard⟩ (by simp) rfl
      have h42 : u 42 = .int .i64 s := hR ⟨5, .data⟩ (by simp) rfl
      clear hR
      simp only [g40, h42]
      clear g40 h42
      refine if_yes (by kernel_rfl) ?_
      have hf := HF.out
      unfold Oper.wp
      go_simp
      exact ⟨_, rfl, HC.out, Below.refl _ _, congrArg Value.bool (by first | rfl | (simp; done) | (simp; omega))⟩
    · have h40 : u 40 = .bool false := hR ⟨3, .data⟩ (by simp) rfl
      have h43 : u 43 = .bool false := hR ⟨6, .data⟩ (by simp) rfl
      clear hR
      simp only [h40, h43]
      clear h40 h43
      refine if_yes (by kernel_rfl) ?_
      unfold Oper.wp
      go_simp
      exact ⟨.bool false, rfl, HC.out, Below.refl _ _, rfl⟩
    · have h44 : u 44 = .bool false := hR ⟨7, .data⟩ (by simp) rfl
      clear hR
      simp only [h44]
      clear h44
      refine if_yes (by kernel_rfl) ?_
      unfold Oper.wp
      go_simp
      exact ⟨.bool false, rfl, HC.out, Below.refl _ _, rfl⟩
    · have g45 : u 45 = .bool false := hR ⟨8, .guard⟩ (by simp) rfl
      clear hR
      simp only [g45]
      clear g45
      refine if_yes (by kernel_rfl) ?_
      unfold Oper.wp
      go_simp
      exact ⟨.pointer (some ⟨w.heap.size, 4, none⟩), rfl, HC.out, Below.refl _ _, rfl⟩
    · have g45 : u 45 = .bool false := hR ⟨8, .guard⟩ (by simp) rfl
      have h46 : u 46 = .pointer (some ⟨w.heap.size, 4, none⟩) := hR ⟨9, .data⟩ (by simp) rfl
      have hc : w'.cell? ⟨w.heap.size, 4, none⟩ = some (.int .i64 s) := HC.out.1.cell 4
      clear hR
      simp only [g45, h46]
      clear g45 h46
      refine if_yes (by kernel_rfl) ?_
      unfold Oper.wp
      go_simp
      exact ⟨.int .i64 s, rfl, HC.out, Below.refl _ _, rfl⟩
    · have g45 : u 45 = .bool false := hR ⟨8, .guard⟩ (by simp) rfl
      clear hR
      simp only [g45]
      clear g45
      refine if_yes (by kernel_rfl) ?_
      unfold Oper.wp
      go_simp
      exact ⟨.pointer (some ⟨w.heap.size, 0, none⟩), rfl, HC.out, Below.refl _ _, rfl⟩
    · have g45 : u 45 = .bool false := hR ⟨8, .guard⟩ (by simp) rfl
      have h48 : u 48 = .pointer (some ⟨w.heap.size, 0, none⟩) := hR ⟨11, .data⟩ (by simp) rfl
      have hc : w'.cell? ⟨w.heap.size, 0, none⟩ = some (.int .i64 b) := HC.out.1.cell 0
      clear hR
      simp only [g45, h48]
      clear g45 h48
      refine if_yes (by kernel_rfl) ?_
      unfold Oper.wp
      go_simp
      exact ⟨.int .i64 b, rfl, HC.out, Below.refl _ _, rfl⟩
    · have g45 : u 45 = .bool false := hR ⟨8, .guard⟩ (by simp) rfl
      have h49 : u 49 = .int .i64 b := hR ⟨12, .data⟩ (by simp) rfl
      have hf := HF.out
      have hw : IntKind.i64.wrap (b - 8) = b - 8 := by rw [IntKind.wrap_i64]; omega
      clear hf
      clear hR
      simp only [g45, h49]
      clear g45 h49
      refine if_yes (by kernel_rfl) ?_
      unfold Oper.wp
      go_simp
      exact ⟨.int .i64 (b - 8), rfl, HC.out, Below.refl _ _, rfl⟩
    · have g45 : u 45 = .bool false := hR ⟨8, .guard⟩ (by simp) rfl
      have h47 : u 47 = .int .i64 s := hR ⟨10, .data⟩ (by simp) rfl
      have h50 : u 50 = .int .i64 (b - 8) := hR ⟨13, .data⟩ (by simp) rfl
      clear hR
      simp only [g45, h47, h50]
      clear g45 h47 h50
      refine if_yes (by kernel_rfl) ?_
      have hf := HF.out
      unfold Oper.wp
      go_simp
      exact ⟨_, rfl, HC.out, Below.refl _ _, congrArg Value.bool (by first | rfl | (simp; done) | (simp; omega))⟩
    · have h45 : u 45 = .bool false := hR ⟨8, .data⟩ (by simp) rfl
      have h51 : u 51 = .bool false := hR ⟨14, .data⟩ (by simp) rfl
      clear hR
      simp only [h45, h51]
      clear h45 h51
      refine if_yes (by kernel_rfl) ?_
      unfold Oper.wp
      go_simp
      exact ⟨.bool false, rfl, HC.out, Below.refl _ _, rfl⟩
    · have h52 : u 52 = .bool false := hR ⟨15, .data⟩ (by simp) rfl
      clear hR
      simp only [h52]
      clear h52
      refine if_yes (by kernel_rfl) ?_
      unfold Oper.wp
      go_simp
      exact ⟨.bool false, rfl, HC.out, Below.refl _ _, rfl⟩
    · have g53 : u 53 = .bool false := hR ⟨16, .guard⟩ (by simp) rfl
      clear hR
      simp only [g53]
      clear g53
      refine if_yes (by kernel_rfl) ?_
      unfold Oper.wp
      go_simp
      exact ⟨.pointer (some ⟨w.heap.size, 5, none⟩), rfl, HC.out, Below.refl _ _, rfl⟩
    · have g53 : u 53 = .bool false := hR ⟨16, .guard⟩ (by simp) rfl
      have h54 : u 54 = .pointer (some ⟨w.heap.size, 5, none⟩) := hR ⟨17, .data⟩ (by simp) rfl
      have hc : w'.cell? ⟨w.heap.size, 5, none⟩ = some (.int .i64 r) := HC.out.1.cell 5
      clear hR
      simp only [g53, h54]
      clear g53 h54
      refine if_yes (by kernel_rfl) ?_
      unfold Oper.wp
      go_simp
      exact ⟨.int .i64 r, rfl, HC.out, Below.refl _ _, rfl⟩
    · have g53 : u 53 = .bool false := hR ⟨16, .guard⟩ (by simp) rfl
      have h55 : u 55 = .int .i64 r := hR ⟨18, .data⟩ (by simp) rfl
      clear hR
      simp only [g53, h55]
      clear g53 h55
      refine if_yes (by kernel_rfl) ?_
      have hf := HF.out
      unfold Oper.wp
      go_simp
      exact ⟨_, rfl, HC.out, Below.refl _ _, congrArg Value.bool (by first | rfl | (simp; done) | (simp; omega))⟩
    · have h53 : u 53 = .bool false := hR ⟨16, .data⟩ (by simp) rfl
      have h56 : u 56 = .bool false := hR ⟨19, .data⟩ (by simp) rfl
      clear hR
      simp only [h53, h56]
      clear h53 h56
      refine if_yes (by kernel_rfl) ?_
      unfold Oper.wp
      go_simp
      exact ⟨.bool false, rfl, HC.out, Below.refl _ _, rfl⟩
    · have h57 : u 57 = .bool false := hR ⟨20, .data⟩ (by simp) rfl
      clear hR
      simp only [h57]
      clear h57
      refine if_yes (by kernel_rfl) ?_
      unfold Oper.wp
      go_simp
      exact ⟨.bool false, rfl, HC.out, Below.refl _ _, rfl⟩
    · have g58 : u 58 = .bool false := hR ⟨21, .guard⟩ (by simp) rfl
      clear hR
      simp only [g58]
      clear g58
      refine if_yes (by kernel_rfl) ?_
      unfold Oper.wp
      go_simp
      exact ⟨.pointer (some ⟨w.heap.size, 5, none⟩), rfl, HC.out, Below.refl _ _, rfl⟩
    · have g58 : u 58 = .bool false := hR ⟨21, .guard⟩ (by simp) rfl
      have h59 : u 59 = .pointer (some ⟨w.heap.size, 5, none⟩) := hR ⟨22, .data⟩ (by simp) rfl
      have hc : w'.cell? ⟨w.heap.size, 5, none⟩ = some (.int .i64 r) := HC.out.1.cell 5
      clear hR
      simp only [g58, h59]
      clear g58 h59
      refine if_yes (by kernel_rfl) ?_
      unfold Oper.wp
      go_simp
      exact ⟨.int .i64 r, rfl, HC.out, Below.refl _ _, rfl⟩
    · have g58 : u 58 = .bool false := hR ⟨21, .guard⟩ (by simp) rfl
      have h60 : u 60 = .int .i64 r := hR ⟨23, .data⟩ (by simp) rfl
      clear hR
      simp only [g58, h60]
      clear g58 h60
      refine if_yes (by kernel_rfl) ?_
      have hf := HF.out
      unfold Oper.wp
      go_simp
      exact ⟨_, rfl, HC.out, Below.refl _ _, congrArg Value.bool (by first | rfl | (simp; done) | (simp; omega))⟩
    · have h58 : u 58 = .bool false := hR ⟨21, .data⟩ (by simp) rfl
      have h61 : u 61 = .bool true := hR ⟨24, .data⟩ (by simp) rfl
      clear hR
      simp only [h58, h61]
      clear h58 h61
      refine if_yes (by kernel_rfl) ?_
      unfold Oper.wp
      go_simp
      exact ⟨.bool true, rfl, HC.out, Below.refl _ _, rfl⟩
    · have h62 : u 62 = .bool true := hR ⟨25, .data⟩ (by simp) rfl
      clear hR
      simp only [h62]
      clear h62
      refine if_yes (by kernel_rfl) ?_
      unfold Oper.wp
      go_simp
      exact ⟨.bool true, rfl, HC.out, Below.refl _ _, rfl⟩
    · have g63 : u 63 = .bool true := hR ⟨26, .guard⟩ (by simp) rfl
      clear hR
      simp only [g63]
      clear g63
      refine if_no (by kernel_rfl) ?_
      exact ⟨undef, rfl, HC.out, Below.refl _ _, rfl⟩
    · have g63 : u 63 = .bool true := hR ⟨26, .guard⟩ (by simp) rfl
      have h64 : u 64 = undef := hR ⟨27, .data⟩ (by simp) rfl
      clear hR
      simp only [g63, h64]
      clear g63 h64
      refine if_no (by kernel_rfl) ?_
      exact ⟨undef, rfl, HC.out, Below.refl _ _, rfl⟩
    · have g63 : u 63 = .bool true := hR ⟨26, .guard⟩ (by simp) rfl
      have h65 : u 65 = undef := hR ⟨28, .data⟩ (by simp) rfl
      clear hR
      simp only [g63, h65]
      clear g63 h65
      refine if_no (by kernel_rfl) ?_
      exact ⟨undef, rfl, HC.out, Below.refl _ _, rfl⟩
    · have h63 : u 63 = .bool true := hR ⟨26, .data⟩ (by simp) rfl
      have h66 : u 66 = undef := hR ⟨29, .data⟩ (by simp) rfl
      clear hR
      simp only [h63, h66]
      clear h63 h66
      refine if_yes (by kernel_rfl) ?_
      unfold Oper.wp
      go_simp
      exact ⟨.bool true, rfl, HC.out, Below.refl _ _, rfl⟩
    · have h67 : u 67 = .bool true := hR ⟨30, .data⟩ (by simp) rfl
      clear hR
      simp only [h67]
      clear h67
      refine if_yes (by kernel_rfl) ?_
      unfold Oper.wp
      go_simp
      exact ⟨.bool true, rfl, HC.out, Below.refl _ _, rfl⟩
    · have g68 : u 68 = .bool true := hR ⟨31, .guard⟩ (by simp) rfl
      clear hR
      simp only [g68]
      clear g68
      refine if_no (by kernel_rfl) ?_
      exact ⟨undef, rfl, HC.out, Below.refl _ _, rfl⟩
    · have g68 : u 68 = .bool true := hR ⟨31, .guard⟩ (by simp) rfl
      have h69 : u 69 = undef := hR ⟨32, .data⟩ (by simp) rfl
      clear hR
      simp only [g68, h69]
      clear g68 h69
      refine if_no (by kernel_rfl) ?_
      exact ⟨undef, rfl, HC.out, Below.refl _ _, rfl⟩
    · have g68 : u 68 = .bool true := hR ⟨31, .guard⟩ (by simp) rfl
      have h70 : u 70 = undef := hR ⟨33, .data⟩ (by simp) rfl
      clear hR
      simp only [g68, h70]
      clear g68 h70
      refine if_no (by kernel_rfl) ?_
      exact ⟨undef, rfl, HC.out, Below.refl _ _, rfl⟩
    · have h68 : u 68 = .bool true := hR ⟨31, .data⟩ (by simp) rfl
      have h71 : u 71 = undef := hR ⟨34, .data⟩ (by simp) rfl
      clear hR
      simp only [h68, h71]
      clear h68 h71
      refine if_yes (by kernel_rfl) ?_
      unfold Oper.wp
      go_simp
      exact ⟨.bool true, rfl, HC.out, Below.refl _ _, rfl⟩
    · have h72 : u 72 = .bool true := hR ⟨35, .data⟩ (by simp) rfl
      clear hR
      simp only [h72]
      clear h72
      refine if_yes (by kernel_rfl) ?_
      unfold Oper.wp
      go_simp
      exact ⟨.bool true, rfl, HC.out, Below.refl _ _, rfl⟩
    · have g73 : u 73 = .bool true := hR ⟨36, .guard⟩ (by simp) rfl
      clear hR
      simp only [g73]
      clear g73
      refine if_no (by kernel_rfl) ?_
      exact ⟨undef, rfl, HC.out, Below.refl _ _, rfl⟩
    · have g73 : u 73 = .bool true := hR ⟨36, .guard⟩ (by simp) rfl
      have h74 : u 74 = undef := hR ⟨37, .data⟩ (by simp) rfl
      clear hR
      simp only [g73, h74]
      clear g73 h74
      refine if_no (by kernel_rfl) ?_
      exact ⟨undef, rfl, HC.out, Below.refl _ _, rfl⟩
    · have g73 : u 73 = .bool true := hR ⟨36, .guard⟩ (by simp) rfl
      clear hR
      simp only [g73]
      clear g73
      refine if_no (by kernel_rfl) ?_
      exact ⟨undef, rfl, HC.out, Below.refl _ _, rfl⟩
    · have g73 : u 73 = .bool true := hR ⟨36, .guard⟩ (by simp) rfl
      have h76 : u 76 = undef := hR ⟨39, .data⟩ (by simp) rfl
      clear hR
      simp only [g73, h76]
      clear g73 h76
      refine if_no (by kernel_rfl) ?_
      exact ⟨undef, rfl, HC.out, Below.refl _ _, rfl⟩
    · have g73 : u 73 = .bool true := hR ⟨36, .guard⟩ (by simp) rfl
      have h75 : u 75 = undef := hR ⟨38, .data⟩ (by simp) rfl
      have h77 : u 77 = undef := hR ⟨40, .data⟩ (by simp) rfl
      clear hR
      simp only [g73, h75, h77]
      clear g73 h75 h77
      refine if_no (by kernel_rfl) ?_
      exact ⟨undef, rfl, HC.out, Below.refl _ _, rfl⟩
    · have h73 : u 73 = .bool true := hR ⟨36, .data⟩ (by simp) rfl
      have h78 : u 78 = undef := hR ⟨41, .data⟩ (by simp) rfl
      clear hR
      simp only [h73, h78]
      clear h73 h78
      refine if_yes (by kernel_rfl) ?_
      unfold Oper.wp
      go_simp
      exact ⟨.bool true, rfl, HC.out, Below.refl _ _, rfl⟩
    · have h79 : u 79 = .bool true := hR ⟨42, .data⟩ (by simp) rfl
      clear hR
      simp only [h79]
      clear h79
      refine if_yes (by kernel_rfl) ?_
      unfold Oper.wp
      go_simp
      exact ⟨.bool true, rfl, HC.out, Below.refl _ _, rfl⟩
    · have g80 : u 80 = .bool true := hR ⟨43, .guard⟩ (by simp) rfl
      clear hR
      simp only [g80]
      clear g80
      refine if_no (by kernel_rfl) ?_
      exact ⟨undef, rfl, HC.out, Below.refl _ _, rfl⟩
    · have g80 : u 80 = .bool true := hR ⟨43, .guard⟩ (by simp) rfl
      have h81 : u 81 = undef := hR ⟨44, .data⟩ (by simp) rfl
      clear hR
      simp only [g80, h81]
      clear g80 h81
      refine if_no (by kernel_rfl) ?_
      exact ⟨undef, rfl, HC.out, Below.refl _ _, rfl⟩
    · have g80 : u 80 = .bool true := hR ⟨43, .guard⟩ (by simp) rfl
      clear hR
      simp only [g80]
      clear g80
      refine if_no (by kernel_rfl) ?_
      exact ⟨undef, rfl, HC.out, Below.refl _ _, rfl⟩
    · have g80 : u 80 = .bool true := hR ⟨43, .guard⟩ (by simp) rfl
      have h83 : u 83 = undef := hR ⟨46, .data⟩ (by simp) rfl
      clear hR
      simp only [g80, h83]
      clear g80 h83
      refine if_no (by kernel_rfl) ?_
      exact ⟨undef, rfl, HC.out, Below.refl _ _, rfl⟩
    · have g80 : u 80 = .bool true := hR ⟨43, .guard⟩ (by simp) rfl
      have h84 : u 84 = undef := hR ⟨47, .data⟩ (by simp) rfl
      clear hR
      simp only [g80, h84]
      clear g80 h84
      refine if_no (by kernel_rfl) ?_
      exact ⟨undef, rfl, HC.out, Below.refl _ _, rfl⟩
    · have g80 : u 80 = .bool true := hR ⟨43, .guard⟩ (by simp) rfl
      have h82 : u 82 = undef := hR ⟨45, .data⟩ (by simp) rfl
      have h85 : u 85 = undef := hR ⟨48, .data⟩ (by simp) rfl
      clear hR
      simp only [g80, h82, h85]
      clear g80 h82 h85
      refine if_no (by kernel_rfl) ?_
      exact ⟨undef, rfl, HC.out, Below.refl _ _, rfl⟩
    · have h80 : u 80 = .bool true := hR ⟨43, .data⟩ (by simp) rfl
      have h86 : u 86 = undef := hR ⟨49, .data⟩ (by simp) rfl
      clear hR
      simp only [h80, h86]
      clear h80 h86
      refine if_yes (by kernel_rfl) ?_
      unfold Oper.wp
      go_simp
      exact ⟨.bool true, rfl, HC.out, Below.refl _ _, rfl⟩
  · intro a w' hC hB hR
    have h87 : a.tmps.getD 87 undef = .bool true := hR 50 (by decide)
    clear hR
    have HE := Lib.hid hC.2
    clear hC
    obtain ⟨u, rfl⟩ := hB
    have h87 : u 87 = .bool true := h87
    simp only [h87]
    clear h87
    go_wp2_with fail
    go_ret
    exact ⟨rfl, HE.out⟩

/-- what each operation of the region GC6 leaves -/
def vsGC6 (B : Nat) (b n s r : Int) : List (Option (Tmp × Value)) :=
  [some (37, .pointer (some ⟨B, 4, none⟩)), some (38, .int .i64 s), some (39, .bool false), some (40, .bool false), some (41, .pointer (some ⟨B, 4, none⟩)), some (42, .int .i64 s), some (43, .bool false), some (44, .bool false), some (45, .bool false), some (46, .pointer (some ⟨B, 4, none⟩)), some (47, .int .i64 s), some (48, .pointer (some ⟨B, 0, none⟩)), some (49, .int .i64 b), some (50, .int .i64 (b - 8)), some (51, .bool false), some (52, .bool false), some (53, .bool false), some (54, .pointer (some ⟨B, 5, none⟩)), some (55, .int .i64 r), some (56, .bool false), some (57, .bool false), some (58, .bool false), some (59, .pointer (some ⟨B, 5, none⟩)), some (60, .int .i64 r), some (61, .bool false), some (62, .bool false), some (63, .bool false), some (64, .pointer (some ⟨B, 3, none⟩)), some (65, .int .i64 n), some (66, .bool true), some (67, .bool true), some (68, .bool true), some (69, undef), some (70, undef), some (71, undef), some (72, .bool true), some (73, .bool true), some (74, undef), some (75, undef), some (76, undef), some (77, undef), some (78, undef), some (79, .bool true), some (80, .bool true), some (81, undef), some (82, undef), some (83, undef), some (84, undef), some (85, undef), some (86, undef), some (87, .bool true)]
/-- the frame while the region GC6 runs -/
def BaseGC6 (B : Nat) (a : Act) : Prop := ∃ u : Nat → Value, a = ⟨#[u 0, .pointer (some ⟨B, 0, none⟩), u 2, u 3, u 4, u 5, u 6, u 7, u 8, u 9, u 10, u 11, u 12, u 13, u 14, u 15, u 16, u 17, u 18, u 19, u 20, u 21, u 22, u 23, u 24, u 25, u 26, u 27, u 28, u 29, u 30, u 31, u 32, u 33, u 34, u 35, u 36, u 37, u 38, u 39, u 40, u 41, u 42, u 43, u 44, u 45, u 46, u 47, u 48, u 49, u 50, u 51, u 52, u 53, u 54, u 55, u 56, u 57, u 58, u 59, u 60, u 61, u 62, u 63, u 64, u 65, u 66, u 67, u 68, u 69, u 70, u 71, u 72, u 73, u 74, u 75, u 76, u 77, u 78, u 79, u 80, u 81, u 82, u 83, u 84, u 85, u 86, u 87], []⟩
theorem BaseGC6.of {B : Nat} (arr : Array Value) (h : arr = #[arr.getD 0 undef, .pointer (some ⟨B, 0, none⟩), arr.getD 2 undef, arr.getD 3 undef, arr.getD 4 undef, arr.getD 5 undef, arr.getD 6 undef, arr.getD 7 undef, arr.getD 8 undef, arr.getD 9 undef, arr.getD 10 undef, arr.getD 11 undef, arr.getD 12 undef, arr.getD 13 undef, arr.getD 14 undef, arr.getD 15 undef, arr.getD 16 undef, arr.getD 17 undef, arr.getD 18 undef, arr.getD 19 undef, arr.getD 20 undef, arr.getD 21 undef, arr.getD 22 undef, arr.getD 23 undef, arr.getD 24 undef, arr.getD 25 undef, arr.getD 26 undef, arr.getD 27 undef, arr.getD 28 undef, arr.getD 29 undef, arr.getD 30 undef, arr.getD 31 undef, arr.getD 32 undef, arr.getD 33 undef, arr.getD 34 undef, arr.getD 35 undef, arr.getD 36 undef, arr.getD 37 undef, arr.getD 38 undef, arr.getD 39 undef, arr.getD 40 undef, arr.getD 41 undef, arr.getD 42 undef, arr.getD 43 undef, arr.getD 44 undef, arr.getD 45 undef, arr.getD 46 undef, arr.getD 47 undef, arr.getD 48 undef, arr.getD 49 undef, arr.getD 50 undef, arr.getD 51 undef, arr.getD 52 undef, arr.getD 53 undef, arr.getD 54 undef, arr.getD 55 undef, arr.getD 56 undef, arr.getD 57 undef, arr.getD 58 undef, arr.getD 59 undef, arr.getD 60 undef, arr.getD 61 undef, arr.getD 62 undef, arr.getD 63 undef, arr.getD 64 undef, arr.getD 65 undef, arr.getD 66 undef, arr.getD 67 undef, arr.getD 68 undef, arr.getD 69 undef, arr.getD 70 undef, arr.getD 71 undef, arr.getD 72 undef, arr.getD 73 undef, arr.getD 74 undef, arr.getD 75 undef, arr.getD 76 undef, arr.getD 77 undef, arr.getD 78 undef, arr.getD 79 undef, arr.getD 80 undef, arr.getD 81 undef, arr.getD 82 undef, arr.getD 83 undef, arr.getD 84 undef, arr.getD 85 undef, arr.getD 86 undef, arr.getD 87 undef]) : BaseGC6 B ⟨arr, []⟩ := ⟨fun i => arr.getD i undef, by rw [← h]⟩
theorem BaseGC6.put37 {B : Nat} (a : Act) (v : Value) (h : BaseGC6 B a) : BaseGC6 B (a.put (some 37) v) := by
  obtain ⟨u, rfl⟩ := h
  exact ⟨fun i => if i = 37 then v else u i, by kernel_rfl⟩
theorem BaseGC6.put38 {B : Nat} (a : Act) (v : Value) (h : BaseGC6 B a) : BaseGC6 B (a.put (some 38) v) := by
  obtain ⟨u, rfl⟩ := h
  exact ⟨fun i => if i = 38 then v else u i, by kernel_rfl⟩
theorem BaseGC6.put39 {B : Nat} (a : Act) (v : Value) (h : BaseGC6 B a) : BaseGC6 B (a.put (some 39) v) := by
  obtain ⟨u, rfl⟩ := h
  exact ⟨fun i => if i = 39 then v else u i, by kernel_rfl⟩
theorem BaseGC6.put40 {B : Nat} (a : Act) (v : Value) (h : BaseGC6 B a) : BaseGC6 B (a.put (some 40) v) := by
  obtain ⟨u, rfl⟩ := h
  exact ⟨fun i => if i = 40 then v else u i, by kernel_rfl⟩
theorem BaseGC6.put41 {B : Nat} (a : Act) (v : Value) (h : BaseGC6 B a) : BaseGC6 B (a.put (some 41) v) := by
  obtain ⟨u, rfl⟩ := h
  exact ⟨fun i => if i = 41 then v else u i, by kernel_rfl⟩
theorem BaseGC6.put42 {B : Nat} (a : Act) (v : Value) (h : BaseGC6 B a) : BaseGC6 B (a.put (some 42) v) := by
  obtain ⟨u, rfl⟩ := h
  exact ⟨fun i => if i = 42 then v else u i, by kernel_rfl⟩
theorem BaseGC6.put43 {B : Nat} (a : Act) (v : Value) (h : BaseGC6 B a) : BaseGC6 B (a.put (some 43) v) := by
  obtain ⟨u, rfl⟩ := h
  exact ⟨fun i => if i = 43 then v else u i, by kernel_rfl⟩
theorem BaseGC6.put44 {B : Nat} (a : Act) (v : Value) (h : BaseGC6 B a) : BaseGC6 B (a.put (some 44) v) := by
  obtain ⟨u, rfl⟩ := h
  exact ⟨fun i => if i = 44 then v else u i, by kernel_rfl⟩
theorem BaseGC6.put45 {B : Nat} (a : Act) (v : Value) (h : BaseGC6 B a) : BaseGC6 B (a.put (some 45) v) := by
  obtain ⟨u, rfl⟩ := h
  exact ⟨fun i => if i = 45 then v else u i, by kernel_rfl⟩
theorem BaseGC6.put46 {B : Nat} (a : Act) (v : Value) (h : BaseGC6 B a) : BaseGC6 B (a.put (some 46) v) := by
  obtain ⟨u, rfl⟩ := h
  exact ⟨fun i => if i = 46 then v else u i, by kernel_rfl⟩
theorem BaseGC6.put47 {B : Nat} (a : Act) (v : Value) (h : BaseGC6 B a) : BaseGC6 B (a.put (some 47) v) := by
  obtain ⟨u, rfl⟩ := h
  exact ⟨fun i => if i = 47 then v else u i, by kernel_rfl⟩
theorem BaseGC6.put48 {B : Nat} (a : Act) (v : Value) (h : BaseGC6 B a) : BaseGC6 B (a.put (some 48) v) := by
  obtain ⟨u, rfl⟩ := h
  exact ⟨fun i => if i = 48 then v else u i, by kernel_rfl⟩
theorem BaseGC6.put49 {B : Nat} (a : Act) (v : Value) (h : BaseGC6 B a) : BaseGC6 B (a.put (some 49) v) := by
  obtain ⟨u, rfl⟩ := h
  exact ⟨fun i => if i = 49 then v else u i, by kernel_rfl⟩
theorem BaseGC6.put50 {B : Nat} (a : Act) (v : Value) (h : BaseGC6 B a) : BaseGC6 B (a.put (some 50) v) := by
  obtain ⟨u, rfl⟩ := h
  exact ⟨fun i => if i = 50 then v else u i, by kernel_rfl⟩
theorem BaseGC6.put51 {B : Nat} (a : Act) (v : Value) (h : BaseGC6 B a) : BaseGC6 B (a.put (some 51) v) := by
  obtain ⟨u, rfl⟩ := h
  exact ⟨fun i => if i = 51 then v else u i, by kernel_rfl⟩
theorem BaseGC6.put52 {B : Nat} (a : Act) (v : Value) (h : BaseGC6 B a) : BaseGC6 B (a.put (some 52) v) := by
  obtain ⟨u, rfl⟩ := h
  exact ⟨fun i => if i = 52 then v else u i, by kernel_rfl⟩
theorem BaseGC6.put53 {B : Nat} (a : Act) (v : Value) (h : BaseGC6 B a) : BaseGC6 B (a.put (some 53) v) := by
  obtain ⟨u, rfl⟩ := h
  exact ⟨fun i => if i = 53 then v else u i, by kernel_rfl⟩
theorem BaseGC6.put54 {B : Nat} (a : Act) (v : Value) (h : BaseGC6 B a) : BaseGC6 B (a.put (some 54) v) := by
  obtain ⟨u, rfl⟩ := h
  exact ⟨fun i => if i = 54 then v else u i, by kernel_rfl⟩
theorem BaseGC6.put55 {B : Nat} (a : Act) (v : Value) (h : BaseGC6 B a) : BaseGC6 B (a.put (some 55) v) := by
  obtain ⟨u, rfl⟩ := h
  exact ⟨fun i => if i = 55 then v else u i, by kernel_rfl⟩
theorem BaseGC6.put56 {B : Nat} (a : Act) (v : Value) (h : BaseGC6 B a) : BaseGC6 B (a.put (some 56) v) := by
  obtain ⟨u, rfl⟩ := h
  exact ⟨fun i => if i = 56 then v else u i, by kernel_rfl⟩
theorem BaseGC6.put57 {B : Nat} (a : Act) (v : Value) (h : BaseGC6 B a) : BaseGC6 B (a.put (some 57) v) := by
  obtain ⟨u, rfl⟩ := h
  exact ⟨fun i => if i = 57 then v else u i, by kernel_rfl⟩
theorem BaseGC6.put58 {B : Nat} (a : Act) (v : Value) (h : BaseGC6 B a) : BaseGC6 B (a.put (some 58) v) := by
  obtain ⟨u, rfl⟩ := h
  exact ⟨fun i => if i = 58 then v else u i, by kernel_rfl⟩
theorem BaseGC6.put59 {B : Nat} (a : Act) (v : Value) (h : BaseGC6 B a) : BaseGC6 B (a.put (some 59) v) := by
  obtain ⟨u, rfl⟩ := h
  exact ⟨fun i => if i = 59 then v else u i, by kernel_rfl⟩
theorem BaseGC6.put60 {B : Nat} (a : Act) (v : Value) (h : BaseGC6 B a) : BaseGC6 B (a.put (some 60) v) := by
  obtain ⟨u, rfl⟩ := h
  exact ⟨fun i => if i = 60 then v else u i, by kernel_rfl⟩
theorem BaseGC6.put61 {B : Nat} (a : Act) (v : Value) (h : BaseGC6 B a) : BaseGC6 B (a.put (some 61) v) := by
  obtain ⟨u, rfl⟩ := h
  exact ⟨fun i => if i = 61 then v else u i, by kernel_rfl⟩
theorem BaseGC6.put62 {B : Nat} (a : Act) (v : Value) (h : BaseGC6 B a) : BaseGC6 B (a.put (some 62) v) := by
  obtain ⟨u, rfl⟩ := h
  exact ⟨fun i => if i = 62 then v else u i, by kernel_rfl⟩
theorem BaseGC6.put63 {B : Nat} (a : Act) (v : Value) (h : BaseGC6 B a) : BaseGC6 B (a.put (some 63) v) := by
  obtain ⟨u, rfl⟩ := h
  exact ⟨fun i => if i = 63 then v else u i, by kernel_rfl⟩
theorem BaseGC6.put64 {B : Nat} (a : Act) (v : Value) (h : BaseGC6 B a) : BaseGC6 B (a.put (some 64) v) := by
  obtain ⟨u, rfl⟩ := h
  exact ⟨fun i => if i = 64 then v else u i, by kernel_rfl⟩
theorem BaseGC6.put65 {B : Nat} (a : Act) (v : Value) (h : BaseGC6 B a) : BaseGC6 B (a.put (some 65) v) := by
  obtain ⟨u, rfl⟩ := h
  exact ⟨fun i => if i = 65 then v else u i, by kernel_rfl⟩
theorem BaseGC6.put66 {B : Nat} (a : Act) (v : Value) (h : BaseGC6 B a) : BaseGC6 B (a.put (some 66) v) := by
  obtain ⟨u, rfl⟩ := h
  exact ⟨fun i => if i = 66 then v else u i, by kernel_rfl⟩
theorem BaseGC6.put67 {B : Nat} (a : Act) (v : Value) (h : BaseGC6 B a) : BaseGC6 B (a.put (some 67) v) := by
  obtain ⟨u, rfl⟩ := h
  exact ⟨fun i => if i = 67 then v else u i, by kernel_rfl⟩
theorem BaseGC6.put68 {B : Nat} (a : Act) (v : Value) (h : BaseGC6 B a) : BaseGC6 B (a.put (some 68) v) := by
  obtain ⟨u, rfl⟩ := h
  exact ⟨fun i => if i = 68 then v else u i, by kernel_rfl⟩
theorem BaseGC6.put69 {B : Nat} (a : Act) (v : Value) (h : BaseGC6 B a) : BaseGC6 B (a.put (some 69) v) := by
  obtain ⟨u, rfl⟩ := h
  exact ⟨fun i => if i = 69 then v else u i, by kernel_rfl⟩
theorem BaseGC6.put70 {B : Nat} (a : Act) (v : Value) (h : BaseGC6 B a) : BaseGC6 B (a.put (some 70) v) := by
  obtain ⟨u, rfl⟩ := h
  exact ⟨fun i => if i = 70 then v else u i, by kernel_rfl⟩
theorem BaseGC6.put71 {B : Nat} (a : Act) (v : Value) (h : BaseGC6 B a) : BaseGC6 B (a.put (some 71) v) := by
  obtain ⟨u, rfl⟩ := h
  exact ⟨fun i => if i = 71 then v else u i, by kernel_rfl⟩
theorem BaseGC6.put72 {B : Nat} (a : Act) (v : Value) (h : BaseGC6 B a) : BaseGC6 B (a.put (some 72) v) := by
  obtain ⟨u, rfl⟩ := h
  exact ⟨fun i => if i = 72 then v else u i, by kernel_rfl⟩
theorem BaseGC6.put73 {B : Nat} (a : Act) (v : Value) (h : BaseGC6 B a) : BaseGC6 B (a.put (some 73) v) := by
  obtain ⟨u, rfl⟩ := h
  exact ⟨fun i => if i = 73 then v else u i, by kernel_rfl⟩
theorem BaseGC6.put74 {B : Nat} (a : Act) (v : Value) (h : BaseGC6 B a) : BaseGC6 B (a.put (some 74) v) := by
  obtain ⟨u, rfl⟩ := h
  exact ⟨fun i => if i = 74 then v else u i, by kernel_rfl⟩
theorem BaseGC6.put75 {B : Nat} (a : Act) (v : Value) (h : BaseGC6 B a) : BaseGC6 B (a.put (some 75) v) := by
  obtain ⟨u, rfl⟩ := h
  exact ⟨fun i => if i = 75 then v else u i, by kernel_rfl⟩
theorem BaseGC6.put76 {B : Nat} (a : Act) (v : Value) (h : BaseGC6 B a) : BaseGC6 B (a.put (some 76) v) := by
  obtain ⟨u, rfl⟩ := h
  exact ⟨fun i => if i = 76 then v else u i, by kernel_rfl⟩
theorem BaseGC6.put77 {B : Nat} (a : Act) (v : Value) (h : BaseGC6 B a) : BaseGC6 B (a.put (some 77) v) := by
  obtain ⟨u, rfl⟩ := h
  exact ⟨fun i => if i = 77 then v else u i, by kernel_rfl⟩
theorem BaseGC6.put78 {B : Nat} (a : Act) (v : Value) (h : BaseGC6 B a) : BaseGC6 B (a.put (some 78) v) := by
  obtain ⟨u, rfl⟩ := h
  exact ⟨fun i => if i = 78 then v else u i, by kernel_rfl⟩
theorem BaseGC6.put79 {B : Nat} (a : Act) (v : Value) (h : BaseGC6 B a) : BaseGC6 B (a.put (some 79) v) := by
  obtain ⟨u, rfl⟩ := h
  exact ⟨fun i => if i = 79 then v else u i, by kernel_rfl⟩
theorem BaseGC6.put80 {B : Nat} (a : Act) (v : Value) (h : BaseGC6 B a) : BaseGC6 B (a.put (some 80) v) := by
  obtain ⟨u, rfl⟩ := h
  exact ⟨fun i => if i = 80 then v else u i, by kernel_rfl⟩
theorem BaseGC6.put81 {B : Nat} (a : Act) (v : Value) (h : BaseGC6 B a) : BaseGC6 B (a.put (some 81) v) := by
  obtain ⟨u, rfl⟩ := h
  exact ⟨fun i => if i = 81 then v else u i, by kernel_rfl⟩
theorem BaseGC6.put82 {B : Nat} (a : Act) (v : Value) (h : BaseGC6 B a) : BaseGC6 B (a.put (some 82) v) := by
  obtain ⟨u, rfl⟩ := h
  exact ⟨fun i => if i = 82 then v else u i, by kernel_rfl⟩
theorem BaseGC6.put83 {B : Nat} (a : Act) (v : Value) (h : BaseGC6 B a) : BaseGC6 B (a.put (some 83) v) := by
  obtain ⟨u, rfl⟩ := h
  exact ⟨fun i => if i = 83 then v else u i, by kernel_rfl⟩
theorem BaseGC6.put84 {B : Nat} (a : Act) (v : Value) (h : BaseGC6 B a) : BaseGC6 B (a.put (some 84) v) := by
  obtain ⟨u, rfl⟩ := h
  exact ⟨fun i => if i = 84 then v else u i, by kernel_rfl⟩
theorem BaseGC6.put85 {B : Nat} (a : Act) (v : Value) (h : BaseGC6 B a) : BaseGC6 B (a.put (some 85) v) := by
  obtain ⟨u, rfl⟩ := h
  exact ⟨fun i => if i = 85 then v else u i, by kernel_rfl⟩
theorem BaseGC6.put86 {B : Nat} (a : Act) (v : Value) (h : BaseGC6 B a) : BaseGC6 B (a.put (some 86) v) := by
  obtain ⟨u, rfl⟩ := h
  exact ⟨fun i => if i = 86 then v else u i, by kernel_rfl⟩
theorem BaseGC6.put87 {B : Nat} (a : Act) (v : Value) (h : BaseGC6 B a) : BaseGC6 B (a.put (some 87) v) := by
  obtain ⟨u, rfl⟩ := h
  exact ⟨fun i => if i = 87 then v else u i, by kernel_rfl⟩

set_option maxHeartbeats 2000000 in
set_option maxRecDepth 100000 in
theorem rge_check_6 (b l y n s r : Int) (w : World) (h : FirstG b l y) (hs : 0 ≤ s ∧ s ≤ 16 ∧ s ≤ b - 8 ∧ 2 ≤ r ∧ r ≤ 1000 ∧ n < 1) : Calls Try.prog 9 #[.agg (gv b l y n s r)] w (ChkT b l y n s r w) := by
  have hno : ¬ OkG b l y n s r := fun ⟨⟨h1, h2, h3, h4, h5, h6, h7, h8, h9, h10, h11, h12, h13, h14⟩, h15, h16⟩ => by omega
  unfold ChkT
  rw [chk_no hno]
  obtain ⟨h1, h2, h3, h4, h5, h6, h7⟩ := h
  have hf : (8 ≤ b ∧ b ≤ 64 ∧ 6 ≤ l ∧ l ≤ 64) ∧ (0 ≤ s ∧ s ≤ 16 ∧ s ≤ b - 8 ∧ 2 ≤ r ∧ r ≤ 1000 ∧ n < 1) := ⟨⟨h1, h2, h3, h4⟩, hs⟩
  have HF := Lib.hid hf
  have HC0 : Hid (CG w b l y n s r (w.alloc (.cells (gv b l y n s r) 23))) := ⟨Blk.new w _ _, (Below.refl w.heap.size w).alloc (Nat.le_refl _) _⟩
  clear hf hs hno
  go_enter Try.func9, Try.ntmps9
  unfold gv at *
  go_wp2_with fail

  rename_i K0 hK0
  refine wp_region_list3 (SV (vsGC6 w.heap.size b n s r) []) (BaseGC6 w.heap.size) (CG w b l y n s r) Goes (RV (vsGC6 w.heap.size b n s r) (fun _ _ _ => False)) rfl (by kernel_rfl) (RV.ext no_special6) ?_ HC0.out.drew (BaseGC6.of _ (by kernel_rfl)) ?_ ?_
  · exact ⟨BaseGC6.put37, BaseGC6.put38, BaseGC6.put39, BaseGC6.put40, BaseGC6.put41, BaseGC6.put42, BaseGC6.put43, BaseGC6.put44, BaseGC6.put45, BaseGC6.put46, BaseGC6.put47, BaseGC6.put48, BaseGC6.put49, BaseGC6.put50, BaseGC6.put51, BaseGC6.put52, BaseGC6.put53, BaseGC6.put54, BaseGC6.put55, BaseGC6.put56, BaseGC6.put57, BaseGC6.put58, BaseGC6.put59, BaseGC6.put60, BaseGC6.put61, BaseGC6.put62, BaseGC6.put63, BaseGC6.put64, BaseGC6.put65, BaseGC6.put66, BaseGC6.put67, BaseGC6.put68, BaseGC6.put69, BaseGC6.put70, BaseGC6.put71, BaseGC6.put72, BaseGC6.put73, BaseGC6.put74, BaseGC6.put75, BaseGC6.put76, BaseGC6.put77, BaseGC6.put78, BaseGC6.put79, BaseGC6.put80, BaseGC6.put81, BaseGC6.put82, BaseGC6.put83, BaseGC6.put84, BaseGC6.put85, BaseGC6.put86, BaseGC6.put87, trivial⟩
  · refine ⟨?_, ?_, ?_, ?_, ?_, ?_, ?_, ?_, ?_, ?_, ?_, ?_, ?_, ?_, ?_, ?_, ?_, ?_, ?_, ?_, ?_, ?_, ?_, ?_, ?_, ?_, ?_, ?_, ?_, ?_, ?_, ?_, ?_, ?_, ?_, ?_, ?_, ?_, ?_, ?_, ?_, ?_, ?_, ?_, ?_, ?_, ?_, ?_, ?_, ?_, ?_, trivial⟩
    all_goals
      intro a w' hC hB hR
      obtain ⟨u, rfl⟩ := hB
      have HC := Lib.hid hC
      clear hC
      clear hK0
    · clear hR
      refine if_yes (by kernel_rfl) ?_
      unfold Oper.wp
      go_simp
      exact ⟨.pointer (some ⟨w.heap.size, 4, none⟩), rfl, HC.out, Below.refl _ _, rfl⟩
    · have h37 : u 37 = .pointer (some ⟨w.heap.size, 4, none⟩) := hR ⟨0, .data⟩ (by simp) rfl
      have hc : w'.cell? ⟨w.heap.size, 4, none⟩ = some (.int .i64 s) := HC.out.1.cell 4
      clear hR
      simp only [h37]
      clear h37
      refine if_yes (by kernel_rfl) ?_
      unfold Oper.wp
      go_simp
      exact ⟨.int .i64 s, rfl, HC.out, Below.refl _ _, rfl⟩
    · have h38 : u 38 = .int .i64 s := hR ⟨1, .data⟩ (by simp) rfl
      clear hR
      simp only [h38]
      clear h38
      refine if_yes (by kernel_rfl) ?_
      have hf := HF.out
      unfold Oper.wp
      go_simp
      exact ⟨_, rfl, HC.out, Below.refl _ _, congrArg Value.bool (by first | rfl | (simp; done) | (simp; omega))⟩
    · have h39 : u 39 = .bool false := hR ⟨2, .data⟩ (by simp) rfl
      clear hR
      simp only [h39]
      clear h39
      refine if_yes (by kernel_rfl) ?_
      unfold Oper.wp
      go_simp
      exact ⟨.bool false, rfl, HC.out, Below.refl _ _, rfl⟩
    · have g40 : u 40 = .bool false := hR ⟨3, .guard⟩ (by simp) rfl
      clear hR
      simp only [g40]
      clear g40
      refine if_yes (by kernel_rfl) ?_
      unfold Oper.wp
      go_simp
      exact ⟨.pointer (some ⟨w.heap.size, 4, none⟩), rfl, HC.out, Below.refl _ _, rfl⟩
    · have g40 : u 40 = .bool false := hR ⟨3, .guard⟩ (by simp) rfl
      have h41 : u 41 = .pointer (some ⟨w.heap.size, 4, none⟩) := hR ⟨4, .data⟩ (by simp) rfl
      have hc : w'.cell? ⟨w.heap.size, 4, none⟩ = some (.int .i64 s) := HC.out.1.cell 4
      clear hR
      simp only [g40, h41]
      clear g40 h41
      refine if_yes (by kernel_rfl) ?_
      unfold Oper.wp
      go_simp
      exact ⟨.int .i64 s, rfl, HC.out, Below.refl _ _, rfl⟩
    · have g40 : u 40 = .bool false := hR ⟨3, .guard⟩ (by simp) rfl
      have h42 : u 42 = .int .i64 s := hR ⟨5, .data⟩ (by simp) rfl
      clear hR
      simp only [g40, h42]
      clear g40 h42
      refine if_yes (by kernel_rfl) ?_
      have hf := HF.out
      unfold Oper.wp
      go_simp
      exact ⟨_, rfl, HC.out, Below.refl _ _, congrArg Value.bool (by first | rfl | (simp; done) | (simp; omega))⟩
    · have h40 : u 40 = .bool false := hR ⟨3, .data⟩ (by simp) rfl
      have h43 : u 43 = .bool false := hR ⟨6, .data⟩ (by simp) rfl
      clear hR
      simp only [h40, h43]
      clear h40 h43
      refine if_yes (by kernel_rfl) ?_
      unfold Oper.wp
      go_simp
      exact ⟨.bool false, rfl, HC.out, Below.refl _ _, rfl⟩
    · have h44 : u 44 = .bool false := hR ⟨7, .data⟩ (by simp) rfl
      clear hR
      simp only [h44]
      clear h44
      refine if_yes (by kernel_rfl) ?_
      unfold Oper.wp
      go_simp
      exact ⟨.bool false, rfl, HC.out, Below.refl _ _, rfl⟩
    · have g45 : u 45 = .bool false := hR ⟨8, .guard⟩ (by simp) rfl
      clear hR
      simp only [g45]
      clear g45
      refine if_yes (by kernel_rfl) ?_
      unfold Oper.wp
      go_simp
      exact ⟨.pointer (some ⟨w.heap.size, 4, none⟩), rfl, HC.out, Below.refl _ _, rfl⟩
    · have g45 : u 45 = .bool false := hR ⟨8, .guard⟩ (by simp) rfl
      have h46 : u 46 = .pointer (some ⟨w.heap.size, 4, none⟩) := hR ⟨9, .data⟩ (by simp) rfl
      have hc : w'.cell? ⟨w.heap.size, 4, none⟩ = some (.int .i64 s) := HC.out.1.cell 4
      clear hR
      simp only [g45, h46]
      clear g45 h46
      refine if_yes (by kernel_rfl) ?_
      unfold Oper.wp
      go_simp
      exact ⟨.int .i64 s, rfl, HC.out, Below.refl _ _, rfl⟩
    · have g45 : u 45 = .bool false := hR ⟨8, .guard⟩ (by simp) rfl
      clear hR
      simp only [g45]
      clear g45
      refine if_yes (by kernel_rfl) ?_
      unfold Oper.wp
      go_simp
      exact ⟨.pointer (some ⟨w.heap.size, 0, none⟩), rfl, HC.out, Below.refl _ _, rfl⟩
    · have g45 : u 45 = .bool false := hR ⟨8, .guard⟩ (by simp) rfl
      have h48 : u 48 = .pointer (some ⟨w.heap.size, 0, none⟩) := hR ⟨11, .data⟩ (by simp) rfl
      have hc : w'.cell? ⟨w.heap.size, 0, none⟩ = some (.int .i64 b) := HC.out.1.cell 0
      clear hR
      simp only [g45, h48]
      clear g45 h48
      refine if_yes (by kernel_rfl) ?_
      unfold Oper.wp
      go_simp
      exact ⟨.int .i64 b, rfl, HC.out, Below.refl _ _, rfl⟩
    · have g45 : u 45 = .bool false := hR ⟨8, .guard⟩ (by simp) rfl
      have h49 : u 49 = .int .i64 b := hR ⟨12, .data⟩ (by simp) rfl
      have hf := HF.out
      have hw : IntKind.i64.wrap (b - 8) = b - 8 := by rw [IntKind.wrap_i64]; omega
      clear hf
      clear hR
      simp only [g45, h49]
      clear g45 h49
      refine if_yes (by kernel_rfl) ?_
      unfold Oper.wp
      go_simp
      exact ⟨.int .i64 (b - 8), rfl, HC.out, Below.refl _ _, rfl⟩
    · have g45 : u 45 = .bool false := hR ⟨8, .guard⟩ (by simp) rfl
      have h47 : u 47 = .int .i64 s := hR ⟨10, .data⟩ (by simp) rfl
      have h50 : u 50 = .int .i64 (b - 8) := hR ⟨13, .data⟩ (by simp) rfl
      clear hR
      simp only [g45, h47, h50]
      clear g45 h47 h50
      refine if_yes (by kernel_rfl) ?_
      have hf := HF.out
      unfold Oper.wp
      go_simp
      exact ⟨_, rfl, HC.out, Below.refl _ _, congrArg Value.bool (by first | rfl | (simp; done) | (simp; omega))⟩
    · have h45 : u 45 = .bool false := hR ⟨8, .data⟩ (by simp) rfl
      have h51 : u 51 = .bool false := hR ⟨14, .data⟩ (by simp) rfl
      clear hR
      simp only [h45, h51]
      clear h45 h51
      refine if_yes (by kernel_rfl) ?_
      unfold Oper.wp
      go_simp
      exact ⟨.bool false, rfl, HC.out, Below.refl _ _, rfl⟩
    · have h52 : u 52 = .bool false := hR ⟨15, .data⟩ (by simp) rfl
      clear hR
      simp only [h52]
      clear h52
      refine if_yes (by kernel_rfl) ?_
      unfold Oper.wp
      go_simp
      exact ⟨.bool false, rfl, HC.out, Below.refl _ _, rfl⟩
    · have g53 : u 53 = .bool false := hR ⟨16, .guard⟩ (by simp) rfl
      clear hR
      simp only [g53]
      clear g53
      refine if_yes (by kernel_rfl) ?_
      unfold Oper.wp
      go_simp
      exact ⟨.pointer (some ⟨w.heap.size, 5, none⟩), rfl, HC.out, Below.refl _ _, rfl⟩
    · have g53 : u 53 = .bool false := hR ⟨16, .guard⟩ (by simp) rfl
      have h54 : u 54 = .pointer (some ⟨w.heap.size, 5, none⟩) := hR ⟨17, .data⟩ (by simp) rfl
      have hc : w'.cell? ⟨w.heap.size, 5, none⟩ = some (.int .i64 r) := HC.out.1.cell 5
      clear hR
      simp only [g53, h54]
      clear g53 h54
      refine if_yes (by kernel_rfl) ?_
      unfold Oper.wp
      go_simp
      exact ⟨.int .i64 r, rfl, HC.out, Below.refl _ _, rfl⟩
    · have g53 : u 53 = .bool false := hR ⟨16, .guard⟩ (by simp) rfl
      have h55 : u 55 = .int .i64 r := hR ⟨18, .data⟩ (by simp) rfl
      clear hR
      simp only [g53, h55]
      clear g53 h55
      refine if_yes (by kernel_rfl) ?_
      have hf := HF.out
      unfold Oper.wp
      go_simp
      exact ⟨_, rfl, HC.out, Below.refl _ _, congrArg Value.bool (by first | rfl | (simp; done) | (simp; omega))⟩
    · have h53 : u 53 = .bool false := hR ⟨16, .data⟩ (by simp) rfl
      have h56 : u 56 = .bool false := hR ⟨19, .data⟩ (by simp) rfl
      clear hR
      simp only [h53, h56]
      clear h53 h56
      refine if_yes (by kernel_rfl) ?_
      unfold Oper.wp
      go_simp
      exact ⟨.bool false, rfl, HC.out, Below.refl _ _, rfl⟩
    · have h57 : u 57 = .bool false := hR ⟨20, .data⟩ (by simp) rfl
      clear hR
      simp only [h57]
      clear h57
      refine if_yes (by kernel_rfl) ?_
      unfold Oper.wp
      go_simp
      exact ⟨.bool false, rfl, HC.out, Below.refl _ _, rfl⟩
    · have g58 : u 58 = .bool false := hR ⟨21, .guard⟩ (by simp) rfl
      clear hR
      simp only [g58]
      clear g58
      refine if_yes (by kernel_rfl) ?_
      unfold Oper.wp
      go_simp
      exact ⟨.pointer (some ⟨w.heap.size, 5, none⟩), rfl, HC.out, Below.refl _ _, rfl⟩
    · have g58 : u 58 = .bool false := hR ⟨21, .guard⟩ (by simp) rfl
      have h59 : u 59 = .pointer (some ⟨w.heap.size, 5, none⟩) := hR ⟨22, .data⟩ (by simp) rfl
      have hc : w'.cell? ⟨w.heap.size, 5, none⟩ = some (.int .i64 r) := HC.out.1.cell 5
      clear hR
      simp only [g58, h59]
      clear g58 h59
      refine if_yes (by kernel_rfl) ?_
      unfold Oper.wp
      go_simp
      exact ⟨.int .i64 r, rfl, HC.out, Below.refl _ _, rfl⟩
    · have g58 : u 58 = .bool false := hR ⟨21, .guard⟩ (by simp) rfl
      have h60 : u 60 = .int .i64 r := hR ⟨23, .data⟩ (by simp) rfl
      clear hR
      simp only [g58, h60]
      clear g58 h60
      refine if_yes (by kernel_rfl) ?_
      have hf := HF.out
      unfold Oper.wp
      go_simp
      exact ⟨_, rfl, HC.out, Below.refl _ _, congrArg Value.bool (by first | rfl | (simp; done) | (simp; omega))⟩
    · have h58 : u 58 = .bool false := hR ⟨21, .data⟩ (by simp) rfl
      have h61 : u 61 = .bool false := hR ⟨24, .data⟩ (by simp) rfl
      clear hR
      simp only [h58, h61]
      clear h58 h61
      refine if_yes (by kernel_rfl) ?_
      unfold Oper.wp
      go_simp
      exact ⟨.bool false, rfl, HC.out, Below.refl _ _, rfl⟩
    · have h62 : u 62 = .bool false := hR ⟨25, .data⟩ (by simp) rfl
      clear hR
      simp only [h62]
      clear h62
      refine if_yes (by kernel_rfl) ?_
      unfold Oper.wp
      go_simp
      exact ⟨.bool false, rfl, HC.out, Below.refl _ _, rfl⟩
    · have g63 : u 63 = .bool false := hR ⟨26, .guard⟩ (by simp) rfl
      clear hR
      simp only [g63]
      clear g63
      refine if_yes (by kernel_rfl) ?_
      unfold Oper.wp
      go_simp
      exact ⟨.pointer (some ⟨w.heap.size, 3, none⟩), rfl, HC.out, Below.refl _ _, rfl⟩
    · have g63 : u 63 = .bool false := hR ⟨26, .guard⟩ (by simp) rfl
      have h64 : u 64 = .pointer (some ⟨w.heap.size, 3, none⟩) := hR ⟨27, .data⟩ (by simp) rfl
      have hc : w'.cell? ⟨w.heap.size, 3, none⟩ = some (.int .i64 n) := HC.out.1.cell 3
      clear hR
      simp only [g63, h64]
      clear g63 h64
      refine if_yes (by kernel_rfl) ?_
      unfold Oper.wp
      go_simp
      exact ⟨.int .i64 n, rfl, HC.out, Below.refl _ _, rfl⟩
    · have g63 : u 63 = .bool false := hR ⟨26, .guard⟩ (by simp) rfl
      have h65 : u 65 = .int .i64 n := hR ⟨28, .data⟩ (by simp) rfl
      clear hR
      simp only [g63, h65]
      clear g63 h65
      refine if_yes (by kernel_rfl) ?_
      have hf := HF.out
      unfold Oper.wp
      go_simp
      exact ⟨_, rfl, HC.out, Below.refl _ _, congrArg Value.bool (by first | rfl | (simp; done) | (simp; omega))⟩
    · have h63 : u 63 = .bool false := hR ⟨26, .data⟩ (by simp) rfl
      have h66 : u 66 = .bool true := hR ⟨29, .data⟩ (by simp) rfl
      clear hR
      simp only [h63, h66]
      clear h63 h66
      refine if_yes (by kernel_rfl) ?_
      unfold Oper.wp
      go_simp
      exact ⟨.bool true, rfl, HC.out, Below.refl _ _, rfl⟩
    · have h67 : u 67 = .bool true := hR ⟨30, .data⟩ (by simp) rfl
      clear hR
      simp only [h67]
      clear h67
      refine if_yes (by kernel_rfl) ?_
      unfold Oper.wp
      go_simp
      exact ⟨.bool true, rfl, HC.out, Below.refl _ _, rfl⟩
    · have g68 : u 68 = .bool true := hR ⟨31, .guard⟩ (by simp) rfl
      clear hR
      simp only [g68]
      clear g68
      refine if_no (by kernel_rfl) ?_
      exact ⟨undef, rfl, HC.out, Below.refl _ _, rfl⟩
    · have g68 : u 68 = .bool true := hR ⟨31, .guard⟩ (by simp) rfl
      have h69 : u 69 = undef := hR ⟨32, .data⟩ (by simp) rfl
      clear hR
      simp only [g68, h69]
      clear g68 h69
      refine if_no (by kernel_rfl) ?_
      exact ⟨undef, rfl, HC.out, Below.refl _ _, rfl⟩
    · have g68 : u 68 = .bool true := hR ⟨31, .guard⟩ (by simp) rfl
      have h70 : u 70 = undef := hR ⟨33, .data⟩ (by simp) rfl
      clear hR
      simp only [g68, h70]
      clear g68 h70
      refine if_no (by kernel_rfl) ?_
      exact ⟨undef, rfl, HC.out, Below.refl _ _, rfl⟩
    · have h68 : u 68 = .bool true := hR ⟨31, .data⟩ (by simp) rfl
      have h71 : u 71 = undef := hR ⟨34, .data⟩ (by simp) rfl
      clear hR
      simp only [h68, h71]
      clear h68 h71
      refine if_yes (by kernel_rfl) ?_
      unfold Oper.wp
      go_simp
      exact ⟨.bool true, rfl, HC.out, Below.refl _ _, rfl⟩
    · have h72 : u 72 = .bool true := hR ⟨35, .data⟩ (by simp) rfl
      clear hR
      simp only [h72]
      clear h72
      refine if_yes (by kernel_rfl) ?_
      unfold Oper.wp
      go_simp
      exact ⟨.bool true, rfl, HC.out, Below.refl _ _, rfl⟩
    · have g73 : u 73 = .bool true := hR ⟨36, .guard⟩ (by simp) rfl
      clear hR
      simp only [g73]
      clear g73
      refine if_no (by kernel_rfl) ?_
      exact ⟨undef, rfl, HC.out, Below.refl _ _, rfl⟩
    · have g73 : u 73 = .bool true := hR ⟨36, .guard⟩ (by simp) rfl
      have h74 : u 74 = undef := hR ⟨37, .data⟩ (by simp) rfl
      clear hR
      simp only [g73, h74]
      clear g73 h74
      refine if_no (by kernel_rfl) ?_
      exact ⟨undef, rfl, HC.out, Below.refl _ _, rfl⟩
    · have g73 : u 73 = .bool true := hR ⟨36, .guard⟩ (by simp) rfl
      clear hR
      simp only [g73]
      clear g73
      refine if_no (by kernel_rfl) ?_
      exact ⟨undef, rfl, HC.out, Below.refl _ _, rfl⟩
    · have g73 : u 73 = .bool true := hR ⟨36, .guard⟩ (by simp) rfl
      have h76 : u 76 = undef := hR ⟨39, .data⟩ (by simp) rfl
      clear hR
      simp only [g73, h76]
      clear g73 h76
      refine if_no (by kernel_rfl) ?_
      exact ⟨undef, rfl, HC.out, Below.refl _ _, rfl⟩
    · have g73 : u 73 = .bool true := hR ⟨36, .guard⟩ (by simp) rfl
      have h75 : u 75 = undef := hR ⟨38, .data⟩ (by simp) rfl
      have h77 : u 77 = undef := hR ⟨40, .data⟩ (by simp) rfl
      clear hR
      simp only [g73, h75, h77]
      clear g73 h75 h77
      refine if_no (by kernel_rfl) ?_
      exact ⟨undef, rfl, HC.out, Below.refl _ _, rfl⟩
    · have h73 : u 73 = .bool true := hR ⟨36, .data⟩ (by simp) rfl
      have h78 : u 78 = undef := hR ⟨41, .data⟩ (by simp) rfl
      clear hR
      simp only [h73, h78]
      clear h73 h78
      refine if_yes (by kernel_rfl) ?_
      unfold Oper.wp
      go_simp
      exact ⟨.bool true, rfl, HC.out, Below.refl _ _, rfl⟩
    · have h79 : u 79 = .bool true := hR ⟨42, .data⟩ (by simp) rfl
      clear hR
      simp only [h79]
      clear h79
      refine if_yes (by kernel_rfl) ?_
      unfold Oper.wp
      go_simp
      exact ⟨.bool true, rfl, HC.out, Below.refl _ _, rfl⟩
    · have g80 : u 80 = .bool true := hR ⟨43, .guard⟩ (by simp) rfl
      clear hR
      simp only [g80]
      clear g80
      refine if_no (by kernel_rfl) ?_
      exact ⟨undef, rfl, HC.out, Below.refl _ _, rfl⟩
    · have g80 : u 80 = .bool true := hR ⟨43, .guard⟩ (by simp) rfl
      have h81 : u 81 = undef := hR ⟨44, .data⟩ (by simp) rfl
      clear hR
      simp only [g80, h81]
      clear g80 h81
      refine if_no (by kernel_rfl) ?_
      exact ⟨undef, rfl, HC.out, Below.refl _ _, rfl⟩
    · have g80 : u 80 = .bool true := hR ⟨43, .guard⟩ (by simp) rfl
      clear hR
      simp only [g80]
      clear g80
      refine if_no (by kernel_rfl) ?_
      exact ⟨undef, rfl, HC.out, Below.refl _ _, rfl⟩
    · have g80 : u 80 = .bool true := hR ⟨43, .guard⟩ (by simp) rfl
      have h83 : u 83 = undef := hR ⟨46, .data⟩ (by simp) rfl
      clear hR
      simp only [g80, h83]
      clear g80 h83
      refine if_no (by kernel_rfl) ?_
      exact ⟨undef, rfl, HC.out, Below.refl _ _, rfl⟩
    · have g80 : u 80 = .bool true := hR ⟨43, .guard⟩ (by simp) rfl
      have h84 : u 84 = undef := hR ⟨47, .data⟩ (by simp) rfl
      clear hR
      simp only [g80, h84]
      clear g80 h84
      refine if_no (by kernel_rfl) ?_
      exact ⟨undef, rfl, HC.out, Below.refl _ _, rfl⟩
    · have g80 : u 80 = .bool true := hR ⟨43, .guard⟩ (by simp) rfl
      have h82 : u 82 = undef := hR ⟨45, .data⟩ (by simp) rfl
      have h85 : u 85 = undef := hR ⟨48, .data⟩ (by simp) rfl
      clear hR
      simp only [g80, h82, h85]
      clear g80 h82 h85
      refine if_no (by kernel_rfl) ?_
      exact ⟨undef, rfl, HC.out, Below.refl _ _, rfl⟩
    · have h80 : u 80 = .bool true := hR ⟨43, .data⟩ (by simp) rfl
      have h86 : u 86 = undef := hR ⟨49, .data⟩ (by simp) rfl
      clear hR
      simp only [h80, h86]
      clear h80 h86
      refine if_yes (by kernel_rfl) ?_
      unfold Oper.wp
      go_simp
      exact ⟨.bool true, rfl, HC.out, Below.refl _ _, rfl⟩
  · intro a w' hC hB hR
    have h87 : a.tmps.getD 87 undef = .bool true := hR 50 (by decide)
    clear hR
    have HE := Lib.hid hC.2
    clear hC
    obtain ⟨u, rfl⟩ := hB
    have h87 : u 87 = .bool true := h87
    simp only [h87]
    clear h87
    go_wp2_with fail
    go_ret
    exact ⟨rfl, HE.out⟩

/-- what each operation of the region GC7 leaves -/
def vsGC7 (B : Nat) (b n s r : Int) : List (Option (Tmp × Value)) :=
  [some (37, .pointer (some ⟨B, 4, none⟩)), some (38, .int .i64 s), some (39, .bool false), some (40, .bool false), some (41, .pointer (some ⟨B, 4, none⟩)), some (42, .int .i64 s), some (43, .bool false), some (44, .bool false), some (45, .bool false), some (46, .pointer (some ⟨B, 4, none⟩)), some (47, .int .i64 s), some (48, .pointer (some ⟨B, 0, none⟩)), some (49, .int .i64 b), some (50, .int .i64 (b - 8)), some (51, .bool false), some (52, .bool false), some (53, .bool false), some (54, .pointer (some ⟨B, 5, none⟩)), some (55, .int .i64 r), some (56, .bool false), some (57, .bool false), some (58, .bool false), some (59, .pointer (some ⟨B, 5, none⟩)), some (60, .int .i64 r), some (61, .bool false), some (62, .bool false), some (63, .bool false), some (64, .pointer (some ⟨B, 3, none⟩)), some (65, .int .i64 n), some (66, .bool false), some (67, .bool false), some (68, .bool false), some (69, .pointer (some ⟨B, 3, none⟩)), some (70, .int .i64 n), some (71, .bool true), some (72, .bool true), some (73, .bool true), some (74, undef), some (75, undef), some (76, undef), some (77, undef), some (78, undef), some (79, .bool true), some (80, .bool true), some (81, undef), some (82, undef), some (83, undef), some (84, undef), some (85, undef), some (86, undef), some (87, .bool true)]
/-- the frame while the region GC7 runs -/
def BaseGC7 (B : Nat) (a : Act) : Prop := ∃ u : Nat → Value, a = ⟨#[u 0, .pointer (some ⟨B, 0, none⟩), u 2, u 3, u 4, u 5, u 6, u 7, u 8, u 9, u 10, u 11, u 12, u 13, u 14, u 15, u 16, u 17, u 18, u 19, u 20, u 21, u 22, u 23, u 24, u 25, u 26, u 27, u 28, u 29, u 30, u 31, u 32, u 33, u 34, u 35, u 36, u 37, u 38, u 39, u 40, u 41, u 42, u 43, u 44, u 45, u 46, u 47, u 48, u 49, u 50, u 51, u 52, u 53, u 54, u 55, u 56, u 57, u 58, u 59, u 60, u 61, u 62, u 63, u 64, u 65, u 66, u 67, u 68, u 69, u 70, u 71, u 72, u 73, u 74, u 75, u 76, u 77, u 78, u 79, u 80, u 81, u 82, u 83, u 84, u 85, u 86, u 87], []⟩
theorem BaseGC7.of {B : Nat} (arr : Array Value) (h : arr = #[arr.getD 0 undef, .pointer (some ⟨B, 0, none⟩), arr.getD 2 undef, arr.getD 3 undef, arr.getD 4 undef, arr.getD 5 undef, arr.getD 6 undef, arr.getD 7 undef, arr.getD 8 undef, arr.getD 9 undef, arr.getD 10 undef, arr.getD 11 undef, arr.getD 12 undef, arr.getD 13 undef, arr.getD 14 undef, arr.getD 15 undef, arr.getD 16 undef, arr.getD 17 undef, arr.getD 18 undef, arr.getD 19 undef, arr.getD 20 undef, arr.getD 21 undef, arr.getD 22 undef, arr.getD 23 undef, arr.getD 24 undef, arr.getD 25 undef, arr.getD 26 undef, arr.getD 27 undef, arr.getD 28 undef, arr.getD 29 undef, arr.getD 30 undef, arr.getD 31 undef, arr.getD 32 undef, arr.getD 33 undef, arr.getD 34 undef, arr.getD 35 undef, arr.getD 36 undef, arr.getD 37 undef, arr.getD 38 undef, arr.getD 39 undef, arr.getD 40 undef, arr.getD 41 undef, arr.getD 42 undef, arr.getD 43 undef, arr.getD 44 undef, arr.getD 45 undef, arr.getD 46 undef, arr.getD 47 undef, arr.getD 48 undef, arr.getD 49 undef, arr.getD 50 undef, arr.getD 51 undef, arr.getD 52 undef, arr.getD 53 undef, arr.getD 54 undef, arr.getD 55 undef, arr.getD 56 undef, arr.getD 57 undef, arr.getD 58 undef, arr.getD 59 undef, arr.getD 60 undef, arr.getD 61 undef, arr.getD 62 undef, arr.getD 63 undef, arr.getD 64 undef, arr.getD 65 undef, arr.getD 66 undef, arr.getD 67 undef, arr.getD 68 undef, arr.getD 69 undef, arr.getD 70 undef, arr.getD 71 undef, arr.getD 72 undef, arr.getD 73 undef, arr.getD 74 undef, arr.getD 75 undef, arr.getD 76 undef, arr.getD 77 undef, arr.getD 78 undef, arr.getD 79 undef, arr.getD 80 undef, arr.getD 81 undef, arr.getD 82 undef, arr.getD 83 undef, arr.getD 84 undef, arr.getD 85 undef, arr.getD 86 undef, arr.getD 87 undef]) : BaseGC7 B ⟨arr, []⟩ := ⟨fun i => arr.getD i undef, by rw [← h]⟩
theorem BaseGC7.put37 {B : Nat} (a : Act) (v : Value) (h : BaseGC7 B a) : BaseGC7 B (a.put (some 37) v) := by
  obtain ⟨u, rfl⟩ := h
  exact ⟨fun i => if i = 37 then v else u i, by kernel_rfl⟩
theorem BaseGC7.put38 {B : Nat} (a : Act) (v : Value) (h : BaseGC7 B a) : BaseGC7 B (a.put (some 38) v) := by
  obtain ⟨u, rfl⟩ := h
  exact ⟨fun i => if i = 38 then v else u i, by kernel_rfl⟩
theorem BaseGC7.put39 {B : Nat} (a : Act) (v : Value) (h : BaseGC7 B a) : BaseGC7 B (a.put (some 39) v) := by
  obtain ⟨u, rfl⟩ := h
  exact ⟨fun i => if i = 39 then v else u i, by kernel_rfl⟩
theorem BaseGC7.put40 {B : Nat} (a : Act) (v : Value) (h : BaseGC7 B a) : BaseGC7 B (a.put (some 40) v) := by
  obtain ⟨u, rfl⟩ := h
  exact ⟨fun i => if i = 40 then v else u i, by kernel_rfl⟩
theorem BaseGC7.put41 {B : Nat} (a : Act) (v : Value) (h : BaseGC7 B a) : BaseGC7 B (a.put (some 41) v) := by
  obtain ⟨u, rfl⟩ := h
  exact ⟨fun i => if i = 41 then v else u i, by kernel_rfl⟩
theorem BaseGC7.put42 {B : Nat} (a : Act) (v : Value) (h : BaseGC7 B a) : BaseGC7 B (a.put (some 42) v) := by
  obtain ⟨u, rfl⟩ := h
  exact ⟨fun i => if i = 42 then v else u i, by kernel_rfl⟩
theorem BaseGC7.put43 {B : Nat} (a : Act) (v : Value) (h : BaseGC7 B a) : BaseGC7 B (a.put (some 43) v) := by
  obtain ⟨u, rfl⟩ := h
  exact ⟨fun i => if i = 43 then v else u i, by kernel_rfl⟩
theorem BaseGC7.put44 {B : Nat} (a : Act) (v : Value) (h : BaseGC7 B a) : BaseGC7 B (a.put (some 44) v) := by
  obtain ⟨u, rfl⟩ := h
  exact ⟨fun i => if i = 44 then v else u i, by kernel_rfl⟩
theorem BaseGC7.put45 {B : Nat} (a : Act) (v : Value) (h : BaseGC7 B a) : BaseGC7 B (a.put (some 45) v) := by
  obtain ⟨u, rfl⟩ := h
  exact ⟨fun i => if i = 45 then v else u i, by kernel_rfl⟩
theorem BaseGC7.put46 {B : Nat} (a : Act) (v : Value) (h : BaseGC7 B a) : BaseGC7 B (a.put (some 46) v) := by
  obtain ⟨u, rfl⟩ := h
  exact ⟨fun i => if i = 46 then v else u i, by kernel_rfl⟩
theorem BaseGC7.put47 {B : Nat} (a : Act) (v : Value) (h : BaseGC7 B a) : BaseGC7 B (a.put (some 47) v) := by
  obtain ⟨u, rfl⟩ := h
  exact ⟨fun i => if i = 47 then v else u i, by kernel_rfl⟩
theorem BaseGC7.put48 {B : Nat} (a : Act) (v : Value) (h : BaseGC7 B a) : BaseGC7 B (a.put (some 48) v) := by
  obtain ⟨u, rfl⟩ := h
  exact ⟨fun i => if i = 48 then v else u i, by kernel_rfl⟩
theorem BaseGC7.put49 {B : Nat} (a : Act) (v : Value) (h : BaseGC7 B a) : BaseGC7 B (a.put (some 49) v) := by
  obtain ⟨u, rfl⟩ := h
  exact ⟨fun i => if i = 49 then v else u i, by kernel_rfl⟩
theorem BaseGC7.put50 {B : Nat} (a : Act) (v : Value) (h : BaseGC7 B a) : BaseGC7 B (a.put (some 50) v) := by
  obtain ⟨u, rfl⟩ := h
  exact ⟨fun i => if i = 50 then v else u i, by kernel_rfl⟩
theorem BaseGC7.put51 {B : Nat} (a : Act) (v : Value) (h : BaseGC7 B a) : BaseGC7 B (a.put (some 51) v) := by
  obtain ⟨u, rfl⟩ := h
  exact ⟨fun i => if i = 51 then v else u i, by kernel_rfl⟩
theorem BaseGC7.put52 {B : Nat} (a : Act) (v : Value) (h : BaseGC7 B a) : BaseGC7 B (a.put (some 52) v) := by
  obtain ⟨u, rfl⟩ := h
  exact ⟨fun i => if i = 52 then v else u i, by kernel_rfl⟩
theorem BaseGC7.put53 {B : Nat} (a : Act) (v : Value) (h : BaseGC7 B a) : BaseGC7 B (a.put (some 53) v) := by
  obtain ⟨u, rfl⟩ := h
  exact ⟨fun i => if i = 53 then v else u i, by kernel_rfl⟩
theorem BaseGC7.put54 {B : Nat} (a : Act) (v : Value) (h : BaseGC7 B a) : BaseGC7 B (a.put (some 54) v) := by
  obtain ⟨u, rfl⟩ := h
  exact ⟨fun i => if i = 54 then v else u i, by kernel_rfl⟩
theorem BaseGC7.put55 {B : Nat} (a : Act) (v : Value) (h : BaseGC7 B a) : BaseGC7 B (a.put (some 55) v) := by
  obtain ⟨u, rfl⟩ := h
  exact ⟨fun i => if i = 55 then v else u i, by kernel_rfl⟩
theorem BaseGC7.put56 {B : Nat} (a : Act) (v : Value) (h : BaseGC7 B a) : BaseGC7 B (a.put (some 56) v) := by
  obtain ⟨u, rfl⟩ := h
  exact ⟨fun i => if i = 56 then v else u i, by kernel_rfl⟩
theorem BaseGC7.put57 {B : Nat} (a : Act) (v : Value) (h : BaseGC7 B a) : BaseGC7 B (a.put (some 57) v) := by
  obtain ⟨u, rfl⟩ := h
  exact ⟨fun i => if i = 57 then v else u i, by kernel_rfl⟩
theorem BaseGC7.put58 {B : Nat} (a : Act) (v : Value) (h : BaseGC7 B a) : BaseGC7 B (a.put (some 58) v) := by
  obtain ⟨u, rfl⟩ := h
  exact ⟨fun i => if i = 58 then v else u i, by kernel_rfl⟩
theorem BaseGC7.put59 {B : Nat} (a : Act) (v : Value) (h : BaseGC7 B a) : BaseGC7 B (a.put (some 59) v) := by
  obtain ⟨u, rfl⟩ := h
  exact ⟨fun i => if i = 59 then v else u i, by kernel_rfl⟩
theorem BaseGC7.put60 {B : Nat} (a : Act) (v : Value) (h : BaseGC7 B a) : BaseGC7 B (a.put (some 60) v) := by
  obtain ⟨u, rfl⟩ := h
  exact ⟨fun i => if i = 60 then v else u i, by kernel_rfl⟩
theorem BaseGC7.put61 {B : Nat} (a : Act) (v : Value) (h : BaseGC7 B a) : BaseGC7 B (a.put (some 61) v) := by
  obtain ⟨u, rfl⟩ := h
  exact ⟨fun i => if i = 61 then v else u i, by kernel_rfl⟩
theorem BaseGC7.put62 {B : Nat} (a : Act) (v : Value) (h : BaseGC7 B a) : BaseGC7 B (a.put (some 62) v) := by
  obtain ⟨u, rfl⟩ := h
  exact ⟨fun i => if i = 62 then v else u i, by kernel_rfl⟩
theorem BaseGC7.put63 {B : Nat} (a : Act) (v : Value) (h : BaseGC7 B a) : BaseGC7 B (a.put (some 63) v) := by
  obtain ⟨u, rfl⟩ := h
  exact ⟨fun i => if i = 63 then v else u i, by kernel_rfl⟩
theorem BaseGC7.put64 {B : Nat} (a : Act) (v : Value) (h : BaseGC7 B a) : BaseGC7 B (a.put (some 64) v) := by
  obtain ⟨u, rfl⟩ := h
  exact ⟨fun i => if i = 64 then v else u i, by kernel_rfl⟩
theorem BaseGC7.put65 {B : Nat} (a : Act) (v : Value) (h : BaseGC7 B a) : BaseGC7 B (a.put (some 65) v) := by
  obtain ⟨u, rfl⟩ := h
  exact ⟨fun i => if i = 65 then v else u i, by kernel_rfl⟩
theorem BaseGC7.put66 {B : Nat} (a : Act) (v : Value) (h : BaseGC7 B a) : BaseGC7 B (a.put (some 66) v) := by
  obtain ⟨u, rfl⟩ := h
  exact ⟨fun i => if i = 66 then v else u i, by kernel_rfl⟩
theorem BaseGC7.put67 {B : Nat} (a : Act) (v : Value) (h : BaseGC7 B a) : BaseGC7 B (a.put (some 67) v) := by
  obtain ⟨u, rfl⟩ := h
  exact ⟨fun i => if i = 67 then v else u i, by kernel_rfl⟩
theorem BaseGC7.put68 {B : Nat} (a : Act) (v : Value) (h : BaseGC7 B a) : BaseGC7 B (a.put (some 68) v) := by
  obtain ⟨u, rfl⟩ := h
  exact ⟨fun i => if i = 68 then v else u i, by kernel_rfl⟩
theorem BaseGC7.put69 {B : Nat} (a : Act) (v : Value) (h : BaseGC7 B a) : BaseGC7 B (a.put (some 69) v) := by
  obtain ⟨u, rfl⟩ := h
  exact ⟨fun i => if i = 69 then v else u i, by kernel_rfl⟩
theorem BaseGC7.put70 {B : Nat} (a : Act) (v : Value) (h : BaseGC7 B a) : BaseGC7 B (a.put (some 70) v) := by
  obtain ⟨u, rfl⟩ := h
  exact ⟨fun i => if i = 70 then v else u i, by kernel_rfl⟩
theorem BaseGC7.put71 {B : Nat} (a : Act) (v : Value) (h : BaseGC7 B a) : BaseGC7 B (a.put (some 71) v) := by
  obtain ⟨u, rfl⟩ := h
  exact ⟨fun i => if i = 71 then v else u i, by kernel_rfl⟩
theorem BaseGC7.put72 {B : Nat} (a : Act) (v : Value) (h : BaseGC7 B a) : BaseGC7 B (a.put (some 72) v) := by
  obtain ⟨u, rfl⟩ := h
  exact ⟨fun i => if i = 72 then v else u i, by kernel_rfl⟩
theorem BaseGC7.put73 {B : Nat} (a : Act) (v : Value) (h : BaseGC7 B a) : BaseGC7 B (a.put (some 73) v) := by
  obtain ⟨u, rfl⟩ := h
  exact ⟨fun i => if i = 73 then v else u i, by kernel_rfl⟩
theorem BaseGC7.put74 {B : Nat} (a : Act) (v : Value) (h : BaseGC7 B a) : BaseGC7 B (a.put (some 74) v) := by
  obtain ⟨u, rfl⟩ := h
  exact ⟨fun i => if i = 74 then v else u i, by kernel_rfl⟩
theorem BaseGC7.put75 {B : Nat} (a : Act) (v : Value) (h : BaseGC7 B a) : BaseGC7 B (a.put (some 75) v) := by
  obtain ⟨u, rfl⟩ := h
  exact ⟨fun i => if i = 75 then v else u i, by kernel_rfl⟩
theorem BaseGC7.put76 {B : Nat} (a : Act) (v : Value) (h : BaseGC7 B a) : BaseGC7 B (a.put (some 76) v) := by
  obtain ⟨u, rfl⟩ := h
  exact ⟨fun i => if i = 76 then v else u i, by kernel_rfl⟩
theorem BaseGC7.put77 {B : Nat} (a : Act) (v : Value) (h : BaseGC7 B a) : BaseGC7 B (a.put (some 77) v) := by
  obtain ⟨u, rfl⟩ := h
  exact ⟨fun i => if i = 77 then v else u i, by kernel_rfl⟩
theorem BaseGC7.put78 {B : Nat} (a : Act) (v : Value) (h : BaseGC7 B a) : BaseGC7 B (a.put (some 78) v) := by
  obtain ⟨u, rfl⟩ := h
  exact ⟨fun i => if i = 78 then v else u i, by kernel_rfl⟩
theorem BaseGC7.put79 {B : Nat} (a : Act) (v : Value) (h : BaseGC7 B a) : BaseGC7 B (a.put (some 79) v) := by
  obtain ⟨u, rfl⟩ := h
  exact ⟨fun i => if i = 79 then v else u i, by kernel_rfl⟩
theorem BaseGC7.put80 {B : Nat} (a : Act) (v : Value) (h : BaseGC7 B a) : BaseGC7 B (a.put (some 80) v) := by
  obtain ⟨u, rfl⟩ := h
  exact ⟨fun i => if i = 80 then v else u i, by kernel_rfl⟩
theorem BaseGC7.put81 {B : Nat} (a : Act) (v : Value) (h : BaseGC7 B a) : BaseGC7 B (a.put (some 81) v) := by
  obtain ⟨u, rfl⟩ := h
  exact ⟨fun i => if i = 81 then v else u i, by kernel_rfl⟩
theorem BaseGC7.put82 {B : Nat} (a : Act) (v : Value) (h : BaseGC7 B a) : BaseGC7 B (a.put (some 82) v) := by
  obtain ⟨u, rfl⟩ := h
  exact ⟨fun i => if i = 82 then v else u i, by kernel_rfl⟩
theorem BaseGC7.put83 {B : Nat} (a : Act) (v : Value) (h : BaseGC7 B a) : BaseGC7 B (a.put (some 83) v) := by
  obtain ⟨u, rfl⟩ := h
  exact ⟨fun i => if i = 83 then v else u i, by kernel_rfl⟩
theorem BaseGC7.put84 {B : Nat} (a : Act) (v : Value) (h : BaseGC7 B a) : BaseGC7 B (a.put (some 84) v) := by
  obtain ⟨u, rfl⟩ := h
  exact ⟨fun i => if i = 84 then v else u i, by kernel_rfl⟩
theorem BaseGC7.put85 {B : Nat} (a : Act) (v : Value) (h : BaseGC7 B a) : BaseGC7 B (a.put (some 85) v) := by
  obtain ⟨u, rfl⟩ := h
  exact ⟨fun i => if i = 85 then v else u i, by kernel_rfl⟩
theorem BaseGC7.put86 {B : Nat} (a : Act) (v : Value) (h : BaseGC7 B a) : BaseGC7 B (a.put (some 86) v) := by
  obtain ⟨u, rfl⟩ := h
  exact ⟨fun i => if i = 86 then v else u i, by kernel_rfl⟩
theorem BaseGC7.put87 {B : Nat} (a : Act) (v : Value) (h : BaseGC7 B a) : BaseGC7 B (a.put (some 87) v) := by
  obtain ⟨u, rfl⟩ := h
  exact ⟨fun i => if i = 87 then v else u i, by kernel_rfl⟩

set_option maxHeartbeats 2000000 in
set_option maxRecDepth 100000 in
theorem rge_check_7 (b l y n s r : Int) (w : World) (h : FirstG b l y) (hs : 0 ≤ s ∧ s ≤ 16 ∧ s ≤ b - 8 ∧ 2 ≤ r ∧ r ≤ 1000 ∧ 1 ≤ n ∧ 4096 < n) : Calls Try.prog 9 #[.agg (gv b l y n s r)] w (ChkT b l y n s r w) := by
  have hno : ¬ OkG b l y n s r := fun ⟨⟨h1, h2, h3, h4, h5, h6, h7, h8, h9, h10, h11, h12, h13, h14⟩, h15, h16⟩ => by omega
  unfold ChkT
  rw [chk_no hno]
  obtain ⟨h1, h2, h3, h4, h5, h6, h7⟩ := h
  have hf : (8 ≤ b ∧ b ≤ 64 ∧ 6 ≤ l ∧ l ≤ 64) ∧ (0 ≤ s ∧ s ≤ 16 ∧ s ≤ b - 8 ∧ 2 ≤ r ∧ r ≤ 1000 ∧ 1 ≤ n ∧ 4096 < n) := ⟨⟨h1, h2, h3, h4⟩, hs⟩
  have HF := Lib.hid hf
  have HC0 : Hid (CG w b l y n s r (w.alloc (.cells (gv b l y n s r) 23))) := ⟨Blk.new w _ _, (Below.refl w.heap.size w).alloc (Nat.le_refl _) _⟩
  clear hf hs hno
  go_enter Try.func9, Try.ntmps9
  unfold gv at *
  go_wp2_with fail

  rename_i K0 hK0
  refine wp_region_list3 (SV (vsGC7 w.heap.size b n s r) []) (BaseGC7 w.heap.size) (CG w b l y n s r) Goes (RV (vsGC7 w.heap.size b n s r) (fun _ _ _ => False)) rfl (by kernel_rfl) (RV.ext no_special6) ?_ HC0.out.drew (BaseGC7.of _ (by kernel_rfl)) ?_ ?_
  · exact ⟨BaseGC7.put37, BaseGC7.put38, BaseGC7.put39, BaseGC7.put40, BaseGC7.put41, BaseGC7.put42, BaseGC7.put43, BaseGC7.put44, BaseGC7.put45, BaseGC7.put46, BaseGC7.put47, BaseGC7.put48, BaseGC7.put49, BaseGC7.put50, BaseGC7.put51, BaseGC7.put52, BaseGC7.put53, BaseGC7.put54, BaseGC7.put55, BaseGC7.put56, BaseGC7.put57, BaseGC7.put58, BaseGC7.put59, BaseGC7.put60, BaseGC7.put61, BaseGC7.put62, BaseGC7.put63, BaseGC7.put64, BaseGC7.put65, BaseGC7.put66, BaseGC7.put67, BaseGC7.put68, BaseGC7.put69, BaseGC7.put70, BaseGC7.put71, BaseGC7.put72, BaseGC7.put73, BaseGC7.put74, BaseGC7.put75, BaseGC7.put76, BaseGC7.put77, BaseGC7.put78, BaseGC7.put79, BaseGC7.put80, BaseGC7.put81, BaseGC7.put82, BaseGC7.put83, BaseGC7.put84, BaseGC7.put85, BaseGC7.put86, BaseGC7.put87, trivial⟩
  · refine ⟨?_, ?_, ?_, ?_, ?_, ?_, ?_, ?_, ?_, ?_, ?_, ?_, ?_, ?_, ?_, ?_, ?_, ?_, ?_, ?_, ?_, ?_, ?_, ?_, ?_, ?_, ?_, ?_, ?_, ?_, ?_, ?_, ?_, ?_, ?_, ?_, ?_, ?_, ?_, ?_, ?_, ?_, ?_, ?_, ?_, ?_, ?_, ?_, ?_, ?_, ?_, trivial⟩
    all_goals
      intro a w' hC hB hR
      obtain ⟨u, rfl⟩ := hB
      have HC := Lib.hid hC
      clear hC
      clear hK0
    · clear hR
      refine if_yes (by kernel_rfl) ?_
      unfold Oper.wp
      go_simp
      exact ⟨.pointer (some ⟨w.heap.size, 4, none⟩), rfl, HC.out, Below.refl _ _, rfl⟩
    · have h37 : u 37 = .pointer (some ⟨w.heap.size, 4, none⟩) := hR ⟨0, .data⟩ (by simp) rfl
      have hc : w'.cell? ⟨w.heap.size, 4, none⟩ = some (.int .i64 s) := HC.out.1.cell 4
      clear hR
      simp only [h37]
      clear h37
      refine if_yes (by kernel_rfl) ?_
      unfold Oper.wp
      go_simp
      exact ⟨.int .i64 s, rfl, HC.out, Below.refl _ _, rfl⟩
    · have h38 : u 38 = .int .i64 s := hR ⟨1, .data⟩ (by simp) rfl
      clear hR
      simp only [h38]
      clear h38
      refine if_yes (by kernel_rfl) ?_
      have hf := HF.out
      unfold Oper.wp
      go_simp
      exact ⟨_, rfl, HC.out, Below.refl _ _, congrArg Value.bool (by first | rfl | (simp; done) | (simp; omega))⟩
    · have h39 : u 39 = .bool false := hR ⟨2, .data⟩ (by simp) rfl
      clear hR
      simp only [h39]
      clear h39
      refine if_yes (by kernel_rfl) ?_
      unfold Oper.wp
      go_simp
      exact ⟨.bool false, rfl, HC.out, Below.refl _ _, rfl⟩
    · have g40 : u 40 = .bool false := hR ⟨3, .guard⟩ (by simp) rfl
      clear hR
      simp only [g40]
      clear g40
      refine if_yes (by kernel_rfl) ?_
      unfold Oper.wp
      go_simp
      exact ⟨.pointer (some ⟨w.heap.size, 4, none⟩), rfl, HC.out, Below.refl _ _, rfl⟩
    · have g40 : u 40 = .bool false := hR ⟨3, .guard⟩ (by simp) rfl
      have h41 : u 41 = .pointer (some ⟨w.heap.size, 4, none⟩) := hR ⟨4, .data⟩ (by simp) rfl
      have hc : w'.cell? ⟨w.heap.size, 4, none⟩ = some (.int .i64 s) := HC.out.1.cell 4
      clear hR
      simp only [g40, h41]
      clear g40 h41
      refine if_yes (by kernel_rfl) ?_
      unfold Oper.wp
      go_simp
      exact ⟨.int .i64 s, rfl, HC.out, Below.refl _ _, rfl⟩
    · have g40 : u 40 = .bool false := hR ⟨3, .guard⟩ (by simp) rfl
      have h42 : u 42 = .int .i64 s := hR ⟨5, .data⟩ (by simp) rfl
      clear hR
      simp only [g40, h42]
      clear g40 h42
      refine if_yes (by kernel_rfl) ?_
      have hf := HF.out
      unfold Oper.wp
      go_simp
      exact ⟨_, rfl, HC.out, Below.refl _ _, congrArg Value.bool (by first | rfl | (simp; done) | (simp; omega))⟩
    · have h40 : u 40 = .bool false := hR ⟨3, .data⟩ (by simp) rfl
      have h43 : u 43 = .bool false := hR ⟨6, .data⟩ (by simp) rfl
      clear hR
      simp only [h40, h43]
      clear h40 h43
      refine if_yes (by kernel_rfl) ?_
      unfold Oper.wp
      go_simp
      exact ⟨.bool false, rfl, HC.out, Below.refl _ _, rfl⟩
    · have h44 : u 44 = .bool false := hR ⟨7, .data⟩ (by simp) rfl
      clear hR
      simp only [h44]
      clear h44
      refine if_yes (by kernel_rfl) ?_
      unfold Oper.wp
      go_simp
      exact ⟨.bool false, rfl, HC.out, Below.refl _ _, rfl⟩
    · have g45 : u 45 = .bool false := hR ⟨8, .guard⟩ (by simp) rfl
      clear hR
      simp only [g45]
      clear g45
      refine if_yes (by kernel_rfl) ?_
      unfold Oper.wp
      go_simp
      exact ⟨.pointer (some ⟨w.heap.size, 4, none⟩), rfl, HC.out, Below.refl _ _, rfl⟩
    · have g45 : u 45 = .bool false := hR ⟨8, .guard⟩ (by simp) rfl
      have h46 : u 46 = .pointer (some ⟨w.heap.size, 4, none⟩) := hR ⟨9, .data⟩ (by simp) rfl
      have hc : w'.cell? ⟨w.heap.size, 4, none⟩ = some (.int .i64 s) := HC.out.1.cell 4
      clear hR
      simp only [g45, h46]
      clear g45 h46
      refine if_yes (by kernel_rfl) ?_
      unfold Oper.wp
      go_simp
      exact ⟨.int .i64 s, rfl, HC.out, Below.refl _ _, rfl⟩
    · have g45 : u 45 = .bool false := hR ⟨8, .guard⟩ (by simp) rfl
      clear hR
      simp only [g45]
      clear g45
      refine if_yes (by kernel_rfl) ?_
      unfold Oper.wp
      go_simp
      exact ⟨.pointer (some ⟨w.heap.size, 0, none⟩), rfl, HC.out, Below.refl _ _, rfl⟩
    · have g45 : u 45 = .bool false := hR ⟨8, .guard⟩ (by simp) rfl
      have h48 : u 48 = .pointer (some ⟨w.heap.size, 0, none⟩) := hR ⟨11, .data⟩ (by simp) rfl
      have hc : w'.cell? ⟨w.heap.size, 0, none⟩ = some (.int .i64 b) := HC.out.1.cell 0
      clear hR
      simp only [g45, h48]
      clear g45 h48
      refine if_yes (by kernel_rfl) ?_
      unfold Oper.wp
      go_simp
      exact ⟨.int .i64 b, rfl, HC.out, Below.refl _ _, rfl⟩
    · have g45 : u 45 = .bool false := hR ⟨8, .guard⟩ (by simp) rfl
      have h49 : u 49 = .int .i64 b := hR ⟨12, .data⟩ (by simp) rfl
      have hf := HF.out
      have hw : IntKind.i64.wrap (b - 8) = b - 8 := by rw [IntKind.wrap_i64]; omega
      clear hf
      clear hR
      simp only [g45, h49]
      clear g45 h49
      refine if_yes (by kernel_rfl) ?_
      unfold Oper.wp
      go_simp
      exact ⟨.int .i64 (b - 8), rfl, HC.out, Below.refl _ _, rfl⟩
    · have g45 : u 45 = .bool false := hR ⟨8, .guard⟩ (by simp) rfl
      have h47 : u 47 = .int .i64 s := hR ⟨10, .data⟩ (by simp) rfl
      have h50 : u 50 = .int .i64 (b - 8) := hR ⟨13, .data⟩ (by simp) rfl
      clear hR
      simp only [g45, h47, h50]
      clear g45 h47 h50
      refine if_yes (by kernel_rfl) ?_
      have hf := HF.out
      unfold Oper.wp
      go_simp
      exact ⟨_, rfl, HC.out, Below.refl _ _, congrArg Value.bool (by first | rfl | (simp; done) | (simp; omega))⟩
    · have h45 : u 45 = .bool false := hR ⟨8, .data⟩ (by simp) rfl
      have h51 : u 51 = .bool false := hR ⟨14, .data⟩ (by simp) rfl
      clear hR
      simp only [h45, h51]
      clear h45 h51
      refine if_yes (by kernel_rfl) ?_
      unfold Oper.wp
      go_simp
      exact ⟨.bool false, rfl, HC.out, Below.refl _ _, rfl⟩
    · have h52 : u 52 = .bool false := hR ⟨15, .data⟩ (by simp) rfl
      clear hR
      simp only [h52]
      clear h52
      refine if_yes (by kernel_rfl) ?_
      unfold Oper.wp
      go_simp
      exact ⟨.bool false, rfl, HC.out, Below.refl _ _, rfl⟩
    · have g53 : u 53 = .bool false := hR ⟨16, .guard⟩ (by simp) rfl
      clear hR
      simp only [g53]
      clear g53
      refine if_yes (by kernel_rfl) ?_
      unfold Oper.wp
      go_simp
      exact ⟨.pointer (some ⟨w.heap.size, 5, none⟩), rfl, HC.out, Below.refl _ _, rfl⟩
    · have g53 : u 53 = .bool false := hR ⟨16, .guard⟩ (by simp) rfl
      have h54 : u 54 = .pointer (some ⟨w.heap.size, 5, none⟩) := hR ⟨17, .data⟩ (by simp) rfl
      have hc : w'.cell? ⟨w.heap.size, 5, none⟩ = some (.int .i64 r) := HC.out.1.cell 5
      clear hR
      simp only [g53, h54]
      clear g53 h54
      refine if_yes (by kernel_rfl) ?_
      unfold Oper.wp
      go_simp
      exact ⟨.int .i64 r, rfl, HC.out, Below.refl _ _, rfl⟩
    · have g53 : u 53 = .bool false := hR ⟨16, .guard⟩ (by simp) rfl
      have h55 : u 55 = .int .i64 r := hR ⟨18, .data⟩ (by simp) rfl
      clear hR
      simp only [g53, h55]
      clear g53 h55
      refine if_yes (by kernel_rfl) ?_
      have hf := HF.out
      unfold Oper.wp
      go_simp
      exact ⟨_, rfl, HC.out, Below.refl _ _, congrArg Value.bool (by first | rfl | (simp; done) | (simp; omega))⟩
    · have h53 : u 53 = .bool false := hR ⟨16, .data⟩ (by simp) rfl
      have h56 : u 56 = .bool false := hR ⟨19, .data⟩ (by simp) rfl
      clear hR
      simp only [h53, h56]
      clear h53 h56
      refine if_yes (by kernel_rfl) ?_
      unfold Oper.wp
      go_simp
      exact ⟨.bool false, rfl, HC.out, Below.refl _ _, rfl⟩
    · have h57 : u 57 = .bool false := hR ⟨20, .data⟩ (by simp) rfl
      clear hR
      simp only [h57]
      clear h57
      refine if_yes (by kernel_rfl) ?_
      unfold Oper.wp
      go_simp
      exact ⟨.bool false, rfl, HC.out, Below.refl _ _, rfl⟩
    · have g58 : u 58 = .bool false := hR ⟨21, .guard⟩ (by simp) rfl
      clear hR
      simp only [g58]
      clear g58
      refine if_yes (by kernel_rfl) ?_
      unfold Oper.wp
      go_simp
      exact ⟨.pointer (some ⟨w.heap.size, 5, none⟩), rfl, HC.out, Below.refl _ _, rfl⟩
    · have g58 : u 58 = .bool false := hR ⟨21, .guard⟩ (by simp) rfl
      have h59 : u 59 = .pointer (some ⟨w.heap.size, 5, none⟩) := hR ⟨22, .data⟩ (by simp) rfl
      have hc : w'.cell? ⟨w.heap.size, 5, none⟩ = some (.int .i64 r) := HC.out.1.cell 5
      clear hR
      simp only [g58, h59]
      clear g58 h59
      refine if_yes (by kernel_rfl) ?_
      unfold Oper.wp
      go_simp
      exact ⟨.int .i64 r, rfl, HC.out, Below.refl _ _, rfl⟩
    · have g58 : u 58 = .bool false := hR ⟨21, .guard⟩ (by simp) rfl
      have h60 : u 60 = .int .i64 r := hR ⟨23, .data⟩ (by simp) rfl
      clear hR
      simp only [g58, h60]
      clear g58 h60
      refine if_yes (by kernel_rfl) ?_
      have hf := HF.out
      unfold Oper.wp
      go_simp
      exact ⟨_, rfl, HC.out, Below.refl _ _, congrArg Value.bool (by first | rfl | (simp; done) | (simp; omega))⟩
    · have h58 : u 58 = .bool false := hR ⟨21, .data⟩ (by simp) rfl
      have h61 : u 61 = .bool false := hR ⟨24, .data⟩ (by simp) rfl
      clear hR
      simp only [h58, h61]
      clear h58 h61
      refine if_yes (by kernel_rfl) ?_
      unfold Oper.wp
      go_simp
      exact ⟨.bool false, rfl, HC.out, Below.refl _ _, rfl⟩
    · have h62 : u 62 = .bool false := hR ⟨25, .data⟩ (by simp) rfl
      clear hR
      simp only [h62]
      clear h62
      refine if_yes (by kernel_rfl) ?_
      unfold Oper.wp
      go_simp
      exact ⟨.bool false, rfl, HC.out, Below.refl _ _, rfl⟩
    · have g63 : u 63 = .bool false := hR ⟨26, .guard⟩ (by simp) rfl
      clear hR
      simp only [g63]
      clear g63
      refine if_yes (by kernel_rfl) ?_
      unfold Oper.wp
      go_simp
      exact ⟨.pointer (some ⟨w.heap.size, 3, none⟩), rfl, HC.out, Below.refl _ _, rfl⟩
    · have g63 : u 63 = .bool false := hR ⟨26, .guard⟩ (by simp) rfl
      have h64 : u 64 = .pointer (some ⟨w.heap.size, 3, none⟩) := hR ⟨27, .data⟩ (by simp) rfl
      have hc : w'.cell? ⟨w.heap.size, 3, none⟩ = some (.int .i64 n) := HC.out.1.cell 3
      clear hR
      simp only [g63, h64]
      clear g63 h64
      refine if_yes (by kernel_rfl) ?_
      unfold Oper.wp
      go_simp
      exact ⟨.int .i64 n, rfl, HC.out, Below.refl _ _, rfl⟩
    · have g63 : u 63 = .bool false := hR ⟨26, .guard⟩ (by simp) rfl
      have h65 : u 65 = .int .i64 n := hR ⟨28, .data⟩ (by simp) rfl
      clear hR
      simp only [g63, h65]
      clear g63 h65
      refine if_yes (by kernel_rfl) ?_
      have hf := HF.out
      unfold Oper.wp
      go_simp
      exact ⟨_, rfl, HC.out, Below.refl _ _, congrArg Value.bool (by first | rfl | (simp; done) | (simp; omega))⟩
    · have h63 : u 63 = .bool false := hR ⟨26, .data⟩ (by simp) rfl
      have h66 : u 66 = .bool false := hR ⟨29, .data⟩ (by simp) rfl
      clear hR
      simp only [h63, h66]
      clear h63 h66
      refine if_yes (by kernel_rfl) ?_
      unfold Oper.wp
      go_simp
      exact ⟨.bool false, rfl, HC.out, Below.refl _ _, rfl⟩
    · have h67 : u 67 = .bool false := hR ⟨30, .data⟩ (by simp) rfl
      clear hR
      simp only [h67]
      clear h67
      refine if_yes (by kernel_rfl) ?_
      unfold Oper.wp
      go_simp
      exact ⟨.bool false, rfl, HC.out, Below.refl _ _, rfl⟩
    · have g68 : u 68 = .bool false := hR ⟨31, .guard⟩ (by simp) rfl
      clear hR
      simp only [g68]
      clear g68
      refine if_yes (by kernel_rfl) ?_
      unfold Oper.wp
      go_simp
      exact ⟨.pointer (some ⟨w.heap.size, 3, none⟩), rfl, HC.out, Below.refl _ _, rfl⟩
    · have g68 : u 68 = .bool false := hR ⟨31, .guard⟩ (by simp) rfl
      have h69 : u 69 = .pointer (some ⟨w.heap.size, 3, none⟩) := hR ⟨32, .data⟩ (by simp) rfl
      have hc : w'.cell? ⟨w.heap.size, 3, none⟩ = some (.int .i64 n) := HC.out.1.cell 3
      clear hR
      simp only [g68, h69]
      clear g68 h69
      refine if_yes (by kernel_rfl) ?_
      unfold Oper.wp
      go_simp
      exact ⟨.int .i64 n, rfl, HC.out, Below.refl _ _, rfl⟩
    · have g68 : u 68 = .bool false := hR ⟨31, .guard⟩ (by simp) rfl
      have h70 : u 70 = .int .i64 n := hR ⟨33, .data⟩ (by simp) rfl
      clear hR
      simp only [g68, h70]
      clear g68 h70
      refine if_yes (by kernel_rfl) ?_
      have hf := HF.out
      unfold Oper.wp
      go_simp
      exact ⟨_, rfl, HC.out, Below.refl _ _, congrArg Value.bool (by first | rfl | (simp; done) | (simp; omega))⟩
    · have h68 : u 68 = .bool false := hR ⟨31, .data⟩ (by simp) rfl
      have h71 : u 71 = .bool true := hR ⟨34, .data⟩ (by simp) rfl
      clear hR
      simp only [h68, h71]
      clear h68 h71
      refine if_yes (by kernel_rfl) ?_
      unfold Oper.wp
      go_simp
      exact ⟨.bool true, rfl, HC.out, Below.refl _ _, rfl⟩
    · have h72 : u 72 = .bool true := hR ⟨35, .data⟩ (by simp) rfl
      clear hR
      simp only [h72]
      clear h72
      refine if_yes (by kernel_rfl) ?_
      unfold Oper.wp
      go_simp
      exact ⟨.bool true, rfl, HC.out, Below.refl _ _, rfl⟩
    · have g73 : u 73 = .bool true := hR ⟨36, .guard⟩ (by simp) rfl
      clear hR
      simp only [g73]
      clear g73
      refine if_no (by kernel_rfl) ?_
      exact ⟨undef, rfl, HC.out, Below.refl _ _, rfl⟩
    · have g73 : u 73 = .bool true := hR ⟨36, .guard⟩ (by simp) rfl
      have h74 : u 74 = undef := hR ⟨37, .data⟩ (by simp) rfl
      clear hR
      simp only [g73, h74]
      clear g73 h74
      refine if_no (by kernel_rfl) ?_
      exact ⟨undef, rfl, HC.out, Below.refl _ _, rfl⟩
    · have g73 : u 73 = .bool true := hR ⟨36, .guard⟩ (by simp) rfl
      clear hR
      simp only [g73]
      clear g73
      refine if_no (by kernel_rfl) ?_
      exact ⟨undef, rfl, HC.out, Below.refl _ _, rfl⟩
    · have g73 : u 73 = .bool true := hR ⟨36, .guard⟩ (by simp) rfl
      have h76 : u 76 = undef := hR ⟨39, .data⟩ (by simp) rfl
      clear hR
      simp only [g73, h76]
      clear g73 h76
      refine if_no (by kernel_rfl) ?_
      exact ⟨undef, rfl, HC.out, Below.refl _ _, rfl⟩
    · have g73 : u 73 = .bool true := hR ⟨36, .guard⟩ (by simp) rfl
      have h75 : u 75 = undef := hR ⟨38, .data⟩ (by simp) rfl
      have h77 : u 77 = undef := hR ⟨40, .data⟩ (by simp) rfl
      clear hR
      simp only [g73, h75, h77]
      clear g73 h75 h77
      refine if_no (by kernel_rfl) ?_
      exact ⟨undef, rfl, HC.out, Below.refl _ _, rfl⟩
    · have h73 : u 73 = .bool true := hR ⟨36, .data⟩ (by simp) rfl
      have h78 : u 78 = undef := hR ⟨41, .data⟩ (by simp) rfl
      clear hR
      simp only [h73, h78]
      clear h73 h78
      refine if_yes (by kernel_rfl) ?_
      unfold Oper.wp
      go_simp
      exact ⟨.bool true, rfl, HC.out, Below.refl _ _, rfl⟩
    · have h79 : u 79 = .bool true := hR ⟨42, .data⟩ (by simp) rfl
      clear hR
      simp only [h79]
      clear h79
      refine if_yes (by kernel_rfl) ?_
      unfold Oper.wp
      go_simp
      exact ⟨.bool true, rfl, HC.out, Below.refl _ _, rfl⟩
    · have g80 : u 80 = .bool true := hR ⟨43, .guard⟩ (by simp) rfl
      clear hR
      simp only [g80]
      clear g80
      refine if_no (by kernel_rfl) ?_
      exact ⟨undef, rfl, HC.out, Below.refl _ _, rfl⟩
    · have g80 : u 80 = .bool true := hR ⟨43, .guard⟩ (by simp) rfl
      have h81 : u 81 = undef := hR ⟨44, .data⟩ (by simp) rfl
      clear hR
      simp only [g80, h81]
      clear g80 h81
      refine if_no (by kernel_rfl) ?_
      exact ⟨undef, rfl, HC.out, Below.refl _ _, rfl⟩
    · have g80 : u 80 = .bool true := hR ⟨43, .guard⟩ (by simp) rfl
      clear hR
      simp only [g80]
      clear g80
      refine if_no (by kernel_rfl) ?_
      exact ⟨undef, rfl, HC.out, Below.refl _ _, rfl⟩
    · have g80 : u 80 = .bool true := hR ⟨43, .guard⟩ (by simp) rfl
      have h83 : u 83 = undef := hR ⟨46, .data⟩ (by simp) rfl
      clear hR
      simp only [g80, h83]
      clear g80 h83
      refine if_no (by kernel_rfl) ?_
      exact ⟨undef, rfl, HC.out, Below.refl _ _, rfl⟩
    · have g80 : u 80 = .bool true := hR ⟨43, .guard⟩ (by simp) rfl
      have h84 : u 84 = undef := hR ⟨47, .data⟩ (by simp) rfl
      clear hR
      simp only [g80, h84]
      clear g80 h84
      refine if_no (by kernel_rfl) ?_
      exact ⟨undef, rfl, HC.out, Below.refl _ _, rfl⟩
    · have g80 : u 80 = .bool true := hR ⟨43, .guard⟩ (by simp) rfl
      have h82 : u 82 = undef := hR ⟨45, .data⟩ (by simp) rfl
      have h85 : u 85 = undef := hR ⟨48, .data⟩ (by simp) rfl
      clear hR
      simp only [g80, h82, h85]
      clear g80 h82 h85
      refine if_no (by kernel_rfl) ?_
      exact ⟨undef, rfl, HC.out, Below.refl _ _, rfl⟩
    · have h80 : u 80 = .bool true := hR ⟨43, .data⟩ (by simp) rfl
      have h86 : u 86 = undef := hR ⟨49, .data⟩ (by simp) rfl
      clear hR
      simp only [h80, h86]
      clear h80 h86
      refine if_yes (by kernel_rfl) ?_
      unfold Oper.wp
      go_simp
      exact ⟨.bool true, rfl, HC.out, Below.refl _ _, rfl⟩
  · intro a w' hC hB hR
    have h87 : a.tmps.getD 87 undef = .bool true := hR 50 (by decide)
    clear hR
    have HE := Lib.hid hC.2
    clear hC
    obtain ⟨u, rfl⟩ := hB
    have h87 : u 87 = .bool true := h87
    simp only [h87]
    clear h87
    go_wp2_with fail
    go_ret
    exact ⟨rfl, HE.out⟩

end Go.Proofs.Ytejgdaekomdhlaa
