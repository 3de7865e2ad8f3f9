/- The reference of layer 6, walked: Check, by the first condition that fails. -/
import Derived.Test.YtejgdaekomdhlaaGeR2
import Derived.Test.YtejgdaekomdhlaaReg
namespace Go.Proofs.Ytejgdaekomdhlaa
set_option maxRecDepth 100000
open Go.RowKit

theorem size_geo : (Try.prog.info? 23).map (·.size) = some 6 := by kernel_rfl
/-- the world while Check goes on: the geometry's block, and what is below -/
def CG (w0 : World) (b l y n s r : Int) (w : World) : Prop := Blk w w0.heap.size (gv b l y n s r) 23 ∧ Below w0.heap.size w0 w
theorem CG.call {w0 w w' : World} {b l y n s r : Int} (h : CG w0 b l y n s r w) (hb : Below w.heap.size w w') : CG w0 b l y n s r w' := ⟨h.1.after hb, h.2.trans (hb.mono h.2.size)⟩
theorem CG.drew {w0 w : World} {b l y n s r : Int} (h : CG w0 b l y n s r w) : CG w0 b l y n s r w.drew := h.call (Below.refl _ _).drew
theorem no_special6 {T : World → World → Prop} : ∀ (j : Nat) (a a' : Act) (w w' : World), (fun (_ : Nat) (_ : Act) (_ : World) => False) j a w → (∀ d ∈ ([] : List Tmp), a'.tmps.getD d undef = a.tmps.getD d undef) → T w w' → (fun (_ : Nat) (_ : Act) (_ : World) => False) j a' w' := fun _ _ _ _ _ h _ _ => h

/-- what each operation of the region GC0 leaves -/
def vsGC0 (B : Nat) (b l y n s r m k : Int) : List (Option (Tmp × Value)) :=
  [some (37, .pointer (some ⟨B, 4, none⟩)), some (38, .int .i64 s), some (39, .bool false), some (40, .bool false), some (41, .pointer (some ⟨B, 4, none⟩)), some (42, .int .i64 s), some (43, .bool false), some (44, .bool false), some (45, .bool false), some (46, .pointer (some ⟨B, 4, none⟩)), some (47, .int .i64 s), some (48, .pointer (some ⟨B, 0, none⟩)), some (49, .int .i64 b), some (50, .int .i64 (b - 8)), some (51, .bool false), some (52, .bool false), some (53, .bool false), some (54, .pointer (some ⟨B, 5, none⟩)), some (55, .int .i64 r), some (56, .bool false), some (57, .bool false), some (58, .bool false), some (59, .pointer (some ⟨B, 5, none⟩)), some (60, .int .i64 r), some (61, .bool false), some (62, .bool false), some (63, .bool false), some (64, .pointer (some ⟨B, 3, none⟩)), some (65, .int .i64 n), some (66, .bool false), some (67, .bool false), some (68, .bool false), some (69, .pointer (some ⟨B, 3, none⟩)), some (70, .int .i64 n), some (71, .bool false), some (72, .bool false), some (73, .bool false), some (74, .pointer (some ⟨B, 3, none⟩)), some (75, .int .i64 n), some (76, .agg (gv b l y n s r)), some (77, .int .i64 m), some (78, .bool false), some (79, .bool false), some (80, .bool false), some (81, .agg (gv b l y n s r)), some (82, .int .i64 k), some (83, .pointer (some ⟨B, 1, none⟩)), some (84, .int .i64 l), some (85, .int .i64 (l - 4)), some (86, .bool false), some (87, .bool false)]
/-- the frame while the region GC0 runs -/
def BaseGC0 (B : Nat) (a : Act) : Prop := ∃ u : Nat → Value, a = ⟨#[u 0, .pointer (some ⟨B, 0, none⟩), u 2, u 3, u 4, u 5, u 6, u 7, u 8, u 9, u 10, u 11, u 12, u 13, u 14, u 15, u 16, u 17, u 18, u 19, u 20, u 21, u 22, u 23, u 24, u 25, u 26, u 27, u 28, u 29, u 30, u 31, u 32, u 33, u 34, u 35, u 36, u 37, u 38, u 39, u 40, u 41, u 42, u 43, u 44, u 45, u 46, u 47, u 48, u 49, u 50, u 51, u 52, u 53, u 54, u 55, u 56, u 57, u 58, u 59, u 60, u 61, u 62, u 63, u 64, u 65, u 66, u 67, u 68, u 69, u 70, u 71, u 72, u 73, u 74, u 75, u 76, u 77, u 78, u 79, u 80, u 81, u 82, u 83, u 84, u 85, u 86, u 87], []⟩
theorem BaseGC0.of {B : Nat} (arr : Array Value) (h : arr = #[arr.getD 0 undef, .pointer (some ⟨B, 0, none⟩), arr.getD 2 undef, arr.getD 3 undef, arr.getD 4 undef, arr.getD 5 undef, arr.getD 6 undef, arr.getD 7 undef, arr.getD 8 undef, arr.getD 9 undef, arr.getD 10 undef, arr.getD 11 undef, arr.getD 12 undef, arr.getD 13 undef, arr.getD 14 undef, arr.getD 15 undef, arr.getD 16 undef, arr.getD 17 undef, arr.getD 18 undef, arr.getD 19 undef, arr.getD 20 undef, arr.getD 21 undef, arr.getD 22 undef, arr.getD 23 undef, arr.getD 24 undef, arr.getD 25 undef, arr.getD 26 undef, arr.getD 27 undef, arr.getD 28 undef, arr.getD 29 undef, arr.getD 30 undef, arr.getD 31 undef, arr.getD 32 undef, arr.getD 33 undef, arr.getD 34 undef, arr.getD 35 undef, arr.getD 36 undef, arr.getD 37 undef, arr.getD 38 undef, arr.getD 39 undef, arr.getD 40 undef, arr.getD 41 undef, arr.getD 42 undef, arr.getD 43 undef, arr.getD 44 undef, arr.getD 45 undef, arr.getD 46 undef, arr.getD 47 undef, arr.getD 48 undef, arr.getD 49 undef, arr.getD 50 undef, arr.getD 51 undef, arr.getD 52 undef, arr.getD 53 undef, arr.getD 54 undef, arr.getD 55 undef, arr.getD 56 undef, arr.getD 57 undef, arr.getD 58 undef, arr.getD 59 undef, arr.getD 60 undef, arr.getD 61 undef, arr.getD 62 undef, arr.getD 63 undef, arr.getD 64 undef, arr.getD 65 undef, arr.getD 66 undef, arr.getD 67 undef, arr.getD 68 undef, arr.getD 69 undef, arr.getD 70 undef, arr.getD 71 undef, arr.getD 72 undef, arr.getD 73 undef, arr.getD 74 undef, arr.getD 75 undef, arr.getD 76 undef, arr.getD 77 undef, arr.getD 78 undef, arr.getD 79 undef, arr.getD 80 undef, arr.getD 81 undef, arr.getD 82 undef, arr.getD 83 undef, arr.getD 84 undef, arr.getD 85 undef, arr.getD 86 undef, arr.getD 87 undef]) : BaseGC0 B ⟨arr, []⟩ := ⟨fun i => arr.getD i undef, by rw [← h]⟩
theorem BaseGC0.put37 {B : Nat} (a : Act) (v : Value) (h : BaseGC0 B a) : BaseGC0 B (a.put (some 37) v) := by
  obtain ⟨u, rfl⟩ := h
  exact ⟨fun i => if i = 37 then v else u i, by kernel_rfl⟩
theorem BaseGC0.put38 {B : Nat} (a : Act) (v : Value) (h : BaseGC0 B a) : BaseGC0 B (a.put (some 38) v) := by
  obtain ⟨u, rfl⟩ := h
  exact ⟨fun i => if i = 38 then v else u i, by kernel_rfl⟩
theorem BaseGC0.put39 {B : Nat} (a : Act) (v : Value) (h : BaseGC0 B a) : BaseGC0 B (a.put (some 39) v) := by
  obtain ⟨u, rfl⟩ := h
  exact ⟨fun i => if i = 39 then v else u i, by kernel_rfl⟩
theorem BaseGC0.put40 {B : Nat} (a : Act) (v : Value) (h : BaseGC0 B a) : BaseGC0 B (a.put (some 40) v) := by
  obtain ⟨u, rfl⟩ := h
  exact ⟨fun i => if i = 40 then v else u i, by kernel_rfl⟩
theorem BaseGC0.put41 {B : Nat} (a : Act) (v : Value) (h : BaseGC0 B a) : BaseGC0 B (a.put (some 41) v) := by
  obtain ⟨u, rfl⟩ := h
  exact ⟨fun i => if i = 41 then v else u i, by kernel_rfl⟩
theorem BaseGC0.put42 {B : Nat} (a : Act) (v : Value) (h : BaseGC0 B a) : BaseGC0 B (a.put (some 42) v) := by
  obtain ⟨u, rfl⟩ := h
  exact ⟨fun i => if i = 42 then v else u i, by kernel_rfl⟩
theorem BaseGC0.put43 {B : Nat} (a : Act) (v : Value) (h : BaseGC0 B a) : BaseGC0 B (a.put (some 43) v) := by
  obtain ⟨u, rfl⟩ := h
  exact ⟨fun i => if i = 43 then v else u i, by kernel_rfl⟩
theorem BaseGC0.put44 {B : Nat} (a : Act) (v : Value) (h : BaseGC0 B a) : BaseGC0 B (a.put (some 44) v) := by
  obtain ⟨u, rfl⟩ := h
  exact ⟨fun i => if i = 44 then v else u i, by kernel_rfl⟩
theorem BaseGC0.put45 {B : Nat} (a : Act) (v : Value) (h : BaseGC0 B a) : BaseGC0 B (a.put (some 45) v) := by
  obtain ⟨u, rfl⟩ := h
  exact ⟨fun i => if i = 45 then v else u i, by kernel_rfl⟩
theorem BaseGC0.put46 {B : Nat} (a : Act) (v : Value) (h : BaseGC0 B a) : BaseGC0 B (a.put (some 46) v) := by
  obtain ⟨u, rfl⟩ := h
  exact ⟨fun i => if i = 46 then v else u i, by kernel_rfl⟩
theorem BaseGC0.put47 {B : Nat} (a : Act) (v : Value) (h : BaseGC0 B a) : BaseGC0 B (a.put (some 47) v) := by
  obtain ⟨u, rfl⟩ := h
  exact ⟨fun i => if i = 47 then v else u i, by kernel_rfl⟩
theorem BaseGC0.put48 {B : Nat} (a : Act) (v : Value) (h : BaseGC0 B a) : BaseGC0 B (a.put (some 48) v) := by
  obtain ⟨u, rfl⟩ := h
  exact ⟨fun i => if i = 48 then v else u i, by kernel_rfl⟩
theorem BaseGC0.put49 {B : Nat} (a : Act) (v : Value) (h : BaseGC0 B a) : BaseGC0 B (a.put (some 49) v) := by
  obtain ⟨u, rfl⟩ := h
  exact ⟨fun i => if i = 49 then v else u i, by kernel_rfl⟩
theorem BaseGC0.put50 {B : Nat} (a : Act) (v : Value) (h : BaseGC0 B a) : BaseGC0 B (a.put (some 50) v) := by
  obtain ⟨u, rfl⟩ := h
  exact ⟨fun i => if i = 50 then v else u i, by kernel_rfl⟩
theorem BaseGC0.put51 {B : Nat} (a : Act) (v : Value) (h : BaseGC0 B a) : BaseGC0 B (a.put (some 51) v) := by
  obtain ⟨u, rfl⟩ := h
  exact ⟨fun i => if i = 51 then v else u i, by kernel_rfl⟩
theorem BaseGC0.put52 {B : Nat} (a : Act) (v : Value) (h : BaseGC0 B a) : BaseGC0 B (a.put (some 52) v) := by
  obtain ⟨u, rfl⟩ := h
  exact ⟨fun i => if i = 52 then v else u i, by kernel_rfl⟩
theorem BaseGC0.put53 {B : Nat} (a : Act) (v : Value) (h : BaseGC0 B a) : BaseGC0 B (a.put (some 53) v) := by
  obtain ⟨u, rfl⟩ := h
  exact ⟨fun i => if i = 53 then v else u i, by kernel_rfl⟩
theorem BaseGC0.put54 {B : Nat} (a : Act) (v : Value) (h : BaseGC0 B a) : BaseGC0 B (a.put (some 54) v) := by
  obtain ⟨u, rfl⟩ := h
  exact ⟨fun i => if i = 54 then v else u i, by kernel_rfl⟩
theorem BaseGC0.put55 {B : Nat} (a : Act) (v : Value) (h : BaseGC0 B a) : BaseGC0 B (a.put (some 55) v) := by
  obtain ⟨u, rfl⟩ := h
  exact ⟨fun i => if i = 55 then v else u i, by kernel_rfl⟩
theorem BaseGC0.put56 {B : Nat} (a : Act) (v : Value) (h : BaseGC0 B a) : BaseGC0 B (a.put (some 56) v) := by
  obtain ⟨u, rfl⟩ := h
  exact ⟨fun i => if i = 56 then v else u i, by kernel_rfl⟩
theorem BaseGC0.put57 {B : Nat} (a : Act) (v : Value) (h : BaseGC0 B a) : BaseGC0 B (a.put (some 57) v) := by
  obtain ⟨u, rfl⟩ := h
  exact ⟨fun i => if i = 57 then v else u i, by kernel_rfl⟩
theorem BaseGC0.put58 {B : Nat} (a : Act) (v : Value) (h : BaseGC0 B a) : BaseGC0 B (a.put (some 58) v) := by
  obtain ⟨u, rfl⟩ := h
  exact ⟨fun i => if i = 58 then v else u i, by kernel_rfl⟩
theorem BaseGC0.put59 {B : Nat} (a : Act) (v : Value) (h : BaseGC0 B a) : BaseGC0 B (a.put (some 59) v) := by
  obtain ⟨u, rfl⟩ := h
  exact ⟨fun i => if i = 59 then v else u i, by kernel_rfl⟩
theorem BaseGC0.put60 {B : Nat} (a : Act) (v : Value) (h : BaseGC0 B a) : BaseGC0 B (a.put (some 60) v) := by
  obtain ⟨u, rfl⟩ := h
  exact ⟨fun i => if i = 60 then v else u i, by kernel_rfl⟩
theorem BaseGC0.put61 {B : Nat} (a : Act) (v : Value) (h : BaseGC0 B a) : BaseGC0 B (a.put (some 61) v) := by
  obtain ⟨u, rfl⟩ := h
  exact ⟨fun i => if i = 61 then v else u i, by kernel_rfl⟩
theorem BaseGC0.put62 {B : Nat} (a : Act) (v : Value) (h : BaseGC0 B a) : BaseGC0 B (a.put (some 62) v) := by
  obtain ⟨u, rfl⟩ := h
  exact ⟨fun i => if i = 62 then v else u i, by kernel_rfl⟩
theorem BaseGC0.put63 {B : Nat} (a : Act) (v : Value) (h : BaseGC0 B a) : BaseGC0 B (a.put (some 63) v) := by
  obtain ⟨u, rfl⟩ := h
  exact ⟨fun i => if i = 63 then v else u i, by kernel_rfl⟩
theorem BaseGC0.put64 {B : Nat} (a : Act) (v : Value) (h : BaseGC0 B a) : BaseGC0 B (a.put (some 64) v) := by
  obtain ⟨u, rfl⟩ := h
  exact ⟨fun i => if i = 64 then v else u i, by kernel_rfl⟩
theorem BaseGC0.put65 {B : Nat} (a : Act) (v : Value) (h : BaseGC0 B a) : BaseGC0 B (a.put (some 65) v) := by
  obtain ⟨u, rfl⟩ := h
  exact ⟨fun i => if i = 65 then v else u i, by kernel_rfl⟩
theorem BaseGC0.put66 {B : Nat} (a : Act) (v : Value) (h : BaseGC0 B a) : BaseGC0 B (a.put (some 66) v) := by
  obtain ⟨u, rfl⟩ := h
  exact ⟨fun i => if i = 66 then v else u i, by kernel_rfl⟩
theorem BaseGC0.put67 {B : Nat} (a : Act) (v : Value) (h : BaseGC0 B a) : BaseGC0 B (a.put (some 67) v) := by
  obtain ⟨u, rfl⟩ := h
  exact ⟨fun i => if i = 67 then v else u i, by kernel_rfl⟩
theorem BaseGC0.put68 {B : Nat} (a : Act) (v : Value) (h : BaseGC0 B a) : BaseGC0 B (a.put (some 68) v) := by
  obtain ⟨u, rfl⟩ := h
  exact ⟨fun i => if i = 68 then v else u i, by kernel_rfl⟩
theorem BaseGC0.put69 {B : Nat} (a : Act) (v : Value) (h : BaseGC0 B a) : BaseGC0 B (a.put (some 69) v) := by
  obtain ⟨u, rfl⟩ := h
  exact ⟨fun i => if i = 69 then v else u i, by kernel_rfl⟩
theorem BaseGC0.put70 {B : Nat} (a : Act) (v : Value) (h : BaseGC0 B a) : BaseGC0 B (a.put (some 70) v) := by
  obtain ⟨u, rfl⟩ := h
  exact ⟨fun i => if i = 70 then v else u i, by kernel_rfl⟩
theorem BaseGC0.put71 {B : Nat} (a : Act) (v : Value) (h : BaseGC0 B a) : BaseGC0 B (a.put (some 71) v) := by
  obtain ⟨u, rfl⟩ := h
  exact ⟨fun i => if i = 71 then v else u i, by kernel_rfl⟩
theorem BaseGC0.put72 {B : Nat} (a : Act) (v : Value) (h : BaseGC0 B a) : BaseGC0 B (a.put (some 72) v) := by
  obtain ⟨u, rfl⟩ := h
  exact ⟨fun i => if i = 72 then v else u i, by kernel_rfl⟩
theorem BaseGC0.put73 {B : Nat} (a : Act) (v : Value) (h : BaseGC0 B a) : BaseGC0 B (a.put (some 73) v) := by
  obtain ⟨u, rfl⟩ := h
  exact ⟨fun i => if i = 73 then v else u i, by kernel_rfl⟩
theorem BaseGC0.put74 {B : Nat} (a : Act) (v : Value) (h : BaseGC0 B a) : BaseGC0 B (a.put (some 74) v) := by
  obtain ⟨u, rfl⟩ := h
  exact ⟨fun i => if i = 74 then v else u i, by kernel_rfl⟩
theorem BaseGC0.put75 {B : Nat} (a : Act) (v : Value) (h : BaseGC0 B a) : BaseGC0 B (a.put (some 75) v) := by
  obtain ⟨u, rfl⟩ := h
  exact ⟨fun i => if i = 75 then v else u i, by kernel_rfl⟩
theorem BaseGC0.put76 {B : Nat} (a : Act) (v : Value) (h : BaseGC0 B a) : BaseGC0 B (a.put (some 76) v) := by
  obtain ⟨u, rfl⟩ := h
  exact ⟨fun i => if i = 76 then v else u i, by kernel_rfl⟩
theorem BaseGC0.put77 {B : Nat} (a : Act) (v : Value) (h : BaseGC0 B a) : BaseGC0 B (a.put (some 77) v) := by
  obtain ⟨u, rfl⟩ := h
  exact ⟨fun i => if i = 77 then v else u i, by kernel_rfl⟩
theorem BaseGC0.put78 {B : Nat} (a : Act) (v : Value) (h : BaseGC0 B a) : BaseGC0 B (a.put (some 78) v) := by
  obtain ⟨u, rfl⟩ := h
  exact ⟨fun i => if i = 78 then v else u i, by kernel_rfl⟩
theorem BaseGC0.put79 {B : Nat} (a : Act) (v : Value) (h : BaseGC0 B a) : BaseGC0 B (a.put (some 79) v) := by
  obtain ⟨u, rfl⟩ := h
  exact ⟨fun i => if i = 79 then v else u i, by kernel_rfl⟩
theorem BaseGC0.put80 {B : Nat} (a : Act) (v : Value) (h : BaseGC0 B a) : BaseGC0 B (a.put (some 80) v) := by
  obtain ⟨u, rfl⟩ := h
  exact ⟨fun i => if i = 80 then v else u i, by kernel_rfl⟩
theorem BaseGC0.put81 {B : Nat} (a : Act) (v : Value) (h : BaseGC0 B a) : BaseGC0 B (a.put (some 81) v) := by
  obtain ⟨u, rfl⟩ := h
  exact ⟨fun i => if i = 81 then v else u i, by kernel_rfl⟩
theorem BaseGC0.put82 {B : Nat} (a : Act) (v : Value) (h : BaseGC0 B a) : BaseGC0 B (a.put (some 82) v) := by
  obtain ⟨u, rfl⟩ := h
  exact ⟨fun i => if i = 82 then v else u i, by kernel_rfl⟩
theorem BaseGC0.put83 {B : Nat} (a : Act) (v : Value) (h : BaseGC0 B a) : BaseGC0 B (a.put (some 83) v) := by
  obtain ⟨u, rfl⟩ := h
  exact ⟨fun i => if i = 83 then v else u i, by kernel_rfl⟩
theorem BaseGC0.put84 {B : Nat} (a : Act) (v : Value) (h : BaseGC0 B a) : BaseGC0 B (a.put (some 84) v) := by
  obtain ⟨u, rfl⟩ := h
  exact ⟨fun i => if i = 84 then v else u i, by kernel_rfl⟩
theorem BaseGC0.put85 {B : Nat} (a : Act) (v : Value) (h : BaseGC0 B a) : BaseGC0 B (a.put (some 85) v) := by
  obtain ⟨u, rfl⟩ := h
  exact ⟨fun i => if i = 85 then v else u i, by kernel_rfl⟩
theorem BaseGC0.put86 {B : Nat} (a : Act) (v : Value) (h : BaseGC0 B a) : BaseGC0 B (a.put (some 86) v) := by
  obtain ⟨u, rfl⟩ := h
  exact ⟨fun i => if i = 86 then v else u i, by kernel_rfl⟩
theorem BaseGC0.put87 {B : Nat} (a : Act) (v : Value) (h : BaseGC0 B a) : BaseGC0 B (a.put (some 87) v) := by
  obtain ⟨u, rfl⟩ := h
  exact ⟨fun i => if i = 87 then v else u i, by kernel_rfl⟩

set_option maxHeartbeats 2000000 in
set_option maxRecDepth 100000 in
theorem rge_check_0 (b l y n s r : Int) (w : World) (h : FirstG b l y) (hs : 0 ≤ s ∧ s ≤ 16 ∧ s ≤ b - 8 ∧ 2 ≤ r ∧ r ≤ 1000 ∧ 1 ≤ n ∧ n ≤ 4096 ∧ n ≤ mostG b l s ∧ snapsG b y n ≤ l - 4) : Calls Try.prog 9 #[.agg (gv b l y n s r)] w (ChkT b l y n s r w) := by
  have hyes : OkG b l y n s r := ⟨⟨h.1, h.2.1, h.2.2.1, h.2.2.2.1, h.2.2.2.2.1, h.2.2.2.2.2.1, h.2.2.2.2.2.2, by omega, by omega, by omega, by omega, by omega, by omega, by omega⟩, by omega, by omega⟩
  unfold ChkT
  rw [chk_ok hyes]
  have hpre : PreG b l y n s r := ⟨h.1, h.2.1, h.2.2.1, h.2.2.2.1, h.2.2.2.2.1, h.2.2.2.2.2.1, h.2.2.2.2.2.2, by omega, by omega, by omega, by omega, by omega, by omega, by omega⟩
  have HP := Lib.hid hpre
  obtain ⟨m, hm⟩ : ∃ m, mostG b l s = m := ⟨_, rfl⟩
  rw [hm] at hs
  have HM := Lib.hid hm
  obtain ⟨k, hk⟩ : ∃ k, snapsG b y n = k := ⟨_, rfl⟩
  rw [hk] at hs
  have HK := Lib.hid hk
  obtain ⟨h1, h2, h3, h4, h5, h6, h7⟩ := h
  have hf : (8 ≤ b ∧ b ≤ 64 ∧ 6 ≤ l ∧ l ≤ 64) ∧ (0 ≤ s ∧ s ≤ 16 ∧ s ≤ b - 8 ∧ 2 ≤ r ∧ r ≤ 1000 ∧ 1 ≤ n ∧ n ≤ 4096 ∧ n ≤ m ∧ k ≤ l - 4) := ⟨⟨h1, h2, h3, h4⟩, hs⟩
  have HF := Lib.hid hf
  have HC0 : Hid (CG w b l y n s r (w.alloc (.cells (gv b l y n s r) 23))) := ⟨Blk.new w _ _, (Below.refl w.heap.size w).alloc (Nat.le_refl _) _⟩
  clear hf hs hyes hpre hm hk
  go_enter Try.func9, Try.ntmps9
  unfold gv at *
  go_wp2_with fail

  rename_i K0 hK0
  refine wp_region_list3 (SV (vsGC0 w.heap.size b l y n s r m k) []) (BaseGC0 w.heap.size) (CG w b l y n s r) Goes (RV (vsGC0 w.heap.size b l y n s r m k) (fun _ _ _ => False)) rfl (by kernel_rfl) (RV.ext no_special6) ?_ HC0.out.drew (BaseGC0.of _ (by kernel_rfl)) ?_ ?_
  · exact ⟨BaseGC0.put37, BaseGC0.put38, BaseGC0.put39, BaseGC0.put40, BaseGC0.put41, BaseGC0.put42, BaseGC0.put43, BaseGC0.put44, BaseGC0.put45, BaseGC0.put46, BaseGC0.put47, BaseGC0.put48, BaseGC0.put49, BaseGC0.put50, BaseGC0.put51, BaseGC0.put52, BaseGC0.put53, BaseGC0.put54, BaseGC0.put55, BaseGC0.put56, BaseGC0.put57, BaseGC0.put58, BaseGC0.put59, BaseGC0.put60, BaseGC0.put61, BaseGC0.put62, BaseGC0.put63, BaseGC0.put64, BaseGC0.put65, BaseGC0.put66, BaseGC0.put67, BaseGC0.put68, BaseGC0.put69, BaseGC0.put70, BaseGC0.put71, BaseGC0.put72, BaseGC0.put73, BaseGC0.put74, BaseGC0.put75, BaseGC0.put76, BaseGC0.put77, BaseGC0.put78, BaseGC0.put79, BaseGC0.put80, BaseGC0.put81, BaseGC0.put82, BaseGC0.put83, BaseGC0.put84, BaseGC0.put85, BaseGC0.put86, BaseGC0.put87, trivial⟩
  · refine ⟨?_, ?_, ?_, ?_, ?_, ?_, ?_, ?_, ?_, ?_, ?_, ?_, ?_, ?_, ?_, ?_, ?_, ?_, ?_, ?_, ?_, ?_, ?_, ?_, ?_, ?_, ?_, ?_, ?_, ?_, ?_, ?_, ?_, ?_, ?_, ?_, ?_, ?_, ?_, ?_, ?_, ?_, ?_, ?_, ?_, ?_, ?_, ?_, ?_, ?_, ?_, trivial⟩
    all_goals
      intro a w' hC hB hR
      obtain ⟨u, rfl⟩ := hB
      have HC := Lib.hid hC
      clear hC
      clear hK0
    · clear hR
      refine if_yes (by kernel_rfl) ?_
      unfold Oper.wp
      go_simp
      exact ⟨.pointer (some ⟨w.heap.size, 4, none⟩), rfl, HC.out, Below.refl _ _, rfl⟩
    · have h37 : u 37 = .pointer (some ⟨w.heap.size, 4, none⟩) := hR ⟨0, .data⟩ (by simp) rfl
      have hc : w'.cell? ⟨w.heap.size, 4, none⟩ = some (.int .i64 s) := HC.out.1.cell 4
      clear hR
      simp only [h37]
      clear h37
      refine if_yes (by kernel_rfl) ?_
      unfold Oper.wp
      go_simp
      exact ⟨.int .i64 s, rfl, HC.out, Below.refl _ _, rfl⟩
    · have h38 : u 38 = .int .i64 s := hR ⟨1, .data⟩ (by simp) rfl
      clear hR
      simp only [h38]
      clear h38
      refine if_yes (by kernel_rfl) ?_
      have hf := HF.out
      unfold Oper.wp
      go_simp
      exact ⟨_, rfl, HC.out, Below.refl _ _, congrArg Value.bool (by first | rfl | (simp; done) | (simp; omega))⟩
    · have h39 : u 39 = .bool false := hR ⟨2, .data⟩ (by simp) rfl
      clear hR
      simp only [h39]
      clear h39
      refine if_yes (by kernel_rfl) ?_
      unfold Oper.wp
      go_simp
      exact ⟨.bool false, rfl, HC.out, Below.refl _ _, rfl⟩
    · have g40 : u 40 = .bool false := hR ⟨3, .guard⟩ (by simp) rfl
      clear hR
      simp only [g40]
      clear g40
      refine if_yes (by kernel_rfl) ?_
      unfold Oper.wp
      go_simp
      exact ⟨.pointer (some ⟨w.heap.size, 4, none⟩), rfl, HC.out, Below.refl _ _, rfl⟩
    · have g40 : u 40 = .bool false := hR ⟨3, .guard⟩ (by simp) rfl
      have h41 : u 41 = .pointer (some ⟨w.heap.size, 4, none⟩) := hR ⟨4, .data⟩ (by simp) rfl
      have hc : w'.cell? ⟨w.heap.size, 4, none⟩ = some (.int .i64 s) := HC.out.1.cell 4
      clear hR
      simp only [g40, h41]
      clear g40 h41
      refine if_yes (by kernel_rfl) ?_
      unfold Oper.wp
      go_simp
      exact ⟨.int .i64 s, rfl, HC.out, Below.refl _ _, rfl⟩
    · have g40 : u 40 = .bool false := hR ⟨3, .guard⟩ (by simp) rfl
      have h42 : u 42 = .int .i64 s := hR ⟨5, .data⟩ (by simp) rfl
      clear hR
      simp only [g40, h42]
      clear g40 h42
      refine if_yes (by kernel_rfl) ?_
      have hf := HF.out
      unfold Oper.wp
      go_simp
      exact ⟨_, rfl, HC.out, Below.refl _ _, congrArg Value.bool (by first | rfl | (simp; done) | (simp; omega))⟩
    · have h40 : u 40 = .bool false := hR ⟨3, .data⟩ (by simp) rfl
      have h43 : u 43 = .bool false := hR ⟨6, .data⟩ (by simp) rfl
      clear hR
      simp only [h40, h43]
      clear h40 h43
      refine if_yes (by kernel_rfl) ?_
      unfold Oper.wp
      go_simp
      exact ⟨.bool false, rfl, HC.out, Below.refl _ _, rfl⟩
    · have h44 : u 44 = .bool false := hR ⟨7, .data⟩ (by simp) rfl
      clear hR
      simp only [h44]
      clear h44
      refine if_yes (by kernel_rfl) ?_
      unfold Oper.wp
      go_simp
      exact ⟨.bool false, rfl, HC.out, Below.refl _ _, rfl⟩
    · have g45 : u 45 = .bool false := hR ⟨8, .guard⟩ (by simp) rfl
      clear hR
      simp only [g45]
      clear g45
      refine if_yes (by kernel_rfl) ?_
      unfold Oper.wp
      go_simp
      exact ⟨.pointer (some ⟨w.heap.size, 4, none⟩), rfl, HC.out, Below.refl _ _, rfl⟩
    · have g45 : u 45 = .bool false := hR ⟨8, .guard⟩ (by simp) rfl
      have h46 : u 46 = .pointer (some ⟨w.heap.size, 4, none⟩) := hR ⟨9, .data⟩ (by simp) rfl
      have hc : w'.cell? ⟨w.heap.size, 4, none⟩ = some (.int .i64 s) := HC.out.1.cell 4
      clear hR
      simp only [g45, h46]
      clear g45 h46
      refine if_yes (by kernel_rfl) ?_
      unfold Oper.wp
      go_simp
      exact ⟨.int .i64 s, rfl, HC.out, Below.refl _ _, rfl⟩
    · have g45 : u 45 = .bool false := hR ⟨8, .guard⟩ (by simp) rfl
      clear hR
      simp only [g45]
      clear g45
      refine if_yes (by kernel_rfl) ?_
      unfold Oper.wp
      go_simp
      exact ⟨.pointer (some ⟨w.heap.size, 0, none⟩), rfl, HC.out, Below.refl _ _, rfl⟩
    · have g45 : u 45 = .bool false := hR ⟨8, .guard⟩ (by simp) rfl
      have h48 : u 48 = .pointer (some ⟨w.heap.size, 0, none⟩) := hR ⟨11, .data⟩ (by simp) rfl
      have hc : w'.cell? ⟨w.heap.size, 0, none⟩ = some (.int .i64 b) := HC.out.1.cell 0
      clear hR
      simp only [g45, h48]
      clear g45 h48
      refine if_yes (by kernel_rfl) ?_
      unfold Oper.wp
      go_simp
      exact ⟨.int .i64 b, rfl, HC.out, Below.refl _ _, rfl⟩
    · have g45 : u 45 = .bool false := hR ⟨8, .guard⟩ (by simp) rfl
      have h49 : u 49 = .int .i64 b := hR ⟨12, .data⟩ (by simp) rfl
      have hf := HF.out
      have hw : IntKind.i64.wrap (b - 8) = b - 8 := by rw [IntKind.wrap_i64]; omega
      clear hf
      clear hR
      simp only [g45, h49]
      clear g45 h49
      refine if_yes (by kernel_rfl) ?_
      unfold Oper.wp
      go_simp
      exact ⟨.int .i64 (b - 8), rfl, HC.out, Below.refl _ _, rfl⟩
    · have g45 : u 45 = .bool false := hR ⟨8, .guard⟩ (by simp) rfl
      have h47 : u 47 = .int .i64 s := hR ⟨10, .data⟩ (by simp) rfl
      have h50 : u 50 = .int .i64 (b - 8) := hR ⟨13, .data⟩ (by simp) rfl
      clear hR
      simp only [g45, h47, h50]
      clear g45 h47 h50
      refine if_yes (by kernel_rfl) ?_
      have hf := HF.out
      unfold Oper.wp
      go_simp
      exact ⟨_, rfl, HC.out, Below.refl _ _, congrArg Value.bool (by first | rfl | (simp; done) | (simp; omega))⟩
    · have h45 : u 45 = .bool false := hR ⟨8, .data⟩ (by simp) rfl
      have h51 : u 51 = .bool false := hR ⟨14, .data⟩ (by simp) rfl
      clear hR
      simp only [h45, h51]
      clear h45 h51
      refine if_yes (by kernel_rfl) ?_
      unfold Oper.wp
      go_simp
      exact ⟨.bool false, rfl, HC.out, Below.refl _ _, rfl⟩
    · have h52 : u 52 = .bool false := hR ⟨15, .data⟩ (by simp) rfl
      clear hR
      simp only [h52]
      clear h52
      refine if_yes (by kernel_rfl) ?_
      unfold Oper.wp
      go_simp
      exact ⟨.bool false, rfl, HC.out, Below.refl _ _, rfl⟩
    · have g53 : u 53 = .bool false := hR ⟨16, .guard⟩ (by simp) rfl
      clear hR
      simp only [g53]
      clear g53
      refine if_yes (by kernel_rfl) ?_
      unfold Oper.wp
      go_simp
      exact ⟨.pointer (some ⟨w.heap.size, 5, none⟩), rfl, HC.out, Below.refl _ _, rfl⟩
    · have g53 : u 53 = .bool false := hR ⟨16, .guard⟩ (by simp) rfl
      have h54 : u 54 = .pointer (some ⟨w.heap.size, 5, none⟩) := hR ⟨17, .data⟩ (by simp) rfl
      have hc : w'.cell? ⟨w.heap.size, 5, none⟩ = some (.int .i64 r) := HC.out.1.cell 5
      clear hR
      simp only [g53, h54]
      clear g53 h54
      refine if_yes (by kernel_rfl) ?_
      unfold Oper.wp
      go_simp
      exact ⟨.int .i64 r, rfl, HC.out, Below.refl _ _, rfl⟩
    · have g53 : u 53 = .bool false := hR ⟨16, .guard⟩ (by simp) rfl
      have h55 : u 55 = .int .i64 r := hR ⟨18, .data⟩ (by simp) rfl
      clear hR
      simp only [g53, h55]
      clear g53 h55
      refine if_yes (by kernel_rfl) ?_
      have hf := HF.out
      unfold Oper.wp
      go_simp
      exact ⟨_, rfl, HC.out, Below.refl _ _, congrArg Value.bool (by first | rfl | (simp; done) | (simp; omega))⟩
    · have h53 : u 53 = .bool false := hR ⟨16, .data⟩ (by simp) rfl
      have h56 : u 56 = .bool false := hR ⟨19, .data⟩ (by simp) rfl
      clear hR
      simp only [h53, h56]
      clear h53 h56
      refine if_yes (by kernel_rfl) ?_
      unfold Oper.wp
      go_simp
      exact ⟨.bool false, rfl, HC.out, Below.refl _ _, rfl⟩
    · have h57 : u 57 = .bool false := hR ⟨20, .data⟩ (by simp) rfl
      clear hR
      simp only [h57]
      clear h57
      refine if_yes (by kernel_rfl) ?_
      unfold Oper.wp
      go_simp
      exact ⟨.bool false, rfl, HC.out, Below.refl _ _, rfl⟩
    · have g58 : u 58 = .bool false := hR ⟨21, .guard⟩ (by simp) rfl
      clear hR
      simp only [g58]
      clear g58
      refine if_yes (by kernel_rfl) ?_
      unfold Oper.wp
      go_simp
      exact ⟨.pointer (some ⟨w.heap.size, 5, none⟩), rfl, HC.out, Below.refl _ _, rfl⟩
    · have g58 : u 58 = .bool false := hR ⟨21, .guard⟩ (by simp) rfl
      have h59 : u 59 = .pointer (some ⟨w.heap.size, 5, none⟩) := hR ⟨22, .data⟩ (by simp) rfl
      have hc : w'.cell? ⟨w.heap.size, 5, none⟩ = some (.int .i64 r) := HC.out.1.cell 5
      clear hR
      simp only [g58, h59]
      clear g58 h59
      refine if_yes (by kernel_rfl) ?_
      unfold Oper.wp
      go_simp
      exact ⟨.int .i64 r, rfl, HC.out, Below.refl _ _, rfl⟩
    · have g58 : u 58 = .bool false := hR ⟨21, .guard⟩ (by simp) rfl
      have h60 : u 60 = .int .i64 r := hR ⟨23, .data⟩ (by simp) rfl
      clear hR
      simp only [g58, h60]
      clear g58 h60
      refine if_yes (by kernel_rfl) ?_
      have hf := HF.out
      unfold Oper.wp
      go_simp
      exact ⟨_, rfl, HC.out, Below.refl _ _, congrArg Value.bool (by first | rfl | (simp; done) | (simp; omega))⟩
    · have h58 : u 58 = .bool false := hR ⟨21, .data⟩ (by simp) rfl
      have h61 : u 61 = .bool false := hR ⟨24, .data⟩ (by simp) rfl
      clear hR
      simp only [h58, h61]
      clear h58 h61
      refine if_yes (by kernel_rfl) ?_
      unfold Oper.wp
      go_simp
      exact ⟨.bool false, rfl, HC.out, Below.refl _ _, rfl⟩
    · have h62 : u 62 = .bool false := hR ⟨25, .data⟩ (by simp) rfl
      clear hR
      simp only [h62]
      clear h62
      refine if_yes (by kernel_rfl) ?_
      unfold Oper.wp
      go_simp
      exact ⟨.bool false, rfl, HC.out, Below.refl _ _, rfl⟩
    · have g63 : u 63 = .bool false := hR ⟨26, .guard⟩ (by simp) rfl
      clear hR
      simp only [g63]
      clear g63
      refine if_yes (by kernel_rfl) ?_
      unfold Oper.wp
      go_simp
      exact ⟨.pointer (some ⟨w.heap.size, 3, none⟩), rfl, HC.out, Below.refl _ _, rfl⟩
    · have g63 : u 63 = .bool false := hR ⟨26, .guard⟩ (by simp) rfl
      have h64 : u 64 = .pointer (some ⟨w.heap.size, 3, none⟩) := hR ⟨27, .data⟩ (by simp) rfl
      have hc : w'.cell? ⟨w.heap.size, 3, none⟩ = some (.int .i64 n) := HC.out.1.cell 3
      clear hR
      simp only [g63, h64]
      clear g63 h64
      refine if_yes (by kernel_rfl) ?_
      unfold Oper.wp
      go_simp
      exact ⟨.int .i64 n, rfl, HC.out, Below.refl _ _, rfl⟩
    · have g63 : u 63 = .bool false := hR ⟨26, .guard⟩ (by simp) rfl
      have h65 : u 65 = .int .i64 n := hR ⟨28, .data⟩ (by simp) rfl
      clear hR
      simp only [g63, h65]
      clear g63 h65
      refine if_yes (by kernel_rfl) ?_
      have hf := HF.out
      unfold Oper.wp
      go_simp
      exact ⟨_, rfl, HC.out, Below.refl _ _, congrArg Value.bool (by first | rfl | (simp; done) | (simp; omega))⟩
    · have h63 : u 63 = .bool false := hR ⟨26, .data⟩ (by simp) rfl
      have h66 : u 66 = .bool false := hR ⟨29, .data⟩ (by simp) rfl
      clear hR
      simp only [h63, h66]
      clear h63 h66
      refine if_yes (by kernel_rfl) ?_
      unfold Oper.wp
      go_simp
      exact ⟨.bool false, rfl, HC.out, Below.refl _ _, rfl⟩
    · have h67 : u 67 = .bool false := hR ⟨30, .data⟩ (by simp) rfl
      clear hR
      simp only [h67]
      clear h67
      refine if_yes (by kernel_rfl) ?_
      unfold Oper.wp
      go_simp
      exact ⟨.bool false, rfl, HC.out, Below.refl _ _, rfl⟩
    · have g68 : u 68 = .bool false := hR ⟨31, .guard⟩ (by simp) rfl
      clear hR
      simp only [g68]
      clear g68
      refine if_yes (by kernel_rfl) ?_
      unfold Oper.wp
      go_simp
      exact ⟨.pointer (some ⟨w.heap.size, 3, none⟩), rfl, HC.out, Below.refl _ _, rfl⟩
    · have g68 : u 68 = .bool false := hR ⟨31, .guard⟩ (by simp) rfl
      have h69 : u 69 = .pointer (some ⟨w.heap.size, 3, none⟩) := hR ⟨32, .data⟩ (by simp) rfl
      have hc : w'.cell? ⟨w.heap.size, 3, none⟩ = some (.int .i64 n) := HC.out.1.cell 3
      clear hR
      simp only [g68, h69]
      clear g68 h69
      refine if_yes (by kernel_rfl) ?_
      unfold Oper.wp
      go_simp
      exact ⟨.int .i64 n, rfl, HC.out, Below.refl _ _, rfl⟩
    · have g68 : u 68 = .bool false := hR ⟨31, .guard⟩ (by simp) rfl
      have h70 : u 70 = .int .i64 n := hR ⟨33, .data⟩ (by simp) rfl
      clear hR
      simp only [g68, h70]
      clear g68 h70
      refine if_yes (by kernel_rfl) ?_
      have hf := HF.out
      unfold Oper.wp
      go_simp
      exact ⟨_, rfl, HC.out, Below.refl _ _, congrArg Value.bool (by first | rfl | (simp; done) | (simp; omega))⟩
    · have h68 : u 68 = .bool false := hR ⟨31, .data⟩ (by simp) rfl
      have h71 : u 71 = .bool false := hR ⟨34, .data⟩ (by simp) rfl
      clear hR
      simp only [h68, h71]
      clear h68 h71
      refine if_yes (by kernel_rfl) ?_
      unfold Oper.wp
      go_simp
      exact ⟨.bool false, rfl, HC.out, Below.refl _ _, rfl⟩
    · have h72 : u 72 = .bool false := hR ⟨35, .data⟩ (by simp) rfl
      clear hR
      simp only [h72]
      clear h72
      refine if_yes (by kernel_rfl) ?_
      unfold Oper.wp
      go_simp
      exact ⟨.bool false, rfl, HC.out, Below.refl _ _, rfl⟩
    · have g73 : u 73 = .bool false := hR ⟨36, .guard⟩ (by simp) rfl
      clear hR
      simp only [g73]
      clear g73
      refine if_yes (by kernel_rfl) ?_
      unfold Oper.wp
      go_simp
      exact ⟨.pointer (some ⟨w.heap.size, 3, none⟩), rfl, HC.out, Below.refl _ _, rfl⟩
    · have g73 : u 73 = .bool false := hR ⟨36, .guard⟩ (by simp) rfl
      have h74 : u 74 = .pointer (some ⟨w.heap.size, 3, none⟩) := hR ⟨37, .data⟩ (by simp) rfl
      have hc : w'.cell? ⟨w.heap.size, 3, none⟩ = some (.int .i64 n) := HC.out.1.cell 3
      clear hR
      simp only [g73, h74]
      clear g73 h74
      refine if_yes (by kernel_rfl) ?_
      unfold Oper.wp
      go_simp
      exact ⟨.int .i64 n, rfl, HC.out, Below.refl _ _, rfl⟩
    · have g73 : u 73 = .bool false := hR ⟨36, .guard⟩ (by simp) rfl
      clear hR
      simp only [g73]
      clear g73
      refine if_yes (by kernel_rfl) ?_
      exact wp_load_row 23 (.tmp 1) rfl _ rfl 23 _ (0, 0) _ HC.out.1 Try.underlying23 rfl size_geo ⟨.agg (gv b l y n s r), rfl, HC.out, Below.refl _ _, rfl⟩
    · have g73 : u 73 = .bool false := hR ⟨36, .guard⟩ (by simp) rfl
      have h76 : u 76 = .agg (gv b l y n s r) := hR ⟨39, .data⟩ (by simp) rfl
      clear hR
      simp only [g73, h76]
      clear g73 h76
      refine if_yes (by kernel_rfl) ?_
      unfold Oper.wp
      go_simp
      refine (rge_most b l y n s r _ HP.out).mono ?_
      rintro e w2 ⟨rfl, hb2⟩
      rw [HM.out]
      exact ⟨.int .i64 m, rfl, HC.out.call hb2, hb2, rfl⟩
    · have g73 : u 73 = .bool false := hR ⟨36, .guard⟩ (by simp) rfl
      have h75 : u 75 = .int .i64 n := hR ⟨38, .data⟩ (by simp) rfl
      have h77 : u 77 = .int .i64 m := hR ⟨40, .data⟩ (by simp) rfl
      clear hR
      simp only [g73, h75, h77]
      clear g73 h75 h77
      refine if_yes (by kernel_rfl) ?_
      have hf := HF.out
      unfold Oper.wp
      go_simp
      exact ⟨_, rfl, HC.out, Below.refl _ _, congrArg Value.bool (by first | rfl | (simp; done) | (simp; omega))⟩
    · have h73 : u 73 = .bool false := hR ⟨36, .data⟩ (by simp) rfl
      have h78 : u 78 = .bool false := hR ⟨41, .data⟩ (by simp) rfl
      clear hR
      simp only [h73, h78]
      clear h73 h78
      refine if_yes (by kernel_rfl) ?_
      unfold Oper.wp
      go_simp
      exact ⟨.bool false, rfl, HC.out, Below.refl _ _, rfl⟩
    · have h79 : u 79 = .bool false := hR ⟨42, .data⟩ (by simp) rfl
      clear hR
      simp only [h79]
      clear h79
      refine if_yes (by kernel_rfl) ?_
      unfold Oper.wp
      go_simp
      exact ⟨.bool false, rfl, HC.out, Below.refl _ _, rfl⟩
    · have g80 : u 80 = .bool false := hR ⟨43, .guard⟩ (by simp) rfl
      clear hR
      simp only [g80]
      clear g80
      refine if_yes (by kernel_rfl) ?_
      exact wp_load_row 23 (.tmp 1) rfl _ rfl 23 _ (0, 0) _ HC.out.1 Try.underlying23 rfl size_geo ⟨.agg (gv b l y n s r), rfl, HC.out, Below.refl _ _, rfl⟩
    · have g80 : u 80 = .bool false := hR ⟨43, .guard⟩ (by simp) rfl
      have h81 : u 81 = .agg (gv b l y n s r) := hR ⟨44, .data⟩ (by simp) rfl
      clear hR
      simp only [g80, h81]
      clear g80 h81
      refine if_yes (by kernel_rfl) ?_
      unfold Oper.wp
      go_simp
      refine (rge_snaps b l y n s r _ HP.out).mono ?_
      rintro e w2 ⟨rfl, hb2⟩
      rw [HK.out]
      exact ⟨.int .i64 k, rfl, HC.out.call hb2, hb2, rfl⟩
    · have g80 : u 80 = .bool false := hR ⟨43, .guard⟩ (by simp) rfl
      clear hR
      simp only [g80]
      clear g80
      refine if_yes (by kernel_rfl) ?_
      unfold Oper.wp
      go_simp
      exact ⟨.pointer (some ⟨w.heap.size, 1, none⟩), rfl, HC.out, Below.refl _ _, rfl⟩
    · have g80 : u 80 = .bool false := hR ⟨43, .guard⟩ (by simp) rfl
      have h83 : u 83 = .pointer (some ⟨w.heap.size, 1, none⟩) := hR ⟨46, .data⟩ (by simp) rfl
      have hc : w'.cell? ⟨w.heap.size, 1, none⟩ = some (.int .i64 l) := HC.out.1.cell 1
      clear hR
      simp only [g80, h83]
      clear g80 h83
      refine if_yes (by kernel_rfl) ?_
      unfold Oper.wp
      go_simp
      exact ⟨.int .i64 l, rfl, HC.out, Below.refl _ _, rfl⟩
    · have g80 : u 80 = .bool false := hR ⟨43, .guard⟩ (by simp) rfl
      have h84 : u 84 = .int .i64 l := hR ⟨47, .data⟩ (by simp) rfl
      have hf := HF.out
      have hw : IntKind.i64.wrap (l - 4) = l - 4 := by rw [IntKind.wrap_i64]; omega
      clear hf
      clear hR
      simp only [g80, h84]
      clear g80 h84
      refine if_yes (by kernel_rfl) ?_
      unfold Oper.wp
      go_simp
      exact ⟨.int .i64 (l - 4), rfl, HC.out, Below.refl _ _, rfl⟩
    · have g80 : u 80 = .bool false := hR ⟨43, .guard⟩ (by simp) rfl
      have h82 : u 82 = .int .i64 k := hR ⟨45, .data⟩ (by simp) rfl
      have h85 : u 85 = .int .i64 (l - 4) := hR ⟨48, .data⟩ (by simp) rfl
      clear hR
      simp only [g80, h82, h85]
      clear g80 h82 h85
      refine if_yes (by kernel_rfl) ?_
      have hf := HF.out
      unfold Oper.wp
      go_simp
      exact ⟨_, rfl, HC.out, Below.refl _ _, congrArg Value.bool (by first | rfl | (simp; done) | (simp; omega))⟩
    · have h80 : u 80 = .bool false := hR ⟨43, .data⟩ (by simp) rfl
      have h86 : u 86 = .bool false := hR ⟨49, .data⟩ (by simp) rfl
      clear hR
      simp only [h80, h86]
      clear h80 h86
      refine if_yes (by kernel_rfl) ?_
      unfold Oper.wp
      go_simp
      exact ⟨.bool false, rfl, HC.out, Below.refl _ _, rfl⟩
  · intro a w' hC hB hR
    have h87 : a.tmps.getD 87 undef = .bool false := hR 50 (by decide)
    clear hR
    have HE := Lib.hid hC.2
    clear hC
    obtain ⟨u, rfl⟩ := hB
    have h87 : u 87 = .bool false := h87
    simp only [h87]
    clear h87
    go_wp2_with fail
    go_ret
    exact ⟨rfl, HE.out⟩

end Go.Proofs.Ytejgdaekomdhlaa
