/- Texts of one claim, merged: FrF4, FrR4, FrR5, FrB, FrB2, FrB3, FrE. -/
import Derived.Test.YtjmoecfgpfdncaaDoorM4
import Derived.Test.YtjmoecfgpfdncaaDoorM2

/- The frames of the two drawn regions of the reference's Decode. -/
namespace Go.Proofs.YtjmoecfgpfdncaaDoor
set_option maxRecDepth 100000
open Go.RowKit

theorem size_page : (Tryd.prog.info? 36).map (·.size) = some 6 := by kernel_rfl
theorem pv_one (what k l q e : Int) (d : ByteArray) : (pv what k l q e d).all (·.oneCell') = true := by
  rw [Array.all_eq_true_iff_forall_mem]
  intro v hv
  simp [pv] at hv
  rcases hv with rfl | rfl | rfl | rfl | rfl | rfl <;> rfl
theorem build_page (f k l q e : Int) (dt : ByteArray) (w : World) : (Instr.build 36 #[(0, .int .i64 f), (1, .agg (ta k l q e)), (2, .string dt)]).run Tryd.prog w = .ok (.agg (pv f k l q e dt)) w := by kernel_rfl

/-- what each operation of the region FDA leaves -/
def vsFDA (e : Int) : List (Option (Tmp × Value)) :=
  [some (63, .int .i64 e), some (64, .bool true), some (65, .bool true), some (66, undef), some (67, undef), some (68, undef), some (69, undef), some (70, undef), some (71, undef), some (72, undef), some (73, .bool true), some (74, .bool true), some (75, undef), some (76, undef), some (77, undef), some (78, undef), some (79, undef), some (80, undef), some (81, .bool true)]
/-- the frame while the region FDA runs -/
def BaseFDA (B g : Nat) (o : ByteArray) (f e : Int) (a : Act) : Prop := ∃ u : Nat → Value, a = ⟨#[u 0, u 1, .pointer (some ⟨B, 0, none⟩), .string o, .int .i64 f, u 5, u 6, u 7, u 8, .int .i64 (o.size : Nat), .pointer (some ⟨g, 0, none⟩), .int .i64 e, u 12, u 13, u 14, u 15, u 16, u 17, u 18, u 19, u 20, u 21, u 22, u 23, u 24, u 25, u 26, u 27, u 28, u 29, u 30, u 31, u 32, u 33, u 34, u 35, u 36, u 37, u 38, u 39, u 40, u 41, u 42, u 43, u 44, u 45, u 46, u 47, u 48, u 49, u 50, u 51, u 52, u 53, u 54, u 55, u 56, u 57, u 58, u 59, u 60, u 61, u 62, u 63, u 64, u 65, u 66, u 67, u 68, u 69, u 70, u 71, u 72, u 73, u 74, u 75, u 76, u 77, u 78, u 79, u 80, u 81, u 82, u 83, u 84, u 85, u 86, u 87, u 88, u 89], []⟩
theorem BaseFDA.of {B g : Nat} {o : ByteArray} {f e : Int} (arr : Array Value) (h : arr = #[arr.getD 0 undef, arr.getD 1 undef, .pointer (some ⟨B, 0, none⟩), .string o, .int .i64 f, arr.getD 5 undef, arr.getD 6 undef, arr.getD 7 undef, arr.getD 8 undef, .int .i64 (o.size : Nat), .pointer (some ⟨g, 0, none⟩), .int .i64 e, arr.getD 12 undef, arr.getD 13 undef, arr.getD 14 undef, arr.getD 15 undef, arr.getD 16 undef, arr.getD 17 undef, arr.getD 18 undef, arr.getD 19 undef, arr.getD 20 undef, arr.getD 21 undef, arr.getD 22 undef, arr.getD 23 undef, arr.getD 24 undef, arr.getD 25 undef, arr.getD 26 undef, arr.getD 27 undef, arr.getD 28 undef, arr.getD 29 undef, arr.getD 30 undef, arr.getD 31 undef, arr.getD 32 undef, arr.getD 33 undef, arr.getD 34 undef, arr.getD 35 undef, arr.getD 36 undef, arr.getD 37 undef, arr.getD 38 undef, arr.getD 39 undef, arr.getD 40 undef, arr.getD 41 undef, arr.getD 42 undef, arr.getD 43 undef, arr.getD 44 undef, arr.getD 45 undef, arr.getD 46 undef, arr.getD 47 undef, arr.getD 48 undef, arr.getD 49 undef, arr.getD 50 undef, arr.getD 51 undef, arr.getD 52 undef, arr.getD 53 undef, arr.getD 54 undef, arr.getD 55 undef, arr.getD 56 undef, arr.getD 57 undef, arr.getD 58 undef, arr.getD 59 undef, arr.getD 60 undef, arr.getD 61 undef, arr.getD 62 undef, arr.getD 63 undef, arr.getD 64 undef, arr.getD 65 undef, arr.getD 66 undef, arr.getD 67 undef, arr.getD 68 undef, arr.getD 69 undef, arr.getD 70 undef, arr.getD 71 undef, arr.getD 72 undef, arr.getD 73 undef, arr.getD 74 undef, arr.getD 75 undef, arr.getD 76 undef, arr.getD 77 undef, arr.getD 78 undef, arr.getD 79 undef, arr.getD 80 undef, arr.getD 81 undef, arr.getD 82 undef, arr.getD 83 undef, arr.getD 84 undef, arr.getD 85 undef, arr.getD 86 undef, arr.getD 87 undef, arr.getD 88 undef, arr.getD 89 undef]) : BaseFDA B g o f e ⟨arr, []⟩ := ⟨fun i => arr.getD i undef, by rw [← h]⟩
theorem BaseFDA.put63 {B g : Nat} {o : ByteArray} {f e : Int} (a : Act) (v : Value) (h : BaseFDA B g o f e a) : BaseFDA B g o f e (a.put (some 63) v) := by
  obtain ⟨u, rfl⟩ := h
  exact ⟨fun i => if i = 63 then v else u i, by kernel_rfl⟩
theorem BaseFDA.put64 {B g : Nat} {o : ByteArray} {f e : Int} (a : Act) (v : Value) (h : BaseFDA B g o f e a) : BaseFDA B g o f e (a.put (some 64) v) := by
  obtain ⟨u, rfl⟩ := h
  exact ⟨fun i => if i = 64 then v else u i, by kernel_rfl⟩
theorem BaseFDA.put65 {B g : Nat} {o : ByteArray} {f e : Int} (a : Act) (v : Value) (h : BaseFDA B g o f e a) : BaseFDA B g o f e (a.put (some 65) v) := by
  obtain ⟨u, rfl⟩ := h
  exact ⟨fun i => if i = 65 then v else u i, by kernel_rfl⟩
theorem BaseFDA.put66 {B g : Nat} {o : ByteArray} {f e : Int} (a : Act) (v : Value) (h : BaseFDA B g o f e a) : BaseFDA B g o f e (a.put (some 66) v) := by
  obtain ⟨u, rfl⟩ := h
  exact ⟨fun i => if i = 66 then v else u i, by kernel_rfl⟩
theorem BaseFDA.put67 {B g : Nat} {o : ByteArray} {f e : Int} (a : Act) (v : Value) (h : BaseFDA B g o f e a) : BaseFDA B g o f e (a.put (some 67) v) := by
  obtain ⟨u, rfl⟩ := h
  exact ⟨fun i => if i = 67 then v else u i, by kernel_rfl⟩
theorem BaseFDA.put68 {B g : Nat} {o : ByteArray} {f e : Int} (a : Act) (v : Value) (h : BaseFDA B g o f e a) : BaseFDA B g o f e (a.put (some 68) v) := by
  obtain ⟨u, rfl⟩ := h
  exact ⟨fun i => if i = 68 then v else u i, by kernel_rfl⟩
theorem BaseFDA.put69 {B g : Nat} {o : ByteArray} {f e : Int} (a : Act) (v : Value) (h : BaseFDA B g o f e a) : BaseFDA B g o f e (a.put (some 69) v) := by
  obtain ⟨u, rfl⟩ := h
  exact ⟨fun i => if i = 69 then v else u i, by kernel_rfl⟩
theorem BaseFDA.put70 {B g : Nat} {o : ByteArray} {f e : Int} (a : Act) (v : Value) (h : BaseFDA B g o f e a) : BaseFDA B g o f e (a.put (some 70) v) := by
  obtain ⟨u, rfl⟩ := h
  exact ⟨fun i => if i = 70 then v else u i, by kernel_rfl⟩
theorem BaseFDA.put71 {B g : Nat} {o : ByteArray} {f e : Int} (a : Act) (v : Value) (h : BaseFDA B g o f e a) : BaseFDA B g o f e (a.put (some 71) v) := by
  obtain ⟨u, rfl⟩ := h
  exact ⟨fun i => if i = 71 then v else u i, by kernel_rfl⟩
theorem BaseFDA.put72 {B g : Nat} {o : ByteArray} {f e : Int} (a : Act) (v : Value) (h : BaseFDA B g o f e a) : BaseFDA B g o f e (a.put (some 72) v) := by
  obtain ⟨u, rfl⟩ := h
  exact ⟨fun i => if i = 72 then v else u i, by kernel_rfl⟩
theorem BaseFDA.put73 {B g : Nat} {o : ByteArray} {f e : Int} (a : Act) (v : Value) (h : BaseFDA B g o f e a) : BaseFDA B g o f e (a.put (some 73) v) := by
  obtain ⟨u, rfl⟩ := h
  exact ⟨fun i => if i = 73 then v else u i, by kernel_rfl⟩
theorem BaseFDA.put74 {B g : Nat} {o : ByteArray} {f e : Int} (a : Act) (v : Value) (h : BaseFDA B g o f e a) : BaseFDA B g o f e (a.put (some 74) v) := by
  obtain ⟨u, rfl⟩ := h
  exact ⟨fun i => if i = 74 then v else u i, by kernel_rfl⟩
theorem BaseFDA.put75 {B g : Nat} {o : ByteArray} {f e : Int} (a : Act) (v : Value) (h : BaseFDA B g o f e a) : BaseFDA B g o f e (a.put (some 75) v) := by
  obtain ⟨u, rfl⟩ := h
  exact ⟨fun i => if i = 75 then v else u i, by kernel_rfl⟩
theorem BaseFDA.put76 {B g : Nat} {o : ByteArray} {f e : Int} (a : Act) (v : Value) (h : BaseFDA B g o f e a) : BaseFDA B g o f e (a.put (some 76) v) := by
  obtain ⟨u, rfl⟩ := h
  exact ⟨fun i => if i = 76 then v else u i, by kernel_rfl⟩
theorem BaseFDA.put77 {B g : Nat} {o : ByteArray} {f e : Int} (a : Act) (v : Value) (h : BaseFDA B g o f e a) : BaseFDA B g o f e (a.put (some 77) v) := by
  obtain ⟨u, rfl⟩ := h
  exact ⟨fun i => if i = 77 then v else u i, by kernel_rfl⟩
theorem BaseFDA.put78 {B g : Nat} {o : ByteArray} {f e : Int} (a : Act) (v : Value) (h : BaseFDA B g o f e a) : BaseFDA B g o f e (a.put (some 78) v) := by
  obtain ⟨u, rfl⟩ := h
  exact ⟨fun i => if i = 78 then v else u i, by kernel_rfl⟩
theorem BaseFDA.put79 {B g : Nat} {o : ByteArray} {f e : Int} (a : Act) (v : Value) (h : BaseFDA B g o f e a) : BaseFDA B g o f e (a.put (some 79) v) := by
  obtain ⟨u, rfl⟩ := h
  exact ⟨fun i => if i = 79 then v else u i, by kernel_rfl⟩
theorem BaseFDA.put80 {B g : Nat} {o : ByteArray} {f e : Int} (a : Act) (v : Value) (h : BaseFDA B g o f e a) : BaseFDA B g o f e (a.put (some 80) v) := by
  obtain ⟨u, rfl⟩ := h
  exact ⟨fun i => if i = 80 then v else u i, by kernel_rfl⟩
theorem BaseFDA.put81 {B g : Nat} {o : ByteArray} {f e : Int} (a : Act) (v : Value) (h : BaseFDA B g o f e a) : BaseFDA B g o f e (a.put (some 81) v) := by
  obtain ⟨u, rfl⟩ := h
  exact ⟨fun i => if i = 81 then v else u i, by kernel_rfl⟩
/-- what each operation of the region FDB leaves -/
def vsFDB (o t4 : ByteArray) (e : Int) (m : Nat) : List (Option (Tmp × Value)) :=
  [some (63, .int .i64 e), some (64, .bool false), some (65, .bool false), some (66, .string o), some (67, .int .i64 (o.size : Nat)), some (68, .int .i64 (m : Nat)), some (69, .string t4), none, some (71, .string four0), some (72, .bool true), some (73, .bool true), some (74, .bool true), some (75, undef), some (76, undef), some (77, undef), some (78, undef), some (79, undef), some (80, undef), some (81, .bool true)]
/-- the frame while the region FDB runs -/
def BaseFDB (B g : Nat) (o : ByteArray) (f e : Int) (a : Act) : Prop := ∃ u : Nat → Value, a = ⟨#[u 0, u 1, .pointer (some ⟨B, 0, none⟩), .string o, .int .i64 f, u 5, u 6, u 7, u 8, .int .i64 (o.size : Nat), .pointer (some ⟨g, 0, none⟩), .int .i64 e, u 12, u 13, u 14, u 15, u 16, u 17, u 18, u 19, u 20, u 21, u 22, u 23, u 24, u 25, u 26, u 27, u 28, u 29, u 30, u 31, u 32, u 33, u 34, u 35, u 36, u 37, u 38, u 39, u 40, u 41, u 42, u 43, u 44, u 45, u 46, u 47, u 48, u 49, u 50, u 51, u 52, u 53, u 54, u 55, u 56, u 57, u 58, u 59, u 60, u 61, u 62, u 63, u 64, u 65, u 66, u 67, u 68, u 69, u 70, u 71, u 72, u 73, u 74, u 75, u 76, u 77, u 78, u 79, u 80, u 81, u 82, u 83, u 84, u 85, u 86, u 87, u 88, u 89], []⟩
theorem BaseFDB.of {B g : Nat} {o : ByteArray} {f e : Int} (arr : Array Value) (h : arr = #[arr.getD 0 undef, arr.getD 1 undef, .pointer (some ⟨B, 0, none⟩), .string o, .int .i64 f, arr.getD 5 undef, arr.getD 6 undef, arr.getD 7 undef, arr.getD 8 undef, .int .i64 (o.size : Nat), .pointer (some ⟨g, 0, none⟩), .int .i64 e, arr.getD 12 undef, arr.getD 13 undef, arr.getD 14 undef, arr.getD 15 undef, arr.getD 16 undef, arr.getD 17 undef, arr.getD 18 undef, arr.getD 19 undef, arr.getD 20 undef, arr.getD 21 undef, arr.getD 22 undef, arr.getD 23 undef, arr.getD 24 undef, arr.getD 25 undef, arr.getD 26 undef, arr.getD 27 undef, arr.getD 28 undef, arr.getD 29 undef, arr.getD 30 undef, arr.getD 31 undef, arr.getD 32 undef, arr.getD 33 undef, arr.getD 34 undef, arr.getD 35 undef, arr.getD 36 undef, arr.getD 37 undef, arr.getD 38 undef, arr.getD 39 undef, arr.getD 40 undef, arr.getD 41 undef, arr.getD 42 undef, arr.getD 43 undef, arr.getD 44 undef, arr.getD 45 undef, arr.getD 46 undef, arr.getD 47 undef, arr.getD 48 undef, arr.getD 49 undef, arr.getD 50 undef, arr.getD 51 undef, arr.getD 52 undef, arr.getD 53 undef, arr.getD 54 undef, arr.getD 55 undef, arr.getD 56 undef, arr.getD 57 undef, arr.getD 58 undef, arr.getD 59 undef, arr.getD 60 undef, arr.getD 61 undef, arr.getD 62 undef, arr.getD 63 undef, arr.getD 64 undef, arr.getD 65 undef, arr.getD 66 undef, arr.getD 67 undef, arr.getD 68 undef, arr.getD 69 undef, arr.getD 70 undef, arr.getD 71 undef, arr.getD 72 undef, arr.getD 73 undef, arr.getD 74 undef, arr.getD 75 undef, arr.getD 76 undef, arr.getD 77 undef, arr.getD 78 undef, arr.getD 79 undef, arr.getD 80 undef, arr.getD 81 undef, arr.getD 82 undef, arr.getD 83 undef, arr.getD 84 undef, arr.getD 85 undef, arr.getD 86 undef, arr.getD 87 undef, arr.getD 88 undef, arr.getD 89 undef]) : BaseFDB B g o f e ⟨arr, []⟩ := ⟨fun i => arr.getD i undef, by rw [← h]⟩
theorem BaseFDB.put63 {B g : Nat} {o : ByteArray} {f e : Int} (a : Act) (v : Value) (h : BaseFDB B g o f e a) : BaseFDB B g o f e (a.put (some 63) v) := by
  obtain ⟨u, rfl⟩ := h
  exact ⟨fun i => if i = 63 then v else u i, by kernel_rfl⟩
theorem BaseFDB.put64 {B g : Nat} {o : ByteArray} {f e : Int} (a : Act) (v : Value) (h : BaseFDB B g o f e a) : BaseFDB B g o f e (a.put (some 64) v) := by
  obtain ⟨u, rfl⟩ := h
  exact ⟨fun i => if i = 64 then v else u i, by kernel_rfl⟩
theorem BaseFDB.put65 {B g : Nat} {o : ByteArray} {f e : Int} (a : Act) (v : Value) (h : BaseFDB B g o f e a) : BaseFDB B g o f e (a.put (some 65) v) := by
  obtain ⟨u, rfl⟩ := h
  exact ⟨fun i => if i = 65 then v else u i, by kernel_rfl⟩
theorem BaseFDB.put66 {B g : Nat} {o : ByteArray} {f e : Int} (a : Act) (v : Value) (h : BaseFDB B g o f e a) : BaseFDB B g o f e (a.put (some 66) v) := by
  obtain ⟨u, rfl⟩ := h
  exact ⟨fun i => if i = 66 then v else u i, by kernel_rfl⟩
theorem BaseFDB.put67 {B g : Nat} {o : ByteArray} {f e : Int} (a : Act) (v : Value) (h : BaseFDB B g o f e a) : BaseFDB B g o f e (a.put (some 67) v) := by
  obtain ⟨u, rfl⟩ := h
  exact ⟨fun i => if i = 67 then v else u i, by kernel_rfl⟩
theorem BaseFDB.put68 {B g : Nat} {o : ByteArray} {f e : Int} (a : Act) (v : Value) (h : BaseFDB B g o f e a) : BaseFDB B g o f e (a.put (some 68) v) := by
  obtain ⟨u, rfl⟩ := h
  exact ⟨fun i => if i = 68 then v else u i, by kernel_rfl⟩
theorem BaseFDB.put69 {B g : Nat} {o : ByteArray} {f e : Int} (a : Act) (v : Value) (h : BaseFDB B g o f e a) : BaseFDB B g o f e (a.put (some 69) v) := by
  obtain ⟨u, rfl⟩ := h
  exact ⟨fun i => if i = 69 then v else u i, by kernel_rfl⟩
theorem BaseFDB.put70 {B g : Nat} {o : ByteArray} {f e : Int} (a : Act) (v : Value) (h : BaseFDB B g o f e a) : BaseFDB B g o f e (a.put (some 70) v) := by
  obtain ⟨u, rfl⟩ := h
  exact ⟨fun i => if i = 70 then v else u i, by kernel_rfl⟩
theorem BaseFDB.put71 {B g : Nat} {o : ByteArray} {f e : Int} (a : Act) (v : Value) (h : BaseFDB B g o f e a) : BaseFDB B g o f e (a.put (some 71) v) := by
  obtain ⟨u, rfl⟩ := h
  exact ⟨fun i => if i = 71 then v else u i, by kernel_rfl⟩
theorem BaseFDB.put72 {B g : Nat} {o : ByteArray} {f e : Int} (a : Act) (v : Value) (h : BaseFDB B g o f e a) : BaseFDB B g o f e (a.put (some 72) v) := by
  obtain ⟨u, rfl⟩ := h
  exact ⟨fun i => if i = 72 then v else u i, by kernel_rfl⟩
theorem BaseFDB.put73 {B g : Nat} {o : ByteArray} {f e : Int} (a : Act) (v : Value) (h : BaseFDB B g o f e a) : BaseFDB B g o f e (a.put (some 73) v) := by
  obtain ⟨u, rfl⟩ := h
  exact ⟨fun i => if i = 73 then v else u i, by kernel_rfl⟩
theorem BaseFDB.put74 {B g : Nat} {o : ByteArray} {f e : Int} (a : Act) (v : Value) (h : BaseFDB B g o f e a) : BaseFDB B g o f e (a.put (some 74) v) := by
  obtain ⟨u, rfl⟩ := h
  exact ⟨fun i => if i = 74 then v else u i, by kernel_rfl⟩
theorem BaseFDB.put75 {B g : Nat} {o : ByteArray} {f e : Int} (a : Act) (v : Value) (h : BaseFDB B g o f e a) : BaseFDB B g o f e (a.put (some 75) v) := by
  obtain ⟨u, rfl⟩ := h
  exact ⟨fun i => if i = 75 then v else u i, by kernel_rfl⟩
theorem BaseFDB.put76 {B g : Nat} {o : ByteArray} {f e : Int} (a : Act) (v : Value) (h : BaseFDB B g o f e a) : BaseFDB B g o f e (a.put (some 76) v) := by
  obtain ⟨u, rfl⟩ := h
  exact ⟨fun i => if i = 76 then v else u i, by kernel_rfl⟩
theorem BaseFDB.put77 {B g : Nat} {o : ByteArray} {f e : Int} (a : Act) (v : Value) (h : BaseFDB B g o f e a) : BaseFDB B g o f e (a.put (some 77) v) := by
  obtain ⟨u, rfl⟩ := h
  exact ⟨fun i => if i = 77 then v else u i, by kernel_rfl⟩
theorem BaseFDB.put78 {B g : Nat} {o : ByteArray} {f e : Int} (a : Act) (v : Value) (h : BaseFDB B g o f e a) : BaseFDB B g o f e (a.put (some 78) v) := by
  obtain ⟨u, rfl⟩ := h
  exact ⟨fun i => if i = 78 then v else u i, by kernel_rfl⟩
theorem BaseFDB.put79 {B g : Nat} {o : ByteArray} {f e : Int} (a : Act) (v : Value) (h : BaseFDB B g o f e a) : BaseFDB B g o f e (a.put (some 79) v) := by
  obtain ⟨u, rfl⟩ := h
  exact ⟨fun i => if i = 79 then v else u i, by kernel_rfl⟩
theorem BaseFDB.put80 {B g : Nat} {o : ByteArray} {f e : Int} (a : Act) (v : Value) (h : BaseFDB B g o f e a) : BaseFDB B g o f e (a.put (some 80) v) := by
  obtain ⟨u, rfl⟩ := h
  exact ⟨fun i => if i = 80 then v else u i, by kernel_rfl⟩
theorem BaseFDB.put81 {B g : Nat} {o : ByteArray} {f e : Int} (a : Act) (v : Value) (h : BaseFDB B g o f e a) : BaseFDB B g o f e (a.put (some 81) v) := by
  obtain ⟨u, rfl⟩ := h
  exact ⟨fun i => if i = 81 then v else u i, by kernel_rfl⟩
/-- what each operation of the region FDC leaves -/
def vsFDC (o t4 bd : ByteArray) (e : Int) (m : Nat) : List (Option (Tmp × Value)) :=
  [some (63, .int .i64 e), some (64, .bool false), some (65, .bool false), some (66, .string o), some (67, .int .i64 (o.size : Nat)), some (68, .int .i64 (m : Nat)), some (69, .string t4), none, some (71, .string four0), some (72, .bool false), some (73, .bool false), some (74, .bool false), some (75, .string o), some (76, .int .i64 (o.size : Nat)), some (77, .int .i64 (m : Nat)), some (78, .string bd), some (79, .bool false), some (80, .bool true), some (81, .bool true)]
/-- the frame while the region FDC runs -/
def BaseFDC (B g : Nat) (o : ByteArray) (f e : Int) (a : Act) : Prop := ∃ u : Nat → Value, a = ⟨#[u 0, u 1, .pointer (some ⟨B, 0, none⟩), .string o, .int .i64 f, u 5, u 6, u 7, u 8, .int .i64 (o.size : Nat), .pointer (some ⟨g, 0, none⟩), .int .i64 e, u 12, u 13, u 14, u 15, u 16, u 17, u 18, u 19, u 20, u 21, u 22, u 23, u 24, u 25, u 26, u 27, u 28, u 29, u 30, u 31, u 32, u 33, u 34, u 35, u 36, u 37, u 38, u 39, u 40, u 41, u 42, u 43, u 44, u 45, u 46, u 47, u 48, u 49, u 50, u 51, u 52, u 53, u 54, u 55, u 56, u 57, u 58, u 59, u 60, u 61, u 62, u 63, u 64, u 65, u 66, u 67, u 68, u 69, u 70, u 71, u 72, u 73, u 74, u 75, u 76, u 77, u 78, u 79, u 80, u 81, u 82, u 83, u 84, u 85, u 86, u 87, u 88, u 89], []⟩
theorem BaseFDC.of {B g : Nat} {o : ByteArray} {f e : Int} (arr : Array Value) (h : arr = #[arr.getD 0 undef, arr.getD 1 undef, .pointer (some ⟨B, 0, none⟩), .string o, .int .i64 f, arr.getD 5 undef, arr.getD 6 undef, arr.getD 7 undef, arr.getD 8 undef, .int .i64 (o.size : Nat), .pointer (some ⟨g, 0, none⟩), .int .i64 e, arr.getD 12 undef, arr.getD 13 undef, arr.getD 14 undef, arr.getD 15 undef, arr.getD 16 undef, arr.getD 17 undef, arr.getD 18 undef, arr.getD 19 undef, arr.getD 20 undef, arr.getD 21 undef, arr.getD 22 undef, arr.getD 23 undef, arr.getD 24 undef, arr.getD 25 undef, arr.getD 26 undef, arr.getD 27 undef, arr.getD 28 undef, arr.getD 29 undef, arr.getD 30 undef, arr.getD 31 undef, arr.getD 32 undef, arr.getD 33 undef, arr.getD 34 undef, arr.getD 35 undef, arr.getD 36 undef, arr.getD 37 undef, arr.getD 38 undef, arr.getD 39 undef, arr.getD 40 undef, arr.getD 41 undef, arr.getD 42 undef, arr.getD 43 undef, arr.getD 44 undef, arr.getD 45 undef, arr.getD 46 undef, arr.getD 47 undef, arr.getD 48 undef, arr.getD 49 undef, arr.getD 50 undef, arr.getD 51 undef, arr.getD 52 undef, arr.getD 53 undef, arr.getD 54 undef, arr.getD 55 undef, arr.getD 56 undef, arr.getD 57 undef, arr.getD 58 undef, arr.getD 59 undef, arr.getD 60 undef, arr.getD 61 undef, arr.getD 62 undef, arr.getD 63 undef, arr.getD 64 undef, arr.getD 65 undef, arr.getD 66 undef, arr.getD 67 undef, arr.getD 68 undef, arr.getD 69 undef, arr.getD 70 undef, arr.getD 71 undef, arr.getD 72 undef, arr.getD 73 undef, arr.getD 74 undef, arr.getD 75 undef, arr.getD 76 undef, arr.getD 77 undef, arr.getD 78 undef, arr.getD 79 undef, arr.getD 80 undef, arr.getD 81 undef, arr.getD 82 undef, arr.getD 83 undef, arr.getD 84 undef, arr.getD 85 undef, arr.getD 86 undef, arr.getD 87 undef, arr.getD 88 undef, arr.getD 89 undef]) : BaseFDC B g o f e ⟨arr, []⟩ := ⟨fun i => arr.getD i undef, by rw [← h]⟩
theorem BaseFDC.put63 {B g : Nat} {o : ByteArray} {f e : Int} (a : Act) (v : Value) (h : BaseFDC B g o f e a) : BaseFDC B g o f e (a.put (some 63) v) := by
  obtain ⟨u, rfl⟩ := h
  exact ⟨fun i => if i = 63 then v else u i, by kernel_rfl⟩
theorem BaseFDC.put64 {B g : Nat} {o : ByteArray} {f e : Int} (a : Act) (v : Value) (h : BaseFDC B g o f e a) : BaseFDC B g o f e (a.put (some 64) v) := by
  obtain ⟨u, rfl⟩ := h
  exact ⟨fun i => if i = 64 then v else u i, by kernel_rfl⟩
theorem BaseFDC.put65 {B g : Nat} {o : ByteArray} {f e : Int} (a : Act) (v : Value) (h : BaseFDC B g o f e a) : BaseFDC B g o f e (a.put (some 65) v) := by
  obtain ⟨u, rfl⟩ := h
  exact ⟨fun i => if i = 65 then v else u i, by kernel_rfl⟩
theorem BaseFDC.put66 {B g : Nat} {o : ByteArray} {f e : Int} (a : Act) (v : Value) (h : BaseFDC B g o f e a) : BaseFDC B g o f e (a.put (some 66) v) := by
  obtain ⟨u, rfl⟩ := h
  exact ⟨fun i => if i = 66 then v else u i, by kernel_rfl⟩
theorem BaseFDC.put67 {B g : Nat} {o : ByteArray} {f e : Int} (a : Act) (v : Value) (h : BaseFDC B g o f e a) : BaseFDC B g o f e (a.put (some 67) v) := by
  obtain ⟨u, rfl⟩ := h
  exact ⟨fun i => if i = 67 then v else u i, by kernel_rfl⟩
theorem BaseFDC.put68 {B g : Nat} {o : ByteArray} {f e : Int} (a : Act) (v : Value) (h : BaseFDC B g o f e a) : BaseFDC B g o f e (a.put (some 68) v) := by
  obtain ⟨u, rfl⟩ := h
  exact ⟨fun i => if i = 68 then v else u i, by kernel_rfl⟩
theorem BaseFDC.put69 {B g : Nat} {o : ByteArray} {f e : Int} (a : Act) (v : Value) (h : BaseFDC B g o f e a) : BaseFDC B g o f e (a.put (some 69) v) := by
  obtain ⟨u, rfl⟩ := h
  exact ⟨fun i => if i = 69 then v else u i, by kernel_rfl⟩
theorem BaseFDC.put70 {B g : Nat} {o : ByteArray} {f e : Int} (a : Act) (v : Value) (h : BaseFDC B g o f e a) : BaseFDC B g o f e (a.put (some 70) v) := by
  obtain ⟨u, rfl⟩ := h
  exact ⟨fun i => if i = 70 then v else u i, by kernel_rfl⟩
theorem BaseFDC.put71 {B g : Nat} {o : ByteArray} {f e : Int} (a : Act) (v : Value) (h : BaseFDC B g o f e a) : BaseFDC B g o f e (a.put (some 71) v) := by
  obtain ⟨u, rfl⟩ := h
  exact ⟨fun i => if i = 71 then v else u i, by kernel_rfl⟩
theorem BaseFDC.put72 {B g : Nat} {o : ByteArray} {f e : Int} (a : Act) (v : Value) (h : BaseFDC B g o f e a) : BaseFDC B g o f e (a.put (some 72) v) := by
  obtain ⟨u, rfl⟩ := h
  exact ⟨fun i => if i = 72 then v else u i, by kernel_rfl⟩
theorem BaseFDC.put73 {B g : Nat} {o : ByteArray} {f e : Int} (a : Act) (v : Value) (h : BaseFDC B g o f e a) : BaseFDC B g o f e (a.put (some 73) v) := by
  obtain ⟨u, rfl⟩ := h
  exact ⟨fun i => if i = 73 then v else u i, by kernel_rfl⟩
theorem BaseFDC.put74 {B g : Nat} {o : ByteArray} {f e : Int} (a : Act) (v : Value) (h : BaseFDC B g o f e a) : BaseFDC B g o f e (a.put (some 74) v) := by
  obtain ⟨u, rfl⟩ := h
  exact ⟨fun i => if i = 74 then v else u i, by kernel_rfl⟩
theorem BaseFDC.put75 {B g : Nat} {o : ByteArray} {f e : Int} (a : Act) (v : Value) (h : BaseFDC B g o f e a) : BaseFDC B g o f e (a.put (some 75) v) := by
  obtain ⟨u, rfl⟩ := h
  exact ⟨fun i => if i = 75 then v else u i, by kernel_rfl⟩
theorem BaseFDC.put76 {B g : Nat} {o : ByteArray} {f e : Int} (a : Act) (v : Value) (h : BaseFDC B g o f e a) : BaseFDC B g o f e (a.put (some 76) v) := by
  obtain ⟨u, rfl⟩ := h
  exact ⟨fun i => if i = 76 then v else u i, by kernel_rfl⟩
theorem BaseFDC.put77 {B g : Nat} {o : ByteArray} {f e : Int} (a : Act) (v : Value) (h : BaseFDC B g o f e a) : BaseFDC B g o f e (a.put (some 77) v) := by
  obtain ⟨u, rfl⟩ := h
  exact ⟨fun i => if i = 77 then v else u i, by kernel_rfl⟩
theorem BaseFDC.put78 {B g : Nat} {o : ByteArray} {f e : Int} (a : Act) (v : Value) (h : BaseFDC B g o f e a) : BaseFDC B g o f e (a.put (some 78) v) := by
  obtain ⟨u, rfl⟩ := h
  exact ⟨fun i => if i = 78 then v else u i, by kernel_rfl⟩
theorem BaseFDC.put79 {B g : Nat} {o : ByteArray} {f e : Int} (a : Act) (v : Value) (h : BaseFDC B g o f e a) : BaseFDC B g o f e (a.put (some 79) v) := by
  obtain ⟨u, rfl⟩ := h
  exact ⟨fun i => if i = 79 then v else u i, by kernel_rfl⟩
theorem BaseFDC.put80 {B g : Nat} {o : ByteArray} {f e : Int} (a : Act) (v : Value) (h : BaseFDC B g o f e a) : BaseFDC B g o f e (a.put (some 80) v) := by
  obtain ⟨u, rfl⟩ := h
  exact ⟨fun i => if i = 80 then v else u i, by kernel_rfl⟩
theorem BaseFDC.put81 {B g : Nat} {o : ByteArray} {f e : Int} (a : Act) (v : Value) (h : BaseFDC B g o f e a) : BaseFDC B g o f e (a.put (some 81) v) := by
  obtain ⟨u, rfl⟩ := h
  exact ⟨fun i => if i = 81 then v else u i, by kernel_rfl⟩
/-- what each operation of the region FDD leaves -/
def vsFDD (o t4 bd : ByteArray) (e : Int) (m : Nat) : List (Option (Tmp × Value)) :=
  [some (63, .int .i64 e), some (64, .bool false), some (65, .bool false), some (66, .string o), some (67, .int .i64 (o.size : Nat)), some (68, .int .i64 (m : Nat)), some (69, .string t4), none, some (71, .string four0), some (72, .bool false), some (73, .bool false), some (74, .bool false), some (75, .string o), some (76, .int .i64 (o.size : Nat)), some (77, .int .i64 (m : Nat)), some (78, .string bd), some (79, .bool true), some (80, .bool false), some (81, .bool false)]
/-- the frame while the region FDD runs -/
def BaseFDD (B g : Nat) (o : ByteArray) (f e : Int) (a : Act) : Prop := ∃ u : Nat → Value, a = ⟨#[u 0, u 1, .pointer (some ⟨B, 0, none⟩), .string o, .int .i64 f, u 5, u 6, u 7, u 8, .int .i64 (o.size : Nat), .pointer (some ⟨g, 0, none⟩), .int .i64 e, u 12, u 13, u 14, u 15, u 16, u 17, u 18, u 19, u 20, u 21, u 22, u 23, u 24, u 25, u 26, u 27, u 28, u 29, u 30, u 31, u 32, u 33, u 34, u 35, u 36, u 37, u 38, u 39, u 40, u 41, u 42, u 43, u 44, u 45, u 46, u 47, u 48, u 49, u 50, u 51, u 52, u 53, u 54, u 55, u 56, u 57, u 58, u 59, u 60, u 61, u 62, u 63, u 64, u 65, u 66, u 67, u 68, u 69, u 70, u 71, u 72, u 73, u 74, u 75, u 76, u 77, u 78, u 79, u 80, u 81, u 82, u 83, u 84, u 85, u 86, u 87, u 88, u 89], []⟩
theorem BaseFDD.of {B g : Nat} {o : ByteArray} {f e : Int} (arr : Array Value) (h : arr = #[arr.getD 0 undef, arr.getD 1 undef, .pointer (some ⟨B, 0, none⟩), .string o, .int .i64 f, arr.getD 5 undef, arr.getD 6 undef, arr.getD 7 undef, arr.getD 8 undef, .int .i64 (o.size : Nat), .pointer (some ⟨g, 0, none⟩), .int .i64 e, arr.getD 12 undef, arr.getD 13 undef, arr.getD 14 undef, arr.getD 15 undef, arr.getD 16 undef, arr.getD 17 undef, arr.getD 18 undef, arr.getD 19 undef, arr.getD 20 undef, arr.getD 21 undef, arr.getD 22 undef, arr.getD 23 undef, arr.getD 24 undef, arr.getD 25 undef, arr.getD 26 undef, arr.getD 27 undef, arr.getD 28 undef, arr.getD 29 undef, arr.getD 30 undef, arr.getD 31 undef, arr.getD 32 undef, arr.getD 33 undef, arr.getD 34 undef, arr.getD 35 undef, arr.getD 36 undef, arr.getD 37 undef, arr.getD 38 undef, arr.getD 39 undef, arr.getD 40 undef, arr.getD 41 undef, arr.getD 42 undef, arr.getD 43 undef, arr.getD 44 undef, arr.getD 45 undef, arr.getD 46 undef, arr.getD 47 undef, arr.getD 48 undef, arr.getD 49 undef, arr.getD 50 undef, arr.getD 51 undef, arr.getD 52 undef, arr.getD 53 undef, arr.getD 54 undef, arr.getD 55 undef, arr.getD 56 undef, arr.getD 57 undef, arr.getD 58 undef, arr.getD 59 undef, arr.getD 60 undef, arr.getD 61 undef, arr.getD 62 undef, arr.getD 63 undef, arr.getD 64 undef, arr.getD 65 undef, arr.getD 66 undef, arr.getD 67 undef, arr.getD 68 undef, arr.getD 69 undef, arr.getD 70 undef, arr.getD 71 undef, arr.getD 72 undef, arr.getD 73 undef, arr.getD 74 undef, arr.getD 75 undef, arr.getD 76 undef, arr.getD 77 undef, arr.getD 78 undef, arr.getD 79 undef, arr.getD 80 undef, arr.getD 81 undef, arr.getD 82 undef, arr.getD 83 undef, arr.getD 84 undef, arr.getD 85 undef, arr.getD 86 undef, arr.getD 87 undef, arr.getD 88 undef, arr.getD 89 undef]) : BaseFDD B g o f e ⟨arr, []⟩ := ⟨fun i => arr.getD i undef, by rw [← h]⟩
theorem BaseFDD.put63 {B g : Nat} {o : ByteArray} {f e : Int} (a : Act) (v : Value) (h : BaseFDD B g o f e a) : BaseFDD B g o f e (a.put (some 63) v) := by
  obtain ⟨u, rfl⟩ := h
  exact ⟨fun i => if i = 63 then v else u i, by kernel_rfl⟩
theorem BaseFDD.put64 {B g : Nat} {o : ByteArray} {f e : Int} (a : Act) (v : Value) (h : BaseFDD B g o f e a) : BaseFDD B g o f e (a.put (some 64) v) := by
  obtain ⟨u, rfl⟩ := h
  exact ⟨fun i => if i = 64 then v else u i, by kernel_rfl⟩
theorem BaseFDD.put65 {B g : Nat} {o : ByteArray} {f e : Int} (a : Act) (v : Value) (h : BaseFDD B g o f e a) : BaseFDD B g o f e (a.put (some 65) v) := by
  obtain ⟨u, rfl⟩ := h
  exact ⟨fun i => if i = 65 then v else u i, by kernel_rfl⟩
theorem BaseFDD.put66 {B g : Nat} {o : ByteArray} {f e : Int} (a : Act) (v : Value) (h : BaseFDD B g o f e a) : BaseFDD B g o f e (a.put (some 66) v) := by
  obtain ⟨u, rfl⟩ := h
  exact ⟨fun i => if i = 66 then v else u i, by kernel_rfl⟩
theorem BaseFDD.put67 {B g : Nat} {o : ByteArray} {f e : Int} (a : Act) (v : Value) (h : BaseFDD B g o f e a) : BaseFDD B g o f e (a.put (some 67) v) := by
  obtain ⟨u, rfl⟩ := h
  exact ⟨fun i => if i = 67 then v else u i, by kernel_rfl⟩
theorem BaseFDD.put68 {B g : Nat} {o : ByteArray} {f e : Int} (a : Act) (v : Value) (h : BaseFDD B g o f e a) : BaseFDD B g o f e (a.put (some 68) v) := by
  obtain ⟨u, rfl⟩ := h
  exact ⟨fun i => if i = 68 then v else u i, by kernel_rfl⟩
theorem BaseFDD.put69 {B g : Nat} {o : ByteArray} {f e : Int} (a : Act) (v : Value) (h : BaseFDD B g o f e a) : BaseFDD B g o f e (a.put (some 69) v) := by
  obtain ⟨u, rfl⟩ := h
  exact ⟨fun i => if i = 69 then v else u i, by kernel_rfl⟩
theorem BaseFDD.put70 {B g : Nat} {o : ByteArray} {f e : Int} (a : Act) (v : Value) (h : BaseFDD B g o f e a) : BaseFDD B g o f e (a.put (some 70) v) := by
  obtain ⟨u, rfl⟩ := h
  exact ⟨fun i => if i = 70 then v else u i, by kernel_rfl⟩
theorem BaseFDD.put71 {B g : Nat} {o : ByteArray} {f e : Int} (a : Act) (v : Value) (h : BaseFDD B g o f e a) : BaseFDD B g o f e (a.put (some 71) v) := by
  obtain ⟨u, rfl⟩ := h
  exact ⟨fun i => if i = 71 then v else u i, by kernel_rfl⟩
theorem BaseFDD.put72 {B g : Nat} {o : ByteArray} {f e : Int} (a : Act) (v : Value) (h : BaseFDD B g o f e a) : BaseFDD B g o f e (a.put (some 72) v) := by
  obtain ⟨u, rfl⟩ := h
  exact ⟨fun i => if i = 72 then v else u i, by kernel_rfl⟩
theorem BaseFDD.put73 {B g : Nat} {o : ByteArray} {f e : Int} (a : Act) (v : Value) (h : BaseFDD B g o f e a) : BaseFDD B g o f e (a.put (some 73) v) := by
  obtain ⟨u, rfl⟩ := h
  exact ⟨fun i => if i = 73 then v else u i, by kernel_rfl⟩
theorem BaseFDD.put74 {B g : Nat} {o : ByteArray} {f e : Int} (a : Act) (v : Value) (h : BaseFDD B g o f e a) : BaseFDD B g o f e (a.put (some 74) v) := by
  obtain ⟨u, rfl⟩ := h
  exact ⟨fun i => if i = 74 then v else u i, by kernel_rfl⟩
theorem BaseFDD.put75 {B g : Nat} {o : ByteArray} {f e : Int} (a : Act) (v : Value) (h : BaseFDD B g o f e a) : BaseFDD B g o f e (a.put (some 75) v) := by
  obtain ⟨u, rfl⟩ := h
  exact ⟨fun i => if i = 75 then v else u i, by kernel_rfl⟩
theorem BaseFDD.put76 {B g : Nat} {o : ByteArray} {f e : Int} (a : Act) (v : Value) (h : BaseFDD B g o f e a) : BaseFDD B g o f e (a.put (some 76) v) := by
  obtain ⟨u, rfl⟩ := h
  exact ⟨fun i => if i = 76 then v else u i, by kernel_rfl⟩
theorem BaseFDD.put77 {B g : Nat} {o : ByteArray} {f e : Int} (a : Act) (v : Value) (h : BaseFDD B g o f e a) : BaseFDD B g o f e (a.put (some 77) v) := by
  obtain ⟨u, rfl⟩ := h
  exact ⟨fun i => if i = 77 then v else u i, by kernel_rfl⟩
theorem BaseFDD.put78 {B g : Nat} {o : ByteArray} {f e : Int} (a : Act) (v : Value) (h : BaseFDD B g o f e a) : BaseFDD B g o f e (a.put (some 78) v) := by
  obtain ⟨u, rfl⟩ := h
  exact ⟨fun i => if i = 78 then v else u i, by kernel_rfl⟩
theorem BaseFDD.put79 {B g : Nat} {o : ByteArray} {f e : Int} (a : Act) (v : Value) (h : BaseFDD B g o f e a) : BaseFDD B g o f e (a.put (some 79) v) := by
  obtain ⟨u, rfl⟩ := h
  exact ⟨fun i => if i = 79 then v else u i, by kernel_rfl⟩
theorem BaseFDD.put80 {B g : Nat} {o : ByteArray} {f e : Int} (a : Act) (v : Value) (h : BaseFDD B g o f e a) : BaseFDD B g o f e (a.put (some 80) v) := by
  obtain ⟨u, rfl⟩ := h
  exact ⟨fun i => if i = 80 then v else u i, by kernel_rfl⟩
theorem BaseFDD.put81 {B g : Nat} {o : ByteArray} {f e : Int} (a : Act) (v : Value) (h : BaseFDD B g o f e a) : BaseFDD B g o f e (a.put (some 81) v) := by
  obtain ⟨u, rfl⟩ := h
  exact ⟨fun i => if i = 81 then v else u i, by kernel_rfl⟩
/-- what each operation of the region FP leaves -/
def vsFP (o dt : ByteArray) (f k' l' q' e' : Int) (m8 : Nat) : List (Option (Tmp × Value)) :=
  [some (83, .int .i64 f), some (84, .agg (ta k' l' q' e')), some (85, .string o), some (86, .int .i64 (o.size : Nat)), some (87, .int .i64 (m8 : Nat)), some (88, .string dt), some (89, .agg (pv f k' l' q' e' dt)), none]
/-- the frame while the region FP runs -/
def BaseFP (B g : Nat) (o : ByteArray) (f : Int) (a : Act) : Prop := ∃ u : Nat → Value, a = ⟨#[u 0, u 1, .pointer (some ⟨B, 0, none⟩), .string o, .int .i64 f, u 5, u 6, u 7, u 8, .int .i64 (o.size : Nat), .pointer (some ⟨g, 0, none⟩), u 11, u 12, u 13, u 14, u 15, u 16, u 17, u 18, u 19, u 20, u 21, u 22, u 23, u 24, u 25, u 26, u 27, u 28, u 29, u 30, u 31, u 32, u 33, u 34, u 35, u 36, u 37, u 38, u 39, u 40, u 41, u 42, u 43, u 44, u 45, u 46, u 47, u 48, u 49, u 50, u 51, u 52, u 53, u 54, u 55, u 56, u 57, u 58, u 59, u 60, u 61, u 62, u 63, u 64, u 65, u 66, u 67, u 68, u 69, u 70, u 71, u 72, u 73, u 74, u 75, u 76, u 77, u 78, u 79, u 80, u 81, u 82, u 83, u 84, u 85, u 86, u 87, u 88, u 89], []⟩
theorem BaseFP.of {B g : Nat} {o : ByteArray} {f : Int} (arr : Array Value) (h : arr = #[arr.getD 0 undef, arr.getD 1 undef, .pointer (some ⟨B, 0, none⟩), .string o, .int .i64 f, arr.getD 5 undef, arr.getD 6 undef, arr.getD 7 undef, arr.getD 8 undef, .int .i64 (o.size : Nat), .pointer (some ⟨g, 0, none⟩), arr.getD 11 undef, arr.getD 12 undef, arr.getD 13 undef, arr.getD 14 undef, arr.getD 15 undef, arr.getD 16 undef, arr.getD 17 undef, arr.getD 18 undef, arr.getD 19 undef, arr.getD 20 undef, arr.getD 21 undef, arr.getD 22 undef, arr.getD 23 undef, arr.getD 24 undef, arr.getD 25 undef, arr.getD 26 undef, arr.getD 27 undef, arr.getD 28 undef, arr.getD 29 undef, arr.getD 30 undef, arr.getD 31 undef, arr.getD 32 undef, arr.getD 33 undef, arr.getD 34 undef, arr.getD 35 undef, arr.getD 36 undef, arr.getD 37 undef, arr.getD 38 undef, arr.getD 39 undef, arr.getD 40 undef, arr.getD 41 undef, arr.getD 42 undef, arr.getD 43 undef, arr.getD 44 undef, arr.getD 45 undef, arr.getD 46 undef, arr.getD 47 undef, arr.getD 48 undef, arr.getD 49 undef, arr.getD 50 undef, arr.getD 51 undef, arr.getD 52 undef, arr.getD 53 undef, arr.getD 54 undef, arr.getD 55 undef, arr.getD 56 undef, arr.getD 57 undef, arr.getD 58 undef, arr.getD 59 undef, arr.getD 60 undef, arr.getD 61 undef, arr.getD 62 undef, arr.getD 63 undef, arr.getD 64 undef, arr.getD 65 undef, arr.getD 66 undef, arr.getD 67 undef, arr.getD 68 undef, arr.getD 69 undef, arr.getD 70 undef, arr.getD 71 undef, arr.getD 72 undef, arr.getD 73 undef, arr.getD 74 undef, arr.getD 75 undef, arr.getD 76 undef, arr.getD 77 undef, arr.getD 78 undef, arr.getD 79 undef, arr.getD 80 undef, arr.getD 81 undef, arr.getD 82 undef, arr.getD 83 undef, arr.getD 84 undef, arr.getD 85 undef, arr.getD 86 undef, arr.getD 87 undef, arr.getD 88 undef, arr.getD 89 undef]) : BaseFP B g o f ⟨arr, []⟩ := ⟨fun i => arr.getD i undef, by rw [← h]⟩
theorem BaseFP.put83 {B g : Nat} {o : ByteArray} {f : Int} (a : Act) (v : Value) (h : BaseFP B g o f a) : BaseFP B g o f (a.put (some 83) v) := by
  obtain ⟨u, rfl⟩ := h
  exact ⟨fun i => if i = 83 then v else u i, by kernel_rfl⟩
theorem BaseFP.put84 {B g : Nat} {o : ByteArray} {f : Int} (a : Act) (v : Value) (h : BaseFP B g o f a) : BaseFP B g o f (a.put (some 84) v) := by
  obtain ⟨u, rfl⟩ := h
  exact ⟨fun i => if i = 84 then v else u i, by kernel_rfl⟩
theorem BaseFP.put85 {B g : Nat} {o : ByteArray} {f : Int} (a : Act) (v : Value) (h : BaseFP B g o f a) : BaseFP B g o f (a.put (some 85) v) := by
  obtain ⟨u, rfl⟩ := h
  exact ⟨fun i => if i = 85 then v else u i, by kernel_rfl⟩
theorem BaseFP.put86 {B g : Nat} {o : ByteArray} {f : Int} (a : Act) (v : Value) (h : BaseFP B g o f a) : BaseFP B g o f (a.put (some 86) v) := by
  obtain ⟨u, rfl⟩ := h
  exact ⟨fun i => if i = 86 then v else u i, by kernel_rfl⟩
theorem BaseFP.put87 {B g : Nat} {o : ByteArray} {f : Int} (a : Act) (v : Value) (h : BaseFP B g o f a) : BaseFP B g o f (a.put (some 87) v) := by
  obtain ⟨u, rfl⟩ := h
  exact ⟨fun i => if i = 87 then v else u i, by kernel_rfl⟩
theorem BaseFP.put88 {B g : Nat} {o : ByteArray} {f : Int} (a : Act) (v : Value) (h : BaseFP B g o f a) : BaseFP B g o f (a.put (some 88) v) := by
  obtain ⟨u, rfl⟩ := h
  exact ⟨fun i => if i = 88 then v else u i, by kernel_rfl⟩
theorem BaseFP.put89 {B g : Nat} {o : ByteArray} {f : Int} (a : Act) (v : Value) (h : BaseFP B g o f a) : BaseFP B g o f (a.put (some 89) v) := by
  obtain ⟨u, rfl⟩ := h
  exact ⟨fun i => if i = 89 then v else u i, by kernel_rfl⟩

end Go.Proofs.YtjmoecfgpfdncaaDoor

/- The reference of layer 5, walked: Decode. -/
namespace Go.Proofs.YtjmoecfgpfdncaaDoor
set_option maxRecDepth 100000
open Go.RowKit

def FrDec (s : ByteArray) (w : World) (r : Ending) (w' : World) : Prop := r = .returned (.agg (pageV s)) ∧ Below w.heap.size w w'
abbrev P0 : Array Value := pv 0 0 0 0 0 ByteArray.empty
abbrev P4 : Array Value := pv 4 0 0 0 0 ByteArray.empty
abbrev P1 : Array Value := pv 1 0 0 0 0 ByteArray.empty

theorem toList_same {a b : ByteArray} (h : a.toList = b.toList) : a = b := by
  rw [ByteArray.toList_eq, ByteArray.toList_eq] at h
  exact bytes_eq h
/-- the world while Decode goes on: the result's block is as it was laid, and what is below -/
def CP (w0 w : World) : Prop := Blk w w0.heap.size P0 36 ∧ Below w0.heap.size w0 w
theorem CP.call {w0 w w' : World} (h : CP w0 w) (hb : Below w.heap.size w w') : CP w0 w' := ⟨h.1.after hb, h.2.trans (hb.mono h.2.size)⟩
theorem CP.end {w0 w : World} (h : CP w0 w) (cs : Array Value) : Blk (w.setRow w0.heap.size cs) w0.heap.size cs 36 ∧ Below w0.heap.size w0 (w.setRow w0.heap.size cs) := ⟨h.1.put cs, below_put (Nat.le_refl _) _ h.2⟩

/-- .. and the tag's block -/
def CQ (w0 : World) (g : Nat) (k l q e : Int) (w : World) : Prop := CP w0 w ∧ Blk w g (ta k l q e) 34
theorem CQ.call {w0 : World} {g : Nat} {k l q e : Int} {w w' : World} (h : CQ w0 g k l q e w) (hb : Below w.heap.size w w') : CQ w0 g k l q e w' := ⟨h.1.call hb, h.2.after hb⟩
theorem CQ.drew {w0 : World} {g : Nat} {k l q e : Int} {w : World} (h : CQ w0 g k l q e w) : CQ w0 g k l q e w.drew := h.call (Below.refl _ _).drew
/-- .. while the page is laid -/
def CR (w0 : World) (g : Nat) (k l q e : Int) (w : World) : Prop := (∃ cs, cs.size = 6 ∧ Blk w w0.heap.size cs 36) ∧ Blk w g (ta k l q e) 34 ∧ Below w0.heap.size w0 w
theorem CR.drew {w0 : World} {g : Nat} {k l q e : Int} {w : World} (h : CR w0 g k l q e w) : CR w0 g k l q e w.drew := ⟨h.1, h.2.1, Below.drew h.2.2⟩
def TR (B : Nat) (fin : Array Value) (w w' : World) : Prop := Blk w B fin 36 → Blk w' B fin 36
def SpR (B : Nat) (fin : Array Value) (_ : Nat) (_ : Act) (w : World) : Prop := Blk w B fin 36
theorem SpR.ext {B : Nat} {fin : Array Value} : ∀ j a a' w w', SpR B fin j a w → (∀ s ∈ ([] : List Tmp), a'.tmps.getD s undef = a.tmps.getD s undef) → TR B fin w w' → SpR B fin j a' w' := fun _ _ _ _ _ h _ hT => hT h

end Go.Proofs.YtjmoecfgpfdncaaDoor

/- The reference of layer 5, walked: Decode, whatever it is given. -/
namespace Go.Proofs.YtjmoecfgpfdncaaDoor
set_option maxRecDepth 100000
open Go.RowKit

end Go.Proofs.YtjmoecfgpfdncaaDoor

/- A page's bytes, decoded: what is encoded is told as good. No Go in sight. -/
namespace Go.Proofs.YtjmoecfgpfdncaaDoor
set_option maxRecDepth 100000
open Go.RowKit

theorem bs_app (a b : ByteArray) : bs (a ++ b) = bs a ++ bs b := by
  unfold bs; rw [ByteArray.data_append, Array.toList_append]
theorem bs_ext (s : ByteArray) (i j : Nat) : bs (s.extract i j) = ((bs s).take j).drop i := list_extract s i j
theorem ext_left (a b : ByteArray) (i j : Nat) (h : j ≤ a.size) : (a ++ b).extract i j = a.extract i j := by
  apply bs_inj
  rw [bs_ext, bs_ext, bs_app, List.take_append_of_le_length (by rw [bs_length]; exact h)]
theorem ext_right (a b : ByteArray) (i j : Nat) (h : a.size ≤ i) : (a ++ b).extract i j = b.extract (i - a.size) (j - a.size) := by
  apply bs_inj
  rw [bs_ext, bs_ext, bs_app, List.take_append, List.drop_append, List.drop_eq_nil_of_le (by rw [List.length_take, bs_length]; omega), List.nil_append]
  rw [List.length_take, bs_length]
  by_cases h2 : a.size ≤ j
  · rw [Nat.min_eq_right h2]
  · rw [show j - a.size = 0 by omega]; simp
theorem ext_whole (a : ByteArray) (j : Nat) (h : a.size ≤ j) : a.extract 0 j = a := by
  apply bs_inj
  rw [bs_ext, List.drop_zero, List.take_of_length_le (by rw [bs_length]; exact h)]
/-- a piece of the chunks is the chunk -/
theorem piece_chunks (z : ByteArray) (c : Nat) (hz : 8 * c ≤ z.size) : ∀ k, k < c → piece (chunks z c) 9 k = encS (piece z 8 k) := by
  induction c with
  | zero => intro k hk; omega
  | succ c ih =>
    intro k hk
    have hs := chunks_size z c (by omega)
    by_cases e : k = c
    · subst e
      unfold piece
      show (chunks z k ++ encS (piece z 8 k)).extract (9 * k) (9 * k + 9) = _
      rw [ext_right _ _ _ _ (by omega), hs, show 9 * k - 9 * k = 0 by omega, show 9 * k + 9 - 9 * k = 9 by omega]
      exact ext_whole _ _ (by rw [encS_size, piece_size z 8 k (by omega)]; omega)
    · have h1 := ih (by omega) k (by omega)
      rw [← h1]
      unfold piece
      exact ext_left _ _ _ _ (by omega)
theorem held_step (z : ByteArray) (k : Nat) : z.extract 0 (8 * k) ++ piece z 8 k = z.extract 0 (8 * (k + 1)) := by
  apply bs_inj
  unfold piece
  rw [bs_app, bs_ext, bs_ext, bs_ext, List.drop_zero, List.drop_zero, show 8 * (k + 1) = 8 * k + 8 by omega]
  conv => rhs; rw [← List.take_append_drop (8 * k) ((bs z).take (8 * k + 8))]
  rw [List.take_take, Nat.min_eq_left (by omega)]
/-- all chunks of a page told: nothing bad, nothing put right, all as it was -/
theorem told_chunks (z : ByteArray) (c : Nat) (hz : z.size = 8 * c) : ∀ k, k ≤ c → badTo (chunks z c) k = false ∧ fixTo (chunks z c) k = false ∧ heldTo (chunks z c) k = z.extract 0 (8 * k) := by
  intro k
  induction k with
  | zero =>
    intro _
    refine ⟨rfl, rfl, ?_⟩
    apply bs_inj
    rw [bs_ext]; simp [heldTo, bs]
  | succ k ih =>
    intro hk
    obtain ⟨h1, h2, h3⟩ := ih (by omega)
    have hp := piece_chunks z c (by omega) k (by omega)
    have hd : decS (piece (chunks z c) 9 k) = (piece z 8 k, 2) := by rw [hp, dec_enc _ (piece_size z 8 k (by omega))]
    refine ⟨?_, ?_, ?_⟩
    · show (badTo (chunks z c) k || decide ((decS (piece (chunks z c) 9 k)).2 = 4)) = false
      rw [h1, hd]; rfl
    · show (fixTo (chunks z c) k || decide ((decS (piece (chunks z c) 9 k)).2 = 3)) = false
      rw [h2, hd]; rfl
    · show heldTo (chunks z c) k ++ (decS (piece (chunks z c) 9 k)).1 = _
      rw [h3, hd]
      exact held_step z k
theorem seal_cut (x : ByteArray) : (sealS x).extract 0 x.size = x := by
  apply bs_inj
  rw [bs_ext, bs_sealS, List.drop_zero]
  unfold sealN
  rw [← bs_length, List.take_left]
theorem seal_whole (x : ByteArray) : wholeB (sealS x) = true := by
  rw [whole_long _ (by rw [sealS_size]; omega), sealS_size, show x.size + 4 - 4 = x.size by omega, seal_cut]
  simp
theorem inner_tag (k l q e : Int) (data : ByteArray) : (inner k l q e data).extract 0 16 = tagS k l q e := by
  unfold inner
  rw [ext_left _ _ _ _ (by rw [sealS_size, ByteArray.size_append, tagS_size]; omega)]
  apply bs_inj
  rw [bs_ext, bs_sealS, List.drop_zero]
  unfold sealN
  rw [bs_app, List.append_assoc, ← tagS_size k l q e, ← bs_length, List.take_left]
theorem inner_end (k l q e : Int) (data : ByteArray) : (inner k l q e data).extract ((inner k l q e data).size - 4) (inner k l q e data).size = four0 := by
  rw [inner_size]
  unfold inner
  rw [ext_right _ _ _ _ (by rw [sealS_size, ByteArray.size_append, tagS_size]; omega), sealS_size, ByteArray.size_append, tagS_size,
    show data.size + 24 - 4 - (16 + data.size + 4) = 0 by omega, show data.size + 24 - (16 + data.size + 4) = 4 by omega]
  exact ext_whole _ _ (Nat.le_refl _)
theorem inner_whole (k l q e : Int) (data : ByteArray) : wholeB ((inner k l q e data).extract 0 ((inner k l q e data).size - 4)) = true := by
  rw [inner_size]
  unfold inner
  rw [ext_left _ _ _ _ (by rw [sealS_size, ByteArray.size_append, tagS_size]; omega)]
  rw [ext_whole _ _ (by rw [sealS_size, ByteArray.size_append, tagS_size]; omega)]
  exact seal_whole _
theorem inner_data (k l q e : Int) (data : ByteArray) : (inner k l q e data).extract 16 ((inner k l q e data).size - 8) = data := by
  rw [inner_size]
  unfold inner
  rw [ext_left _ _ _ _ (by rw [sealS_size, ByteArray.size_append, tagS_size]; omega)]
  apply bs_inj
  rw [bs_ext, bs_sealS]
  unfold sealN
  rw [bs_app, List.append_assoc]
  have h16 : (bs (tagS k l q e)).length = 16 := by rw [bs_length, tagS_size]
  rw [show data.size + 24 - 8 = 16 + data.size by omega, List.take_append, List.drop_append, h16]
  rw [List.drop_eq_nil_of_le (by rw [List.length_take, h16]; omega), List.nil_append, List.length_take, h16, Nat.min_eq_right (by omega)]
  rw [show 16 - 16 = 0 by omega, List.drop_zero, show 16 + data.size - 16 = data.size by omega, ← bs_length, List.take_left]
theorem inner_page {k l q e : Int} (data : ByteArray) (h : MayT k l q e) : HoldsPage (inner k l q e data) := by
  refine ⟨?_, inner_end k l q e data, inner_whole k l q e data⟩
  rw [inner_tag]; exact tag_ok h
/-- a page is no blank one: its first byte has four bits that are 0 -/
theorem page_blank (k l q e : Int) (data : ByteArray) (c : Nat) (h : (inner k l q e data).size = 8 * c) (hc : 1 ≤ c) : blankTo (chunks (inner k l q e data) c) 1 = false := by
  show (true && decide (zs (piece (chunks (inner k l q e data) c) 9 0).data.toList ≤ 1)) = false
  rw [piece_chunks _ c (by omega) 0 (by omega), Bool.true_and]
  apply decide_eq_false
  have h8 := piece_size (inner k l q e data) 8 0 (by omega)
  have hp : piece (inner k l q e data) 8 0 = (tagS k l q e).extract 0 8 := by
    rw [← inner_tag k l q e data]
    apply bs_inj
    unfold piece
    rw [bs_ext, bs_ext, bs_ext]
    simp [List.take_take]
  obtain ⟨r, hr⟩ : ∃ r, (encS (piece (inner k l q e data) 8 0)).data.toList = 27 :: r := by
    refine ⟨(encS (piece (inner k l q e data) 8 0)).data.toList.tail, ?_⟩
    rw [hp]
    rfl
  rw [hr]
  show ¬ pop8 (255 - 27) + zs r ≤ 1
  have : pop8 (255 - 27) = 4 := by decide
  omega

theorem blank_no_later {s : ByteArray} {k c : Nat} (h : blankTo s k = false) (hc : k ≤ c) : blankTo s c = false := by
  induction c with
  | zero => rw [← Nat.le_zero.1 hc]; exact h
  | succ c ih =>
    by_cases e : k = c + 1
    · rw [← e]; exact h
    · show (blankTo s c && _) = false
      rw [ih (by omega)]; rfl
/-- WHAT IS ENCODED IS DECODED, as good -/
theorem page_back {k l q e : Int} (data : ByteArray) (hl : LenOk data.size) (hm : MayT k l q e) : pageV (pageS k l q e data) = pv 2 k l q e data := by
  obtain ⟨h8, h256, hmod⟩ := hl
  have hz := inner_size k l q e data
  obtain ⟨c, hc⟩ : ∃ c, (data.size + 24) / 8 = c := ⟨_, rfl⟩
  have hzc : (inner k l q e data).size = 8 * c := by omega
  have hs : (pageS k l q e data).size = 9 * c := by rw [pageS_size]; omega
  have hn : (pageS k l q e data).size / 9 = c := by omega
  have hp : pageS k l q e data = chunks (inner k l q e data) c := by unfold pageS; rw [hc]
  have hsh : ShapeOk (pageS k l q e data).size := by rw [hs]; unfold ShapeOk; omega
  have ht := told_chunks (inner k l q e data) c hzc c (Nat.le_refl _)
  have hh : heldTo (chunks (inner k l q e data) c) c = inner k l q e data := by rw [ht.2.2]; exact ext_whole _ _ (by omega)
  have hb : blankTo (chunks (inner k l q e data) c) c = false := blank_no_later (page_blank k l q e data c hzc (by omega)) (by omega)
  rw [pageV_page hsh (by rw [hn, hp]; exact hb) (by rw [hn, hp]; exact ht.1) (by rw [hn, hp, hh]; exact inner_page data hm)]
  rw [hn, hp, hh]
  unfold pageOf toldTo
  have hb2 := tag_bytes hm
  have hf := tag_fields hm
  rw [ht.2.1, inner_tag, inner_data, hb2.2.1, hf.1, hf.2.1, hf.2.2]
  rfl

end Go.Proofs.YtjmoecfgpfdncaaDoor

/- A page's bytes with bits turned: pieces, how many bits are 0, what is told. No Go in sight. -/
namespace Go.Proofs.YtjmoecfgpfdncaaDoor
set_option maxRecDepth 100000
open Go.RowKit

theorem bs_flip (s : ByteArray) (a j : Nat) (h : a < s.size) : bs (flipS s a j) = fl (bs s) a j := flipS_list s a j h
/-- a bit turned in one piece -/
theorem piece_flip_same (s : ByteArray) (k i j : Nat) (hi : i < 9) (hk : 9 * k + 9 ≤ s.size) : piece (flipS s (9 * k + i) j) 9 k = flipS (piece s 9 k) i j := by
  apply bs_inj
  have hp := piece_size s 9 k hk
  rw [bs_flip _ _ _ (by omega)]
  unfold piece
  rw [bs_ext, bs_ext, bs_flip _ _ _ (by omega)]
  unfold fl
  rw [List.take_set, List.drop_set, if_neg (by omega), show 9 * k + i - 9 * k = i by omega]
  congr 2
  have hl := bs_length s
  simp [List.getD, List.getElem?_drop, show i < 9 from hi]
theorem piece_flip_other (s : ByteArray) (k m i j : Nat) (hi : i < 9) (hk : 9 * k + 9 ≤ s.size) (hne : m ≠ k) : piece (flipS s (9 * k + i) j) 9 m = piece s 9 m := by
  apply bs_inj
  unfold piece
  rw [bs_ext, bs_ext, bs_flip _ _ _ (by omega)]
  unfold fl
  rw [List.take_set, List.drop_set]
  by_cases h : 9 * k + i < 9 * m
  · rw [if_pos h]
  · rw [if_neg h]
    rw [List.set_eq_of_length_le]
    rw [List.length_drop, List.length_take]
    omega
theorem zs_set (c : UInt8) : ∀ (l : List UInt8) (i : Nat), i < l.length → zs (l.set i c) + pop8 (255 - (l.getD i 0).toNat) = zs l + pop8 (255 - c.toNat)
  | [], i, h => by simp at h
  | b :: l, 0, _ => by simp only [List.set_cons_zero, zs, List.getD_cons_zero]; omega
  | b :: l, i + 1, h => by
    have := zs_set c l i (by simpa using h)
    simp only [List.set_cons_succ, zs, List.getD_cons_succ]; omega
theorem pop_fb (c : UInt8) (j : Nat) (hj : j < 8) : pop8 (255 - (fb c j).toNat) ≤ pop8 (255 - c.toNat) + 1 ∧ pop8 (255 - c.toNat) ≤ pop8 (255 - (fb c j).toNat) + 1 := by
  have h : ∀ n, n < 256 → ∀ j, j < 8 → pop8 (255 - (fb (UInt8.ofNat n) j).toNat) ≤ pop8 (255 - n) + 1 ∧ pop8 (255 - n) ≤ pop8 (255 - (fb (UInt8.ofNat n) j).toNat) + 1 := by decide +kernel
  have := h _ c.toNat_lt j hj
  rwa [UInt8.ofNat_toNat] at this
/-- a bit turned makes one bit more or less that is 0 -/
theorem zs_flip (s : ByteArray) (i j : Nat) (hi : i < s.size) (hj : j < 8) : zs (bs (flipS s i j)) ≤ zs (bs s) + 1 ∧ zs (bs s) ≤ zs (bs (flipS s i j)) + 1 := by
  rw [bs_flip _ _ _ hi]
  have h := zs_set (fb ((bs s).getD i 0) j) (bs s) i (by rw [bs_length]; exact hi)
  have h2 := pop_fb ((bs s).getD i 0) j hj
  unfold fl
  omega

/-- each chunk is as it was encoded, or with one bit turned (t k: the byte and the bit) -/
def OneEach (z s : ByteArray) (c : Nat) (t : Nat → Option (Nat × Nat)) : Prop :=
  s.size = 9 * c ∧ ∀ k, k < c → match t k with
    | none => piece s 9 k = encS (piece z 8 k)
    | some (i, j) => i < 9 ∧ j < 8 ∧ piece s 9 k = flipS (encS (piece z 8 k)) i j
def anyTo (t : Nat → Option (Nat × Nat)) : Nat → Bool
  | 0 => false
  | k + 1 => anyTo t k || (t k).isSome
theorem told_one (z s : ByteArray) (c : Nat) (t : Nat → Option (Nat × Nat)) (hz : z.size = 8 * c) (h : OneEach z s c t) : ∀ k, k ≤ c → badTo s k = false ∧ fixTo s k = anyTo t k ∧ heldTo s k = z.extract 0 (8 * k) := by
  intro k
  induction k with
  | zero =>
    intro _
    refine ⟨rfl, rfl, ?_⟩
    apply bs_inj
    rw [bs_ext]; simp [heldTo, bs]
  | succ k ih =>
    intro hk
    obtain ⟨h1, h2, h3⟩ := ih (by omega)
    have hk2 := h.2 k (by omega)
    have hp8 := piece_size z 8 k (by omega)
    have hd : decS (piece s 9 k) = (piece z 8 k, if (t k).isSome then 3 else 2) := by
      cases ht : t k with
      | none => rw [ht] at hk2; rw [hk2, dec_enc _ hp8]; rfl
      | some p =>
        obtain ⟨i, j⟩ := p
        rw [ht] at hk2
        rw [hk2.2.2, dec_one _ hp8 i j hk2.1 hk2.2.1]; rfl
    refine ⟨?_, ?_, ?_⟩
    · show (badTo s k || decide ((decS (piece s 9 k)).2 = 4)) = false
      rw [h1, hd]; cases (t k).isSome <;> rfl
    · show (fixTo s k || decide ((decS (piece s 9 k)).2 = 3)) = (anyTo t k || (t k).isSome)
      rw [h2, hd]; cases (t k).isSome <;> rfl
    · show heldTo s k ++ (decS (piece s 9 k)).1 = _
      rw [h3, hd]
      exact held_step z k
/-- the first chunk of a page has four bits that are 0 -/
theorem first_zeros (k l q e : Int) (data : ByteArray) : 4 ≤ zs (bs (encS (piece (inner k l q e data) 8 0))) := by
  have hp : piece (inner k l q e data) 8 0 = (tagS k l q e).extract 0 8 := by
    rw [← inner_tag k l q e data]
    apply bs_inj
    unfold piece
    rw [bs_ext, bs_ext, bs_ext]
    simp [List.take_take]
  obtain ⟨r, hr⟩ : ∃ r, bs (encS (piece (inner k l q e data) 8 0)) = 27 :: r := by
    refine ⟨(bs (encS (piece (inner k l q e data) 8 0))).tail, ?_⟩
    rw [hp]
    rfl
  rw [hr]
  show 4 ≤ pop8 (255 - 27) + zs r
  have : pop8 (255 - 27) = 4 := by decide
  omega
theorem blank_first {s : ByteArray} {c : Nat} (h : 2 ≤ zs (bs (piece s 9 0))) (hc : 1 ≤ c) : blankTo s c = false := by
  refine blank_no_later (k := 1) ?_ hc
  show (true && decide (zs (piece s 9 0).data.toList ≤ 1)) = false
  rw [Bool.true_and]
  apply decide_eq_false
  have : zs (bs (piece s 9 0)) = zs (piece s 9 0).data.toList := rfl
  omega
/-- ONE IN EACH: it is decoded as it was, as good or put right -/
theorem page_fixed {k l q e : Int} (data s : ByteArray) (c : Nat) (t : Nat → Option (Nat × Nat)) (hl : LenOk data.size) (hm : MayT k l q e) (hc : (data.size + 24) / 8 = c) (h : OneEach (inner k l q e data) s c t) :
    pageV s = pv (if anyTo t c then 3 else 2) k l q e data := by
  obtain ⟨h8, h256, hmod⟩ := hl
  have hz := inner_size k l q e data
  have hzc : (inner k l q e data).size = 8 * c := by omega
  have hs := h.1
  have hn : s.size / 9 = c := by omega
  have hsh : ShapeOk s.size := by rw [hs]; unfold ShapeOk; omega
  have ht := told_one (inner k l q e data) s c t hzc h c (Nat.le_refl _)
  have hh : heldTo s c = inner k l q e data := by rw [ht.2.2]; exact ext_whole _ _ (by omega)
  have hf4 := first_zeros k l q e data
  have h0 := h.2 0 (by omega)
  have hb : blankTo s c = false := by
    refine blank_first ?_ (by omega)
    cases ht0 : t 0 with
    | none => rw [ht0] at h0; rw [h0]; omega
    | some p =>
      obtain ⟨i, j⟩ := p
      rw [ht0] at h0
      have hz9 : (encS (piece (inner k l q e data) 8 0)).size = 9 := by rw [encS_size, piece_size _ 8 0 (by omega)]
      have := (zs_flip (encS (piece (inner k l q e data) 8 0)) i j (by omega) h0.2.1).2
      rw [h0.2.2]; omega
  rw [pageV_page hsh (by rw [hn]; exact hb) (by rw [hn]; exact ht.1) (by rw [hn, hh]; exact inner_page data hm)]
  rw [hn, hh]
  unfold pageOf toldTo
  have hb2 := tag_bytes hm
  have hf := tag_fields hm
  rw [ht.2.1, inner_tag, inner_data, hb2.2.1, hf.1, hf.2.1, hf.2.2]

/-- TWO IN ONE: where a chunk is bad, and the first one not blank, the page is bad -/
theorem page_told {s : ByteArray} {c k : Nat} (hs : s.size = 9 * c) (hc : 4 ≤ c) (hc2 : c ≤ 35) (hk : k < c) (hb : blankTo s c = false) (h4 : (decS (piece s 9 k)).2 = 4) : pageV s = pv 4 0 0 0 0 ByteArray.empty := by
  have hn : s.size / 9 = c := by omega
  have hsh : ShapeOk s.size := by rw [hs]; unfold ShapeOk; omega
  refine pageV_bad hsh (by rw [hn]; exact hb) ?_
  rw [hn]
  refine bad_later (k := k + 1) ?_ hk
  show (badTo s k || decide ((decS (piece s 9 k)).2 = 4)) = true
  rw [h4]; simp

end Go.Proofs.YtjmoecfgpfdncaaDoor

/- A blank page, with bits turned. No Go in sight. -/
namespace Go.Proofs.YtjmoecfgpfdncaaDoor
set_option maxRecDepth 100000
open Go.RowKit

def ffL (n : Nat) : List UInt8 := List.replicate n 255
def ffS (n : Nat) : ByteArray := ⟨(ffL n).toArray⟩
theorem blankS_eq (n : Nat) : blankS n = ffS ((n + 24) / 8 * 9) := rfl
theorem ffS_size (n : Nat) : (ffS n).size = n := by
  show (ffL n).toArray.size = n
  simp [ffL]
theorem bs_ff (n : Nat) : bs (ffS n) = ffL n := rfl
theorem ff_piece (n m k : Nat) (h : m * k + m ≤ n) : piece (ffS n) m k = ffS m := by
  apply bs_inj
  unfold piece
  rw [bs_ext, bs_ff, bs_ff]
  unfold ffL
  rw [List.take_replicate, List.drop_replicate]
  congr 1
  omega
theorem zs_ff : ∀ n, zs (ffL n) = 0
  | 0 => rfl
  | n + 1 => by
    show pop8 (255 - 255) + zs (ffL n) = 0
    rw [zs_ff n]; rfl
/-- eight bytes all of whose bits are 1 are encoded so -/
theorem enc_ff : encS (ffS 8) = ffS 9 := by
  apply bs_inj
  have h : bs (encS (ffS 8)) = bs (ffS 9) := by decide +kernel
  exact h
theorem ff_two : ∀ a, a < 72 → ∀ b, b < 72 → a ≠ b → 2 ≤ zs (fl (fl (ffL 9) (a / 8) (a % 8)) (b / 8) (b % 8)) := by decide +kernel

/-- each piece is blank, or with one bit turned: told as erased -/
theorem blank_erased {s : ByteArray} {c : Nat} (hs : s.size = 9 * c) (hc : 4 ≤ c) (hc2 : c ≤ 35) (h : ∀ k, k < c → zs (bs (piece s 9 k)) ≤ 1) : pageV s = pv 1 0 0 0 0 ByteArray.empty := by
  have hn : s.size / 9 = c := by omega
  have hsh : ShapeOk s.size := by rw [hs]; unfold ShapeOk; omega
  refine pageV_blank hsh ?_
  rw [hn]
  have hall : ∀ k, k ≤ c → blankTo s k = true := by
    intro k
    induction k with
    | zero => intro _; rfl
    | succ k ih =>
      intro hk
      show (blankTo s k && decide (zs (piece s 9 k).data.toList ≤ 1)) = true
      have h1 := h k (by omega)
      rw [ih (by omega), Bool.true_and]
      exact decide_eq_true h1
  exact hall c (Nat.le_refl _)
theorem ff_one (i j : Nat) (hi : i < 9) (hj : j < 8) : zs (bs (flipS (ffS 9) i j)) ≤ 1 := by
  have h := (zs_flip (ffS 9) i j (by rw [ffS_size]; exact hi) hj).1
  rw [bs_ff 9, zs_ff] at h
  omega
/-- two different bits of a blank chunk turned: bad, and not blank -/
theorem ff_bad (a b : Nat) (ha : a < 72) (hb : b < 72) (h : a ≠ b) : (decS (flipS (flipS (ffS 9) (a / 8) (a % 8)) (b / 8) (b % 8))).2 = 4 ∧ 2 ≤ zs (bs (flipS (flipS (ffS 9) (a / 8) (a % 8)) (b / 8) (b % 8))) := by
  have hz : (ffS 9).size = 9 := ffS_size 9
  have hz2 : (flipS (ffS 9) (a / 8) (a % 8)).size = 9 := by rw [flipS_size _ _ _ (by omega), hz]
  have h2 := ff_two a ha b hb h
  have e : bs (flipS (flipS (ffS 9) (a / 8) (a % 8)) (b / 8) (b % 8)) = fl (fl (ffL 9) (a / 8) (a % 8)) (b / 8) (b % 8) := by
    rw [bs_flip _ _ _ (by omega), bs_flip _ _ _ (by omega), bs_ff]
  rw [e]
  refine ⟨?_, h2⟩
  have hne : flipS (flipS (ffS 9) (a / 8) (a % 8)) (b / 8) (b % 8) ≠ ffS 9 := by
    intro e2
    rw [e2, bs_ff] at e
    rw [← e, zs_ff] at h2
    omega
  rw [← enc_ff] at hne ⊢
  rw [dec_two (ffS 8) (ffS_size 8) (a / 8) (a % 8) (b / 8) (b % 8) (by omega) (by omega) (by omega) (by omega) hne]

end Go.Proofs.YtjmoecfgpfdncaaDoor

/- Two pages compared. -/
namespace Go.Proofs.YtjmoecfgpfdncaaDoor
set_option maxRecDepth 100000
open Go.RowKit

/-- are two pages the same? -/
def sameP (f k l q e : Int) (d : ByteArray) (f' k' l' q' e' : Int) (d' : ByteArray) : Bool := f == f' && (sameT k l q e k' l' q' e' && d.toList == d'.toList)
theorem sameP_self (f k l q e : Int) (d : ByteArray) : sameP f k l q e d f k l q e d = true := by simp [sameP, sameT]
theorem fields_tag' (n : Nat) (k l q e k' l' q' e' : Int) (w : World) : Sem.run Tryd.prog (Op.eqFields (n + 1) #[.int .i64 k, .int .i64 l, .int .i64 q, .int .i64 e] #[.int .i64 k', .int .i64 l', .int .i64 q', .int .i64 e'] (Tryd.prog.fieldsOf 34).toList) w = .ok (sameT k l q e k' l' q' e') w := by
  simp only [Program.fieldsOf, Tryd.underlying34]
  simp [Op.eqFields, part, isAgg, run_underlying Tryd.underlying3, run_equalIn_int _ _ _ _ _ _ _ Tryd.underlying3, sameT]
  by_cases h1 : k = k' <;> by_cases h2 : l = l' <;> by_cases h3 : q = q' <;> by_cases h4 : e = e' <;> simp [h1, h2, h3, h4]
theorem fields_page (f k l q e f' k' l' q' e' : Int) (d d' : ByteArray) (w : World) : Sem.run Tryd.prog (Op.eqFields 9999 (pv f k l q e d) (pv f' k' l' q' e' d') (Tryd.prog.fieldsOf 36).toList) w = .ok (sameP f k l q e d f' k' l' q' e' d') w := by
  have ht := fun w => (run_equalIn_agg (P := Tryd.prog) w 9998 34 #[.int .i64 k, .int .i64 l, .int .i64 q, .int .i64 e] #[.int .i64 k', .int .i64 l', .int .i64 q', .int .i64 e'] (by kernel_rfl) (by kernel_rfl)).trans (fields_tag' 9997 k l q e k' l' q' e' w)
  obtain ⟨it, hit, hts⟩ : ∃ i, Tryd.prog.info? 34 = some i ∧ i.size = 4 := by
    have h := size_tag
    cases hq : Tryd.prog.info? 34 with
    | none => simp [hq] at h
    | some i => exact ⟨i, rfl, by simpa [hq] using h⟩
  simp only [Program.fieldsOf, Tryd.underlying36]
  simp [Op.eqFields, pv, part, isAgg, sizeOf, typeInfo, hit, hts, run_underlying Tryd.underlying3, run_underlying Tryd.underlying34, run_underlying Tryd.underlying9, run_equalIn_int _ _ _ _ _ _ _ Tryd.underlying3, run_equalIn_string _ _ _ _ _ Tryd.underlying9, ht, sameP]
  by_cases h1 : f = f' <;> cases sameT k l q e k' l' q' e' <;> by_cases h2 : d.toList = d'.toList <;> simp [h1, h2]
theorem eq_page (f k l q e f' k' l' q' e' : Int) (d d' : ByteArray) (w : World) : Sem.run Tryd.prog (binOp .eql 36 (.agg (pv f k l q e d)) (.agg (pv f' k' l' q' e' d'))) w = .ok (.bool (sameP f k l q e d f' k' l' q' e' d')) w := by
  rw [run_eql_struct, run_equalIn_agg _ _ _ _ _ (by kernel_rfl) (by kernel_rfl), fields_page]
  rfl
theorem wp_eql_page {o : Oper} {a : Act} {w : World} {K : Act → World → Prop} {Q : Exit → Act → World → Prop} (x y : Operand) (ho : o.op = .binOp .eql 36 x y 36)
    (f k l q e f' k' l' q' e' : Int) (d d' : ByteArray) (hx : a.eval x = .agg (pv f k l q e d)) (hy : a.eval y = .agg (pv f' k' l' q' e' d')) (h : K (a.put o.dst (.bool (sameP f k l q e d f' k' l' q' e' d'))) w) : o.wp Tryd.prog a w K Q := by
  unfold Oper.wp execOp
  simp only [ho, hx, hy, Sem.run_bind, run_eqGuard_agg (P := Tryd.prog) w .eql 36 x y _ _ (by kernel_rfl), Result.andThen_ok, eq_page]
  exact h
theorem wpList_eql_page {ops : Array Oper} {rest : List Oper} {o : Oper} {a : Act} {w : World} {Q : Exit → Act → World → Prop} (hgd : o.guard = none) (x y : Operand) (ho : o.op = .binOp .eql 36 x y 36)
    (f k l q e f' k' l' q' e' : Int) (d d' : ByteArray) (hx : a.eval x = .agg (pv f k l q e d)) (hy : a.eval y = .agg (pv f' k' l' q' e' d')) (h : wpList Tryd.prog ops Q rest (a.put o.dst (.bool (sameP f k l q e d f' k' l' q' e' d'))) w) : wpList Tryd.prog ops Q (o :: rest) a w :=
  wpList_plain hgd fun _ hK => wp_eql_page x y ho f k l q e f' k' l' q' e' d d' hx hy (hK _ _ h)

end Go.Proofs.YtjmoecfgpfdncaaDoor
