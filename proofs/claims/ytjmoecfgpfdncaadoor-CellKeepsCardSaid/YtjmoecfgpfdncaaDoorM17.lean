/- Texts of one claim, merged: CeK6, CeL7, CeT. -/
import Derived.Test.YtjmoecfgpfdncaaDoorM15
import Derived.Test.YtjmoecfgpfdncaaDoorM16
import Derived.Test.YtjmoecfgpfdncaaDoorM14
import Derived.Test.YtjmoecfgpfdncaaDoorM12

/- Layer 8, the laws: CellKeeps, no fault. -/
namespace Go.Proofs.YtjmoecfgpfdncaaDoor
set_option maxRecDepth 100000
open Go.RowKit

/-- what each operation of the region KFN leaves -/
def vsKFN (o B : Nat) (k : Int) : List (Option (Tmp × Value)) :=
  [some (71, .bool false), some (72, .int .i64 0), some (73, .bool false), some (74, .bool false), some (75, .bool false), some (76, .bool false), some (77, .bool false), some (78, undef), some (79, undef), some (80, undef), some (81, undef), some (82, undef), some (83, undef), some (84, undef), some (85, undef), some (86, .bool false), some (87, .bool false), some (88, .bool false), some (89, .pointer (some ⟨o, 0, none⟩)), some (90, .bool false), some (91, .pointer (some ⟨B, 1, none⟩)), some (92, .int .i64 k), some (93, .bool false), some (94, .bool false), some (95, .bool false), some (96, .bool false), some (97, .pointer (some ⟨o, 0, none⟩)), some (98, .bool false), some (99, .pointer (some ⟨B, 1, none⟩)), some (100, .int .i64 k), some (101, .bool false), some (102, .bool false), some (103, .bool false)]
/-- the frame while the region KFN runs -/
def BaseKFN (o L n B : Nat) (a : Act) : Prop := ∃ u : Nat → Value, a = ⟨#[.int .i64 (L : Int), .int .i64 (n : Int), u 2, u 3, u 4, .pointer (some ⟨B, 0, none⟩), u 6, .pointer (some ⟨o, 0, none⟩), u 8, u 9, .int .i64 0, .bool false, u 12, u 13, u 14, u 15, u 16, u 17, u 18, u 19, u 20, u 21, u 22, u 23, u 24, u 25, u 26, u 27, u 28, u 29, u 30, u 31, u 32, u 33, u 34, u 35, u 36, u 37, u 38, u 39, u 40, u 41, u 42, u 43, u 44, u 45, u 46, u 47, u 48, u 49, u 50, u 51, u 52, u 53, u 54, u 55, u 56, u 57, u 58, u 59, u 60, u 61, u 62, u 63, u 64, u 65, u 66, u 67, u 68, u 69, u 70, u 71, u 72, u 73, u 74, u 75, u 76, u 77, u 78, u 79, u 80, u 81, u 82, u 83, u 84, u 85, u 86, u 87, u 88, u 89, u 90, u 91, u 92, u 93, u 94, u 95, u 96, u 97, u 98, u 99, u 100, u 101, u 102, u 103, u 104, u 105, u 106, u 107, u 108, u 109, u 110, u 111, u 112, u 113, u 114, u 115, u 116, u 117, u 118, u 119, u 120, u 121, u 122, u 123, u 124, u 125, u 126, u 127, u 128, u 129, u 130, u 131, u 132, u 133, u 134, u 135, u 136, u 137, u 138, u 139, u 140, u 141, u 142, u 143, u 144, u 145, u 146, u 147, u 148, u 149, u 150, u 151, u 152, u 153, u 154, u 155, u 156, u 157, u 158, u 159, u 160, u 161, u 162, u 163, u 164, u 165, u 166, u 167, u 168, u 169, u 170, u 171, u 172, u 173, u 174, u 175, u 176, u 177, u 178, u 179, u 180], []⟩
theorem BaseKFN.of {o L n B : Nat} (arr : Array Value) (h : arr = #[.int .i64 (L : Int), .int .i64 (n : Int), arr.getD 2 undef, arr.getD 3 undef, arr.getD 4 undef, .pointer (some ⟨B, 0, none⟩), arr.getD 6 undef, .pointer (some ⟨o, 0, none⟩), arr.getD 8 undef, arr.getD 9 undef, .int .i64 0, .bool false, arr.getD 12 undef, arr.getD 13 undef, arr.getD 14 undef, arr.getD 15 undef, arr.getD 16 undef, arr.getD 17 undef, arr.getD 18 undef, arr.getD 19 undef, arr.getD 20 undef, arr.getD 21 undef, arr.getD 22 undef, arr.getD 23 undef, arr.getD 24 undef, arr.getD 25 undef, arr.getD 26 undef, arr.getD 27 undef, arr.getD 28 undef, arr.getD 29 undef, arr.getD 30 undef, arr.getD 31 undef, arr.getD 32 undef, arr.getD 33 undef, arr.getD 34 undef, arr.getD 35 undef, arr.getD 36 undef, arr.getD 37 undef, arr.getD 38 undef, arr.getD 39 undef, arr.getD 40 undef, arr.getD 41 undef, arr.getD 42 undef, arr.getD 43 undef, arr.getD 44 undef, arr.getD 45 undef, arr.getD 46 undef, arr.getD 47 undef, arr.getD 48 undef, arr.getD 49 undef, arr.getD 50 undef, arr.getD 51 undef, arr.getD 52 undef, arr.getD 53 undef, arr.getD 54 undef, arr.getD 55 undef, arr.getD 56 undef, arr.getD 57 undef, arr.getD 58 undef, arr.getD 59 undef, arr.getD 60 undef, arr.getD 61 undef, arr.getD 62 undef, arr.getD 63 undef, arr.getD 64 undef, arr.getD 65 undef, arr.getD 66 undef, arr.getD 67 undef, arr.getD 68 undef, arr.getD 69 undef, arr.getD 70 undef, arr.getD 71 undef, arr.getD 72 undef, arr.getD 73 undef, arr.getD 74 undef, arr.getD 75 undef, arr.getD 76 undef, arr.getD 77 undef, arr.getD 78 undef, arr.getD 79 undef, arr.getD 80 undef, arr.getD 81 undef, arr.getD 82 undef, arr.getD 83 undef, arr.getD 84 undef, arr.getD 85 undef, arr.getD 86 undef, arr.getD 87 undef, arr.getD 88 undef, arr.getD 89 undef, arr.getD 90 undef, arr.getD 91 undef, arr.getD 92 undef, arr.getD 93 undef, arr.getD 94 undef, arr.getD 95 undef, arr.getD 96 undef, arr.getD 97 undef, arr.getD 98 undef, arr.getD 99 undef, arr.getD 100 undef, arr.getD 101 undef, arr.getD 102 undef, arr.getD 103 undef, arr.getD 104 undef, arr.getD 105 undef, arr.getD 106 undef, arr.getD 107 undef, arr.getD 108 undef, arr.getD 109 undef, arr.getD 110 undef, arr.getD 111 undef, arr.getD 112 undef, arr.getD 113 undef, arr.getD 114 undef, arr.getD 115 undef, arr.getD 116 undef, arr.getD 117 undef, arr.getD 118 undef, arr.getD 119 undef, arr.getD 120 undef, arr.getD 121 undef, arr.getD 122 undef, arr.getD 123 undef, arr.getD 124 undef, arr.getD 125 undef, arr.getD 126 undef, arr.getD 127 undef, arr.getD 128 undef, arr.getD 129 undef, arr.getD 130 undef, arr.getD 131 undef, arr.getD 132 undef, arr.getD 133 undef, arr.getD 134 undef, arr.getD 135 undef, arr.getD 136 undef, arr.getD 137 undef, arr.getD 138 undef, arr.getD 139 undef, arr.getD 140 undef, arr.getD 141 undef, arr.getD 142 undef, arr.getD 143 undef, arr.getD 144 undef, arr.getD 145 undef, arr.getD 146 undef, arr.getD 147 undef, arr.getD 148 undef, arr.getD 149 undef, arr.getD 150 undef, arr.getD 151 undef, arr.getD 152 undef, arr.getD 153 undef, arr.getD 154 undef, arr.getD 155 undef, arr.getD 156 undef, arr.getD 157 undef, arr.getD 158 undef, arr.getD 159 undef, arr.getD 160 undef, arr.getD 161 undef, arr.getD 162 undef, arr.getD 163 undef, arr.getD 164 undef, arr.getD 165 undef, arr.getD 166 undef, arr.getD 167 undef, arr.getD 168 undef, arr.getD 169 undef, arr.getD 170 undef, arr.getD 171 undef, arr.getD 172 undef, arr.getD 173 undef, arr.getD 174 undef, arr.getD 175 undef, arr.getD 176 undef, arr.getD 177 undef, arr.getD 178 undef, arr.getD 179 undef, arr.getD 180 undef]) : BaseKFN o L n B ⟨arr, []⟩ := ⟨fun i => arr.getD i undef, by rw [← h]⟩
theorem BaseKFN.put71 {o L n B : Nat} (a : Act) (v : Value) (h : BaseKFN o L n B a) : BaseKFN o L n B (a.put (some 71) v) := by
  obtain ⟨u, rfl⟩ := h
  exact ⟨fun i => if i = 71 then v else u i, by kernel_rfl⟩
theorem BaseKFN.put72 {o L n B : Nat} (a : Act) (v : Value) (h : BaseKFN o L n B a) : BaseKFN o L n B (a.put (some 72) v) := by
  obtain ⟨u, rfl⟩ := h
  exact ⟨fun i => if i = 72 then v else u i, by kernel_rfl⟩
theorem BaseKFN.put73 {o L n B : Nat} (a : Act) (v : Value) (h : BaseKFN o L n B a) : BaseKFN o L n B (a.put (some 73) v) := by
  obtain ⟨u, rfl⟩ := h
  exact ⟨fun i => if i = 73 then v else u i, by kernel_rfl⟩
theorem BaseKFN.put74 {o L n B : Nat} (a : Act) (v : Value) (h : BaseKFN o L n B a) : BaseKFN o L n B (a.put (some 74) v) := by
  obtain ⟨u, rfl⟩ := h
  exact ⟨fun i => if i = 74 then v else u i, by kernel_rfl⟩
theorem BaseKFN.put75 {o L n B : Nat} (a : Act) (v : Value) (h : BaseKFN o L n B a) : BaseKFN o L n B (a.put (some 75) v) := by
  obtain ⟨u, rfl⟩ := h
  exact ⟨fun i => if i = 75 then v else u i, by kernel_rfl⟩
theorem BaseKFN.put76 {o L n B : Nat} (a : Act) (v : Value) (h : BaseKFN o L n B a) : BaseKFN o L n B (a.put (some 76) v) := by
  obtain ⟨u, rfl⟩ := h
  exact ⟨fun i => if i = 76 then v else u i, by kernel_rfl⟩
theorem BaseKFN.put77 {o L n B : Nat} (a : Act) (v : Value) (h : BaseKFN o L n B a) : BaseKFN o L n B (a.put (some 77) v) := by
  obtain ⟨u, rfl⟩ := h
  exact ⟨fun i => if i = 77 then v else u i, by kernel_rfl⟩
theorem BaseKFN.put78 {o L n B : Nat} (a : Act) (v : Value) (h : BaseKFN o L n B a) : BaseKFN o L n B (a.put (some 78) v) := by
  obtain ⟨u, rfl⟩ := h
  exact ⟨fun i => if i = 78 then v else u i, by kernel_rfl⟩
theorem BaseKFN.put79 {o L n B : Nat} (a : Act) (v : Value) (h : BaseKFN o L n B a) : BaseKFN o L n B (a.put (some 79) v) := by
  obtain ⟨u, rfl⟩ := h
  exact ⟨fun i => if i = 79 then v else u i, by kernel_rfl⟩
theorem BaseKFN.put80 {o L n B : Nat} (a : Act) (v : Value) (h : BaseKFN o L n B a) : BaseKFN o L n B (a.put (some 80) v) := by
  obtain ⟨u, rfl⟩ := h
  exact ⟨fun i => if i = 80 then v else u i, by kernel_rfl⟩
theorem BaseKFN.put81 {o L n B : Nat} (a : Act) (v : Value) (h : BaseKFN o L n B a) : BaseKFN o L n B (a.put (some 81) v) := by
  obtain ⟨u, rfl⟩ := h
  exact ⟨fun i => if i = 81 then v else u i, by kernel_rfl⟩
theorem BaseKFN.put82 {o L n B : Nat} (a : Act) (v : Value) (h : BaseKFN o L n B a) : BaseKFN o L n B (a.put (some 82) v) := by
  obtain ⟨u, rfl⟩ := h
  exact ⟨fun i => if i = 82 then v else u i, by kernel_rfl⟩
theorem BaseKFN.put83 {o L n B : Nat} (a : Act) (v : Value) (h : BaseKFN o L n B a) : BaseKFN o L n B (a.put (some 83) v) := by
  obtain ⟨u, rfl⟩ := h
  exact ⟨fun i => if i = 83 then v else u i, by kernel_rfl⟩
theorem BaseKFN.put84 {o L n B : Nat} (a : Act) (v : Value) (h : BaseKFN o L n B a) : BaseKFN o L n B (a.put (some 84) v) := by
  obtain ⟨u, rfl⟩ := h
  exact ⟨fun i => if i = 84 then v else u i, by kernel_rfl⟩
theorem BaseKFN.put85 {o L n B : Nat} (a : Act) (v : Value) (h : BaseKFN o L n B a) : BaseKFN o L n B (a.put (some 85) v) := by
  obtain ⟨u, rfl⟩ := h
  exact ⟨fun i => if i = 85 then v else u i, by kernel_rfl⟩
theorem BaseKFN.put86 {o L n B : Nat} (a : Act) (v : Value) (h : BaseKFN o L n B a) : BaseKFN o L n B (a.put (some 86) v) := by
  obtain ⟨u, rfl⟩ := h
  exact ⟨fun i => if i = 86 then v else u i, by kernel_rfl⟩
theorem BaseKFN.put87 {o L n B : Nat} (a : Act) (v : Value) (h : BaseKFN o L n B a) : BaseKFN o L n B (a.put (some 87) v) := by
  obtain ⟨u, rfl⟩ := h
  exact ⟨fun i => if i = 87 then v else u i, by kernel_rfl⟩
theorem BaseKFN.put88 {o L n B : Nat} (a : Act) (v : Value) (h : BaseKFN o L n B a) : BaseKFN o L n B (a.put (some 88) v) := by
  obtain ⟨u, rfl⟩ := h
  exact ⟨fun i => if i = 88 then v else u i, by kernel_rfl⟩
theorem BaseKFN.put89 {o L n B : Nat} (a : Act) (v : Value) (h : BaseKFN o L n B a) : BaseKFN o L n B (a.put (some 89) v) := by
  obtain ⟨u, rfl⟩ := h
  exact ⟨fun i => if i = 89 then v else u i, by kernel_rfl⟩
theorem BaseKFN.put90 {o L n B : Nat} (a : Act) (v : Value) (h : BaseKFN o L n B a) : BaseKFN o L n B (a.put (some 90) v) := by
  obtain ⟨u, rfl⟩ := h
  exact ⟨fun i => if i = 90 then v else u i, by kernel_rfl⟩
theorem BaseKFN.put91 {o L n B : Nat} (a : Act) (v : Value) (h : BaseKFN o L n B a) : BaseKFN o L n B (a.put (some 91) v) := by
  obtain ⟨u, rfl⟩ := h
  exact ⟨fun i => if i = 91 then v else u i, by kernel_rfl⟩
theorem BaseKFN.put92 {o L n B : Nat} (a : Act) (v : Value) (h : BaseKFN o L n B a) : BaseKFN o L n B (a.put (some 92) v) := by
  obtain ⟨u, rfl⟩ := h
  exact ⟨fun i => if i = 92 then v else u i, by kernel_rfl⟩
theorem BaseKFN.put93 {o L n B : Nat} (a : Act) (v : Value) (h : BaseKFN o L n B a) : BaseKFN o L n B (a.put (some 93) v) := by
  obtain ⟨u, rfl⟩ := h
  exact ⟨fun i => if i = 93 then v else u i, by kernel_rfl⟩
theorem BaseKFN.put94 {o L n B : Nat} (a : Act) (v : Value) (h : BaseKFN o L n B a) : BaseKFN o L n B (a.put (some 94) v) := by
  obtain ⟨u, rfl⟩ := h
  exact ⟨fun i => if i = 94 then v else u i, by kernel_rfl⟩
theorem BaseKFN.put95 {o L n B : Nat} (a : Act) (v : Value) (h : BaseKFN o L n B a) : BaseKFN o L n B (a.put (some 95) v) := by
  obtain ⟨u, rfl⟩ := h
  exact ⟨fun i => if i = 95 then v else u i, by kernel_rfl⟩
theorem BaseKFN.put96 {o L n B : Nat} (a : Act) (v : Value) (h : BaseKFN o L n B a) : BaseKFN o L n B (a.put (some 96) v) := by
  obtain ⟨u, rfl⟩ := h
  exact ⟨fun i => if i = 96 then v else u i, by kernel_rfl⟩
theorem BaseKFN.put97 {o L n B : Nat} (a : Act) (v : Value) (h : BaseKFN o L n B a) : BaseKFN o L n B (a.put (some 97) v) := by
  obtain ⟨u, rfl⟩ := h
  exact ⟨fun i => if i = 97 then v else u i, by kernel_rfl⟩
theorem BaseKFN.put98 {o L n B : Nat} (a : Act) (v : Value) (h : BaseKFN o L n B a) : BaseKFN o L n B (a.put (some 98) v) := by
  obtain ⟨u, rfl⟩ := h
  exact ⟨fun i => if i = 98 then v else u i, by kernel_rfl⟩
theorem BaseKFN.put99 {o L n B : Nat} (a : Act) (v : Value) (h : BaseKFN o L n B a) : BaseKFN o L n B (a.put (some 99) v) := by
  obtain ⟨u, rfl⟩ := h
  exact ⟨fun i => if i = 99 then v else u i, by kernel_rfl⟩
theorem BaseKFN.put100 {o L n B : Nat} (a : Act) (v : Value) (h : BaseKFN o L n B a) : BaseKFN o L n B (a.put (some 100) v) := by
  obtain ⟨u, rfl⟩ := h
  exact ⟨fun i => if i = 100 then v else u i, by kernel_rfl⟩
theorem BaseKFN.put101 {o L n B : Nat} (a : Act) (v : Value) (h : BaseKFN o L n B a) : BaseKFN o L n B (a.put (some 101) v) := by
  obtain ⟨u, rfl⟩ := h
  exact ⟨fun i => if i = 101 then v else u i, by kernel_rfl⟩
theorem BaseKFN.put102 {o L n B : Nat} (a : Act) (v : Value) (h : BaseKFN o L n B a) : BaseKFN o L n B (a.put (some 102) v) := by
  obtain ⟨u, rfl⟩ := h
  exact ⟨fun i => if i = 102 then v else u i, by kernel_rfl⟩
theorem BaseKFN.put103 {o L n B : Nat} (a : Act) (v : Value) (h : BaseKFN o L n B a) : BaseKFN o L n B (a.put (some 103) v) := by
  obtain ⟨u, rfl⟩ := h
  exact ⟨fun i => if i = 103 then v else u i, by kernel_rfl⟩

set_option maxHeartbeats 40000000 in
theorem walk_CellKeepsN (ln nn : Int) (x k a b : Int) (HK0 : Hid (¬ k = 1 ∧ ¬ k = 2)) (_ : (Lit.int .i64 ln).wf = true) (_ : (Lit.int .i64 nn).wf = true) (w : World) (hT : Tabs w) :
    Calls Tryd.prog 3 #[.int .i64 ln, .int .i64 nn, .agg (fv x k a b)] w fun e w' => e = .returned (.bool true) ∧ Below w.heap.size w w' := by
  obtain ⟨w1, hw1⟩ : ∃ w1, w.alloc (.cells (fv x k a b) 23) = w1 := ⟨_, rfl⟩
  have hb1 : Below w.heap.size w w1 := by rw [← hw1]; exact (Below.refl _ _).alloc (Nat.le_refl _) _
  have hk1 : Blk w1 w.heap.size (fv x k a b) 23 := by rw [← hw1]; exact Blk.new w _ _
  have HTB : Hid (∀ w', Below w1.heap.size w1 w' → Tabs w') := fun w' hb => (hT.after hb1).after hb
  have HBX : Hid (∀ w', Below w1.heap.size w1 w' → Blk w' w.heap.size (fv x k a b) 23) := fun w' hb => hk1.after hb
  have HB1 := Lib.hid hb1
  have HW1 := Lib.hid hw1
  clear hT hb1 hk1 hw1
  go_enter Tryd.func3, Tryd.ntmps3
  go_wp2_with fail
  change Calls _ _ _ (w.alloc (.cells (fv x k a b) 23)) _
  rw [HW1.out]
  refine (ce_works _ (HTB.out _ (Below.refl _ _))).mono ?_
  rintro e w2 ⟨rfl, hb2⟩
  have HB2 : Hid (Below w1.heap.size w1 w2) := hb2
  clear hb2
  have hcc : ln < 1 ∨ (¬ ln < 1 ∧ 20 < ln) ∨ (¬ ln < 1 ∧ ¬ 20 < ln ∧ nn < 0) ∨ (¬ ln < 1 ∧ ¬ 20 < ln ∧ ¬ nn < 0 ∧ ln ≤ nn) ∨ (¬ ln < 1 ∧ ¬ 20 < ln ∧ ¬ nn < 0 ∧ ¬ ln ≤ nn) := by omega
  rcases hcc with hc1 | ⟨hc1, hc2⟩ | ⟨hc1, hc2, hc3⟩ | ⟨hc1, hc2, hc3, hc4⟩ | ⟨hc1, hc2, hc3, hc4⟩
  · go_wp2_with fail
    go_ret
    exact ⟨rfl, HB1.out.trans (HB2.out.mono HB1.out.size)⟩
  · go_wp2_with fail
    go_ret
    exact ⟨rfl, HB1.out.trans (HB2.out.mono HB1.out.size)⟩
  · go_wp2_with fail
    go_ret
    exact ⟨rfl, HB1.out.trans (HB2.out.mono HB1.out.size)⟩
  · go_wp2_with fail
    go_ret
    exact ⟨rfl, HB1.out.trans (HB2.out.mono HB1.out.size)⟩
  · obtain ⟨L, rfl⟩ : ∃ L : Nat, ln = L := ⟨ln.toNat, by omega⟩
    obtain ⟨n, rfl⟩ : ∃ n : Nat, nn = n := ⟨nn.toNat, by omega⟩
    have HN : Hid (n < L ∧ L ≤ 20) := ⟨by omega, by omega⟩
    have hl20 : L ≤ 20 := by omega
    have hnL : n < L := by omega
    go_wp2_with fail
    refine (ce_new (L : Nat) 8 _).mono ?_
    rintro e w3 ⟨hy, _, hb3⟩
    obtain ⟨o, F, rfl, hc, hF⟩ := hy ⟨⟨by omega, by omega⟩, by decide, ⟨by decide, by decide, by decide⟩⟩
    have hnn : newSt (L : Int).toNat (8 : Int).toNat = newSt L 8 := by simp
    rw [hnn] at hc
    have E2 : Hid (EX w1 o F (newSt L 8) w3) := ⟨hc, fun kk hkk => Nat.le_trans HB2.out.size (hF kk hkk), HB2.out.trans (hb3.mono HB2.out.size)⟩
    have HZ : Hid (KPs L 0 (newSt L 8)) := KPs.zero L (by omega) (by omega)
    clear hy hc hF hb3 hnn HB2
    go_wp2_with fail
    go_loopw [46] (fun iv wr => ∃ i : Nat, i ≤ n ∧ iv = .int .i64 i ∧ ∃ F s, KPs L i s ∧ EX w1 o F s wr) (fun iv _ => n - (intOf iv).toNat)
    case atStart => exact ⟨0, by omega, rfl, F, newSt L 8, HZ.out, E2.out⟩
    case round =>
      obtain ⟨i, hi, rfl, F, s, hks, hex⟩ := hrel
      have HKS := Lib.hid hks
      have ER := Lib.hid hex
      clear hks hex E2 HZ
      by_cases hlt : i < n
      · go_wp2_with fail
        refine (ce_pageOf i _ (by omega) (HTB.out _ ER.out.low)).mono ?_
        rintro e w4 ⟨rfl, hb4⟩
        have E4 := Lib.hid (ER.out.after hb4)
        have hnx := HKS.out.next (by omega : i < L)
        have HNX := Lib.hid hnx
        clear hb4 ER hnx
        go_wp2_with fail
        refine (ce_prog o F s (i : Nat) (pgS i) 0 0 0 0 _ HKS.out.wf E4.out.cell (pgS_le i)).mono ?_
        rintro e w5 ⟨rfl, ⟨F2, hc, hg⟩, ho⟩
        have E5 := Lib.hid (E4.out.act hc hg ho)
        rw [HNX.out.2]
        clear hc hg ho E4
        go_wp2_with fail
        go_roundw
        case rel => exact ⟨i + 1, by omega, by go_num, F2, _, HNX.out.1, E5.out⟩
        case measure => simp [intOf]; omega
      · have hin : n = i := by omega
        subst hin
        obtain ⟨hkt, hec⟩ := HKS.out.ends hnL k a b
        have HWS : Hid (WfSt s) := HKS.out.wf
        obtain ⟨t, ht⟩ : ∃ t, progSt s (n : Nat) (pgS n) k a b = t := ⟨_, rfl⟩
        rw [ht] at hkt
        have HST := Lib.hid ht
        have HKT := Lib.hid hkt
        have HWT : Hid (WfSt t) := hkt.wf
        have HBT : Hid (t.bad = (k == 2) ∧ t.torn = (k == 1)) := ⟨hkt.bad, hkt.torn⟩
        have E0 := ER
        obtain ⟨ec, hec2⟩ : ∃ ec, endC k = ec := ⟨_, rfl⟩
        rw [hec2] at hec
        have HEC := Lib.hid hec
        have HEE := Lib.hid hec2
        clear ht hkt hec hec2 HKS
        go_wp2_with fail
        rename_i K0 hK0
        refine wp_region_list5 5 (fun i => i == 6) (SV2 (vsKE o n x k a b ec) (fun j => if j = 5 then [62] else [])) (BaseKE o L n w.heap.size) (EX w1 o F s) (fun w2 w3 => (∃ F2, EX w1 o F2 t w2) → ∃ F2, EX w1 o F2 t w3) (RV (vsKE o n x k a b ec) (SpKE w1 o t ec)) rfl (by decide) (by kernel_rfl) (by kernel_rfl) (RV.ext2 (SpKE.ext w1 o t ec)) ?_ (E0.out.after (Below.refl _ _).drew) (BaseKE.of _ (by kernel_rfl)) ?_ ?_
        · exact ⟨BaseKE.put57, BaseKE.put58, BaseKE.put59, BaseKE.put60, BaseKE.put61, BaseKE.put62, BaseKE.put10, trivial⟩
        · refine ⟨?_, ?_, ?_, ?_, ?_, ?_, ?_, trivial⟩
          all_goals
            intro a w' hC hB hR
            obtain ⟨u, rfl⟩ := hB
            have HC := Lib.hid hC
            clear hC
            clear hK0
          · clear hR
            refine if_yes (by kernel_rfl) ?_
            unfold Oper.wp
            go_simp
            exact ⟨.pointer (some ⟨o, 0, none⟩), rfl, (by first | exact fun _ _ => HC.out rfl | exact HC.out rfl | trivial | exact fun _ h => absurd h (by decide)), (by first | exact fun h => h | exact fun F3 h => ⟨F3, h⟩), rfl⟩
          · clear hR
            refine if_yes (by kernel_rfl) ?_
            unfold Oper.wp
            go_simp
            exact ⟨.int .i64 (n : Int), rfl, (by first | exact fun _ _ => HC.out rfl | exact HC.out rfl | trivial | exact fun _ h => absurd h (by decide)), (by first | exact fun h => h | exact fun F3 h => ⟨F3, h⟩), rfl⟩
          · clear hR
            refine if_yes (by kernel_rfl) ?_
            unfold Oper.wp
            go_simp
            exact ⟨.int .i64 (n : Int), rfl, (by first | exact fun _ _ => HC.out rfl | exact HC.out rfl | trivial | exact fun _ h => absurd h (by decide)), (by first | exact fun h => h | exact fun F3 h => ⟨F3, h⟩), rfl⟩
          · have h59 : u 59 = .int .i64 (n : Int) := hR ⟨2, .data⟩ (by simp) rfl
            clear hR
            simp only [h59]
            clear h59
            refine if_yes (by kernel_rfl) ?_
            unfold Oper.wp
            go_simp
            have hc := HC.out rfl
            refine (ce_pageOf n _ (by have := HN.out; omega) (HTB.out _ hc.low)).mono ?_
            rintro e w2 ⟨rfl, hb2⟩
            exact ⟨.string (pgS n), rfl, (by first | exact fun _ _ => hc.after hb2 | exact hc.after hb2), (by first | exact fun h => h.elim fun F2 h2 => ⟨F2, h2.after hb2⟩ | exact fun F2 h2 => ⟨F2, h2.after hb2⟩), rfl⟩
          · clear hR
            refine if_yes (by kernel_rfl) ?_
            exact wp_load_row 23 (.tmp 5) rfl w.heap.size rfl 23 (fv x k a b) (0, 0) _ (HBX.out _ (HC.out rfl).low) Tryd.underlying23 rfl size_fault ⟨.agg (fv x k a b), rfl, (by first | exact fun _ _ => HC.out rfl | exact HC.out rfl | trivial | exact fun _ h => absurd h (by decide)), (by first | exact fun h => h | exact fun F3 h => ⟨F3, h⟩), rfl⟩
          · have h57 : u 57 = .pointer (some ⟨o, 0, none⟩) := hR ⟨0, .data⟩ (by simp) rfl
            have h58 : u 58 = .int .i64 (n : Int) := hR ⟨1, .data⟩ (by simp) rfl
            have h60 : u 60 = .string (pgS n) := hR ⟨3, .data⟩ (by simp) rfl
            have h61 : u 61 = .agg (fv x k a b) := hR ⟨4, .data⟩ (by simp) rfl
            clear hR
            simp only [h57, h58, h60, h61]
            clear h57 h58 h60 h61
            refine if_yes (by kernel_rfl) ?_
            unfold Oper.wp
            go_simp
            have hc := HC.out rfl
            refine (ce_prog o F s (n : Int) (pgS n) x k a b _ HWS.out hc.cell (pgS_le n)).mono ?_
            rintro e w2 ⟨rfl, ⟨F2, hc2, hg2⟩, ho2⟩
            rw [HST.out] at hc2
            rw [HEC.out]
            have hx := hc.act hc2 hg2 ho2
            exact ⟨.int .i64 ec, rfl, (by first | trivial | exact fun h => absurd rfl h), (by first | exact fun _ => ⟨F2, hx⟩ | exact fun _ _ => ⟨F2, hx⟩), ⟨fun _ => ⟨rfl, F2, hx⟩⟩⟩
          · obtain ⟨hv, _⟩ := (hR ⟨5, .data⟩ (by simp) rfl).one rfl
            have hv : u 62 = .int .i64 ec := hv
            simp only [hv]
            clear hR
            refine if_yes (by kernel_rfl) ?_
            unfold Oper.wp
            go_simp
            exact ⟨.int .i64 ec, rfl, (by first | exact fun _ _ => HC.out rfl | exact HC.out rfl | trivial | exact fun _ h => absurd h (by decide)), (by first | exact fun h => h | exact fun F3 h => ⟨F3, h⟩), rfl⟩
        · intro a' w' hB hR
          have h62 := (hR 5 (by decide)).one rfl
          have h10 := hR 6 (by decide)
          obtain ⟨u, rfl⟩ := hB
          have h10 : u 10 = .int .i64 ec := h10
          have HZX := Lib.hid h62.2
          simp only [h10]
          clear hR h62 h10 E0 ER HST HEC HWS
          obtain ⟨hk1, hk2⟩ := HK0.out
          have k1b : (k == 1) = false := by simpa using hk1
          have k2b : (k == 2) = false := by simpa using hk2
          have k2n : (k != 2) = true := by simpa using hk2
          have HK : Hid (¬ k = 1 ∧ ¬ k = 2) := ⟨hk1, hk2⟩
          obtain rfl : ec = 0 := by
            have h1 := HEE.out
            unfold endC at h1
            rw [if_neg hk1, if_neg hk2] at h1
            exact h1.symm
          have HBT : Hid (t.bad = false ∧ t.torn = false) := by
            have h1 := HBT.out
            rw [k1b, k2b] at h1
            exact h1
          have HHB : Hid (hurtsB k = false) := by
            show hurtsB k = false
            unfold hurtsB
            rw [k1b, k2b]
            rfl
          have hq1 : w'.cell? ⟨w.heap.size, 1, none⟩ = some (.int .i64 k) := by
            obtain ⟨F9, hx9⟩ := HZX.out
            exact (HBX.out _ hx9.low).cell 1
          clear HEE
          go_wp2_with fail
          have HZ0 : Hid (∃ F2, EX w1 o F2 t w'.drew) := by
            obtain ⟨F9, hx9⟩ := HZX.out
            exact ⟨F9, hx9.after (Below.refl _ _).drew⟩
          clear hq1 HZX
          rename_i K0 hK0
          refine wp_region_list3 (SV (vsKFN o w.heap.size k) []) (BaseKFN o L n w.heap.size) (fun w2 => ∃ F2, EX w1 o F2 t w2) (fun _ _ => True) (RV (vsKFN o w.heap.size k) (fun _ _ _ => False)) rfl (by kernel_rfl) (RV.ext no_specialU) ?_ (HZ0.out) (BaseKFN.of _ (by kernel_rfl)) ?_ ?_
          · exact ⟨BaseKFN.put71, BaseKFN.put72, BaseKFN.put73, BaseKFN.put74, BaseKFN.put75, BaseKFN.put76, BaseKFN.put77, BaseKFN.put78, BaseKFN.put79, BaseKFN.put80, BaseKFN.put81, BaseKFN.put82, BaseKFN.put83, BaseKFN.put84, BaseKFN.put85, BaseKFN.put86, BaseKFN.put87, BaseKFN.put88, BaseKFN.put89, BaseKFN.put90, BaseKFN.put91, BaseKFN.put92, BaseKFN.put93, BaseKFN.put94, BaseKFN.put95, BaseKFN.put96, BaseKFN.put97, BaseKFN.put98, BaseKFN.put99, BaseKFN.put100, BaseKFN.put101, BaseKFN.put102, BaseKFN.put103, trivial⟩
          · refine ⟨?_, ?_, ?_, ?_, ?_, ?_, ?_, ?_, ?_, ?_, ?_, ?_, ?_, ?_, ?_, ?_, ?_, ?_, ?_, ?_, ?_, ?_, ?_, ?_, ?_, ?_, ?_, ?_, ?_, ?_, ?_, ?_, ?_, trivial⟩
            all_goals
              intro a w' hC hB hR
              obtain ⟨u, rfl⟩ := hB
              have HC := Lib.hid hC
              clear hC
              clear hK0
            · clear hR
              refine if_yes (by kernel_rfl) ?_
              unfold Oper.wp
              go_simp
              exact ⟨.bool false, rfl, HC.out, trivial, rfl⟩
            · clear hR
              refine if_yes (by kernel_rfl) ?_
              unfold Oper.wp
              go_simp
              exact ⟨.int .i64 0, rfl, HC.out, trivial, rfl⟩
            · have h72 : u 72 = .int .i64 0 := hR ⟨1, .data⟩ (by simp) rfl
              clear hR
              simp only [h72]
              clear h72
              refine if_yes (by kernel_rfl) ?_
              unfold Oper.wp
              go_simp
              exact ⟨.bool false, rfl, HC.out, trivial, rfl⟩
            · have h71 : u 71 = .bool false := hR ⟨0, .data⟩ (by simp) rfl
              have h73 : u 73 = .bool false := hR ⟨2, .data⟩ (by simp) rfl
              clear hR
              simp only [h71, h73]
              clear h71 h73
              refine if_yes (by kernel_rfl) ?_
              unfold Oper.wp
              go_simp
              exact ⟨.bool false, rfl, HC.out, trivial, rfl⟩
            · have h74 : u 74 = .bool false := hR ⟨3, .data⟩ (by simp) rfl
              clear hR
              simp only [h74]
              clear h74
              refine if_yes (by kernel_rfl) ?_
              unfold Oper.wp
              go_simp
              exact ⟨.bool false, rfl, HC.out, trivial, rfl⟩
            · have g75 : u 75 = .bool false := hR ⟨4, .guard⟩ (by simp) rfl
              clear hR
              simp only [g75]
              clear g75
              refine if_yes (by kernel_rfl) ?_
              unfold Oper.wp
              go_simp
              exact ⟨.bool false, rfl, HC.out, trivial, rfl⟩
            · have g75 : u 75 = .bool false := hR ⟨4, .guard⟩ (by simp) rfl
              have h76 : u 76 = .bool false := hR ⟨5, .data⟩ (by simp) rfl
              clear hR
              simp only [g75, h76]
              clear g75 h76
              refine if_yes (by kernel_rfl) ?_
              unfold Oper.wp
              go_simp
              exact ⟨.bool false, rfl, HC.out, trivial, rfl⟩
            · have g77 : u 77 = .bool false := hR ⟨6, .guard⟩ (by simp) rfl
              clear hR
              simp only [g77]
              clear g77
              refine if_no (by kernel_rfl) ?_
              exact ⟨undef, rfl, HC.out, trivial, rfl⟩
            · have g77 : u 77 = .bool false := hR ⟨6, .guard⟩ (by simp) rfl
              clear hR
              simp only [g77]
              clear g77
              refine if_no (by kernel_rfl) ?_
              exact ⟨undef, rfl, HC.out, trivial, rfl⟩
            · have g77 : u 77 = .bool false := hR ⟨6, .guard⟩ (by simp) rfl
              have h79 : u 79 = undef := hR ⟨8, .data⟩ (by simp) rfl
              have hf := HN.out
              have hw : IntKind.i64.wrap ((n : Int) + 1) = (n : Int) + 1 := by rw [IntKind.wrap_i64]; omega
              clear hf
              clear hR
              simp only [g77, h79]
              clear g77 h79
              refine if_no (by kernel_rfl) ?_
              exact ⟨undef, rfl, HC.out, trivial, rfl⟩
            · have g77 : u 77 = .bool false := hR ⟨6, .guard⟩ (by simp) rfl
              clear hR
              simp only [g77]
              clear g77
              refine if_no (by kernel_rfl) ?_
              exact ⟨undef, rfl, HC.out, trivial, rfl⟩
            · have g77 : u 77 = .bool false := hR ⟨6, .guard⟩ (by simp) rfl
              have h81 : u 81 = undef := hR ⟨10, .data⟩ (by simp) rfl
              clear hR
              simp only [g77, h81]
              clear g77 h81
              refine if_no (by kernel_rfl) ?_
              exact ⟨undef, rfl, HC.out, trivial, rfl⟩
            · have g77 : u 77 = .bool false := hR ⟨6, .guard⟩ (by simp) rfl
              clear hR
              simp only [g77]
              clear g77
              refine if_no (by kernel_rfl) ?_
              exact ⟨undef, rfl, HC.out, trivial, rfl⟩
            · have g77 : u 77 = .bool false := hR ⟨6, .guard⟩ (by simp) rfl
              have h78 : u 78 = undef := hR ⟨7, .data⟩ (by simp) rfl
              have h80 : u 80 = undef := hR ⟨9, .data⟩ (by simp) rfl
              have h82 : u 82 = undef := hR ⟨11, .data⟩ (by simp) rfl
              have h83 : u 83 = undef := hR ⟨12, .data⟩ (by simp) rfl
              clear hR
              simp only [g77, h78, h80, h82, h83]
              clear g77 h78 h80 h82 h83
              refine if_no (by kernel_rfl) ?_
              exact ⟨undef, rfl, HC.out, trivial, rfl⟩
            · have g77 : u 77 = .bool false := hR ⟨6, .guard⟩ (by simp) rfl
              have h84 : u 84 = undef := hR ⟨13, .data⟩ (by simp) rfl
              clear hR
              simp only [g77, h84]
              clear g77 h84
              refine if_no (by kernel_rfl) ?_
              exact ⟨undef, rfl, HC.out, trivial, rfl⟩
            · have g75 : u 75 = .bool false := hR ⟨4, .guard⟩ (by simp) rfl
              have h77 : u 77 = .bool false := hR ⟨6, .data⟩ (by simp) rfl
              have h85 : u 85 = undef := hR ⟨14, .data⟩ (by simp) rfl
              clear hR
              simp only [g75, h77, h85]
              clear g75 h77 h85
              refine if_yes (by kernel_rfl) ?_
              unfold Oper.wp
              go_simp
              exact ⟨.bool false, rfl, HC.out, trivial, rfl⟩
            · have h75 : u 75 = .bool false := hR ⟨4, .data⟩ (by simp) rfl
              have h86 : u 86 = .bool false := hR ⟨15, .data⟩ (by simp) rfl
              clear hR
              simp only [h75, h86]
              clear h75 h86
              refine if_yes (by kernel_rfl) ?_
              unfold Oper.wp
              go_simp
              exact ⟨.bool false, rfl, HC.out, trivial, rfl⟩
            · have h87 : u 87 = .bool false := hR ⟨16, .data⟩ (by simp) rfl
              clear hR
              simp only [h87]
              clear h87
              refine if_yes (by kernel_rfl) ?_
              unfold Oper.wp
              go_simp
              exact ⟨.bool false, rfl, HC.out, trivial, rfl⟩
            · have g88 : u 88 = .bool false := hR ⟨17, .guard⟩ (by simp) rfl
              clear hR
              simp only [g88]
              clear g88
              refine if_yes (by kernel_rfl) ?_
              unfold Oper.wp
              go_simp
              exact ⟨.pointer (some ⟨o, 0, none⟩), rfl, HC.out, trivial, rfl⟩
            · have g88 : u 88 = .bool false := hR ⟨17, .guard⟩ (by simp) rfl
              have h89 : u 89 = .pointer (some ⟨o, 0, none⟩) := hR ⟨18, .data⟩ (by simp) rfl
              clear hR
              simp only [g88, h89]
              clear g88 h89
              refine if_yes (by kernel_rfl) ?_
              unfold Oper.wp
              go_simp
              obtain ⟨F9, hx9⟩ := HC.out
              refine (ce_bad o F9 t _ HWT.out hx9.cell).mono ?_
              rintro e w2 ⟨rfl, rfl⟩
              rw [HBT.out.1]
              exact ⟨.bool false, rfl, ⟨F9, hx9⟩, trivial, rfl⟩
            · have g88 : u 88 = .bool false := hR ⟨17, .guard⟩ (by simp) rfl
              clear hR
              simp only [g88]
              clear g88
              refine if_yes (by kernel_rfl) ?_
              unfold Oper.wp
              go_simp
              exact ⟨.pointer (some ⟨w.heap.size, 1, none⟩), rfl, HC.out, trivial, rfl⟩
            · have g88 : u 88 = .bool false := hR ⟨17, .guard⟩ (by simp) rfl
              have h91 : u 91 = .pointer (some ⟨w.heap.size, 1, none⟩) := hR ⟨20, .data⟩ (by simp) rfl
              obtain ⟨F9, hx9⟩ := HC.out
              have hc : w'.cell? ⟨w.heap.size, 1, none⟩ = some (.int .i64 k) := (HBX.out _ hx9.low).cell 1
              clear hR
              simp only [g88, h91]
              clear g88 h91
              refine if_yes (by kernel_rfl) ?_
              unfold Oper.wp
              go_simp
              exact ⟨.int .i64 k, rfl, HC.out, trivial, rfl⟩
            · have g88 : u 88 = .bool false := hR ⟨17, .guard⟩ (by simp) rfl
              have h92 : u 92 = .int .i64 k := hR ⟨21, .data⟩ (by simp) rfl
              have hk2 := HK.out.2
              clear hR
              simp only [g88, h92]
              clear g88 h92
              refine if_yes (by kernel_rfl) ?_
              unfold Oper.wp
              go_simp
              exact ⟨.bool false, rfl, HC.out, trivial, rfl⟩
            · have g88 : u 88 = .bool false := hR ⟨17, .guard⟩ (by simp) rfl
              have h90 : u 90 = .bool false := hR ⟨19, .data⟩ (by simp) rfl
              have h93 : u 93 = .bool false := hR ⟨22, .data⟩ (by simp) rfl
              clear hR
              simp only [g88, h90, h93]
              clear g88 h90 h93
              refine if_yes (by kernel_rfl) ?_
              unfold Oper.wp
              go_simp
              exact ⟨.bool false, rfl, HC.out, trivial, rfl⟩
            · have h88 : u 88 = .bool false := hR ⟨17, .data⟩ (by simp) rfl
              have h94 : u 94 = .bool false := hR ⟨23, .data⟩ (by simp) rfl
              clear hR
              simp only [h88, h94]
              clear h88 h94
              refine if_yes (by kernel_rfl) ?_
              unfold Oper.wp
              go_simp
              exact ⟨.bool false, rfl, HC.out, trivial, rfl⟩
            · have h95 : u 95 = .bool false := hR ⟨24, .data⟩ (by simp) rfl
              clear hR
              simp only [h95]
              clear h95
              refine if_yes (by kernel_rfl) ?_
              unfold Oper.wp
              go_simp
              exact ⟨.bool false, rfl, HC.out, trivial, rfl⟩
            · have g96 : u 96 = .bool false := hR ⟨25, .guard⟩ (by simp) rfl
              clear hR
              simp only [g96]
              clear g96
              refine if_yes (by kernel_rfl) ?_
              unfold Oper.wp
              go_simp
              exact ⟨.pointer (some ⟨o, 0, none⟩), rfl, HC.out, trivial, rfl⟩
            · have g96 : u 96 = .bool false := hR ⟨25, .guard⟩ (by simp) rfl
              have h97 : u 97 = .pointer (some ⟨o, 0, none⟩) := hR ⟨26, .data⟩ (by simp) rfl
              clear hR
              simp only [g96, h97]
              clear g96 h97
              refine if_yes (by kernel_rfl) ?_
              unfold Oper.wp
              go_simp
              obtain ⟨F9, hx9⟩ := HC.out
              refine (ce_torn o F9 t _ HWT.out hx9.cell).mono ?_
              rintro e w2 ⟨rfl, rfl⟩
              rw [HBT.out.2]
              exact ⟨.bool false, rfl, ⟨F9, hx9⟩, trivial, rfl⟩
            · have g96 : u 96 = .bool false := hR ⟨25, .guard⟩ (by simp) rfl
              clear hR
              simp only [g96]
              clear g96
              refine if_yes (by kernel_rfl) ?_
              unfold Oper.wp
              go_simp
              exact ⟨.pointer (some ⟨w.heap.size, 1, none⟩), rfl, HC.out, trivial, rfl⟩
            · have g96 : u 96 = .bool false := hR ⟨25, .guard⟩ (by simp) rfl
              have h99 : u 99 = .pointer (some ⟨w.heap.size, 1, none⟩) := hR ⟨28, .data⟩ (by simp) rfl
              obtain ⟨F9, hx9⟩ := HC.out
              have hc : w'.cell? ⟨w.heap.size, 1, none⟩ = some (.int .i64 k) := (HBX.out _ hx9.low).cell 1
              clear hR
              simp only [g96, h99]
              clear g96 h99
              refine if_yes (by kernel_rfl) ?_
              unfold Oper.wp
              go_simp
              exact ⟨.int .i64 k, rfl, HC.out, trivial, rfl⟩
            · have g96 : u 96 = .bool false := hR ⟨25, .guard⟩ (by simp) rfl
              have h100 : u 100 = .int .i64 k := hR ⟨29, .data⟩ (by simp) rfl
              have hk1 := HK.out.1
              clear hR
              simp only [g96, h100]
              clear g96 h100
              refine if_yes (by kernel_rfl) ?_
              unfold Oper.wp
              go_simp
              exact ⟨.bool false, rfl, HC.out, trivial, rfl⟩
            · have g96 : u 96 = .bool false := hR ⟨25, .guard⟩ (by simp) rfl
              have h98 : u 98 = .bool false := hR ⟨27, .data⟩ (by simp) rfl
              have h101 : u 101 = .bool false := hR ⟨30, .data⟩ (by simp) rfl
              clear hR
              simp only [g96, h98, h101]
              clear g96 h98 h101
              refine if_yes (by kernel_rfl) ?_
              unfold Oper.wp
              go_simp
              exact ⟨.bool false, rfl, HC.out, trivial, rfl⟩
            · have h96 : u 96 = .bool false := hR ⟨25, .data⟩ (by simp) rfl
              have h102 : u 102 = .bool false := hR ⟨31, .data⟩ (by simp) rfl
              clear hR
              simp only [h96, h102]
              clear h96 h102
              refine if_yes (by kernel_rfl) ?_
              unfold Oper.wp
              go_simp
              exact ⟨.bool false, rfl, HC.out, trivial, rfl⟩
          · intro a' w' hC hB hR
            have h103 := hR 32 (by decide)
            obtain ⟨u, rfl⟩ := hB
            have h103 : u 103 = .bool false := h103
            simp only [h103]
            obtain ⟨F5, hx5⟩ := hC
            have E5 := Lib.hid hx5
            clear hR h103 HZ0 hx5
            go_wp2_with fail
            try clear hK0
            go_loopw [105] (fun iv wr => ∃ j : Nat, j ≤ L ∧ iv = .int .i64 j ∧ EX w1 o F5 t wr) (fun iv _ => L - (intOf iv).toNat)
            case atStart => exact ⟨0, by omega, rfl, E5.out⟩
            case round =>
              obtain ⟨j, hj, rfl, hex⟩ := hrel
              have ER := Lib.hid hex
              clear hex E5
              by_cases hlj : j < L
              · have htd := HKT.out.told j hlj HN.out.2
                have hsm := HKT.out.small (j : Nat)
                have HSM := Lib.hid hsm
                have HTD := Lib.hid htd
                clear htd hsm
                rcases (by omega : j < n ∨ j = n ∨ n < j) with hji | hji | hji
                · have HRC : Hid (readC t (j : Nat) 0 = 0) := HTD.out.1
                  obtain ⟨tx, htx⟩ : ∃ tx, readT t (j : Nat) 0 = tx := ⟨_, rfl⟩
                  have hrg := HTD.out.2.1 (Or.inl hji)
                  have htx2 : tx = pgS j := htx.symm.trans hrg.1
                  subst htx2
                  have HPV : Hid (pageV (pgS j) = #[.int .i64 2, .int .i64 1, .int .i64 (j : Int), .int .i64 (j : Int), .int .i64 0, .string (byte8 j)]) := hrg.2
                  have HSZ : Hid ((pgS j).size ≤ 400) := pgS_le j
                  have HTX := Lib.hid htx
                  clear htx hrg HTD HSM
                  go_wp2_with fail
                  refine (ce_read o F5 t (j : Nat) 0 _ HWT.out ER.out.cell).mono ?_
                  rintro e w7 ⟨rfl, hb7⟩
                  have E7 := Lib.hid (ER.out.after hb7)
                  rw [HRC.out, HTX.out]
                  clear hb7 ER HRC HTX
                  go_wp2_with fail
                  refine (fr_dec (pgS j) _ HSZ.out (HTB.out _ E7.out.low)).mono ?_
                  rintro e w8 ⟨rfl, hb8⟩
                  rw [HPV.out]
                  have E8 := Lib.hid (E7.out.after hb8)
                  clear hb8 E7 HPV HSZ
                  obtain ⟨w9, hw9⟩ : ∃ w9, (w8.alloc (.cells #[.int .i64 0, .int .i64 0, .int .i64 0, .int .i64 0, .int .i64 0, .string ⟨#[]⟩] 36)).setRow w8.heap.size #[.int .i64 2, .int .i64 1, .int .i64 (j : Int), .int .i64 (j : Int), .int .i64 0, .string (byte8 j)] = w9 := ⟨_, rfl⟩
                  have hzb : Blk (w8.alloc (.cells #[.int .i64 0, .int .i64 0, .int .i64 0, .int .i64 0, .int .i64 0, .string ⟨#[]⟩] 36)) w8.heap.size #[.int .i64 0, .int .i64 0, .int .i64 0, .int .i64 0, .int .i64 0, .string ⟨#[]⟩] 36 := Blk.new w8 _ _
                  have hb9 : Below w8.heap.size w8 w9 := by rw [← hw9]; exact below_put (Nat.le_refl _) _ ((Below.refl _ _).alloc (Nat.le_refl _) _)
                  have hn9 : Blk w9 w8.heap.size #[.int .i64 2, .int .i64 1, .int .i64 (j : Int), .int .i64 (j : Int), .int .i64 0, .string (byte8 j)] 36 := by rw [← hw9]; exact hzb.put _
                  have E9 := Lib.hid (E8.out.after hb9)
                  have HZB := Lib.hid hzb
                  have HN9 := Lib.hid hn9
                  have HW9 := Lib.hid hw9
                  clear hw9 hzb hb9 hn9 E8
                  go_wp2_with (refine wpList_store_row rfl 36 (.tmp 15) (.tmp 115) rfl w8.heap.size #[.int .i64 2, .int .i64 1, .int .i64 (j : Int), .int .i64 (j : Int), .int .i64 0, .string (byte8 j)] rfl rfl 36 _ HZB.out size_page rfl (pv_one 2 1 (j : Int) (j : Int) 0 (byte8 j)) ?_; change wpList _ _ _ _ _ ((w8.alloc (.cells #[.int .i64 0, .int .i64 0, .int .i64 0, .int .i64 0, .int .i64 0, .string ⟨#[]⟩] 36)).setRow w8.heap.size #[.int .i64 2, .int .i64 1, .int .i64 (j : Int), .int .i64 (j : Int), .int .i64 0, .string (byte8 j)]); rw [HW9.out])
                  refine (ce_pageOf j _ (by omega) (HTB.out _ E9.out.low)).mono ?_
                  rintro e w10 ⟨rfl, hb10⟩
                  have E10 := Lib.hid (E9.out.after hb10)
                  have c15 : w10.cell? ⟨w8.heap.size, 0, none⟩ = some (.int .i64 2) := (HN9.out.after hb10).cell 0
                  clear hb10 E9 HN9 HW9 HZB
                  go_wp2_with fail
                  go_roundw
                  case rel => exact ⟨j + 1, by omega, by go_num, E10.out⟩
                  case measure => simp [intOf]; omega
                · have HRC : Hid (readC t (j : Nat) 0 = 0) := HTD.out.1
                  obtain ⟨tx, htx⟩ : ∃ tx, readT t (j : Nat) 0 = tx := ⟨_, rfl⟩
                  have hrg := HTD.out.2.1 (Or.inr ⟨hji, HHB.out⟩)
                  have htx2 : tx = pgS j := htx.symm.trans hrg.1
                  subst htx2
                  have HPV : Hid (pageV (pgS j) = #[.int .i64 2, .int .i64 1, .int .i64 (j : Int), .int .i64 (j : Int), .int .i64 0, .string (byte8 j)]) := hrg.2
                  have HSZ : Hid ((pgS j).size ≤ 400) := pgS_le j
                  have HTX := Lib.hid htx
                  clear htx hrg HTD HSM
                  have HJL : Hid (¬ (j : Int) < (n : Int)) := by
                    show ¬ (j : Int) < (n : Int)
                    omega
                  have HJB : Hid (((j : Int) == (n : Int)) = true) := by
                    show ((j : Int) == (n : Int)) = true
                    simp
                    omega
                  clear hji
                  go_wp2_with fail
                  refine (ce_read o F5 t (j : Nat) 0 _ HWT.out ER.out.cell).mono ?_
                  rintro e w7 ⟨rfl, hb7⟩
                  have E7 := Lib.hid (ER.out.after hb7)
                  rw [HRC.out, HTX.out]
                  clear hb7 ER HRC HTX
                  go_wp2_with fail
                  refine (fr_dec (pgS j) _ HSZ.out (HTB.out _ E7.out.low)).mono ?_
                  rintro e w8 ⟨rfl, hb8⟩
                  rw [HPV.out]
                  have E8 := Lib.hid (E7.out.after hb8)
                  clear hb8 E7 HPV HSZ
                  have hjl := HJL.out
                  have hjb := HJB.out
                  clear HJL HJB
                  obtain ⟨w9, hw9⟩ : ∃ w9, (w8.alloc (.cells #[.int .i64 0, .int .i64 0, .int .i64 0, .int .i64 0, .int .i64 0, .string ⟨#[]⟩] 36)).setRow w8.heap.size #[.int .i64 2, .int .i64 1, .int .i64 (j : Int), .int .i64 (j : Int), .int .i64 0, .string (byte8 j)] = w9 := ⟨_, rfl⟩
                  have hzb : Blk (w8.alloc (.cells #[.int .i64 0, .int .i64 0, .int .i64 0, .int .i64 0, .int .i64 0, .string ⟨#[]⟩] 36)) w8.heap.size #[.int .i64 0, .int .i64 0, .int .i64 0, .int .i64 0, .int .i64 0, .string ⟨#[]⟩] 36 := Blk.new w8 _ _
                  have hb9 : Below w8.heap.size w8 w9 := by rw [← hw9]; exact below_put (Nat.le_refl _) _ ((Below.refl _ _).alloc (Nat.le_refl _) _)
                  have hn9 : Blk w9 w8.heap.size #[.int .i64 2, .int .i64 1, .int .i64 (j : Int), .int .i64 (j : Int), .int .i64 0, .string (byte8 j)] 36 := by rw [← hw9]; exact hzb.put _
                  have E9 := Lib.hid (E8.out.after hb9)
                  have HZB := Lib.hid hzb
                  have HN9 := Lib.hid hn9
                  have HW9 := Lib.hid hw9
                  clear hw9 hzb hb9 hn9 E8
                  go_wp2_with (refine wpList_store_row rfl 36 (.tmp 15) (.tmp 115) rfl w8.heap.size #[.int .i64 2, .int .i64 1, .int .i64 (j : Int), .int .i64 (j : Int), .int .i64 0, .string (byte8 j)] rfl rfl 36 _ HZB.out size_page rfl (pv_one 2 1 (j : Int) (j : Int) 0 (byte8 j)) ?_; change wpList _ _ _ _ _ ((w8.alloc (.cells #[.int .i64 0, .int .i64 0, .int .i64 0, .int .i64 0, .int .i64 0, .string ⟨#[]⟩] 36)).setRow w8.heap.size #[.int .i64 2, .int .i64 1, .int .i64 (j : Int), .int .i64 (j : Int), .int .i64 0, .string (byte8 j)]); rw [HW9.out])
                  refine (ce_pageOf j _ (by omega) (HTB.out _ E9.out.low)).mono ?_
                  rintro e w10 ⟨rfl, hb10⟩
                  have E10 := Lib.hid (E9.out.after hb10)
                  have c15 : w10.cell? ⟨w8.heap.size, 0, none⟩ = some (.int .i64 2) := (HN9.out.after hb10).cell 0
                  clear hb10 E9 HN9 HW9 HZB
                  go_wp2_with fail
                  go_roundw
                  case rel => exact ⟨j + 1, by omega, by go_num, E10.out⟩
                  case measure => simp [intOf]; omega
                · have HRC : Hid (readC t (j : Nat) 0 = 0) := HTD.out.1
                  obtain ⟨tx, htx⟩ : ∃ tx, readT t (j : Nat) 0 = tx := ⟨_, rfl⟩
                  have hpv : pageV (readT t (j : Nat) 0) = pv 1 0 0 0 0 ByteArray.empty := HTD.out.2.2.2 hji
                  rw [htx] at hpv
                  have HPV : Hid (pageV tx = #[.int .i64 1, .int .i64 0, .int .i64 0, .int .i64 0, .int .i64 0, .string ByteArray.empty]) := hpv
                  have HSZ : Hid (tx.size ≤ 400) := by
                    show tx.size ≤ 400
                    rw [← htx]
                    exact HSM.out
                  have HTX := Lib.hid htx
                  clear htx hpv HTD HSM
                  go_wp2_with fail
                  refine (ce_read o F5 t (j : Nat) 0 _ HWT.out ER.out.cell).mono ?_
                  rintro e w7 ⟨rfl, hb7⟩
                  have E7 := Lib.hid (ER.out.after hb7)
                  rw [HRC.out, HTX.out]
                  clear hb7 ER HRC HTX
                  go_wp2_with fail
                  refine (fr_dec tx _ HSZ.out (HTB.out _ E7.out.low)).mono ?_
                  rintro e w8 ⟨rfl, hb8⟩
                  rw [HPV.out]
                  have E8 := Lib.hid (E7.out.after hb8)
                  clear hb8 E7 HPV HSZ
                  go_wp2_with fail
                  go_roundw
                  case rel => exact ⟨j + 1, by omega, by go_num, E8.out.after ((Below.refl _ _).alloc (Nat.le_refl _) _)⟩
                  case measure => simp [intOf]; omega
              · have hag := HKT.out.again
                have hcn := HKT.out.cnt
                have HEC : Hid (eraseC t 0 = 0) := (hag.2 hk2).1
                have HES : Hid ((eraseSt t 0 0 0).mode = 0 ∧ (eraseSt t 0 0 0).done = 0 ∧ (eraseSt t 0 0 0).torn = false) := (hag.2 hk2).2
                have HCN := Lib.hid hcn
                clear hag hcn
                go_wp2_with fail
                refine (ce_erase o F5 t 0 0 0 0 _ HWT.out ER.out.cell (by rw [HCN.out.1]; decide) (by rw [HCN.out.2]; decide)).mono ?_
                rintro e w7 ⟨rfl, ⟨F7, hc, hg⟩, ho⟩
                have E7 := Lib.hid (ER.out.act hc hg ho)
                have hq7 : w7.cell? ⟨w.heap.size, 1, none⟩ = some (.int .i64 k) := (HBX.out w7 E7.out.low).cell 1
                rw [HEC.out]
                clear hc hg ho ER
                obtain ⟨z, hz⟩ : ∃ z, eraseSt t 0 0 0 = z := ⟨_, rfl⟩
                have HWZ : Hid (WfSt z) := by
                  show WfSt z
                  rw [← hz]
                  exact eraseSt_wf HWT.out _ _ _ (by rw [HCN.out.1]; decide) (by rw [HCN.out.2]; decide)
                rw [hz] at E7 HES
                clear hz
                go_wp2_with fail
                refine (ce_mode o F7 z _ HWZ.out E7.out.cell).mono ?_
                rintro e w8 ⟨rfl, rfl⟩
                rw [HES.out.1]
                go_wp2_with fail
                refine (ce_done o F7 z _ HWZ.out E7.out.cell).mono ?_
                rintro e w8 ⟨rfl, rfl⟩
                rw [HES.out.2.1]
                go_wp2_with fail
                refine (ce_torn o F7 z _ HWZ.out E7.out.cell).mono ?_
                rintro e w8 ⟨rfl, rfl⟩
                rw [HES.out.2.2]
                go_wp2_with fail
                go_ret
                exact ⟨by first | rfl | (have h2 := HK.out.2; have h3 : (k == 2) = false := by simpa using h2; have h4 : (k != 2) = true := by simpa using h2; simp [h2, h3, h4]) | (have h2 := HK.out.2; simp [h2]; done), HB1.out.trans (E7.out.low.mono HB1.out.size)⟩

end Go.Proofs.YtjmoecfgpfdncaaDoor

/- Layer 8, the laws: CellKeeps. -/
namespace Go.Proofs.YtjmoecfgpfdncaaDoor
open Go.RowKit

theorem walk_CellKeeps (ln nn : Int) (x k a b : Int) (h1 : (Lit.int .i64 ln).wf = true) (h2 : (Lit.int .i64 nn).wf = true) (w : World) (hT : Tabs w) :
    Calls Tryd.prog 3 #[.int .i64 ln, .int .i64 nn, .agg (fv x k a b)] w fun e w' => e = .returned (.bool true) ∧ Below w.heap.size w w' := by
  by_cases hk1 : k = 1
  · exact walk_CellKeeps1 ln nn x k a b hk1 h1 h2 w hT
  by_cases hk2 : k = 2
  · exact walk_CellKeeps2 ln nn x k a b hk2 h1 h2 w hT
  exact walk_CellKeepsN ln nn x k a b ⟨hk1, hk2⟩ h1 h2 w hT

end Go.Proofs.YtjmoecfgpfdncaaDoor

/- Layer 8, the laws: a cell programmed in two passes, the last step as it goes. -/
namespace Go.Proofs.YtjmoecfgpfdncaaDoor
set_option maxRecDepth 100000
open Go.RowKit

/-- i steps are done, each line with its three pages; the k-th one as it goes -/
structure QS (L k : Nat) (kk a b : Int) (i : Nat) (s : St) : Prop where
  wf : WfSt s
  l : s.L = L
  y : s.Y = 8
  mode : s.mode = 0 ∧ i = 0 ∨ s.mode = 2
  done : s.done = i
  bad : s.bad = (decide (i = k) && kk == 2)
  torn : s.torn = (decide (i = k) && kk == 1)
  page : ∀ j t, j < L → t < 3 → pageAt s (3 * j + t) = if afterC L i j = 0 then ByteArray.empty else if i = k ∧ j = (stepC L (k - 1)).1 then pageT (pgS (j + t)) kk a b else pgS (j + t)
  mark : ∀ j t, j < L → t < 3 → s.hs.getD (3 * j + t) false = (decide (i = k ∧ j = (stepC L (k - 1)).1) && hurtsB kk)
theorem QS.zero (L k : Nat) (kk a b : Int) (h1 : 1 ≤ L) (h2 : L ≤ 64) (hk : 1 ≤ k) : QS L k kk a b 0 (newSt L 8) := by
  have h0 : ¬ 0 = k := by omega
  refine ⟨newSt_ok h1 h2 ⟨by decide, by decide, by decide⟩, rfl, rfl, Or.inl ⟨rfl, rfl⟩, rfl, ?_, ?_, fun j t _ _ => ?_, fun j t _ _ => ?_⟩
  · simp [h0]; rfl
  · simp [h0]; rfl
  · rw [after_none, if_pos rfl]; exact new_page L _
  · simp only [h0, false_and, decide_false, Bool.false_and]; exact new_mark L _
theorem QS.next {L k : Nat} {kk a b : Int} {i : Nat} {s : St} (h : QS L k kk a b i s) (hi : i < k) (hk : k ≤ 2 * L) {l : Nat} {f : Bool} (hst : stepC L i = (l, f)) (o1 o2 o3 : Int)
    (ho : (i + 1 = k → o1 = kk ∧ o2 = a ∧ o3 = b) ∧ (¬ i + 1 = k → o1 = 0)) :
    QS L k kk a b (i + 1) (twoSt s (l : Nat) (pgS l) (pgS (l + 1)) (pgS (l + 2)) f o1 o2 o3) ∧ twoC s (l : Nat) (pgS l) (pgS (l + 1)) (pgS (l + 2)) f o1 = endC o1 := by
  have hik : ¬ i = k := by omega
  have hi2 : i < 2 * L := by omega
  have hlL : l < L := by have := (place_step hi2).2; rw [hst] at this; exact this
  have hbad : s.bad = false := by rw [h.bad]; simp [hik]
  have htorn : s.torn = false := by rw [h.torn]; simp [hik]
  have hpg : f = true → ∀ t, t < 3 → pageAt s (3 * l + t) = pgS (l + t) := by
    intro hf t ht
    subst hf
    have ha := fog_next hi2 hst
    rw [h.page l t hlL ht, if_neg (by omega), if_neg (fun hc => hik hc.1)]
  have hok : TwoOk s (l : Nat) (pgS l) (pgS (l + 1)) (pgS (l + 2)) f := by
    refine ⟨hbad, htorn, ?_, by rw [h.done, h.l]; exact hi2, by rw [h.done, h.l, hst], by rw [h.done, h.l, hst], takes_pg s h.y l, takes_pg s h.y _, takes_pg s h.y _, fun hf => ?_⟩
    · rcases h.mode with h1 | h1 <;> omega
    · rw [Int.toNat_natCast]
      exact ⟨hpg hf 0 (by omega), hpg hf 1 (by omega), hpg hf 2 (by omega)⟩
  have hw := twoSt_wf h.wf (l : Nat) (pgS l) (pgS (l + 1)) (pgS (l + 2)) f o1 o2 o3
  have hc : twoC s (l : Nat) (pgS l) (pgS (l + 1)) (pgS (l + 2)) f o1 = endC o1 := by unfold twoC; rw [if_pos hok]
  have hs : twoSt s (l : Nat) (pgS l) (pgS (l + 1)) (pgS (l + 2)) f o1 o2 o3 = endSt (put3 (stepSt s 2) (3 * l) (pgS l) (pgS (l + 1)) (pgS (l + 2)) o1 o2 o3 3) o1 := by unfold twoSt; rw [if_pos hok]; simp
  refine ⟨?_, hc⟩
  rw [hs] at hw ⊢
  have hpt := fun j => put3_three (stepSt s 2) (3 * l) (pgS l) (pgS (l + 1)) (pgS (l + 2)) o1 o2 o3 j (by show 3 * l + 2 < s.ps.length; rw [h.wf.psl, h.l]; omega) (by show 3 * l + 2 < s.hs.length; rw [h.wf.hsl, h.l]; omega)
  obtain ⟨u, hu⟩ : ∃ u, put3 (stepSt s 2) (3 * l) (pgS l) (pgS (l + 1)) (pgS (l + 2)) o1 o2 o3 3 = u := ⟨_, rfl⟩
  have hub : u.bad = false ∧ u.torn = false ∧ u.L = L ∧ u.Y = 8 ∧ u.mode = 2 ∧ u.done = i + 1 := by
    rw [← hu]; exact ⟨hbad, htorn, h.l, h.y, rfl, by show s.done + 1 = i + 1; rw [h.done]⟩
  rw [hu] at hw hpt ⊢
  have hf := endSt_flags (s := u) o1 hub.1 hub.2.1
  have he := end_same u o1
  have hps := endSt_ps u o1
  have hlk : i + 1 = k → (stepC L (k - 1)).1 = l := fun hc => by rw [show k - 1 = i by omega, hst]
  refine ⟨hw, by rw [he.1]; exact hub.2.2.1, by rw [he.2.1]; exact hub.2.2.2.1, Or.inr (by rw [he.2.2.1]; exact hub.2.2.2.2.1), by rw [he.2.2.2]; exact hub.2.2.2.2.2, ?_, ?_, fun j t hj ht => ?_, fun j t hj ht => ?_⟩
  · rw [hf.1]
    by_cases hc : i + 1 = k
    · rw [(ho.1 hc).1]; simp [hc]
    · rw [ho.2 hc]; simp [hc]
  · rw [hf.2.1]
    by_cases hc : i + 1 = k
    · rw [(ho.1 hc).1]; simp [hc]
    · rw [ho.2 hc]; simp [hc]
  · have e : pageAt (endSt u o1) (3 * j + t) = pageAt u (3 * j + t) := by unfold pageAt; rw [hps.1]
    rw [e, (hpt _).1, after_succ hi2 hj, hst]
    by_cases hjl : j = l
    · subst hjl
      have hne : ¬ (afterC L i j + (if (j, f).1 = j then 1 else 0) = 0) := by rw [if_pos rfl]; omega
      have hv : (if 3 * j + t = 3 * j + 2 then pageT (pgS (j + 2)) o1 o2 o3 else if 3 * j + t = 3 * j + 1 then pageT (pgS (j + 1)) o1 o2 o3 else if 3 * j + t = 3 * j then pageT (pgS j) o1 o2 o3 else pageAt (stepSt s 2) (3 * j + t)) = pageT (pgS (j + t)) o1 o2 o3 := by
        match t, ht with
        | 0, _ => rw [if_neg (by omega), if_neg (by omega), if_pos (by omega)]; rfl
        | 1, _ => rw [if_neg (by omega), if_pos (by omega)]
        | 2, _ => rw [if_pos (by omega)]
      rw [hv, if_neg hne]
      by_cases hc : i + 1 = k
      · rw [if_pos ⟨hc, (hlk hc).symm⟩, (ho.1 hc).1, (ho.1 hc).2.1, (ho.1 hc).2.2]
      · rw [if_neg (fun h => hc h.1), ho.2 hc]
        unfold pageT
        rw [if_neg (by decide)]
    · have b2 : ¬ 3 * j + t = 3 * l + 2 := by omega
      have b1 : ¬ 3 * j + t = 3 * l + 1 := by omega
      have b0 : ¬ 3 * j + t = 3 * l := by omega
      have bl : ¬ (l, f).1 = j := fun h => hjl h.symm
      rw [if_neg b2, if_neg b1, if_neg b0, if_neg bl, Nat.add_zero]
      have e2 : pageAt (stepSt s 2) (3 * j + t) = pageAt s (3 * j + t) := rfl
      rw [e2, h.page j t hj ht, if_neg (c := i = k ∧ _) (fun hc => hik hc.1)]
      by_cases ha : afterC L i j = 0
      · rw [if_pos ha, if_pos ha]
      · rw [if_neg ha, if_neg ha, if_neg (fun hc => hjl (by rw [hc.2, hlk hc.1]))]
  · rw [hps.2, (hpt _).2]
    by_cases hjl : j = l
    · subst hjl
      rw [if_pos (by omega)]
      by_cases hc : i + 1 = k
      · rw [(ho.1 hc).1]; simp [hc, hlk hc]
      · rw [ho.2 hc]; simp [hc]; rfl
    · rw [if_neg (by omega)]
      have e2 : (stepSt s 2).hs.getD (3 * j + t) false = s.hs.getD (3 * j + t) false := rfl
      rw [e2, h.mark j t hj ht]
      have n1 : ¬ (i = k ∧ j = (stepC L (k - 1)).1) := fun hc => hik hc.1
      have n2 : ¬ (i + 1 = k ∧ j = (stepC L (k - 1)).1) := fun hc => hjl (by rw [hc.2, hlk hc.1])
      simp only [n1, n2, decide_false, Bool.false_and]
/-- what is read of it, when all k are done -/
theorem QS.told {L k : Nat} {kk a b : Int} {s : St} (h : QS L k kk a b k s) (h1 : 1 ≤ k) (hk : k ≤ 2 * L) (hL : L ≤ 12) (j t : Nat) (hj : j < L) (ht : t < 3) : readC s (j : Nat) (t : Nat) = 0
    ∧ (afterC L k j = 1 ∨ (j = (stepC L (k - 1)).1 ∧ hurtsB kk = true) → pageV (readT s (j : Nat) (t : Nat)) = pv 4 0 0 0 0 ByteArray.empty)
    ∧ (afterC L k j = 0 → pageV (readT s (j : Nat) (t : Nat)) = pv 1 0 0 0 0 ByteArray.empty)
    ∧ (afterC L k j = 2 → ¬ (j = (stepC L (k - 1)).1 ∧ hurtsB kk = true) → readT s (j : Nat) (t : Nat) = pgS (j + t) ∧ pageV (pgS (j + t)) = pv 2 1 (j + t : Nat) (j + t : Nat) 0 (byte8 (j + t))) := by
  have hm : s.mode = 2 := by
    rcases h.mode with h2 | h2
    · omega
    · exact h2
  have hok : ReadOk s (j : Nat) (t : Nat) := ⟨by omega, by rw [h.l]; omega, by omega, by omega, fun hc => by rw [hm] at hc; exact absurd hc.1 (by decide)⟩
  have hr := read_yes hok
  have hp := h.page j t hj ht
  have hmk := h.mark j t hj ht
  have hfog : isFog s (3 * j + t) = (afterC L k j == 1) := by
    unfold isFog
    rw [hm, h.l, h.done, show (3 * j + t) / 3 = j by omega]
    rfl
  rw [hr.1, hr.2]
  refine ⟨rfl, fun hc => ?_, fun hc => ?_, fun hc hn => ?_⟩
  · by_cases hh : j = (stepC L (k - 1)).1 ∧ hurtsB kk = true
    · have ha : ¬ afterC L k j = 0 := by
        have hk1 : k - 1 < 2 * L := by omega
        have h2 := after_succ hk1 hj
        rw [if_pos hh.1.symm, show k - 1 + 1 = k by omega] at h2
        omega
      rw [if_neg ha, if_pos ⟨rfl, hh.1⟩] at hp
      have hpp : pageT (pgS (j + t)) kk a b = hurtT (pgS (j + t)) a b := by unfold pageT; rw [if_pos hh.2]
      rw [hpp] at hp
      have hmt : s.hs.getD (3 * j + t) false = true := by
        rw [hmk, hh.2, Bool.and_true]
        exact decide_eq_true ⟨rfl, hh.1⟩
      rw [at_hurt (by rw [hp]; exact full_of_size (n := 35) (by rw [hurtT_size, pgS_size])) hmt, hp]
      exact page_hurt _ a b
    · have ha : afterC L k j = 1 := hc.elim id (fun h2 => absurd h2 hh)
      have hpe : pageAt s (3 * j + t) = pgS (j + t) := by
        rw [hp, if_neg (by omega)]
        split
        · rename_i h2
          unfold pageT
          rw [if_neg (fun h3 => hh ⟨h2.2, h3⟩)]
        · rfl
      have hmf : s.hs.getD (3 * j + t) false = false := by
        rw [hmk]
        cases hq : hurtsB kk with
        | false => rw [Bool.and_false]
        | true => rw [Bool.and_true]; exact decide_eq_false (fun h2 => hh ⟨h2.2, hq⟩)
      have hat : atT s (3 * j + t) = hurtT (pgS (j + t)) 0 0 := by
        unfold atT
        rw [hpe, hmf, hfog, ha, if_neg (pg_full _), if_neg (by simp), if_pos (by decide)]
      rw [hat]
      exact page_hurt _ 0 0
  · rw [if_pos hc] at hp
    rw [(at_blank hp).1, h.y]
    exact blank_is
  · have hpe : pageAt s (3 * j + t) = pgS (j + t) := by
      rw [hp, if_neg (by omega)]
      split
      · rename_i h2
        unfold pageT
        rw [if_neg (fun h3 => hn ⟨h2.2, h3⟩)]
      · rfl
    have hmf : s.hs.getD (3 * j + t) false = false := by
      rw [hmk]
      cases hq : hurtsB kk with
      | false => rw [Bool.and_false]
      | true => rw [Bool.and_true]; exact decide_eq_false (fun h2 => hn ⟨h2.2, hq⟩)
    have hat : atT s (3 * j + t) = pgS (j + t) := by
      unfold atT
      rw [hpe, hmf, hfog, hc, if_neg (pg_full _), if_neg (by simp), if_neg (by simp)]
    rw [hat]
    exact ⟨rfl, page_good (j + t) (by omega)⟩
theorem QS.small {L k : Nat} {kk a b : Int} {i : Nat} {s : St} (h : QS L k kk a b i s) (j t : Int) : (readT s j t).size ≤ 400 := by
  unfold readT
  split
  · exact atT_size h.wf _
  · decide

end Go.Proofs.YtjmoecfgpfdncaaDoor
