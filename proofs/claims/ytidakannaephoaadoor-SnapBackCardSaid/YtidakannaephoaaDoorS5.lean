/- Texts of one claim, merged: GeC2, BitsP, RcC, ShC1. -/
import Derived.Test.YtidakannaephoaaDoorS4
import Derived.Test.YtidakannaephoaaDoorS1
import Derived.Test.YtidakannaephoaaDoorS2

/- Layer 6, the code's Check. -/
namespace Go.Proofs.YtidakannaephoaaDoor
set_option maxRecDepth 100000
open Go.RowKit

/-- the conditions, as the code has them -/
def ckL (b l y n s r : Int) : List Bool := [fromB b 8 64, fromB l 6 64, fromB y 16 256, decide (y.tmod 8 = 0), fromB s 0 16, decide (s ≤ IntKind.i64.wrap (b - 8)), fromB r 2 1000, fromB n 1 4096, decide (n ≤ mostW b l s), decide (snapsW b y n ≤ IntKind.i64.wrap (l - 4))]
def ckB (b l y n s r : Int) : Bool := (ckL b l y n s r).all id
theorem i64_of {x : Int} (h : -9223372036854775808 ≤ x ∧ x ≤ 9223372036854775807) : IntKind.i64.wrap x = x := by rw [IntKind.wrap_i64]; omega
theorem ck_iff (b l y n s r : Int) : ckB b l y n s r = true ↔ OkG b l y n s r := by
  have h0 : ckB b l y n s r = true ↔ (8 ≤ b ∧ b ≤ 64) ∧ (6 ≤ l ∧ l ≤ 64) ∧ (16 ≤ y ∧ y ≤ 256) ∧ y.tmod 8 = 0 ∧ (0 ≤ s ∧ s ≤ 16) ∧ s ≤ IntKind.i64.wrap (b - 8) ∧ (2 ≤ r ∧ r ≤ 1000) ∧ (1 ≤ n ∧ n ≤ 4096) ∧ n ≤ mostW b l s ∧ snapsW b y n ≤ IntKind.i64.wrap (l - 4) := by
    simp only [ckB, ckL, fromB, List.all_cons, List.all_nil, id, Bool.and_eq_true, decide_eq_true_eq, and_true]
  rw [h0]
  constructor
  · rintro ⟨⟨h1, h2⟩, ⟨h3, h4⟩, ⟨h5, h6⟩, h7, ⟨h8, h9⟩, h10, ⟨h11, h12⟩, ⟨h13, h14⟩, h15, h16⟩
    rw [i64_of (by omega)] at h10 h16
    rw [Int.tmod_eq_emod_of_nonneg (by omega)] at h7
    have hp : PreG b l y n s r := ⟨h1, h2, h3, h4, h5, h6, h7, h8, h9, h10, h11, h12, h13, h14⟩
    rw [mostW_pre hp] at h15
    rw [snapsW_pre hp] at h16
    exact ⟨hp, h15, h16⟩
  · rintro ⟨hp, h15, h16⟩
    rw [mostW_pre hp, snapsW_pre hp]
    obtain ⟨h1, h2, h3, h4, h5, h6, h7, h8, h9, h10, h11, h12, h13, h14⟩ := hp
    rw [i64_of (x := b - 8) (by omega), i64_of (x := l - 4) (by omega), Int.tmod_eq_emod_of_nonneg (by omega)]
    exact ⟨⟨h1, h2⟩, ⟨h3, h4⟩, ⟨h5, h6⟩, h7, ⟨h8, h9⟩, h10, ⟨h11, h12⟩, ⟨h13, h14⟩, h15, h16⟩
def bools (bs : List Bool) : Array Value := (bs.map Value.bool).toArray
theorem bools_cell {w : World} {g : Nat} {bs : List Bool} {t : TypeId} (h : Blk w g (bools bs) t) : ∀ j, j < bs.length → w.cell? ⟨g, j, none⟩ = some (.bool (bs.getD j false)) := by
  intro j hj
  rw [h.cell j]
  simp [bools, hj]
/-- the slice of conditions, made -/
def MadeB (d : Tmp) (n : Nat) (bs : List Bool) (_ : Nat) (a : Act) (w : World) : Prop := ∃ (g : Nat) (t : TypeId), a.tmps.getD d undef = .slice (some ⟨g, 0, none⟩) n n ∧ Blk w g (bools bs) t
theorem MadeB.ext {d : Tmp} {n : Nat} {bs : List Bool} : ∀ (j : Nat) (a a' : Act) (w w' : World), MadeB d n bs j a w → (∀ x ∈ ([d] : List Tmp), a'.tmps.getD x undef = a.tmps.getD x undef) → Goes w w' → MadeB d n bs j a' w' := by
  rintro j a a' w w' ⟨g, t, h1, h2⟩ hd hT
  exact ⟨g, t, (hd d (by simp)).trans h1, h2.after hT⟩

/-- what each operation of the region CK leaves -/
def vsCK (B : Nat) (b l y n s r : Int) : List (Option (Tmp × Value)) :=
  [some (3, .pointer (some ⟨B, 0, none⟩)), some (4, .int .i64 b), some (5, .bool (fromB b 8 64)), some (6, .pointer (some ⟨B, 1, none⟩)), some (7, .int .i64 l), some (8, .bool (fromB l 6 64)), some (9, .pointer (some ⟨B, 2, none⟩)), some (10, .int .i64 y), some (11, .bool (fromB y 16 256)), some (12, .pointer (some ⟨B, 2, none⟩)), some (13, .int .i64 y), some (14, .int .i64 (y.tmod 8)), some (15, .bool (decide (y.tmod 8 = 0))), some (16, .pointer (some ⟨B, 4, none⟩)), some (17, .int .i64 s), some (18, .bool (fromB s 0 16)), some (19, .pointer (some ⟨B, 4, none⟩)), some (20, .int .i64 s), some (21, .pointer (some ⟨B, 0, none⟩)), some (22, .int .i64 b), some (23, .int .i64 (IntKind.i64.wrap (b - 8))), some (24, .bool (decide (s ≤ IntKind.i64.wrap (b - 8)))), some (25, .pointer (some ⟨B, 5, none⟩)), some (26, .int .i64 r), some (27, .bool (fromB r 2 1000)), some (28, .pointer (some ⟨B, 3, none⟩)), some (29, .int .i64 n), some (30, .bool (fromB n 1 4096)), some (31, .pointer (some ⟨B, 3, none⟩)), some (32, .int .i64 n), some (33, .agg (gv b l y n s r)), some (34, .int .i64 (mostW b l s)), some (35, .bool (decide (n ≤ mostW b l s))), some (36, .agg (gv b l y n s r)), some (37, .int .i64 (snapsW b y n)), some (38, .pointer (some ⟨B, 1, none⟩)), some (39, .int .i64 l), some (40, .int .i64 (IntKind.i64.wrap (l - 4))), some (41, .bool (decide (snapsW b y n ≤ IntKind.i64.wrap (l - 4)))), none, some (43, .bool (ckB b l y n s r)), some (44, .bool (!ckB b l y n s r))]
/-- the frame while the region CK runs -/
def BaseCK (B : Nat) (a : Act) : Prop := ∃ u : Nat → Value, a = ⟨#[u 0, .pointer (some ⟨B, 0, none⟩), u 2, u 3, u 4, u 5, u 6, u 7, u 8, u 9, u 10, u 11, u 12, u 13, u 14, u 15, u 16, u 17, u 18, u 19, u 20, u 21, u 22, u 23, u 24, u 25, u 26, u 27, u 28, u 29, u 30, u 31, u 32, u 33, u 34, u 35, u 36, u 37, u 38, u 39, u 40, u 41, u 42, u 43, u 44], []⟩
theorem BaseCK.of {B : Nat} (arr : Array Value) (h : arr = #[arr.getD 0 undef, .pointer (some ⟨B, 0, none⟩), arr.getD 2 undef, arr.getD 3 undef, arr.getD 4 undef, arr.getD 5 undef, arr.getD 6 undef, arr.getD 7 undef, arr.getD 8 undef, arr.getD 9 undef, arr.getD 10 undef, arr.getD 11 undef, arr.getD 12 undef, arr.getD 13 undef, arr.getD 14 undef, arr.getD 15 undef, arr.getD 16 undef, arr.getD 17 undef, arr.getD 18 undef, arr.getD 19 undef, arr.getD 20 undef, arr.getD 21 undef, arr.getD 22 undef, arr.getD 23 undef, arr.getD 24 undef, arr.getD 25 undef, arr.getD 26 undef, arr.getD 27 undef, arr.getD 28 undef, arr.getD 29 undef, arr.getD 30 undef, arr.getD 31 undef, arr.getD 32 undef, arr.getD 33 undef, arr.getD 34 undef, arr.getD 35 undef, arr.getD 36 undef, arr.getD 37 undef, arr.getD 38 undef, arr.getD 39 undef, arr.getD 40 undef, arr.getD 41 undef, arr.getD 42 undef, arr.getD 43 undef, arr.getD 44 undef]) : BaseCK B ⟨arr, []⟩ := ⟨fun i => arr.getD i undef, by rw [← h]⟩
theorem BaseCK.put3 {B : Nat} (a : Act) (v : Value) (h : BaseCK B a) : BaseCK B (a.put (some 3) v) := by
  obtain ⟨u, rfl⟩ := h
  exact ⟨fun i => if i = 3 then v else u i, by kernel_rfl⟩
theorem BaseCK.put4 {B : Nat} (a : Act) (v : Value) (h : BaseCK B a) : BaseCK B (a.put (some 4) v) := by
  obtain ⟨u, rfl⟩ := h
  exact ⟨fun i => if i = 4 then v else u i, by kernel_rfl⟩
theorem BaseCK.put5 {B : Nat} (a : Act) (v : Value) (h : BaseCK B a) : BaseCK B (a.put (some 5) v) := by
  obtain ⟨u, rfl⟩ := h
  exact ⟨fun i => if i = 5 then v else u i, by kernel_rfl⟩
theorem BaseCK.put6 {B : Nat} (a : Act) (v : Value) (h : BaseCK B a) : BaseCK B (a.put (some 6) v) := by
  obtain ⟨u, rfl⟩ := h
  exact ⟨fun i => if i = 6 then v else u i, by kernel_rfl⟩
theorem BaseCK.put7 {B : Nat} (a : Act) (v : Value) (h : BaseCK B a) : BaseCK B (a.put (some 7) v) := by
  obtain ⟨u, rfl⟩ := h
  exact ⟨fun i => if i = 7 then v else u i, by kernel_rfl⟩
theorem BaseCK.put8 {B : Nat} (a : Act) (v : Value) (h : BaseCK B a) : BaseCK B (a.put (some 8) v) := by
  obtain ⟨u, rfl⟩ := h
  exact ⟨fun i => if i = 8 then v else u i, by kernel_rfl⟩
theorem BaseCK.put9 {B : Nat} (a : Act) (v : Value) (h : BaseCK B a) : BaseCK B (a.put (some 9) v) := by
  obtain ⟨u, rfl⟩ := h
  exact ⟨fun i => if i = 9 then v else u i, by kernel_rfl⟩
theorem BaseCK.put10 {B : Nat} (a : Act) (v : Value) (h : BaseCK B a) : BaseCK B (a.put (some 10) v) := by
  obtain ⟨u, rfl⟩ := h
  exact ⟨fun i => if i = 10 then v else u i, by kernel_rfl⟩
theorem BaseCK.put11 {B : Nat} (a : Act) (v : Value) (h : BaseCK B a) : BaseCK B (a.put (some 11) v) := by
  obtain ⟨u, rfl⟩ := h
  exact ⟨fun i => if i = 11 then v else u i, by kernel_rfl⟩
theorem BaseCK.put12 {B : Nat} (a : Act) (v : Value) (h : BaseCK B a) : BaseCK B (a.put (some 12) v) := by
  obtain ⟨u, rfl⟩ := h
  exact ⟨fun i => if i = 12 then v else u i, by kernel_rfl⟩
theorem BaseCK.put13 {B : Nat} (a : Act) (v : Value) (h : BaseCK B a) : BaseCK B (a.put (some 13) v) := by
  obtain ⟨u, rfl⟩ := h
  exact ⟨fun i => if i = 13 then v else u i, by kernel_rfl⟩
theorem BaseCK.put14 {B : Nat} (a : Act) (v : Value) (h : BaseCK B a) : BaseCK B (a.put (some 14) v) := by
  obtain ⟨u, rfl⟩ := h
  exact ⟨fun i => if i = 14 then v else u i, by kernel_rfl⟩
theorem BaseCK.put15 {B : Nat} (a : Act) (v : Value) (h : BaseCK B a) : BaseCK B (a.put (some 15) v) := by
  obtain ⟨u, rfl⟩ := h
  exact ⟨fun i => if i = 15 then v else u i, by kernel_rfl⟩
theorem BaseCK.put16 {B : Nat} (a : Act) (v : Value) (h : BaseCK B a) : BaseCK B (a.put (some 16) v) := by
  obtain ⟨u, rfl⟩ := h
  exact ⟨fun i => if i = 16 then v else u i, by kernel_rfl⟩
theorem BaseCK.put17 {B : Nat} (a : Act) (v : Value) (h : BaseCK B a) : BaseCK B (a.put (some 17) v) := by
  obtain ⟨u, rfl⟩ := h
  exact ⟨fun i => if i = 17 then v else u i, by kernel_rfl⟩
theorem BaseCK.put18 {B : Nat} (a : Act) (v : Value) (h : BaseCK B a) : BaseCK B (a.put (some 18) v) := by
  obtain ⟨u, rfl⟩ := h
  exact ⟨fun i => if i = 18 then v else u i, by kernel_rfl⟩
theorem BaseCK.put19 {B : Nat} (a : Act) (v : Value) (h : BaseCK B a) : BaseCK B (a.put (some 19) v) := by
  obtain ⟨u, rfl⟩ := h
  exact ⟨fun i => if i = 19 then v else u i, by kernel_rfl⟩
theorem BaseCK.put20 {B : Nat} (a : Act) (v : Value) (h : BaseCK B a) : BaseCK B (a.put (some 20) v) := by
  obtain ⟨u, rfl⟩ := h
  exact ⟨fun i => if i = 20 then v else u i, by kernel_rfl⟩
theorem BaseCK.put21 {B : Nat} (a : Act) (v : Value) (h : BaseCK B a) : BaseCK B (a.put (some 21) v) := by
  obtain ⟨u, rfl⟩ := h
  exact ⟨fun i => if i = 21 then v else u i, by kernel_rfl⟩
theorem BaseCK.put22 {B : Nat} (a : Act) (v : Value) (h : BaseCK B a) : BaseCK B (a.put (some 22) v) := by
  obtain ⟨u, rfl⟩ := h
  exact ⟨fun i => if i = 22 then v else u i, by kernel_rfl⟩
theorem BaseCK.put23 {B : Nat} (a : Act) (v : Value) (h : BaseCK B a) : BaseCK B (a.put (some 23) v) := by
  obtain ⟨u, rfl⟩ := h
  exact ⟨fun i => if i = 23 then v else u i, by kernel_rfl⟩
theorem BaseCK.put24 {B : Nat} (a : Act) (v : Value) (h : BaseCK B a) : BaseCK B (a.put (some 24) v) := by
  obtain ⟨u, rfl⟩ := h
  exact ⟨fun i => if i = 24 then v else u i, by kernel_rfl⟩
theorem BaseCK.put25 {B : Nat} (a : Act) (v : Value) (h : BaseCK B a) : BaseCK B (a.put (some 25) v) := by
  obtain ⟨u, rfl⟩ := h
  exact ⟨fun i => if i = 25 then v else u i, by kernel_rfl⟩
theorem BaseCK.put26 {B : Nat} (a : Act) (v : Value) (h : BaseCK B a) : BaseCK B (a.put (some 26) v) := by
  obtain ⟨u, rfl⟩ := h
  exact ⟨fun i => if i = 26 then v else u i, by kernel_rfl⟩
theorem BaseCK.put27 {B : Nat} (a : Act) (v : Value) (h : BaseCK B a) : BaseCK B (a.put (some 27) v) := by
  obtain ⟨u, rfl⟩ := h
  exact ⟨fun i => if i = 27 then v else u i, by kernel_rfl⟩
theorem BaseCK.put28 {B : Nat} (a : Act) (v : Value) (h : BaseCK B a) : BaseCK B (a.put (some 28) v) := by
  obtain ⟨u, rfl⟩ := h
  exact ⟨fun i => if i = 28 then v else u i, by kernel_rfl⟩
theorem BaseCK.put29 {B : Nat} (a : Act) (v : Value) (h : BaseCK B a) : BaseCK B (a.put (some 29) v) := by
  obtain ⟨u, rfl⟩ := h
  exact ⟨fun i => if i = 29 then v else u i, by kernel_rfl⟩
theorem BaseCK.put30 {B : Nat} (a : Act) (v : Value) (h : BaseCK B a) : BaseCK B (a.put (some 30) v) := by
  obtain ⟨u, rfl⟩ := h
  exact ⟨fun i => if i = 30 then v else u i, by kernel_rfl⟩
theorem BaseCK.put31 {B : Nat} (a : Act) (v : Value) (h : BaseCK B a) : BaseCK B (a.put (some 31) v) := by
  obtain ⟨u, rfl⟩ := h
  exact ⟨fun i => if i = 31 then v else u i, by kernel_rfl⟩
theorem BaseCK.put32 {B : Nat} (a : Act) (v : Value) (h : BaseCK B a) : BaseCK B (a.put (some 32) v) := by
  obtain ⟨u, rfl⟩ := h
  exact ⟨fun i => if i = 32 then v else u i, by kernel_rfl⟩
theorem BaseCK.put33 {B : Nat} (a : Act) (v : Value) (h : BaseCK B a) : BaseCK B (a.put (some 33) v) := by
  obtain ⟨u, rfl⟩ := h
  exact ⟨fun i => if i = 33 then v else u i, by kernel_rfl⟩
theorem BaseCK.put34 {B : Nat} (a : Act) (v : Value) (h : BaseCK B a) : BaseCK B (a.put (some 34) v) := by
  obtain ⟨u, rfl⟩ := h
  exact ⟨fun i => if i = 34 then v else u i, by kernel_rfl⟩
theorem BaseCK.put35 {B : Nat} (a : Act) (v : Value) (h : BaseCK B a) : BaseCK B (a.put (some 35) v) := by
  obtain ⟨u, rfl⟩ := h
  exact ⟨fun i => if i = 35 then v else u i, by kernel_rfl⟩
theorem BaseCK.put36 {B : Nat} (a : Act) (v : Value) (h : BaseCK B a) : BaseCK B (a.put (some 36) v) := by
  obtain ⟨u, rfl⟩ := h
  exact ⟨fun i => if i = 36 then v else u i, by kernel_rfl⟩
theorem BaseCK.put37 {B : Nat} (a : Act) (v : Value) (h : BaseCK B a) : BaseCK B (a.put (some 37) v) := by
  obtain ⟨u, rfl⟩ := h
  exact ⟨fun i => if i = 37 then v else u i, by kernel_rfl⟩
theorem BaseCK.put38 {B : Nat} (a : Act) (v : Value) (h : BaseCK B a) : BaseCK B (a.put (some 38) v) := by
  obtain ⟨u, rfl⟩ := h
  exact ⟨fun i => if i = 38 then v else u i, by kernel_rfl⟩
theorem BaseCK.put39 {B : Nat} (a : Act) (v : Value) (h : BaseCK B a) : BaseCK B (a.put (some 39) v) := by
  obtain ⟨u, rfl⟩ := h
  exact ⟨fun i => if i = 39 then v else u i, by kernel_rfl⟩
theorem BaseCK.put40 {B : Nat} (a : Act) (v : Value) (h : BaseCK B a) : BaseCK B (a.put (some 40) v) := by
  obtain ⟨u, rfl⟩ := h
  exact ⟨fun i => if i = 40 then v else u i, by kernel_rfl⟩
theorem BaseCK.put41 {B : Nat} (a : Act) (v : Value) (h : BaseCK B a) : BaseCK B (a.put (some 41) v) := by
  obtain ⟨u, rfl⟩ := h
  exact ⟨fun i => if i = 41 then v else u i, by kernel_rfl⟩
theorem BaseCK.put42 {B : Nat} (a : Act) (v : Value) (h : BaseCK B a) : BaseCK B (a.put (some 42) v) := by
  obtain ⟨u, rfl⟩ := h
  exact ⟨fun i => if i = 42 then v else u i, by kernel_rfl⟩
theorem BaseCK.put43 {B : Nat} (a : Act) (v : Value) (h : BaseCK B a) : BaseCK B (a.put (some 43) v) := by
  obtain ⟨u, rfl⟩ := h
  exact ⟨fun i => if i = 43 then v else u i, by kernel_rfl⟩
theorem BaseCK.put44 {B : Nat} (a : Act) (v : Value) (h : BaseCK B a) : BaseCK B (a.put (some 44) v) := by
  obtain ⟨u, rfl⟩ := h
  exact ⟨fun i => if i = 44 then v else u i, by kernel_rfl⟩

set_option maxHeartbeats 1000000 in
set_option maxRecDepth 100000 in
theorem ge_check (b l y n s r : Int) (w : World) : Calls Tryd.prog 17 #[.agg (gv b l y n s r)] w (ChkT b l y n s r w) := by
  have HC0 : Hid (CG w b l y n s r (w.alloc (.cells (gv b l y n s r) 23))) := ⟨Blk.new w _ _, (Below.refl w.heap.size w).alloc (Nat.le_refl _) _⟩
  unfold ChkT
  have HY : Hid (ckB b l y n s r = true → chkG b l y n s r = 0) := fun h => chk_ok ((ck_iff b l y n s r).1 h)
  have HN : Hid (ckB b l y n s r = false → chkG b l y n s r = 60) := fun h => chk_no (fun h2 => by rw [(ck_iff b l y n s r).2 h2] at h; exact absurd h (by simp))
  obtain ⟨ck, hck⟩ : ∃ ck, chkG b l y n s r = ck := ⟨_, rfl⟩
  rw [hck] at HY HN ⊢
  clear hck
  go_enter Tryd.func17, Tryd.ntmps17
  unfold gv at *
  go_wp2_with fail
  rename_i K0 hK0
  refine wp_region_list3 (SV (vsCK w.heap.size b l y n s r) [42]) (BaseCK w.heap.size) (CG w b l y n s r) Goes (RV (vsCK w.heap.size b l y n s r) (MadeB 42 10 (ckL b l y n s r))) rfl (by kernel_rfl) (RV.ext MadeB.ext) ?_ HC0.out.drew (BaseCK.of _ (by kernel_rfl)) ?_ ?_
  · exact ⟨BaseCK.put3, BaseCK.put4, BaseCK.put5, BaseCK.put6, BaseCK.put7, BaseCK.put8, BaseCK.put9, BaseCK.put10, BaseCK.put11, BaseCK.put12, BaseCK.put13, BaseCK.put14, BaseCK.put15, BaseCK.put16, BaseCK.put17, BaseCK.put18, BaseCK.put19, BaseCK.put20, BaseCK.put21, BaseCK.put22, BaseCK.put23, BaseCK.put24, BaseCK.put25, BaseCK.put26, BaseCK.put27, BaseCK.put28, BaseCK.put29, BaseCK.put30, BaseCK.put31, BaseCK.put32, BaseCK.put33, BaseCK.put34, BaseCK.put35, BaseCK.put36, BaseCK.put37, BaseCK.put38, BaseCK.put39, BaseCK.put40, BaseCK.put41, BaseCK.put42, BaseCK.put43, BaseCK.put44, trivial⟩
  · refine ⟨?_, ?_, ?_, ?_, ?_, ?_, ?_, ?_, ?_, ?_, ?_, ?_, ?_, ?_, ?_, ?_, ?_, ?_, ?_, ?_, ?_, ?_, ?_, ?_, ?_, ?_, ?_, ?_, ?_, ?_, ?_, ?_, ?_, ?_, ?_, ?_, ?_, ?_, ?_, ?_, ?_, ?_, trivial⟩
    all_goals
      intro a w' hC hB hR
      obtain ⟨u, rfl⟩ := hB
      have HC := Lib.hid hC
      clear hC
    · clear hR
      refine if_yes (by kernel_rfl) ?_
      unfold Oper.wp
      go_simp
      exact ⟨.pointer (some ⟨w.heap.size, 0, none⟩), rfl, HC.out, Below.refl _ _, rfl⟩
    · have h3 : u 3 = .pointer (some ⟨w.heap.size, 0, none⟩) := hR ⟨0, .data⟩ (by simp) rfl
      have hc : w'.cell? ⟨w.heap.size, 0, none⟩ = some (.int .i64 b) := HC.out.1.cell 0
      clear hR
      simp only [h3]
      clear h3
      refine if_yes (by kernel_rfl) ?_
      unfold Oper.wp
      go_simp
      exact ⟨.int .i64 b, rfl, HC.out, Below.refl _ _, rfl⟩
    · have h4 : u 4 = .int .i64 b := hR ⟨1, .data⟩ (by simp) rfl
      clear hR
      simp only [h4]
      clear h4
      refine if_yes (by kernel_rfl) ?_
      unfold Oper.wp
      go_simp
      refine (is_from b 8 64 _).mono ?_
      rintro e w2 ⟨rfl, hb2⟩
      exact ⟨.bool (fromB b 8 64), rfl, HC.out.call hb2, hb2, rfl⟩
    · clear hR
      refine if_yes (by kernel_rfl) ?_
      unfold Oper.wp
      go_simp
      exact ⟨.pointer (some ⟨w.heap.size, 1, none⟩), rfl, HC.out, Below.refl _ _, rfl⟩
    · have h6 : u 6 = .pointer (some ⟨w.heap.size, 1, none⟩) := hR ⟨3, .data⟩ (by simp) rfl
      have hc : w'.cell? ⟨w.heap.size, 1, none⟩ = some (.int .i64 l) := HC.out.1.cell 1
      clear hR
      simp only [h6]
      clear h6
      refine if_yes (by kernel_rfl) ?_
      unfold Oper.wp
      go_simp
      exact ⟨.int .i64 l, rfl, HC.out, Below.refl _ _, rfl⟩
    · have h7 : u 7 = .int .i64 l := hR ⟨4, .data⟩ (by simp) rfl
      clear hR
      simp only [h7]
      clear h7
      refine if_yes (by kernel_rfl) ?_
      unfold Oper.wp
      go_simp
      refine (is_from l 6 64 _).mono ?_
      rintro e w2 ⟨rfl, hb2⟩
      exact ⟨.bool (fromB l 6 64), rfl, HC.out.call hb2, hb2, rfl⟩
    · clear hR
      refine if_yes (by kernel_rfl) ?_
      unfold Oper.wp
      go_simp
      exact ⟨.pointer (some ⟨w.heap.size, 2, none⟩), rfl, HC.out, Below.refl _ _, rfl⟩
    · have h9 : u 9 = .pointer (some ⟨w.heap.size, 2, none⟩) := hR ⟨6, .data⟩ (by simp) rfl
      have hc : w'.cell? ⟨w.heap.size, 2, none⟩ = some (.int .i64 y) := HC.out.1.cell 2
      clear hR
      simp only [h9]
      clear h9
      refine if_yes (by kernel_rfl) ?_
      unfold Oper.wp
      go_simp
      exact ⟨.int .i64 y, rfl, HC.out, Below.refl _ _, rfl⟩
    · have h10 : u 10 = .int .i64 y := hR ⟨7, .data⟩ (by simp) rfl
      clear hR
      simp only [h10]
      clear h10
      refine if_yes (by kernel_rfl) ?_
      unfold Oper.wp
      go_simp
      refine (is_from y 16 256 _).mono ?_
      rintro e w2 ⟨rfl, hb2⟩
      exact ⟨.bool (fromB y 16 256), rfl, HC.out.call hb2, hb2, rfl⟩
    · clear hR
      refine if_yes (by kernel_rfl) ?_
      unfold Oper.wp
      go_simp
      exact ⟨.pointer (some ⟨w.heap.size, 2, none⟩), rfl, HC.out, Below.refl _ _, rfl⟩
    · have h12 : u 12 = .pointer (some ⟨w.heap.size, 2, none⟩) := hR ⟨9, .data⟩ (by simp) rfl
      have hc : w'.cell? ⟨w.heap.size, 2, none⟩ = some (.int .i64 y) := HC.out.1.cell 2
      clear hR
      simp only [h12]
      clear h12
      refine if_yes (by kernel_rfl) ?_
      unfold Oper.wp
      go_simp
      exact ⟨.int .i64 y, rfl, HC.out, Below.refl _ _, rfl⟩
    · have h13 : u 13 = .int .i64 y := hR ⟨10, .data⟩ (by simp) rfl
      clear hR
      simp only [h13]
      clear h13
      refine if_yes (by kernel_rfl) ?_
      unfold Oper.wp
      go_simp
      exact ⟨.int .i64 (y.tmod 8), rfl, HC.out, Below.refl _ _, rfl⟩
    · have h14 : u 14 = .int .i64 (y.tmod 8) := hR ⟨11, .data⟩ (by simp) rfl
      clear hR
      simp only [h14]
      clear h14
      refine if_yes (by kernel_rfl) ?_
      unfold Oper.wp
      go_simp
      exact ⟨_, rfl, HC.out, Below.refl _ _, congrArg Value.bool (by first | rfl | (rw [Bool.eq_iff_iff]; simp; done) | (rw [Bool.eq_iff_iff]; simp; omega))⟩
    · clear hR
      refine if_yes (by kernel_rfl) ?_
      unfold Oper.wp
      go_simp
      exact ⟨.pointer (some ⟨w.heap.size, 4, none⟩), rfl, HC.out, Below.refl _ _, rfl⟩
    · have h16 : u 16 = .pointer (some ⟨w.heap.size, 4, none⟩) := hR ⟨13, .data⟩ (by simp) rfl
      have hc : w'.cell? ⟨w.heap.size, 4, none⟩ = some (.int .i64 s) := HC.out.1.cell 4
      clear hR
      simp only [h16]
      clear h16
      refine if_yes (by kernel_rfl) ?_
      unfold Oper.wp
      go_simp
      exact ⟨.int .i64 s, rfl, HC.out, Below.refl _ _, rfl⟩
    · have h17 : u 17 = .int .i64 s := hR ⟨14, .data⟩ (by simp) rfl
      clear hR
      simp only [h17]
      clear h17
      refine if_yes (by kernel_rfl) ?_
      unfold Oper.wp
      go_simp
      refine (is_from s 0 16 _).mono ?_
      rintro e w2 ⟨rfl, hb2⟩
      exact ⟨.bool (fromB s 0 16), rfl, HC.out.call hb2, hb2, rfl⟩
    · clear hR
      refine if_yes (by kernel_rfl) ?_
      unfold Oper.wp
      go_simp
      exact ⟨.pointer (some ⟨w.heap.size, 4, none⟩), rfl, HC.out, Below.refl _ _, rfl⟩
    · have h19 : u 19 = .pointer (some ⟨w.heap.size, 4, none⟩) := hR ⟨16, .data⟩ (by simp) rfl
      have hc : w'.cell? ⟨w.heap.size, 4, none⟩ = some (.int .i64 s) := HC.out.1.cell 4
      clear hR
      simp only [h19]
      clear h19
      refine if_yes (by kernel_rfl) ?_
      unfold Oper.wp
      go_simp
      exact ⟨.int .i64 s, rfl, HC.out, Below.refl _ _, rfl⟩
    · clear hR
      refine if_yes (by kernel_rfl) ?_
      unfold Oper.wp
      go_simp
      exact ⟨.pointer (some ⟨w.heap.size, 0, none⟩), rfl, HC.out, Below.refl _ _, rfl⟩
    · have h21 : u 21 = .pointer (some ⟨w.heap.size, 0, none⟩) := hR ⟨18, .data⟩ (by simp) rfl
      have hc : w'.cell? ⟨w.heap.size, 0, none⟩ = some (.int .i64 b) := HC.out.1.cell 0
      clear hR
      simp only [h21]
      clear h21
      refine if_yes (by kernel_rfl) ?_
      unfold Oper.wp
      go_simp
      exact ⟨.int .i64 b, rfl, HC.out, Below.refl _ _, rfl⟩
    · have h22 : u 22 = .int .i64 b := hR ⟨19, .data⟩ (by simp) rfl
      clear hR
      simp only [h22]
      clear h22
      refine if_yes (by kernel_rfl) ?_
      unfold Oper.wp
      go_simp
      exact ⟨.int .i64 (IntKind.i64.wrap (b - 8)), rfl, HC.out, Below.refl _ _, rfl⟩
    · have h20 : u 20 = .int .i64 s := hR ⟨17, .data⟩ (by simp) rfl
      have h23 : u 23 = .int .i64 (IntKind.i64.wrap (b - 8)) := hR ⟨20, .data⟩ (by simp) rfl
      clear hR
      simp only [h20, h23]
      clear h20 h23
      refine if_yes (by kernel_rfl) ?_
      unfold Oper.wp
      go_simp
      exact ⟨_, rfl, HC.out, Below.refl _ _, congrArg Value.bool (by first | rfl | (rw [Bool.eq_iff_iff]; simp; done) | (rw [Bool.eq_iff_iff]; simp; omega))⟩
    · clear hR
      refine if_yes (by kernel_rfl) ?_
      unfold Oper.wp
      go_simp
      exact ⟨.pointer (some ⟨w.heap.size, 5, none⟩), rfl, HC.out, Below.refl _ _, rfl⟩
    · have h25 : u 25 = .pointer (some ⟨w.heap.size, 5, none⟩) := hR ⟨22, .data⟩ (by simp) rfl
      have hc : w'.cell? ⟨w.heap.size, 5, none⟩ = some (.int .i64 r) := HC.out.1.cell 5
      clear hR
      simp only [h25]
      clear h25
      refine if_yes (by kernel_rfl) ?_
      unfold Oper.wp
      go_simp
      exact ⟨.int .i64 r, rfl, HC.out, Below.refl _ _, rfl⟩
    · have h26 : u 26 = .int .i64 r := hR ⟨23, .data⟩ (by simp) rfl
      clear hR
      simp only [h26]
      clear h26
      refine if_yes (by kernel_rfl) ?_
      unfold Oper.wp
      go_simp
      refine (is_from r 2 1000 _).mono ?_
      rintro e w2 ⟨rfl, hb2⟩
      exact ⟨.bool (fromB r 2 1000), rfl, HC.out.call hb2, hb2, rfl⟩
    · clear hR
      refine if_yes (by kernel_rfl) ?_
      unfold Oper.wp
      go_simp
      exact ⟨.pointer (some ⟨w.heap.size, 3, none⟩), rfl, HC.out, Below.refl _ _, rfl⟩
    · have h28 : u 28 = .pointer (some ⟨w.heap.size, 3, none⟩) := hR ⟨25, .data⟩ (by simp) rfl
      have hc : w'.cell? ⟨w.heap.size, 3, none⟩ = some (.int .i64 n) := HC.out.1.cell 3
      clear hR
      simp only [h28]
      clear h28
      refine if_yes (by kernel_rfl) ?_
      unfold Oper.wp
      go_simp
      exact ⟨.int .i64 n, rfl, HC.out, Below.refl _ _, rfl⟩
    · have h29 : u 29 = .int .i64 n := hR ⟨26, .data⟩ (by simp) rfl
      clear hR
      simp only [h29]
      clear h29
      refine if_yes (by kernel_rfl) ?_
      unfold Oper.wp
      go_simp
      refine (is_from n 1 4096 _).mono ?_
      rintro e w2 ⟨rfl, hb2⟩
      exact ⟨.bool (fromB n 1 4096), rfl, HC.out.call hb2, hb2, rfl⟩
    · clear hR
      refine if_yes (by kernel_rfl) ?_
      unfold Oper.wp
      go_simp
      exact ⟨.pointer (some ⟨w.heap.size, 3, none⟩), rfl, HC.out, Below.refl _ _, rfl⟩
    · have h31 : u 31 = .pointer (some ⟨w.heap.size, 3, none⟩) := hR ⟨28, .data⟩ (by simp) rfl
      have hc : w'.cell? ⟨w.heap.size, 3, none⟩ = some (.int .i64 n) := HC.out.1.cell 3
      clear hR
      simp only [h31]
      clear h31
      refine if_yes (by kernel_rfl) ?_
      unfold Oper.wp
      go_simp
      exact ⟨.int .i64 n, rfl, HC.out, Below.refl _ _, rfl⟩
    · clear hR
      refine if_yes (by kernel_rfl) ?_
      exact wp_load_row 23 (.tmp 1) rfl _ rfl 23 _ (0, 0) _ HC.out.1 Tryd.underlying23 rfl size_geo ⟨.agg (gv b l y n s r), rfl, HC.out, Below.refl _ _, rfl⟩
    · have h33 : u 33 = .agg (gv b l y n s r) := hR ⟨30, .data⟩ (by simp) rfl
      clear hR
      simp only [h33]
      clear h33
      refine if_yes (by kernel_rfl) ?_
      unfold Oper.wp
      go_simp
      refine (ge_most_any b l y n s r _).mono ?_
      rintro e w2 ⟨rfl, hb2⟩
      exact ⟨.int .i64 (mostW b l s), rfl, HC.out.call hb2, hb2, rfl⟩
    · have h32 : u 32 = .int .i64 n := hR ⟨29, .data⟩ (by simp) rfl
      have h34 : u 34 = .int .i64 (mostW b l s) := hR ⟨31, .data⟩ (by simp) rfl
      clear hR
      simp only [h32, h34]
      clear h32 h34
      refine if_yes (by kernel_rfl) ?_
      unfold Oper.wp
      go_simp
      exact ⟨_, rfl, HC.out, Below.refl _ _, congrArg Value.bool (by first | rfl | (rw [Bool.eq_iff_iff]; simp; done) | (rw [Bool.eq_iff_iff]; simp; omega))⟩
    · clear hR
      refine if_yes (by kernel_rfl) ?_
      exact wp_load_row 23 (.tmp 1) rfl _ rfl 23 _ (0, 0) _ HC.out.1 Tryd.underlying23 rfl size_geo ⟨.agg (gv b l y n s r), rfl, HC.out, Below.refl _ _, rfl⟩
    · have h36 : u 36 = .agg (gv b l y n s r) := hR ⟨33, .data⟩ (by simp) rfl
      clear hR
      simp only [h36]
      clear h36
      refine if_yes (by kernel_rfl) ?_
      unfold Oper.wp
      go_simp
      refine (ge_snaps_any b l y n s r _).mono ?_
      rintro e w2 ⟨rfl, hb2⟩
      exact ⟨.int .i64 (snapsW b y n), rfl, HC.out.call hb2, hb2, rfl⟩
    · clear hR
      refine if_yes (by kernel_rfl) ?_
      unfold Oper.wp
      go_simp
      exact ⟨.pointer (some ⟨w.heap.size, 1, none⟩), rfl, HC.out, Below.refl _ _, rfl⟩
    · have h38 : u 38 = .pointer (some ⟨w.heap.size, 1, none⟩) := hR ⟨35, .data⟩ (by simp) rfl
      have hc : w'.cell? ⟨w.heap.size, 1, none⟩ = some (.int .i64 l) := HC.out.1.cell 1
      clear hR
      simp only [h38]
      clear h38
      refine if_yes (by kernel_rfl) ?_
      unfold Oper.wp
      go_simp
      exact ⟨.int .i64 l, rfl, HC.out, Below.refl _ _, rfl⟩
    · have h39 : u 39 = .int .i64 l := hR ⟨36, .data⟩ (by simp) rfl
      clear hR
      simp only [h39]
      clear h39
      refine if_yes (by kernel_rfl) ?_
      unfold Oper.wp
      go_simp
      exact ⟨.int .i64 (IntKind.i64.wrap (l - 4)), rfl, HC.out, Below.refl _ _, rfl⟩
    · have h37 : u 37 = .int .i64 (snapsW b y n) := hR ⟨34, .data⟩ (by simp) rfl
      have h40 : u 40 = .int .i64 (IntKind.i64.wrap (l - 4)) := hR ⟨37, .data⟩ (by simp) rfl
      clear hR
      simp only [h37, h40]
      clear h37 h40
      refine if_yes (by kernel_rfl) ?_
      unfold Oper.wp
      go_simp
      exact ⟨_, rfl, HC.out, Below.refl _ _, congrArg Value.bool (by first | rfl | (rw [Bool.eq_iff_iff]; simp; done) | (rw [Bool.eq_iff_iff]; simp; omega))⟩
    · have h5 : u 5 = .bool (fromB b 8 64) := hR ⟨2, .data⟩ (by simp) rfl
      have h8 : u 8 = .bool (fromB l 6 64) := hR ⟨5, .data⟩ (by simp) rfl
      have h11 : u 11 = .bool (fromB y 16 256) := hR ⟨8, .data⟩ (by simp) rfl
      have h15 : u 15 = .bool (decide (y.tmod 8 = 0)) := hR ⟨12, .data⟩ (by simp) rfl
      have h18 : u 18 = .bool (fromB s 0 16) := hR ⟨15, .data⟩ (by simp) rfl
      have h24 : u 24 = .bool (decide (s ≤ IntKind.i64.wrap (b - 8))) := hR ⟨21, .data⟩ (by simp) rfl
      have h27 : u 27 = .bool (fromB r 2 1000) := hR ⟨24, .data⟩ (by simp) rfl
      have h30 : u 30 = .bool (fromB n 1 4096) := hR ⟨27, .data⟩ (by simp) rfl
      have h35 : u 35 = .bool (decide (n ≤ mostW b l s)) := hR ⟨32, .data⟩ (by simp) rfl
      have h41 : u 41 = .bool (decide (snapsW b y n ≤ IntKind.i64.wrap (l - 4))) := hR ⟨38, .data⟩ (by simp) rfl
      clear hR
      simp only [h5, h8, h11, h15, h18, h24, h27, h30, h35, h41]
      clear h5 h8 h11 h15 h18 h24 h27 h30 h35 h41
      refine if_yes (by kernel_rfl) ?_
      unfold Oper.wp
      go_simp
      exact ⟨.slice (some ⟨w'.heap.size, 0, none⟩) 10 10, rfl, HC.out.call ((Below.refl _ _).alloc (Nat.le_refl _) _), (Below.refl _ _).alloc (Nat.le_refl _) _, ⟨w'.heap.size, _, rfl, Blk.new w' _ _⟩⟩
    · obtain ⟨g, t, hg, hz⟩ := hR ⟨39, .data⟩ (by simp) rfl
      have hg : u 42 = .slice (some ⟨g, 0, none⟩) 10 10 := hg
      clear hR
      refine if_yes (by kernel_rfl) ?_
      simp only [hg]
      unfold Oper.wp
      go_simp
      refine (all_any g 10 (ckL b l y n s r) _ (by simp [ckL]) (bools_cell hz)).mono ?_
      rintro e w2 ⟨rfl, rfl⟩
      exact ⟨.bool (ckB b l y n s r), rfl, HC.out, Below.refl _ _, rfl⟩
    · have h43 : u 43 = .bool (ckB b l y n s r) := hR ⟨40, .data⟩ (by simp) rfl
      clear hR
      simp only [h43]
      clear h43
      refine if_yes (by kernel_rfl) ?_
      unfold Oper.wp
      go_simp
      exact ⟨.bool (!ckB b l y n s r), rfl, HC.out, Below.refl _ _, rfl⟩
  · intro a w' hC hB hR
    have h44 : a.tmps.getD 44 undef = .bool (!ckB b l y n s r) := hR 41 (by decide)
    clear hR
    have HE := Lib.hid hC.2
    clear hC
    obtain ⟨u, rfl⟩ := hB
    have h44 : u 44 = .bool (!ckB b l y n s r) := h44
    simp only [h44]
    clear h44
    obtain ⟨c, hc⟩ : ∃ c, ckB b l y n s r = c := ⟨_, rfl⟩
    rw [hc] at HY HN ⊢
    clear hc
    cases c with
    | true =>
      have HZ := Lib.hid (HY.out rfl)
      clear HY HN
      go_wp2_with fail
      go_ret
      exact ⟨ret_int HZ.out.symm, HE.out⟩
    | false =>
      have HZ := Lib.hid (HN.out rfl)
      clear HY HN
      go_wp2_with fail
      go_ret
      exact ⟨ret_int HZ.out.symm, HE.out⟩

end Go.Proofs.YtidakannaephoaaDoor

/- Contracts of package bits, as far as later layers lean on them: Put of a number that fits, Get. -/
namespace Go.Proofs.YtidakannaephoaaDoor
open Go.RowKit

theorem conv8 (c0 c1 c2 c3 c4 c5 c6 c7 : Int) (W : World) (n : Nat) (hn : n ≤ 8) :
    Sem.run Tryd.prog (convert 46 9 (.slice (some ⟨W.heap.size, 0, none⟩) n 8)) (W.alloc (.cells #[.int .u8 c0, .int .u8 c1, .int .u8 c2, .int .u8 c3, .int .u8 c4, .int .u8 c5, .int .u8 c6, .int .u8 c7] 80))
      = .ok (.string (strOfNums ([c0, c1, c2, c3, c4, c5, c6, c7].take n))) (W.alloc (.cells #[.int .u8 c0, .int .u8 c1, .int .u8 c2, .int .u8 c3, .int .u8 c4, .int .u8 c5, .int .u8 c6, .int .u8 c7] 80)) := by
  refine run_convert_bytes_arg (P := Tryd.prog) _ 46 5 Tryd.underlying46 Tryd.underlying5 W.heap.size 0 n 8 ([c0, c1, c2, c3, c4, c5, c6, c7].take n) (by simp; omega) ?_ 9 Tryd.underlying9
  intro i hi
  rw [Nat.zero_add, World.cell?_alloc_new]
  have h8 : i < 8 := by omega
  rcases i with _ | _ | _ | _ | _ | _ | _ | _ | i
  all_goals first | omega | simp [List.getD, hi]

theorem str_3 (v : Int) (v0 : 0 ≤ v) (v1 : v < 16777216) : strOfNums [v % 256, v / 256 % 256, v / 65536] = leS v 3 := by
  have e2 : v / 256 / 256 = v / 65536 := by omega
  have l : v / 65536 % 256 = v / 65536 := by omega
  unfold strOfNums leS
  simp only [le, List.map, e2, l]

theorem str_4 (v : Int) (v0 : 0 ≤ v) (v1 : v < 4294967296) : strOfNums [v % 256, v / 256 % 256, v / 65536 % 256, v / 16777216] = leS v 4 := by
  have e2 : v / 256 / 256 = v / 65536 := by omega
  have e3 : v / 65536 / 256 = v / 16777216 := by omega
  have l : v / 16777216 % 256 = v / 16777216 := by omega
  unfold strOfNums leS
  simp only [le, List.map, e2, e3, l]

theorem str_6 (v : Int) (v0 : 0 ≤ v) (v1 : v < 281474976710656) : strOfNums [v % 256, v / 256 % 256, v / 65536 % 256, v / 16777216 % 256, v / 4294967296 % 256, v / 1099511627776] = leS v 6 := by
  have e2 : v / 256 / 256 = v / 65536 := by omega
  have e3 : v / 65536 / 256 = v / 16777216 := by omega
  have e4 : v / 16777216 / 256 = v / 4294967296 := by omega
  have e5 : v / 4294967296 / 256 = v / 1099511627776 := by omega
  have l : v / 1099511627776 % 256 = v / 1099511627776 := by omega
  unfold strOfNums leS
  simp only [le, List.map, e2, e3, e4, e5, l]

set_option maxRecDepth 100000 in
theorem put_3 (v : Int) (w : World) (v0 : 0 ≤ v) (v1 : v < 16777216) :
    Calls Tryd.prog 35 #[.int .u64 v, .int .i64 3] w fun e w' => e = .returned (.tuple #[.string (leS v 3), .int .i64 0]) ∧ Below w.heap.size w w' := by
  have hc := fun (c0 c1 c2 c3 c4 c5 c6 c7 : Int) => conv8 c0 c1 c2 c3 c4 c5 c6 c7 w 3 (by decide)
  go_enter Tryd.func35, Tryd.ntmps35
  go_wp2
  go_rounds 4
  go_ret2
  exact ⟨ret_str (str_3 v v0 v1), (Below.refl _ _).alloc (Nat.le_refl _) _⟩

set_option maxRecDepth 100000 in
theorem put_4 (v : Int) (w : World) (v0 : 0 ≤ v) (v1 : v < 4294967296) :
    Calls Tryd.prog 35 #[.int .u64 v, .int .i64 4] w fun e w' => e = .returned (.tuple #[.string (leS v 4), .int .i64 0]) ∧ Below w.heap.size w w' := by
  have hc := fun (c0 c1 c2 c3 c4 c5 c6 c7 : Int) => conv8 c0 c1 c2 c3 c4 c5 c6 c7 w 4 (by decide)
  go_enter Tryd.func35, Tryd.ntmps35
  go_wp2
  go_rounds 5
  go_ret2
  exact ⟨ret_str (str_4 v v0 v1), (Below.refl _ _).alloc (Nat.le_refl _) _⟩

set_option maxRecDepth 100000 in
theorem put_6 (v : Int) (w : World) (v0 : 0 ≤ v) (v1 : v < 281474976710656) :
    Calls Tryd.prog 35 #[.int .u64 v, .int .i64 6] w fun e w' => e = .returned (.tuple #[.string (leS v 6), .int .i64 0]) ∧ Below w.heap.size w w' := by
  have hc := fun (c0 c1 c2 c3 c4 c5 c6 c7 : Int) => conv8 c0 c1 c2 c3 c4 c5 c6 c7 w 6 (by decide)
  go_enter Tryd.func35, Tryd.ntmps35
  go_wp2
  go_rounds 7
  go_ret2
  exact ⟨ret_str (str_6 v v0 v1), (Below.refl _ _).alloc (Nat.le_refl _) _⟩

theorem or_addr (x y : Int) (a : Nat) (ha : a ≤ 64) (hy : y % p2 a = 0) (hy0 : 0 ≤ y) (hy1 : y < p2 64) (hx0 : 0 ≤ x) (hx1 : x < p2 a) : bits .or .u64 x y = x + y := by
  have hle := p2_le ha
  have h := or_add y x a ha hy hy0 hy1 hx0 hx1
  have h64 := p2_64
  obtain ⟨x, rfl⟩ := Int.eq_ofNat_of_zero_le hx0
  obtain ⟨y, rfl⟩ := Int.eq_ofNat_of_zero_le hy0
  rw [bits_or_u64_nat y x (by omega) (by omega)] at h
  rw [bits_or_u64_nat x y (by omega) (by omega), Nat.or_comm, h]; omega
theorem get_step (s : ByteArray) (k : Nat) (h : k < s.size) (hs : k < 8) :
    bits .or .u64 (numTo s k) (IntKind.u64.wrap (IntKind.u64.wrap (s[k].toNat : Int) * p2 (8 * k))) = numTo s (k + 1) := by
  have hb := numTo_bd s k (by omega)
  have hr := byte_room s[k] k hs
  rw [wrap_byte, wrap_lo, lo_all _ 64 hr.2 hr.1, or_addr _ _ (8 * k) (by omega) (Int.mul_emod_left _ _) hr.2 hr.1 hb.1 hb.2, numTo_succ s k h]

theorem get_yes (s : ByteArray) (w : World) (h1 : 1 ≤ s.size) (h2 : s.size ≤ 8) :
    Calls Tryd.prog 50 #[.string s] w fun e w' => e = .returned (.tuple #[.int .u64 (numS s), .int .i64 0]) ∧ w = w' := by
  go_enter Tryd.func50, Tryd.ntmps50
  go_wp2
  go_loop [4, 16] (fun t i => ∃ k : Nat, k ≤ s.size ∧ i = .int .i64 k ∧ t = .int .u64 (numTo s k)) (fun _ i => s.size - (intOf i).toNat)
  case atStart => exact ⟨0, Nat.zero_le _, rfl, by rw [numTo_zero]⟩
  case round =>
    obtain ⟨k, hk, rfl, rfl⟩ := hrel
    by_cases hlt : k < s.size
    · have HG := Lib.hid (get_step s k hlt (by omega))
      go_wp2
      go_round
      case rel => exact ⟨k + 1, by omega, by go_num, by rw [← HG.out]; rfl⟩
      case measure => simp [intOf]; omega
    · obtain rfl : k = s.size := by omega
      go_wp2
      go_ret2
      exact ⟨rfl, rfl⟩

end Go.Proofs.YtidakannaephoaaDoor

/- Package rec, walked: May, Put, Take. -/
namespace Go.Proofs.YtidakannaephoaaDoor
set_option maxRecDepth 100000
open Go.RowKit

/-- the frame while the region PC runs -/
def BasePC (B : Nat) (a : Act) : Prop := ∃ u : Nat → Value, a = ⟨#[u 0, .pointer (some ⟨B, 0, none⟩), u 2, u 3, u 4, u 5, u 6, u 7, u 8, u 9, u 10, u 11, u 12, u 13, u 14, u 15, u 16, u 17], []⟩
theorem BasePC.of {B : Nat} (arr : Array Value) (h : arr = #[arr.getD 0 undef, .pointer (some ⟨B, 0, none⟩), arr.getD 2 undef, arr.getD 3 undef, arr.getD 4 undef, arr.getD 5 undef, arr.getD 6 undef, arr.getD 7 undef, arr.getD 8 undef, arr.getD 9 undef, arr.getD 10 undef, arr.getD 11 undef, arr.getD 12 undef, arr.getD 13 undef, arr.getD 14 undef, arr.getD 15 undef, arr.getD 16 undef, arr.getD 17 undef]) : BasePC B ⟨arr, []⟩ := ⟨fun i => arr.getD i undef, by rw [← h]⟩
theorem BasePC.put7 {B : Nat} (a : Act) (v : Value) (h : BasePC B a) : BasePC B (a.put (some 7) v) := by
  obtain ⟨u, rfl⟩ := h
  exact ⟨fun i => if i = 7 then v else u i, by kernel_rfl⟩
theorem BasePC.put8 {B : Nat} (a : Act) (v : Value) (h : BasePC B a) : BasePC B (a.put (some 8) v) := by
  obtain ⟨u, rfl⟩ := h
  exact ⟨fun i => if i = 8 then v else u i, by kernel_rfl⟩
theorem BasePC.put9 {B : Nat} (a : Act) (v : Value) (h : BasePC B a) : BasePC B (a.put (some 9) v) := by
  obtain ⟨u, rfl⟩ := h
  exact ⟨fun i => if i = 9 then v else u i, by kernel_rfl⟩
theorem BasePC.put10 {B : Nat} (a : Act) (v : Value) (h : BasePC B a) : BasePC B (a.put (some 10) v) := by
  obtain ⟨u, rfl⟩ := h
  exact ⟨fun i => if i = 10 then v else u i, by kernel_rfl⟩
theorem BasePC.put11 {B : Nat} (a : Act) (v : Value) (h : BasePC B a) : BasePC B (a.put (some 11) v) := by
  obtain ⟨u, rfl⟩ := h
  exact ⟨fun i => if i = 11 then v else u i, by kernel_rfl⟩
theorem BasePC.put12 {B : Nat} (a : Act) (v : Value) (h : BasePC B a) : BasePC B (a.put (some 12) v) := by
  obtain ⟨u, rfl⟩ := h
  exact ⟨fun i => if i = 12 then v else u i, by kernel_rfl⟩
theorem BasePC.put13 {B : Nat} (a : Act) (v : Value) (h : BasePC B a) : BasePC B (a.put (some 13) v) := by
  obtain ⟨u, rfl⟩ := h
  exact ⟨fun i => if i = 13 then v else u i, by kernel_rfl⟩
theorem BasePC.put14 {B : Nat} (a : Act) (v : Value) (h : BasePC B a) : BasePC B (a.put (some 14) v) := by
  obtain ⟨u, rfl⟩ := h
  exact ⟨fun i => if i = 14 then v else u i, by kernel_rfl⟩
theorem BasePC.put15 {B : Nat} (a : Act) (v : Value) (h : BasePC B a) : BasePC B (a.put (some 15) v) := by
  obtain ⟨u, rfl⟩ := h
  exact ⟨fun i => if i = 15 then v else u i, by kernel_rfl⟩
theorem BasePC.put16 {B : Nat} (a : Act) (v : Value) (h : BasePC B a) : BasePC B (a.put (some 16) v) := by
  obtain ⟨u, rfl⟩ := h
  exact ⟨fun i => if i = 16 then v else u i, by kernel_rfl⟩
theorem BasePC.put17 {B : Nat} (a : Act) (v : Value) (h : BasePC B a) : BasePC B (a.put (some 17) v) := by
  obtain ⟨u, rfl⟩ := h
  exact ⟨fun i => if i = 17 then v else u i, by kernel_rfl⟩
theorem BasePC.put2 {B : Nat} (a : Act) (v : Value) (h : BasePC B a) : BasePC B (a.put (some 2) v) := by
  obtain ⟨u, rfl⟩ := h
  exact ⟨fun i => if i = 2 then v else u i, by kernel_rfl⟩
theorem BasePC.put3 {B : Nat} (a : Act) (v : Value) (h : BasePC B a) : BasePC B (a.put (some 3) v) := by
  obtain ⟨u, rfl⟩ := h
  exact ⟨fun i => if i = 3 then v else u i, by kernel_rfl⟩
/-- the frame while the region TC runs -/
def BaseTC (s : ByteArray) (B : Nat) (a : Act) : Prop := ∃ u : Nat → Value, a = ⟨#[.string s, u 1, .pointer (some ⟨B, 0, none⟩), u 3, u 4, u 5, u 6, u 7, u 8, u 9, u 10, u 11, u 12, u 13, u 14, u 15, u 16, u 17, u 18, u 19, u 20, u 21, u 22, u 23], []⟩
theorem BaseTC.of {s : ByteArray} {B : Nat} (arr : Array Value) (h : arr = #[.string s, arr.getD 1 undef, .pointer (some ⟨B, 0, none⟩), arr.getD 3 undef, arr.getD 4 undef, arr.getD 5 undef, arr.getD 6 undef, arr.getD 7 undef, arr.getD 8 undef, arr.getD 9 undef, arr.getD 10 undef, arr.getD 11 undef, arr.getD 12 undef, arr.getD 13 undef, arr.getD 14 undef, arr.getD 15 undef, arr.getD 16 undef, arr.getD 17 undef, arr.getD 18 undef, arr.getD 19 undef, arr.getD 20 undef, arr.getD 21 undef, arr.getD 22 undef, arr.getD 23 undef]) : BaseTC s B ⟨arr, []⟩ := ⟨fun i => arr.getD i undef, by rw [← h]⟩
theorem BaseTC.put9 {s : ByteArray} {B : Nat} (a : Act) (v : Value) (h : BaseTC s B a) : BaseTC s B (a.put (some 9) v) := by
  obtain ⟨u, rfl⟩ := h
  exact ⟨fun i => if i = 9 then v else u i, by kernel_rfl⟩
theorem BaseTC.put10 {s : ByteArray} {B : Nat} (a : Act) (v : Value) (h : BaseTC s B a) : BaseTC s B (a.put (some 10) v) := by
  obtain ⟨u, rfl⟩ := h
  exact ⟨fun i => if i = 10 then v else u i, by kernel_rfl⟩
theorem BaseTC.put11 {s : ByteArray} {B : Nat} (a : Act) (v : Value) (h : BaseTC s B a) : BaseTC s B (a.put (some 11) v) := by
  obtain ⟨u, rfl⟩ := h
  exact ⟨fun i => if i = 11 then v else u i, by kernel_rfl⟩
theorem BaseTC.put12 {s : ByteArray} {B : Nat} (a : Act) (v : Value) (h : BaseTC s B a) : BaseTC s B (a.put (some 12) v) := by
  obtain ⟨u, rfl⟩ := h
  exact ⟨fun i => if i = 12 then v else u i, by kernel_rfl⟩
theorem BaseTC.put13 {s : ByteArray} {B : Nat} (a : Act) (v : Value) (h : BaseTC s B a) : BaseTC s B (a.put (some 13) v) := by
  obtain ⟨u, rfl⟩ := h
  exact ⟨fun i => if i = 13 then v else u i, by kernel_rfl⟩
theorem BaseTC.put14 {s : ByteArray} {B : Nat} (a : Act) (v : Value) (h : BaseTC s B a) : BaseTC s B (a.put (some 14) v) := by
  obtain ⟨u, rfl⟩ := h
  exact ⟨fun i => if i = 14 then v else u i, by kernel_rfl⟩
theorem BaseTC.put15 {s : ByteArray} {B : Nat} (a : Act) (v : Value) (h : BaseTC s B a) : BaseTC s B (a.put (some 15) v) := by
  obtain ⟨u, rfl⟩ := h
  exact ⟨fun i => if i = 15 then v else u i, by kernel_rfl⟩
theorem BaseTC.put16 {s : ByteArray} {B : Nat} (a : Act) (v : Value) (h : BaseTC s B a) : BaseTC s B (a.put (some 16) v) := by
  obtain ⟨u, rfl⟩ := h
  exact ⟨fun i => if i = 16 then v else u i, by kernel_rfl⟩
theorem BaseTC.put17 {s : ByteArray} {B : Nat} (a : Act) (v : Value) (h : BaseTC s B a) : BaseTC s B (a.put (some 17) v) := by
  obtain ⟨u, rfl⟩ := h
  exact ⟨fun i => if i = 17 then v else u i, by kernel_rfl⟩
theorem BaseTC.put18 {s : ByteArray} {B : Nat} (a : Act) (v : Value) (h : BaseTC s B a) : BaseTC s B (a.put (some 18) v) := by
  obtain ⟨u, rfl⟩ := h
  exact ⟨fun i => if i = 18 then v else u i, by kernel_rfl⟩
theorem BaseTC.put4 {s : ByteArray} {B : Nat} (a : Act) (v : Value) (h : BaseTC s B a) : BaseTC s B (a.put (some 4) v) := by
  obtain ⟨u, rfl⟩ := h
  exact ⟨fun i => if i = 4 then v else u i, by kernel_rfl⟩

end Go.Proofs.YtidakannaephoaaDoor

/- Package sheet, walked: Hold, and whether a text has noughts alone. -/
namespace Go.Proofs.YtidakannaephoaaDoor
set_option maxRecDepth 100000
open Go.RowKit

/-- a text of noughts alone -/
def Noughts (s : ByteArray) : Prop := ∀ i : Nat, i < s.size → byteT s i = 0
theorem noughts_empty {s : ByteArray} (h : s.size = 0) : Noughts s := fun i hi => absurd hi (by omega)
theorem byteT_ext (s : ByteArray) (a b i : Nat) (hb : b ≤ s.size) (h : a + i < b) : byteT (s.extract a b) i = byteT s (a + i) := by
  have h1 : i < (s.extract a b).size := by rw [ByteArray.size_extract]; omega
  rw [← byteT_get9 _ i h1, ← byteT_get9 s (a + i) (by omega), ByteArray.getElem_extract]
theorem noughts_tail {t : ByteArray} (h : 0 < t.size) (h0 : byteT t 0 = 0) : Noughts (t.extract 1 t.size) ↔ Noughts t := by
  constructor
  · intro hn i hi
    rcases Nat.eq_zero_or_pos i with rfl | h1
    · exact h0
    · have h2 := hn (i - 1) (by rw [ByteArray.size_extract]; omega)
      rw [byteT_ext t 1 t.size (i - 1) (Nat.le_refl _) (by omega)] at h2
      rwa [show 1 + (i - 1) = i by omega] at h2
  · intro hn i hi
    rw [ByteArray.size_extract] at hi
    rw [byteT_ext t 1 t.size i (Nat.le_refl _) (by omega)]
    exact hn _ (by omega)
instance (s : ByteArray) : Decidable (Noughts s) := Nat.decidableBallLT s.size fun i _ => byteT s i = 0

/-- what is left of s, its leading noughts struck -/
def TrimOk (t s : ByteArray) : Prop := t.size = 0 ↔ Noughts s
/-- a text's size, of a value -/
def szB : Value → Nat
  | .string s => s.size
  | _ => 0
theorem text_fullS {q : ByteArray} (h : ¬ q = ByteArray.empty) : q.toList.isEmpty = false := by
  rw [ByteArray.toList_eq]
  cases hq : q.data.toList with
  | nil =>
    exfalso
    apply h
    obtain ⟨d⟩ := q
    simp at hq
    subst hq
    rfl
  | cons => rfl

theorem trim_byte (s : ByteArray) (w : World) (hs : s.size ≤ 1000000) : Calls Tryd.prog 60 #[.string s, .int .u8 0] w fun e w' => (∃ t : ByteArray, e = .returned (.string t) ∧ TrimOk t s) ∧ w = w' := by
  go_enter Tryd.func60, Tryd.ntmps60
  go_wp2_with fail
  go_loopw [0] (fun tv wr => ∃ t : ByteArray, tv = .string t ∧ t.size ≤ s.size ∧ Hid (Noughts t ↔ Noughts s) ∧ wr = w) (fun tv _ => szB tv)
  case atStart => exact ⟨s, rfl, Nat.le_refl _, Iff.rfl, rfl⟩
  case round =>
    obtain ⟨t, rfl, hz, HN, rfl⟩ := hrel
    by_cases h0 : 0 < t.size
    · have hlt0 : (0 : Int) < (t.size : Int) := by omega
      have hb := byteT_get9 t 0 h0
      obtain ⟨c, hc⟩ : ∃ c : Nat, t[0].toNat = c := ⟨_, rfl⟩
      rw [hc] at hb
      have HB := Lib.hid hb
      clear hb
      by_cases hc0 : c = 0
      · subst hc0
        have HT : Hid (Noughts (t.extract 1 t.size) ↔ Noughts s) := (noughts_tail h0 HB.out.symm).trans HN.out
        have HZ : Hid ((t.extract 1 t.size).size ≤ s.size ∧ (t.extract 1 t.size).size < t.size) := by show _ ∧ _; rw [ByteArray.size_extract]; omega
        go_wp2_with fail
        go_roundw
        case rel => exact ⟨_, rfl, HZ.out.1, HT.out, trivial⟩
        case measure => exact HZ.out.2
      · have hcb : ((c : Int) == 0) = false := by simp; omega
        have HF : Hid (TrimOk t s) := ⟨fun h => by omega, fun h => absurd ((HN.out.2 h) 0 h0) (by rw [← HB.out]; omega)⟩
        go_wp2_with fail
        go_ret
        exact ⟨⟨_, rfl, HF.out⟩, rfl⟩
    · have hlt0 : ¬ (0 : Int) < (t.size : Int) := by omega
      have HF : Hid (TrimOk t s) := ⟨fun h => HN.out.1 (noughts_empty h), fun _ => by omega⟩
      go_wp2_with fail
      go_ret
      exact ⟨⟨_, rfl, HF.out⟩, rfl⟩

theorem trim_zero (s : ByteArray) (w : World) (hs : s.size ≤ 1000000) : Calls Tryd.prog 58 #[.string s, .string ⟨#[0]⟩] w fun e w' => (∃ t : ByteArray, e = .returned (.string t) ∧ TrimOk t s) ∧ w = w' := by
  by_cases h0 : s = ByteArray.empty
  · subst h0
    have HT : Hid (TrimOk ByteArray.empty ByteArray.empty) := ⟨fun h => noughts_empty h, fun _ => rfl⟩
    go_enter Tryd.func58, Tryd.ntmps58
    go_wp2_with fail
    go_ret
    exact ⟨⟨_, rfl, HT.out⟩, rfl⟩
  · have hemp := text_fullS h0
    have hh := trim_byte s w hs
    have HH := Lib.hid hh
    clear hh
    go_enter Tryd.func58, Tryd.ntmps58
    go_wp2_with fail
    refine HH.out.mono ?_
    rintro e w1 ⟨⟨t, rfl, ht⟩, rfl⟩
    have HT := Lib.hid ht
    clear ht HH
    go_wp2_with fail
    go_ret
    exact ⟨⟨_, rfl, HT.out⟩, rfl⟩

end Go.Proofs.YtidakannaephoaaDoor
