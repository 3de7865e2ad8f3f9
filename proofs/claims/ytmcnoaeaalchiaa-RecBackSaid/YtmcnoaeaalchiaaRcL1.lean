/- Layer 11, the laws: the chapter's example; RecWrites. -/
import Derived.Test.YtmcnoaeaalchiaaRcR
import Derived.Test.YtmcnoaeaalchiaaRcC
namespace Go.Proofs.Ytmcnoaeaalchiaa
set_option maxRecDepth 100000
open Go.RowKit

theorem ex_rec1 (w : World) : Calls Try.prog 6 #[.agg #[.int .i64 1, .int .i64 258, .int .i64 3]] w fun r w' => r = .returned (.tuple #[.string ⟨#[1, 2, 1, 3, 0, 0, 0, 0, 0]⟩, .int .i64 0]) ∧ Below w.heap.size w w' := by
  have h := rec_put_yes 1 258 3 w (by decide)
  rwa [show recS 1 258 3 = ⟨#[1, 2, 1, 3, 0, 0, 0, 0, 0]⟩ from bytes_eq (by decide +kernel)] at h
theorem ex_rec0 (w : World) : Calls Try.prog 6 #[.agg #[.int .i64 0, .int .i64 0, .int .i64 0]] w fun r w' => r = .returned (.tuple #[.string ByteArray.empty, .int .i64 110]) ∧ Below w.heap.size w w' := rec_put_no 0 0 0 w (by decide)

theorem rec_works (w : World) : Calls Try.prog 12 #[] w fun r w' => r = .returned (.bool true) ∧ Below w.heap.size w w' := by
  go_enter Try.func12, Try.ntmps12
  go_wp2_with fail
  refine (ex_rec1 _).mono ?_
  rintro r w1 ⟨rfl, hb1⟩
  have HB1 := Lib.hid hb1
  clear hb1
  go_wp2_with fail
  refine (ex_rec0 _).mono ?_
  rintro r w2 ⟨rfl, hb2⟩
  have HB2 := Lib.hid (HB1.out.trans (hb2.mono HB1.out.size))
  clear hb2 HB1
  go_wp2_with fail
  go_ret
  exact ⟨ret_bool (by decide +kernel), HB2.out⟩

/-- the world while the last line of RecWrites runs -/
def CRW (B0 b2 b9 b11 : Nat) (k a b k' a' b' : Int) (w0 w : World) : Prop := Blk w b2 (ra k a b) 23 ∧ Blk w b9 (ra k' a' b') 23 ∧ Blk w b11 (ra k' a' b') 23 ∧ Below B0 w0 w ∧ B0 ≤ w.heap.size
theorem CRW.call {B0 b2 b9 b11 : Nat} {k a b k' a' b' : Int} {w0 w w' : World} (h : CRW B0 b2 b9 b11 k a b k' a' b' w0 w) (hb : Below w.heap.size w w') : CRW B0 b2 b9 b11 k a b k' a' b' w0 w' :=
  ⟨h.1.after hb, h.2.1.after hb, h.2.2.1.after hb, h.2.2.2.1.trans (hb.mono h.2.2.2.2), Nat.le_trans h.2.2.2.2 hb.size⟩

/-- what each operation of the region RW leaves -/
def vsRW (k p q k' p' q' : Int) (s : ByteArray) : List (Option (Tmp × Value)) :=
  [some (33, .agg (ra k p q)), some (34, .bool (mayR k p q)), some (35, .agg (ra k p q)), some (36, .bool (mayR k p q)), some (37, .bool true), some (38, .bool true), some (39, .string (putRT k p q)), some (40, .string (putRT k p q)), some (41, .bool true), some (42, .bool true), some (43, .bool true), some (44, .int .i64 (putRE k p q)), some (45, .int .i64 (putRE k p q)), some (46, .bool true), some (47, .bool true), some (48, .bool true), some (49, .agg (ra k' p' q')), some (50, .agg (ra k' p' q')), some (51, .bool true), some (52, .bool true), some (53, .bool true), some (54, .int .i64 (takeE s)), some (55, .int .i64 (takeE s)), some (56, .bool true), some (57, .bool true), some (58, .bool true), some (59, .bool true), some (60, .bool true), some (4, .bool true)]
/-- the frame while the region RW runs -/
def BaseRW (k p q : Int) (s : ByteArray) (b2 b9 b11 : Nat) (a : Act) : Prop := ∃ u : Nat → Value, a = ⟨#[u 0, .string s, .pointer (some ⟨b2, 0, none⟩), u 3, u 4, .string (putRT k p q), .int .i64 (putRE k p q), .string (putRT k p q), .int .i64 (putRE k p q), .pointer (some ⟨b9, 0, none⟩), .int .i64 (takeE s), .pointer (some ⟨b11, 0, none⟩), .int .i64 (takeE s), u 13, u 14, u 15, u 16, u 17, u 18, u 19, u 20, u 21, u 22, u 23, u 24, u 25, u 26, u 27, u 28, u 29, u 30, u 31, u 32, u 33, u 34, u 35, u 36, u 37, u 38, u 39, u 40, u 41, u 42, u 43, u 44, u 45, u 46, u 47, u 48, u 49, u 50, u 51, u 52, u 53, u 54, u 55, u 56, u 57, u 58, u 59, u 60], []⟩
theorem BaseRW.of {k p q : Int} {s : ByteArray} {b2 b9 b11 : Nat} (arr : Array Value) (h : arr = #[arr.getD 0 undef, .string s, .pointer (some ⟨b2, 0, none⟩), arr.getD 3 undef, arr.getD 4 undef, .string (putRT k p q), .int .i64 (putRE k p q), .string (putRT k p q), .int .i64 (putRE k p q), .pointer (some ⟨b9, 0, none⟩), .int .i64 (takeE s), .pointer (some ⟨b11, 0, none⟩), .int .i64 (takeE s), arr.getD 13 undef, arr.getD 14 undef, arr.getD 15 undef, arr.getD 16 undef, arr.getD 17 undef, arr.getD 18 undef, arr.getD 19 undef, arr.getD 20 undef, arr.getD 21 undef, arr.getD 22 undef, arr.getD 23 undef, arr.getD 24 undef, arr.getD 25 undef, arr.getD 26 undef, arr.getD 27 undef, arr.getD 28 undef, arr.getD 29 undef, arr.getD 30 undef, arr.getD 31 undef, arr.getD 32 undef, arr.getD 33 undef, arr.getD 34 undef, arr.getD 35 undef, arr.getD 36 undef, arr.getD 37 undef, arr.getD 38 undef, arr.getD 39 undef, arr.getD 40 undef, arr.getD 41 undef, arr.getD 42 undef, arr.getD 43 undef, arr.getD 44 undef, arr.getD 45 undef, arr.getD 46 undef, arr.getD 47 undef, arr.getD 48 undef, arr.getD 49 undef, arr.getD 50 undef, arr.getD 51 undef, arr.getD 52 undef, arr.getD 53 undef, arr.getD 54 undef, arr.getD 55 undef, arr.getD 56 undef, arr.getD 57 undef, arr.getD 58 undef, arr.getD 59 undef, arr.getD 60 undef]) : BaseRW k p q s b2 b9 b11 ⟨arr, []⟩ := ⟨fun i => arr.getD i undef, by rw [← h]⟩
theorem BaseRW.put33 {k p q : Int} {s : ByteArray} {b2 b9 b11 : Nat} (a : Act) (v : Value) (h : BaseRW k p q s b2 b9 b11 a) : BaseRW k p q s b2 b9 b11 (a.put (some 33) v) := by
  obtain ⟨u, rfl⟩ := h
  exact ⟨fun i => if i = 33 then v else u i, by kernel_rfl⟩
theorem BaseRW.put34 {k p q : Int} {s : ByteArray} {b2 b9 b11 : Nat} (a : Act) (v : Value) (h : BaseRW k p q s b2 b9 b11 a) : BaseRW k p q s b2 b9 b11 (a.put (some 34) v) := by
  obtain ⟨u, rfl⟩ := h
  exact ⟨fun i => if i = 34 then v else u i, by kernel_rfl⟩
theorem BaseRW.put35 {k p q : Int} {s : ByteArray} {b2 b9 b11 : Nat} (a : Act) (v : Value) (h : BaseRW k p q s b2 b9 b11 a) : BaseRW k p q s b2 b9 b11 (a.put (some 35) v) := by
  obtain ⟨u, rfl⟩ := h
  exact ⟨fun i => if i = 35 then v else u i, by kernel_rfl⟩
theorem BaseRW.put36 {k p q : Int} {s : ByteArray} {b2 b9 b11 : Nat} (a : Act) (v : Value) (h : BaseRW k p q s b2 b9 b11 a) : BaseRW k p q s b2 b9 b11 (a.put (some 36) v) := by
  obtain ⟨u, rfl⟩ := h
  exact ⟨fun i => if i = 36 then v else u i, by kernel_rfl⟩
theorem BaseRW.put37 {k p q : Int} {s : ByteArray} {b2 b9 b11 : Nat} (a : Act) (v : Value) (h : BaseRW k p q s b2 b9 b11 a) : BaseRW k p q s b2 b9 b11 (a.put (some 37) v) := by
  obtain ⟨u, rfl⟩ := h
  exact ⟨fun i => if i = 37 then v else u i, by kernel_rfl⟩
theorem BaseRW.put38 {k p q : Int} {s : ByteArray} {b2 b9 b11 : Nat} (a : Act) (v : Value) (h : BaseRW k p q s b2 b9 b11 a) : BaseRW k p q s b2 b9 b11 (a.put (some 38) v) := by
  obtain ⟨u, rfl⟩ := h
  exact ⟨fun i => if i = 38 then v else u i, by kernel_rfl⟩
theorem BaseRW.put39 {k p q : Int} {s : ByteArray} {b2 b9 b11 : Nat} (a : Act) (v : Value) (h : BaseRW k p q s b2 b9 b11 a) : BaseRW k p q s b2 b9 b11 (a.put (some 39) v) := by
  obtain ⟨u, rfl⟩ := h
  exact ⟨fun i => if i = 39 then v else u i, by kernel_rfl⟩
theorem BaseRW.put40 {k p q : Int} {s : ByteArray} {b2 b9 b11 : Nat} (a : Act) (v : Value) (h : BaseRW k p q s b2 b9 b11 a) : BaseRW k p q s b2 b9 b11 (a.put (some 40) v) := by
  obtain ⟨u, rfl⟩ := h
  exact ⟨fun i => if i = 40 then v else u i, by kernel_rfl⟩
theorem BaseRW.put41 {k p q : Int} {s : ByteArray} {b2 b9 b11 : Nat} (a : Act) (v : Value) (h : BaseRW k p q s b2 b9 b11 a) : BaseRW k p q s b2 b9 b11 (a.put (some 41) v) := by
  obtain ⟨u, rfl⟩ := h
  exact ⟨fun i => if i = 41 then v else u i, by kernel_rfl⟩
theorem BaseRW.put42 {k p q : Int} {s : ByteArray} {b2 b9 b11 : Nat} (a : Act) (v : Value) (h : BaseRW k p q s b2 b9 b11 a) : BaseRW k p q s b2 b9 b11 (a.put (some 42) v) := by
  obtain ⟨u, rfl⟩ := h
  exact ⟨fun i => if i = 42 then v else u i, by kernel_rfl⟩
theorem BaseRW.put43 {k p q : Int} {s : ByteArray} {b2 b9 b11 : Nat} (a : Act) (v : Value) (h : BaseRW k p q s b2 b9 b11 a) : BaseRW k p q s b2 b9 b11 (a.put (some 43) v) := by
  obtain ⟨u, rfl⟩ := h
  exact ⟨fun i => if i = 43 then v else u i, by kernel_rfl⟩
theorem BaseRW.put44 {k p q : Int} {s : ByteArray} {b2 b9 b11 : Nat} (a : Act) (v : Value) (h : BaseRW k p q s b2 b9 b11 a) : BaseRW k p q s b2 b9 b11 (a.put (some 44) v) := by
  obtain ⟨u, rfl⟩ := h
  exact ⟨fun i => if i = 44 then v else u i, by kernel_rfl⟩
theorem BaseRW.put45 {k p q : Int} {s : ByteArray} {b2 b9 b11 : Nat} (a : Act) (v : Value) (h : BaseRW k p q s b2 b9 b11 a) : BaseRW k p q s b2 b9 b11 (a.put (some 45) v) := by
  obtain ⟨u, rfl⟩ := h
  exact ⟨fun i => if i = 45 then v else u i, by kernel_rfl⟩
theorem BaseRW.put46 {k p q : Int} {s : ByteArray} {b2 b9 b11 : Nat} (a : Act) (v : Value) (h : BaseRW k p q s b2 b9 b11 a) : BaseRW k p q s b2 b9 b11 (a.put (some 46) v) := by
  obtain ⟨u, rfl⟩ := h
  exact ⟨fun i => if i = 46 then v else u i, by kernel_rfl⟩
theorem BaseRW.put47 {k p q : Int} {s : ByteArray} {b2 b9 b11 : Nat} (a : Act) (v : Value) (h : BaseRW k p q s b2 b9 b11 a) : BaseRW k p q s b2 b9 b11 (a.put (some 47) v) := by
  obtain ⟨u, rfl⟩ := h
  exact ⟨fun i => if i = 47 then v else u i, by kernel_rfl⟩
theorem BaseRW.put48 {k p q : Int} {s : ByteArray} {b2 b9 b11 : Nat} (a : Act) (v : Value) (h : BaseRW k p q s b2 b9 b11 a) : BaseRW k p q s b2 b9 b11 (a.put (some 48) v) := by
  obtain ⟨u, rfl⟩ := h
  exact ⟨fun i => if i = 48 then v else u i, by kernel_rfl⟩
theorem BaseRW.put49 {k p q : Int} {s : ByteArray} {b2 b9 b11 : Nat} (a : Act) (v : Value) (h : BaseRW k p q s b2 b9 b11 a) : BaseRW k p q s b2 b9 b11 (a.put (some 49) v) := by
  obtain ⟨u, rfl⟩ := h
  exact ⟨fun i => if i = 49 then v else u i, by kernel_rfl⟩
theorem BaseRW.put50 {k p q : Int} {s : ByteArray} {b2 b9 b11 : Nat} (a : Act) (v : Value) (h : BaseRW k p q s b2 b9 b11 a) : BaseRW k p q s b2 b9 b11 (a.put (some 50) v) := by
  obtain ⟨u, rfl⟩ := h
  exact ⟨fun i => if i = 50 then v else u i, by kernel_rfl⟩
theorem BaseRW.put51 {k p q : Int} {s : ByteArray} {b2 b9 b11 : Nat} (a : Act) (v : Value) (h : BaseRW k p q s b2 b9 b11 a) : BaseRW k p q s b2 b9 b11 (a.put (some 51) v) := by
  obtain ⟨u, rfl⟩ := h
  exact ⟨fun i => if i = 51 then v else u i, by kernel_rfl⟩
theorem BaseRW.put52 {k p q : Int} {s : ByteArray} {b2 b9 b11 : Nat} (a : Act) (v : Value) (h : BaseRW k p q s b2 b9 b11 a) : BaseRW k p q s b2 b9 b11 (a.put (some 52) v) := by
  obtain ⟨u, rfl⟩ := h
  exact ⟨fun i => if i = 52 then v else u i, by kernel_rfl⟩
theorem BaseRW.put53 {k p q : Int} {s : ByteArray} {b2 b9 b11 : Nat} (a : Act) (v : Value) (h : BaseRW k p q s b2 b9 b11 a) : BaseRW k p q s b2 b9 b11 (a.put (some 53) v) := by
  obtain ⟨u, rfl⟩ := h
  exact ⟨fun i => if i = 53 then v else u i, by kernel_rfl⟩
theorem BaseRW.put54 {k p q : Int} {s : ByteArray} {b2 b9 b11 : Nat} (a : Act) (v : Value) (h : BaseRW k p q s b2 b9 b11 a) : BaseRW k p q s b2 b9 b11 (a.put (some 54) v) := by
  obtain ⟨u, rfl⟩ := h
  exact ⟨fun i => if i = 54 then v else u i, by kernel_rfl⟩
theorem BaseRW.put55 {k p q : Int} {s : ByteArray} {b2 b9 b11 : Nat} (a : Act) (v : Value) (h : BaseRW k p q s b2 b9 b11 a) : BaseRW k p q s b2 b9 b11 (a.put (some 55) v) := by
  obtain ⟨u, rfl⟩ := h
  exact ⟨fun i => if i = 55 then v else u i, by kernel_rfl⟩
theorem BaseRW.put56 {k p q : Int} {s : ByteArray} {b2 b9 b11 : Nat} (a : Act) (v : Value) (h : BaseRW k p q s b2 b9 b11 a) : BaseRW k p q s b2 b9 b11 (a.put (some 56) v) := by
  obtain ⟨u, rfl⟩ := h
  exact ⟨fun i => if i = 56 then v else u i, by kernel_rfl⟩
theorem BaseRW.put57 {k p q : Int} {s : ByteArray} {b2 b9 b11 : Nat} (a : Act) (v : Value) (h : BaseRW k p q s b2 b9 b11 a) : BaseRW k p q s b2 b9 b11 (a.put (some 57) v) := by
  obtain ⟨u, rfl⟩ := h
  exact ⟨fun i => if i = 57 then v else u i, by kernel_rfl⟩
theorem BaseRW.put58 {k p q : Int} {s : ByteArray} {b2 b9 b11 : Nat} (a : Act) (v : Value) (h : BaseRW k p q s b2 b9 b11 a) : BaseRW k p q s b2 b9 b11 (a.put (some 58) v) := by
  obtain ⟨u, rfl⟩ := h
  exact ⟨fun i => if i = 58 then v else u i, by kernel_rfl⟩
theorem BaseRW.put59 {k p q : Int} {s : ByteArray} {b2 b9 b11 : Nat} (a : Act) (v : Value) (h : BaseRW k p q s b2 b9 b11 a) : BaseRW k p q s b2 b9 b11 (a.put (some 59) v) := by
  obtain ⟨u, rfl⟩ := h
  exact ⟨fun i => if i = 59 then v else u i, by kernel_rfl⟩
theorem BaseRW.put60 {k p q : Int} {s : ByteArray} {b2 b9 b11 : Nat} (a : Act) (v : Value) (h : BaseRW k p q s b2 b9 b11 a) : BaseRW k p q s b2 b9 b11 (a.put (some 60) v) := by
  obtain ⟨u, rfl⟩ := h
  exact ⟨fun i => if i = 60 then v else u i, by kernel_rfl⟩
theorem BaseRW.put4 {k p q : Int} {s : ByteArray} {b2 b9 b11 : Nat} (a : Act) (v : Value) (h : BaseRW k p q s b2 b9 b11 a) : BaseRW k p q s b2 b9 b11 (a.put (some 4) v) := by
  obtain ⟨u, rfl⟩ := h
  exact ⟨fun i => if i = 4 then v else u i, by kernel_rfl⟩

set_option maxHeartbeats 2000000 in
theorem walk_RecWrites (k p q : Int) (s : ByteArray) (hs : s.size ≤ maxLen) (w : World) :
    Calls Try.prog 3 #[.agg (ra k p q), .string s] w fun r w' => r = .returned (.bool true) ∧ Below w.heap.size w w' := by
  obtain ⟨k', p', q', hd⟩ := takeA_ra s
  have HD := Lib.hid hd
  clear hd
  have HS := Lib.hid hs
  clear hs
  go_enter Try.func3, Try.ntmps3
  go_wp2_with (refine wpList_load_row rfl 23 (.tmp 2) rfl w.heap.size rfl 23 (ra k p q) (0, 0) _ (Blk.new w (ra k p q) 23) Try.underlying23 rfl size_rec ?_)
  refine (rec_put k p q _).mono ?_
  rintro r w1 ⟨rfl, hb1⟩
  have HK1 := Lib.hid ((Blk.new w (ra k p q) 23).after hb1)
  have HB1 := Lib.hid (((Below.refl _ _).alloc (Nat.le_refl _) _).trans (hb1.mono (by simp)))
  clear hb1
  go_wp2_with (refine wpList_load_row rfl 23 (.tmp 2) rfl w.heap.size rfl 23 (ra k p q) (0, 0) _ HK1.out Try.underlying23 rfl size_rec ?_)
  refine (rrec_put k p q _).mono ?_
  rintro r w2 ⟨rfl, hb2⟩
  have HK2 := Lib.hid (HK1.out.after hb2)
  have HB2 := Lib.hid (HB1.out.trans (hb2.mono HB1.out.size))
  clear hb2 HK1 HB1
  go_wp2_with fail
  refine (rec_take s _ HS.out).mono ?_
  rintro r w3 ⟨rfl, hb3⟩
  rw [HD.out]
  have HK3 := Lib.hid (HK2.out.after hb3)
  have HB3 := Lib.hid (HB2.out.trans (hb3.mono HB2.out.size))
  clear hb3 HK2 HB2
  go_wp2_with (refine wpList_store_row rfl 23 (.tmp 9) (.tmp 26) rfl w3.heap.size (ra k' p' q') rfl rfl 23 (ra 0 0 0) (Blk.new w3 (ra 0 0 0) 23) size_rec rfl (ra_one _ _ _) ?_)
  refine (rrec_take s _ HS.out).mono ?_
  rintro r w4 ⟨rfl, hb4⟩
  rw [HD.out]
  have HK4 := Lib.hid (((HK3.out.alloc (.cells (ra 0 0 0) 23)).put_other (Nat.ne_of_gt HK3.out.lt) (ra k' p' q')).after hb4)
  have H9 := Lib.hid (((Blk.new w3 (ra 0 0 0) 23).put (ra k' p' q')).after hb4)
  have HB4 : Hid (Below w.heap.size w w4) := (below_put (Nat.le_of_lt HK3.out.lt) _ (HB3.out.alloc (Nat.le_of_lt HK3.out.lt) _)).trans (hb4.mono (by rw [size_setRow]; simp; have := HK3.out.lt; omega))
  clear hb4 HK3 HB3
  go_wp2_with (refine wpList_store_row rfl 23 (.tmp 11) (.tmp 31) rfl w4.heap.size (ra k' p' q') rfl rfl 23 (ra 0 0 0) (Blk.new w4 (ra 0 0 0) 23) size_rec rfl (ra_one _ _ _) ?_)
  have hC : CRW w.heap.size w.heap.size w3.heap.size w4.heap.size k p q k' p' q' w ((w4.alloc (.cells (ra 0 0 0) 23)).setRow w4.heap.size (ra k' p' q')) :=
    ⟨(HK4.out.alloc _).put_other (Nat.ne_of_gt HK4.out.lt) _, (H9.out.alloc _).put_other (Nat.ne_of_gt H9.out.lt) _, (Blk.new w4 (ra 0 0 0) 23).put _, below_put (Nat.le_of_lt HK4.out.lt) _ (HB4.out.alloc (Nat.le_of_lt HK4.out.lt) _), by rw [size_setRow]; simp; have := HK4.out.lt; omega⟩
  have HCC := Lib.hid hC
  clear hC HK4 H9 HB4
  rename_i K0 hK0
  refine wp_region_list3 (SV (vsRW k p q k' p' q' s) []) (BaseRW k p q s w.heap.size w3.heap.size w4.heap.size) (CRW w.heap.size w.heap.size w3.heap.size w4.heap.size k p q k' p' q' w) (Goes) (RV (vsRW k p q k' p' q' s) (fun _ _ _ => False)) rfl (by kernel_rfl) (RV.ext no_specialR) ?_ (HCC.out.call (Below.refl _ _).drew) (BaseRW.of _ (by kernel_rfl)) ?_ ?_
  · exact ⟨BaseRW.put33, BaseRW.put34, BaseRW.put35, BaseRW.put36, BaseRW.put37, BaseRW.put38, BaseRW.put39, BaseRW.put40, BaseRW.put41, BaseRW.put42, BaseRW.put43, BaseRW.put44, BaseRW.put45, BaseRW.put46, BaseRW.put47, BaseRW.put48, BaseRW.put49, BaseRW.put50, BaseRW.put51, BaseRW.put52, BaseRW.put53, BaseRW.put54, BaseRW.put55, BaseRW.put56, BaseRW.put57, BaseRW.put58, BaseRW.put59, BaseRW.put60, BaseRW.put4, trivial⟩
  · refine ⟨?_, ?_, ?_, ?_, ?_, ?_, ?_, ?_, ?_, ?_, ?_, ?_, ?_, ?_, ?_, ?_, ?_, ?_, ?_, ?_, ?_, ?_, ?_, ?_, ?_, ?_, ?_, ?_, ?_, trivial⟩
    all_goals
      intro a w' hC hB hR
      obtain ⟨u, rfl⟩ := hB
      have HC := Lib.hid hC
      clear hC
      clear hK0
    · clear hR
      refine if_yes (by kernel_rfl) ?_
      exact wp_load_row 23 (.tmp 2) rfl _ rfl 23 _ (0, 0) _ HC.out.1 Try.underlying23 rfl size_rec ⟨.agg (ra k p q), rfl, HC.out, Below.refl _ _, rfl⟩
    · have h33 : u 33 = .agg (ra k p q) := hR ⟨0, .data⟩ (by simp) rfl
      clear hR
      simp only [h33]
      clear h33
      refine if_yes (by kernel_rfl) ?_
      unfold Oper.wp
      go_simp
      refine (rec_may k p q _).mono ?_
      rintro r w2 ⟨rfl, hb2⟩
      exact ⟨.bool (mayR k p q), rfl, HC.out.call hb2, hb2, rfl⟩
    · clear hR
      refine if_yes (by kernel_rfl) ?_
      exact wp_load_row 23 (.tmp 2) rfl _ rfl 23 _ (0, 0) _ HC.out.1 Try.underlying23 rfl size_rec ⟨.agg (ra k p q), rfl, HC.out, Below.refl _ _, rfl⟩
    · have h35 : u 35 = .agg (ra k p q) := hR ⟨2, .data⟩ (by simp) rfl
      clear hR
      simp only [h35]
      clear h35
      refine if_yes (by kernel_rfl) ?_
      unfold Oper.wp
      go_simp
      refine (rrec_may k p q _).mono ?_
      rintro r w2 ⟨rfl, hb2⟩
      exact ⟨.bool (mayR k p q), rfl, HC.out.call hb2, hb2, rfl⟩
    · have h34 : u 34 = .bool (mayR k p q) := hR ⟨1, .data⟩ (by simp) rfl
      have h36 : u 36 = .bool (mayR k p q) := hR ⟨3, .data⟩ (by simp) rfl
      clear hR
      simp only [h34, h36]
      clear h34 h36
      refine if_yes (by kernel_rfl) ?_
      unfold Oper.wp
      go_simp
      exact ⟨.bool true, rfl, HC.out, Below.refl _ _, rfl⟩
    · have h37 : u 37 = .bool true := hR ⟨4, .data⟩ (by simp) rfl
      clear hR
      simp only [h37]
      clear h37
      refine if_yes (by kernel_rfl) ?_
      unfold Oper.wp
      go_simp
      exact ⟨.bool true, rfl, HC.out, Below.refl _ _, rfl⟩
    · have g38 : u 38 = .bool true := hR ⟨5, .guard⟩ (by simp) rfl
      clear hR
      simp only [g38]
      clear g38
      refine if_yes (by kernel_rfl) ?_
      unfold Oper.wp
      go_simp
      exact ⟨.string (putRT k p q), rfl, HC.out, Below.refl _ _, rfl⟩
    · have g38 : u 38 = .bool true := hR ⟨5, .guard⟩ (by simp) rfl
      clear hR
      simp only [g38]
      clear g38
      refine if_yes (by kernel_rfl) ?_
      unfold Oper.wp
      go_simp
      exact ⟨.string (putRT k p q), rfl, HC.out, Below.refl _ _, rfl⟩
    · have g38 : u 38 = .bool true := hR ⟨5, .guard⟩ (by simp) rfl
      have h39 : u 39 = .string (putRT k p q) := hR ⟨6, .data⟩ (by simp) rfl
      have h40 : u 40 = .string (putRT k p q) := hR ⟨7, .data⟩ (by simp) rfl
      clear hR
      simp only [g38, h39, h40]
      clear g38 h39 h40
      refine if_yes (by kernel_rfl) ?_
      unfold Oper.wp
      go_simp
      exact ⟨.bool true, rfl, HC.out, Below.refl _ _, rfl⟩
    · have h38 : u 38 = .bool true := hR ⟨5, .data⟩ (by simp) rfl
      have h41 : u 41 = .bool true := hR ⟨8, .data⟩ (by simp) rfl
      clear hR
      simp only [h38, h41]
      clear h38 h41
      refine if_yes (by kernel_rfl) ?_
      unfold Oper.wp
      go_simp
      exact ⟨.bool true, rfl, HC.out, Below.refl _ _, rfl⟩
    · have h42 : u 42 = .bool true := hR ⟨9, .data⟩ (by simp) rfl
      clear hR
      simp only [h42]
      clear h42
      refine if_yes (by kernel_rfl) ?_
      unfold Oper.wp
      go_simp
      exact ⟨.bool true, rfl, HC.out, Below.refl _ _, rfl⟩
    · have g43 : u 43 = .bool true := hR ⟨10, .guard⟩ (by simp) rfl
      clear hR
      simp only [g43]
      clear g43
      refine if_yes (by kernel_rfl) ?_
      unfold Oper.wp
      go_simp
      exact ⟨.int .i64 (putRE k p q), rfl, HC.out, Below.refl _ _, rfl⟩
    · have g43 : u 43 = .bool true := hR ⟨10, .guard⟩ (by simp) rfl
      clear hR
      simp only [g43]
      clear g43
      refine if_yes (by kernel_rfl) ?_
      unfold Oper.wp
      go_simp
      exact ⟨.int .i64 (putRE k p q), rfl, HC.out, Below.refl _ _, rfl⟩
    · have g43 : u 43 = .bool true := hR ⟨10, .guard⟩ (by simp) rfl
      have h44 : u 44 = .int .i64 (putRE k p q) := hR ⟨11, .data⟩ (by simp) rfl
      have h45 : u 45 = .int .i64 (putRE k p q) := hR ⟨12, .data⟩ (by simp) rfl
      clear hR
      simp only [g43, h44, h45]
      clear g43 h44 h45
      refine if_yes (by kernel_rfl) ?_
      unfold Oper.wp
      go_simp
      exact ⟨.bool true, rfl, HC.out, Below.refl _ _, rfl⟩
    · have h43 : u 43 = .bool true := hR ⟨10, .data⟩ (by simp) rfl
      have h46 : u 46 = .bool true := hR ⟨13, .data⟩ (by simp) rfl
      clear hR
      simp only [h43, h46]
      clear h43 h46
      refine if_yes (by kernel_rfl) ?_
      unfold Oper.wp
      go_simp
      exact ⟨.bool true, rfl, HC.out, Below.refl _ _, rfl⟩
    · have h47 : u 47 = .bool true := hR ⟨14, .data⟩ (by simp) rfl
      clear hR
      simp only [h47]
      clear h47
      refine if_yes (by kernel_rfl) ?_
      unfold Oper.wp
      go_simp
      exact ⟨.bool true, rfl, HC.out, Below.refl _ _, rfl⟩
    · have g48 : u 48 = .bool true := hR ⟨15, .guard⟩ (by simp) rfl
      clear hR
      simp only [g48]
      clear g48
      refine if_yes (by kernel_rfl) ?_
      exact wp_load_row 23 (.tmp 9) rfl _ rfl 23 _ (0, 0) _ HC.out.2.1 Try.underlying23 rfl size_rec ⟨.agg (ra k' p' q'), rfl, HC.out, Below.refl _ _, rfl⟩
    · have g48 : u 48 = .bool true := hR ⟨15, .guard⟩ (by simp) rfl
      clear hR
      simp only [g48]
      clear g48
      refine if_yes (by kernel_rfl) ?_
      exact wp_load_row 23 (.tmp 11) rfl _ rfl 23 _ (0, 0) _ HC.out.2.2.1 Try.underlying23 rfl size_rec ⟨.agg (ra k' p' q'), rfl, HC.out, Below.refl _ _, rfl⟩
    · have g48 : u 48 = .bool true := hR ⟨15, .guard⟩ (by simp) rfl
      have h49 : u 49 = .agg (ra k' p' q') := hR ⟨16, .data⟩ (by simp) rfl
      have h50 : u 50 = .agg (ra k' p' q') := hR ⟨17, .data⟩ (by simp) rfl
      clear hR
      simp only [g48, h49, h50]
      clear g48 h49 h50
      refine if_yes (by kernel_rfl) ?_
      refine wp_eql_rec (.tmp 49) (.tmp 50) rfl k' p' q' k' p' q' rfl rfl ?_
      rw [sameR_self]
      exact ⟨.bool true, rfl, HC.out, Below.refl _ _, rfl⟩
    · have h48 : u 48 = .bool true := hR ⟨15, .data⟩ (by simp) rfl
      have h51 : u 51 = .bool true := hR ⟨18, .data⟩ (by simp) rfl
      clear hR
      simp only [h48, h51]
      clear h48 h51
      refine if_yes (by kernel_rfl) ?_
      unfold Oper.wp
      go_simp
      exact ⟨.bool true, rfl, HC.out, Below.refl _ _, rfl⟩
    · have h52 : u 52 = .bool true := hR ⟨19, .data⟩ (by simp) rfl
      clear hR
      simp only [h52]
      clear h52
      refine if_yes (by kernel_rfl) ?_
      unfold Oper.wp
      go_simp
      exact ⟨.bool true, rfl, HC.out, Below.refl _ _, rfl⟩
    · have g53 : u 53 = .bool true := hR ⟨20, .guard⟩ (by simp) rfl
      clear hR
      simp only [g53]
      clear g53
      refine if_yes (by kernel_rfl) ?_
      unfold Oper.wp
      go_simp
      exact ⟨.int .i64 (takeE s), rfl, HC.out, Below.refl _ _, rfl⟩
    · have g53 : u 53 = .bool true := hR ⟨20, .guard⟩ (by simp) rfl
      clear hR
      simp only [g53]
      clear g53
      refine if_yes (by kernel_rfl) ?_
      unfold Oper.wp
      go_simp
      exact ⟨.int .i64 (takeE s), rfl, HC.out, Below.refl _ _, rfl⟩
    · have g53 : u 53 = .bool true := hR ⟨20, .guard⟩ (by simp) rfl
      have h54 : u 54 = .int .i64 (takeE s) := hR ⟨21, .data⟩ (by simp) rfl
      have h55 : u 55 = .int .i64 (takeE s) := hR ⟨22, .data⟩ (by simp) rfl
      clear hR
      simp only [g53, h54, h55]
      clear g53 h54 h55
      refine if_yes (by kernel_rfl) ?_
      unfold Oper.wp
      go_simp
      exact ⟨.bool true, rfl, HC.out, Below.refl _ _, rfl⟩
    · have h53 : u 53 = .bool true := hR ⟨20, .data⟩ (by simp) rfl
      have h56 : u 56 = .bool true := hR ⟨23, .data⟩ (by simp) rfl
      clear hR
      simp only [h53, h56]
      clear h53 h56
      refine if_yes (by kernel_rfl) ?_
      unfold Oper.wp
      go_simp
      exact ⟨.bool true, rfl, HC.out, Below.refl _ _, rfl⟩
    · have h57 : u 57 = .bool true := hR ⟨24, .data⟩ (by simp) rfl
      clear hR
      simp only [h57]
      clear h57
      refine if_yes (by kernel_rfl) ?_
      unfold Oper.wp
      go_simp
      exact ⟨.bool true, rfl, HC.out, Below.refl _ _, rfl⟩
    · have g58 : u 58 = .bool true := hR ⟨25, .guard⟩ (by simp) rfl
      clear hR
      simp only [g58]
      clear g58
      refine if_yes (by kernel_rfl) ?_
      unfold Oper.wp
      go_simp
      refine (rec_works _).mono ?_
      rintro r w2 ⟨rfl, hb2⟩
      exact ⟨.bool true, rfl, HC.out.call hb2, hb2, rfl⟩
    · have h58 : u 58 = .bool true := hR ⟨25, .data⟩ (by simp) rfl
      have h59 : u 59 = .bool true := hR ⟨26, .data⟩ (by simp) rfl
      clear hR
      simp only [h58, h59]
      clear h58 h59
      refine if_yes (by kernel_rfl) ?_
      unfold Oper.wp
      go_simp
      exact ⟨.bool true, rfl, HC.out, Below.refl _ _, rfl⟩
    · have h60 : u 60 = .bool true := hR ⟨27, .data⟩ (by simp) rfl
      clear hR
      simp only [h60]
      clear h60
      refine if_yes (by kernel_rfl) ?_
      unfold Oper.wp
      go_simp
      exact ⟨.bool true, rfl, HC.out, Below.refl _ _, rfl⟩
  · intro A w' hC hB hR
    have h4 : A.tmps.getD 4 undef = .bool true := hR 28 (by decide)
    clear hR
    have HB5 := Lib.hid hC.2.2.2.1
    clear hC
    obtain ⟨u, rfl⟩ := hB
    have h4 : u 4 = .bool true := h4
    simp only [h4]
    clear h4
    go_wp2_with fail
    go_ret
    exact ⟨rfl, HB5.out⟩

end Go.Proofs.Ytmcnoaeaalchiaa
