/- The reference of layer 11, walked: May, Put, Take. -/
import Derived.Test.YtklbmlnghindjaaDoorRcM
import Derived.Test.YtklbmlnghindjaaDoorTagR
import Derived.Test.YtklbmlnghindjaaDoorBs
namespace Go.Proofs.YtklbmlnghindjaaDoor
set_option maxRecDepth 100000
open Go.RowKit

theorem rrec_may (k a b : Int) (w : World) : Calls Tryd.prog 27 #[.agg (ra k a b)] w (MayP k a b w) := by
  unfold MayP ra
  go_enter Tryd.func27, Tryd.ntmps27
  go_wp2
  all_goals go_ret
  all_goals refine ⟨ret_bool ?_, (Below.refl _ _).alloc (Nat.le_refl _) _⟩
  all_goals rw [Bool.eq_iff_iff, mayR_iff]; unfold MayR
  all_goals simp only [beq_iff_eq, beq_eq_false_iff_ne, ne_eq, decide_eq_true_eq, true_iff, false_iff, Bool.false_eq_true] at *
  all_goals first | omega | (simp only [true_and]; omega)

/-- what each operation of the region PR leaves -/
def vsPR (B : Nat) (k a b : Int) : List (Option (Tmp × Value)) :=
  [some (7, .pointer (some ⟨B, 0, none⟩)), some (8, .int .i64 k), some (9, .string (leS k 1)), some (10, .pointer (some ⟨B, 1, none⟩)), some (11, .int .i64 a), some (12, .string (leS a 2)), some (13, .string (leS k 1 ++ leS a 2)), some (14, .pointer (some ⟨B, 2, none⟩)), some (15, .int .i64 b), some (16, .string (leS b 6)), some (17, .string ((leS k 1 ++ leS a 2) ++ leS b 6)), some (2, .string ((leS k 1 ++ leS a 2) ++ leS b 6)), some (3, .int .i64 0)]
/-- the frame while the region PR runs -/
def BasePR (B : Nat) (a : Act) : Prop := ∃ u : Nat → Value, a = ⟨#[u 0, .pointer (some ⟨B, 0, none⟩), u 2, u 3, u 4, u 5, u 6, u 7, u 8, u 9, u 10, u 11, u 12, u 13, u 14, u 15, u 16, u 17], []⟩
theorem BasePR.of {B : Nat} (arr : Array Value) (h : arr = #[arr.getD 0 undef, .pointer (some ⟨B, 0, none⟩), arr.getD 2 undef, arr.getD 3 undef, arr.getD 4 undef, arr.getD 5 undef, arr.getD 6 undef, arr.getD 7 undef, arr.getD 8 undef, arr.getD 9 undef, arr.getD 10 undef, arr.getD 11 undef, arr.getD 12 undef, arr.getD 13 undef, arr.getD 14 undef, arr.getD 15 undef, arr.getD 16 undef, arr.getD 17 undef]) : BasePR B ⟨arr, []⟩ := ⟨fun i => arr.getD i undef, by rw [← h]⟩
theorem BasePR.put7 {B : Nat} (a : Act) (v : Value) (h : BasePR B a) : BasePR B (a.put (some 7) v) := by
  obtain ⟨u, rfl⟩ := h
  exact ⟨fun i => if i = 7 then v else u i, by kernel_rfl⟩
theorem BasePR.put8 {B : Nat} (a : Act) (v : Value) (h : BasePR B a) : BasePR B (a.put (some 8) v) := by
  obtain ⟨u, rfl⟩ := h
  exact ⟨fun i => if i = 8 then v else u i, by kernel_rfl⟩
theorem BasePR.put9 {B : Nat} (a : Act) (v : Value) (h : BasePR B a) : BasePR B (a.put (some 9) v) := by
  obtain ⟨u, rfl⟩ := h
  exact ⟨fun i => if i = 9 then v else u i, by kernel_rfl⟩
theorem BasePR.put10 {B : Nat} (a : Act) (v : Value) (h : BasePR B a) : BasePR B (a.put (some 10) v) := by
  obtain ⟨u, rfl⟩ := h
  exact ⟨fun i => if i = 10 then v else u i, by kernel_rfl⟩
theorem BasePR.put11 {B : Nat} (a : Act) (v : Value) (h : BasePR B a) : BasePR B (a.put (some 11) v) := by
  obtain ⟨u, rfl⟩ := h
  exact ⟨fun i => if i = 11 then v else u i, by kernel_rfl⟩
theorem BasePR.put12 {B : Nat} (a : Act) (v : Value) (h : BasePR B a) : BasePR B (a.put (some 12) v) := by
  obtain ⟨u, rfl⟩ := h
  exact ⟨fun i => if i = 12 then v else u i, by kernel_rfl⟩
theorem BasePR.put13 {B : Nat} (a : Act) (v : Value) (h : BasePR B a) : BasePR B (a.put (some 13) v) := by
  obtain ⟨u, rfl⟩ := h
  exact ⟨fun i => if i = 13 then v else u i, by kernel_rfl⟩
theorem BasePR.put14 {B : Nat} (a : Act) (v : Value) (h : BasePR B a) : BasePR B (a.put (some 14) v) := by
  obtain ⟨u, rfl⟩ := h
  exact ⟨fun i => if i = 14 then v else u i, by kernel_rfl⟩
theorem BasePR.put15 {B : Nat} (a : Act) (v : Value) (h : BasePR B a) : BasePR B (a.put (some 15) v) := by
  obtain ⟨u, rfl⟩ := h
  exact ⟨fun i => if i = 15 then v else u i, by kernel_rfl⟩
theorem BasePR.put16 {B : Nat} (a : Act) (v : Value) (h : BasePR B a) : BasePR B (a.put (some 16) v) := by
  obtain ⟨u, rfl⟩ := h
  exact ⟨fun i => if i = 16 then v else u i, by kernel_rfl⟩
theorem BasePR.put17 {B : Nat} (a : Act) (v : Value) (h : BasePR B a) : BasePR B (a.put (some 17) v) := by
  obtain ⟨u, rfl⟩ := h
  exact ⟨fun i => if i = 17 then v else u i, by kernel_rfl⟩
theorem BasePR.put2 {B : Nat} (a : Act) (v : Value) (h : BasePR B a) : BasePR B (a.put (some 2) v) := by
  obtain ⟨u, rfl⟩ := h
  exact ⟨fun i => if i = 2 then v else u i, by kernel_rfl⟩
theorem BasePR.put3 {B : Nat} (a : Act) (v : Value) (h : BasePR B a) : BasePR B (a.put (some 3) v) := by
  obtain ⟨u, rfl⟩ := h
  exact ⟨fun i => if i = 3 then v else u i, by kernel_rfl⟩
/-- what each operation of the region TR leaves -/
def vsTR (s s2 s6 : ByteArray) (b0 : Nat) (x y : Int) : List (Option (Tmp × Value)) :=
  [some (9, .string s), some (10, .int .u8 b0), some (11, .int .i64 b0), some (12, .string s), some (13, .string s2), some (14, .int .i64 x), some (15, .string s), some (16, .string s6), some (17, .int .i64 y), some (18, .agg (ra b0 x y)), none, none]
/-- the frame while the region TR runs -/
def BaseTR (s : ByteArray) (B : Nat) (a : Act) : Prop := ∃ u : Nat → Value, a = ⟨#[.string s, u 1, .pointer (some ⟨B, 0, none⟩), u 3, u 4, u 5, u 6, u 7, u 8, u 9, u 10, u 11, u 12, u 13, u 14, u 15, u 16, u 17, u 18, u 19, u 20, u 21, u 22, u 23], []⟩
theorem BaseTR.of {s : ByteArray} {B : Nat} (arr : Array Value) (h : arr = #[.string s, arr.getD 1 undef, .pointer (some ⟨B, 0, none⟩), arr.getD 3 undef, arr.getD 4 undef, arr.getD 5 undef, arr.getD 6 undef, arr.getD 7 undef, arr.getD 8 undef, arr.getD 9 undef, arr.getD 10 undef, arr.getD 11 undef, arr.getD 12 undef, arr.getD 13 undef, arr.getD 14 undef, arr.getD 15 undef, arr.getD 16 undef, arr.getD 17 undef, arr.getD 18 undef, arr.getD 19 undef, arr.getD 20 undef, arr.getD 21 undef, arr.getD 22 undef, arr.getD 23 undef]) : BaseTR s B ⟨arr, []⟩ := ⟨fun i => arr.getD i undef, by rw [← h]⟩
theorem BaseTR.put9 {s : ByteArray} {B : Nat} (a : Act) (v : Value) (h : BaseTR s B a) : BaseTR s B (a.put (some 9) v) := by
  obtain ⟨u, rfl⟩ := h
  exact ⟨fun i => if i = 9 then v else u i, by kernel_rfl⟩
theorem BaseTR.put10 {s : ByteArray} {B : Nat} (a : Act) (v : Value) (h : BaseTR s B a) : BaseTR s B (a.put (some 10) v) := by
  obtain ⟨u, rfl⟩ := h
  exact ⟨fun i => if i = 10 then v else u i, by kernel_rfl⟩
theorem BaseTR.put11 {s : ByteArray} {B : Nat} (a : Act) (v : Value) (h : BaseTR s B a) : BaseTR s B (a.put (some 11) v) := by
  obtain ⟨u, rfl⟩ := h
  exact ⟨fun i => if i = 11 then v else u i, by kernel_rfl⟩
theorem BaseTR.put12 {s : ByteArray} {B : Nat} (a : Act) (v : Value) (h : BaseTR s B a) : BaseTR s B (a.put (some 12) v) := by
  obtain ⟨u, rfl⟩ := h
  exact ⟨fun i => if i = 12 then v else u i, by kernel_rfl⟩
theorem BaseTR.put13 {s : ByteArray} {B : Nat} (a : Act) (v : Value) (h : BaseTR s B a) : BaseTR s B (a.put (some 13) v) := by
  obtain ⟨u, rfl⟩ := h
  exact ⟨fun i => if i = 13 then v else u i, by kernel_rfl⟩
theorem BaseTR.put14 {s : ByteArray} {B : Nat} (a : Act) (v : Value) (h : BaseTR s B a) : BaseTR s B (a.put (some 14) v) := by
  obtain ⟨u, rfl⟩ := h
  exact ⟨fun i => if i = 14 then v else u i, by kernel_rfl⟩
theorem BaseTR.put15 {s : ByteArray} {B : Nat} (a : Act) (v : Value) (h : BaseTR s B a) : BaseTR s B (a.put (some 15) v) := by
  obtain ⟨u, rfl⟩ := h
  exact ⟨fun i => if i = 15 then v else u i, by kernel_rfl⟩
theorem BaseTR.put16 {s : ByteArray} {B : Nat} (a : Act) (v : Value) (h : BaseTR s B a) : BaseTR s B (a.put (some 16) v) := by
  obtain ⟨u, rfl⟩ := h
  exact ⟨fun i => if i = 16 then v else u i, by kernel_rfl⟩
theorem BaseTR.put17 {s : ByteArray} {B : Nat} (a : Act) (v : Value) (h : BaseTR s B a) : BaseTR s B (a.put (some 17) v) := by
  obtain ⟨u, rfl⟩ := h
  exact ⟨fun i => if i = 17 then v else u i, by kernel_rfl⟩
theorem BaseTR.put18 {s : ByteArray} {B : Nat} (a : Act) (v : Value) (h : BaseTR s B a) : BaseTR s B (a.put (some 18) v) := by
  obtain ⟨u, rfl⟩ := h
  exact ⟨fun i => if i = 18 then v else u i, by kernel_rfl⟩
theorem BaseTR.put4 {s : ByteArray} {B : Nat} (a : Act) (v : Value) (h : BaseTR s B a) : BaseTR s B (a.put (some 4) v) := by
  obtain ⟨u, rfl⟩ := h
  exact ⟨fun i => if i = 4 then v else u i, by kernel_rfl⟩

theorem rrec_take_size (s : ByteArray) (w : World) (h : s.size ≠ 9) (hm : s.size ≤ maxLen) :
    Calls Tryd.prog 18 #[.string s] w fun r w' => r = .returned (.tuple #[.agg (ra 0 0 0), .int .i64 3]) ∧ Below w.heap.size w w' := by
  have hm2 : (s.size : Int) ≤ 9223372036854775807 := by unfold maxLen at hm; omega
  have h2 : ((s.size : Int) == 9) = false := by simp; omega
  have hR := fun cs => (Blk.new w (ra 0 0 0) 32).put cs
  clear hm
  go_enter Tryd.func18, Tryd.ntmps18
  go_wp2_with (refine wpList_store_row rfl 32 (.tmp 2) (.tmp 8) rfl w.heap.size (ra 0 0 0) rfl rfl 32 (ra 0 0 0) (Blk.new w (ra 0 0 0) 32) size_rec rfl (ra_one _ _ _) ?_)
  exact bodyPost_ret (results_cell_tmp rfl _ _ w.heap.size 32 (ra 0 0 0) _ rfl (hR _) Tryd.underlying32 rfl size_rec) rfl ⟨rfl, below_put (Nat.le_refl _) _ ((Below.refl _ _).alloc (Nat.le_refl _) _)⟩

set_option maxHeartbeats 1000000 in
theorem rrec_take_nine (s : ByteArray) (w : World) (h : s.size = 9) :
    Calls Tryd.prog 18 #[.string s] w fun r w' => r = .returned (if mayR (kR s) (aR s) (bR s) then .tuple #[.agg (ra (kR s) (aR s) (bR s)), .int .i64 0] else .tuple #[.agg (ra 0 0 0), .int .i64 3]) ∧ Below w.heap.size w w' := by
  have hs : (s.size : Int) = 9 := by omega
  have hs2 : ((s.size : Int) == 9) = true := by rw [hs]; rfl
  have g0 := kR_byte s (by omega)
  have hlt0 : 0 < s.size := by omega
  obtain ⟨b0, hb0⟩ : ∃ b : Nat, s[0].toNat = b := ⟨_, rfl⟩
  have HB0 := Lib.hid hb0
  have hb256 : b0 < 256 := by rw [← hb0]; exact s[0].toNat_lt
  have HW : Hid (IntKind.i64.wrap (b0 : Int) = (b0 : Int)) := by show IntKind.i64.wrap (b0 : Int) = (b0 : Int); rw [IntKind.wrap_i64]; omega
  rw [hb0] at g0
  rw [g0]
  obtain ⟨s2, e2⟩ : ∃ t, s.extract 1 3 = t := ⟨_, rfl⟩
  obtain ⟨s6, e6⟩ : ∃ t, s.extract 3 9 = t := ⟨_, rfl⟩
  have H2 : Hid (s2.size = 2) := by show s2.size = 2; rw [← e2, ByteArray.size_extract]; omega
  have H6 : Hid (s6.size = 6) := by show s6.size = 6; rw [← e6, ByteArray.size_extract]; omega
  have HE2 := Lib.hid e2; have HE6 := Lib.hid e6
  rw [show aR s = numS s2 by unfold aR; rw [e2], show bR s = numS s6 by unfold bR; rw [e6]]
  obtain ⟨x, hx⟩ : ∃ x, numS s2 = x := ⟨_, rfl⟩
  obtain ⟨y, hy⟩ : ∃ y, numS s6 = y := ⟨_, rfl⟩
  rw [hx, hy]
  obtain ⟨m, hm⟩ : ∃ m, mayR (b0 : Int) x y = m := ⟨_, rfl⟩
  rw [hm]
  have HX := Lib.hid hx; have HY := Lib.hid hy; have HM := Lib.hid hm
  have HS := Lib.hid hs
  clear hx hy hm e2 e6 g0 hb0
  go_enter Tryd.func18, Tryd.ntmps18
  go_wp2_with fail
  rename_i K0 hK0
  refine wp_region_list3 (SV (vsTR s s2 s6 b0 x y) [4]) (BaseTR s w.heap.size) (CRT w) (TR3 w.heap.size (ra b0 x y)) (RV (vsTR s s2 s6 b0 x y) (SpR w.heap.size (ra b0 x y))) rfl (by kernel_rfl) (RV.ext SpR.ext) ?_ (⟨(Blk.new w (ra 0 0 0) 32).drew, ((Below.refl _ _).alloc (Nat.le_refl _) _).drew⟩) (BaseTR.of _ (by kernel_rfl)) ?_ ?_
  · exact ⟨BaseTR.put9, BaseTR.put10, BaseTR.put11, BaseTR.put12, BaseTR.put13, BaseTR.put14, BaseTR.put15, BaseTR.put16, BaseTR.put17, BaseTR.put18, BaseTR.put4, fun a v h => h, trivial⟩
  · refine ⟨?_, ?_, ?_, ?_, ?_, ?_, ?_, ?_, ?_, ?_, ?_, ?_, trivial⟩
    all_goals
      intro a w' hC hB hR
      obtain ⟨u, rfl⟩ := hB
      have hlt : w.heap.size < w'.heap.size := hC.1.lt
      have HC := Lib.hid hC
      clear hC
      clear hK0
    · clear hR
      refine if_yes (by kernel_rfl) ?_
      unfold Oper.wp
      go_simp
      exact ⟨.string s, rfl, HC.out, TR3.of (Below.refl _ _) hlt, rfl⟩
    · have h9 : u 9 = .string s := hR ⟨0, .data⟩ (by simp) rfl
      have hsz := HS.out
      have hb0 := HB0.out
      clear hR
      simp only [h9]
      clear h9
      refine if_yes (by kernel_rfl) ?_
      unfold Oper.wp
      go_simp
      exact ⟨.int .u8 b0, rfl, HC.out, TR3.of (Below.refl _ _) hlt, rfl⟩
    · have h10 : u 10 = .int .u8 b0 := hR ⟨1, .data⟩ (by simp) rfl
      have hwk := HW.out
      clear hR
      simp only [h10]
      clear h10
      refine if_yes (by kernel_rfl) ?_
      unfold Oper.wp
      go_simp
      exact ⟨.int .i64 b0, rfl, HC.out, TR3.of (Below.refl _ _) hlt, rfl⟩
    · clear hR
      refine if_yes (by kernel_rfl) ?_
      unfold Oper.wp
      go_simp
      exact ⟨.string s, rfl, HC.out, TR3.of (Below.refl _ _) hlt, rfl⟩
    · have h12 : u 12 = .string s := hR ⟨3, .data⟩ (by simp) rfl
      have hsz := HS.out
      have hx := HE2.out
      clear hR
      simp only [h12]
      clear h12
      refine if_yes (by kernel_rfl) ?_
      unfold Oper.wp
      go_simp
      exact ⟨.string s2, rfl, HC.out, TR3.of (Below.refl _ _) hlt, rfl⟩
    · have h13 : u 13 = .string s2 := hR ⟨4, .data⟩ (by simp) rfl
      clear hR
      simp only [h13]
      clear h13
      refine if_yes (by kernel_rfl) ?_
      unfold Oper.wp
      go_simp
      refine (rtag_of s2 _ (by rw [H2.out]; decide) (by rw [H2.out]; decide)).mono ?_
      rintro r w2 ⟨rfl, rfl⟩
      exact ⟨_, rfl, HC.out, TR3.of (Below.refl _ _) hlt, congrArg (Value.int .i64) HX.out⟩
    · clear hR
      refine if_yes (by kernel_rfl) ?_
      unfold Oper.wp
      go_simp
      exact ⟨.string s, rfl, HC.out, TR3.of (Below.refl _ _) hlt, rfl⟩
    · have h15 : u 15 = .string s := hR ⟨6, .data⟩ (by simp) rfl
      have hsz := HS.out
      have hx := HE6.out
      clear hR
      simp only [h15]
      clear h15
      refine if_yes (by kernel_rfl) ?_
      unfold Oper.wp
      go_simp
      exact ⟨.string s6, rfl, HC.out, TR3.of (Below.refl _ _) hlt, rfl⟩
    · have h16 : u 16 = .string s6 := hR ⟨7, .data⟩ (by simp) rfl
      clear hR
      simp only [h16]
      clear h16
      refine if_yes (by kernel_rfl) ?_
      unfold Oper.wp
      go_simp
      refine (rtag_of s6 _ (by rw [H6.out]; decide) (by rw [H6.out]; decide)).mono ?_
      rintro r w2 ⟨rfl, rfl⟩
      exact ⟨_, rfl, HC.out, TR3.of (Below.refl _ _) hlt, congrArg (Value.int .i64) HY.out⟩
    · have h11 : u 11 = .int .i64 b0 := hR ⟨2, .data⟩ (by simp) rfl
      have h14 : u 14 = .int .i64 x := hR ⟨5, .data⟩ (by simp) rfl
      have h17 : u 17 = .int .i64 y := hR ⟨8, .data⟩ (by simp) rfl
      clear hR
      simp only [h11, h14, h17]
      clear h11 h14 h17
      refine if_yes (by kernel_rfl) ?_
      unfold Oper.wp
      go_simp
      exact ⟨.agg (ra b0 x y), rfl, HC.out, TR3.of (Below.refl _ _) hlt, rfl⟩
    · clear hR
      refine if_yes (by kernel_rfl) ?_
      unfold Oper.wp
      go_simp
      exact ⟨_, rfl, ⟨HC.out.1.alloc _, HC.out.2.alloc (Nat.le_of_lt hlt) _⟩, TR3.of ((Below.refl _ _).alloc (Nat.le_refl _) _) hlt, ⟨_, _, hlt, rfl, Blk.new _ _ _, rfl, fun h => by cases h⟩⟩
    · have h18 : u 18 = .agg (ra b0 x y) := hR ⟨9, .data⟩ (by simp) rfl
      obtain ⟨g, cs, hg, hp, hb, hcs, _⟩ := hR ⟨10, .data⟩ (by simp) rfl
      have hp : u 4 = .pointer (some ⟨g, 0, none⟩) := hp
      clear hR
      simp only [h18]
      clear h18
      refine if_yes (by kernel_rfl) ?_
      simp only [hp]
      exact wp_store_row 32 (.tmp 4) (.tmp 18) rfl g (ra b0 x y) rfl rfl 32 cs hb size_rec hcs (ra_one _ _ _) ⟨undef, rfl, ⟨HC.out.1.put_other (by omega) _, below_put (by omega) _ HC.out.2⟩, TR3.store hg hb rfl, ⟨g, _, hg, rfl, hb.put _, rfl, fun _ => rfl⟩⟩
  · intro a w' hC hB hR
    obtain ⟨g, cs, hg, hp, hb, hcs, he⟩ := hR 11 (by decide)
    clear hR
    obtain rfl := he rfl
    obtain ⟨u, rfl⟩ := hB
    have hp : u 4 = .pointer (some ⟨g, 0, none⟩) := hp
    simp only [hp]
    have HC := Lib.hid hC
    have HB := Lib.hid hb
    clear hC hb hcs he hp H2 H6 HE2 HE6 HX HY HS
    go_wp2_with (refine wpList_load_row rfl 32 (.tmp 4) rfl g rfl 32 (ra b0 x y) (0, 0) _ HB.out Tryd.underlying32 rfl size_rec ?_)
    refine (rrec_may _ _ _ _).mono ?_
    rintro r w5 ⟨rfl, hb5⟩
    rw [HM.out]
    have HR5 := Lib.hid (HC.out.1.after hb5)
    have HB5 := Lib.hid (HB.out.after hb5)
    have HL5 := Lib.hid (HC.out.2.trans (hb5.mono (by have := HC.out.2.size; exact this)))
    clear hb5 HM
    cases m
    · go_wp2_with (refine wpList_store_row rfl 32 (.tmp 2) (.tmp 22) rfl w.heap.size (ra 0 0 0) rfl rfl 32 (ra 0 0 0) HR5.out size_rec rfl (ra_one _ _ _) ?_)
      exact bodyPost_ret (results_cell_tmp rfl _ _ w.heap.size 32 (ra 0 0 0) _ rfl (HR5.out.put _) Tryd.underlying32 rfl size_rec) rfl ⟨rfl, below_put (Nat.le_refl _) _ HL5.out⟩
    · go_wp2_with (first
        | (refine wpList_load_row rfl 32 (.tmp 4) rfl g rfl 32 (ra b0 x y) (0, 0) _ HB5.out Tryd.underlying32 rfl size_rec ?_)
        | (refine wpList_store_row rfl 32 (.tmp 2) (.tmp 23) rfl w.heap.size (ra b0 x y) rfl rfl 32 (ra 0 0 0) HR5.out size_rec rfl (ra_one _ _ _) ?_))
      exact bodyPost_ret (results_cell_tmp rfl _ _ w.heap.size 32 (ra b0 x y) _ rfl (HR5.out.put _) Tryd.underlying32 rfl size_rec) rfl ⟨rfl, below_put (Nat.le_refl _) _ HL5.out⟩

theorem rrec_take (s : ByteArray) (w : World) (hm : s.size ≤ maxLen) : Calls Tryd.prog 18 #[.string s] w (TakeP s w) := by
  unfold TakeP takeA takeE
  by_cases hz : s.size = 9
  · have h := rrec_take_nine s w hz
    by_cases hm2 : MayR (kR s) (aR s) (bR s)
    · rw [if_pos ⟨hz, hm2⟩, if_pos ⟨hz, hm2⟩]
      rwa [if_pos ((mayR_iff _ _ _).2 hm2)] at h
    · rw [if_neg (fun h => hm2 h.2), if_neg (fun h => hm2 h.2)]
      rwa [if_neg (fun h => hm2 ((mayR_iff _ _ _).1 h))] at h
  · rw [if_neg (fun h => hz h.1), if_neg (fun h => hz h.1)]
    exact rrec_take_size s w hz hm

end Go.Proofs.YtklbmlnghindjaaDoor
