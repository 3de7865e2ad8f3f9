/- Texts of one claim, merged: CeR5, CeR6, CeR7, CeR8, Inv3, CeRC. -/
import Derived.Test.YtjmoecfgpfdncaaGreatDoorM3
import Derived.BigQuiet
import Derived.Deep.QuietTactic

/- The reference of layer 8, walked: Program. -/
namespace Go.Proofs.YtjmoecfgpfdncaaGreatDoor
set_option maxRecDepth 100000
open Go.RowKit

theorem blk_mid (w : World) (A B : Obj) (cs : Array Value) (t : TypeId) : Blk (((w.alloc A).alloc (.cells cs t)).alloc B) (w.heap.size + 1) cs t := by
  have h := (Blk.new (w.alloc A) cs t).alloc B
  rwa [World.size_alloc] at h
theorem below_3 (w : World) (A B C : Obj) : Below w.heap.size w (((w.alloc A).alloc B).alloc C) := (((Below.refl w.heap.size w).alloc (Nat.le_refl _) _).alloc (by simp) _).alloc (by simp; omega) _
structure SpPR (B : Nat) (s2 s3 : St) (ec : Int) (j : Nat) (a : Act) (w : World) : Prop where
  c8 : j = 8 → SlotC 53 s2 (B + 3) a w
  c10 : j = 10 → SlotP 55 s3 ec (B + 3) a w
  c11 : j = 11 → SlotC 56 s3 (B + 3) a w
  c13 : j = 13 → GoodC (B + 2) s3 (B + 3) w
def fPR (j : Nat) : List Tmp := if j = 8 then [53] else if j = 10 then [55] else if j = 11 then [56] else []
theorem SpPR.ext {B : Nat} {s2 s3 : St} {ec : Int} (h2 : WfSt s2) (h3 : WfSt s3) : ∀ (j : Nat) (a a' : Act) (w w' : World), SpPR B s2 s3 ec j a w → (∀ x ∈ fPR j, a'.tmps.getD x undef = a.tmps.getD x undef) → TG (B + 2) s3 (B + 3) w w' → SpPR B s2 s3 ec j a' w' := by
  rintro j a a' w w' ⟨f1, f2, f3, f4⟩ hx hT
  exact ⟨fun h => (f1 h).ext h2 (by omega) (hx 53 (by subst h; simp [fPR])) hT, fun h => (f2 h).ext h3 (by omega) (hx 55 (by subst h; simp [fPR])) hT, fun h => (f3 h).ext h3 (by omega) (hx 56 (by subst h; simp [fPR])) hT, fun h => hT.2 (f4 h)⟩

/-- what each operation of the region PR leaves -/
def vsPR (s1 : St) (g c h d i : Nat) (line : Int) (p : ByteArray) (x k a b : Int) : List (Option (Tmp × Value)) :=
  [some (45, .agg (cv s1 g c h d)), some (46, .int .i64 line), some (47, .int .i64 ((3 * i : Nat) : Int)), some (48, .string p), some (49, .agg (fv x k a b)), some (50, .string (pageT p k a b)), some (51, .agg (fv x k a b)), some (52, .bool (hurtsB k)), none, some (54, .agg (fv x k a b)), none, none, some (57, .int .i64 (endC k)), none, some (9, .int .i64 (endC k))]
/-- the frame while the region PR runs -/
def BasePR (B : Nat) (line : Int) (p : ByteArray) (a : Act) : Prop := ∃ u : Nat → Value, a = ⟨#[u 0, .int .i64 line, .string p, u 3, .pointer (some ⟨B, 0, none⟩), u 5, u 6, .pointer (some ⟨B + 1, 0, none⟩), .pointer (some ⟨B + 2, 0, none⟩), u 9, u 10, u 11, u 12, u 13, u 14, u 15, u 16, u 17, u 18, u 19, u 20, u 21, u 22, u 23, u 24, u 25, u 26, u 27, u 28, u 29, u 30, u 31, u 32, u 33, u 34, u 35, u 36, u 37, u 38, u 39, u 40, u 41, u 42, u 43, u 44, u 45, u 46, u 47, u 48, u 49, u 50, u 51, u 52, u 53, u 54, u 55, u 56, u 57], []⟩
theorem BasePR.of {B : Nat} {line : Int} {p : ByteArray} (arr : Array Value) (h : arr = #[arr.getD 0 undef, .int .i64 line, .string p, arr.getD 3 undef, .pointer (some ⟨B, 0, none⟩), arr.getD 5 undef, arr.getD 6 undef, .pointer (some ⟨B + 1, 0, none⟩), .pointer (some ⟨B + 2, 0, none⟩), arr.getD 9 undef, arr.getD 10 undef, arr.getD 11 undef, arr.getD 12 undef, arr.getD 13 undef, arr.getD 14 undef, arr.getD 15 undef, arr.getD 16 undef, arr.getD 17 undef, arr.getD 18 undef, arr.getD 19 undef, arr.getD 20 undef, arr.getD 21 undef, arr.getD 22 undef, arr.getD 23 undef, arr.getD 24 undef, arr.getD 25 undef, arr.getD 26 undef, arr.getD 27 undef, arr.getD 28 undef, arr.getD 29 undef, arr.getD 30 undef, arr.getD 31 undef, arr.getD 32 undef, arr.getD 33 undef, arr.getD 34 undef, arr.getD 35 undef, arr.getD 36 undef, arr.getD 37 undef, arr.getD 38 undef, arr.getD 39 undef, arr.getD 40 undef, arr.getD 41 undef, arr.getD 42 undef, arr.getD 43 undef, arr.getD 44 undef, arr.getD 45 undef, arr.getD 46 undef, arr.getD 47 undef, arr.getD 48 undef, arr.getD 49 undef, arr.getD 50 undef, arr.getD 51 undef, arr.getD 52 undef, arr.getD 53 undef, arr.getD 54 undef, arr.getD 55 undef, arr.getD 56 undef, arr.getD 57 undef]) : BasePR B line p ⟨arr, []⟩ := ⟨fun i => arr.getD i undef, by rw [← h]⟩
theorem BasePR.put45 {B : Nat} {line : Int} {p : ByteArray} (a : Act) (v : Value) (h : BasePR B line p a) : BasePR B line p (a.put (some 45) v) := by
  obtain ⟨u, rfl⟩ := h
  exact ⟨fun i => if i = 45 then v else u i, by kernel_rfl⟩
theorem BasePR.put46 {B : Nat} {line : Int} {p : ByteArray} (a : Act) (v : Value) (h : BasePR B line p a) : BasePR B line p (a.put (some 46) v) := by
  obtain ⟨u, rfl⟩ := h
  exact ⟨fun i => if i = 46 then v else u i, by kernel_rfl⟩
theorem BasePR.put47 {B : Nat} {line : Int} {p : ByteArray} (a : Act) (v : Value) (h : BasePR B line p a) : BasePR B line p (a.put (some 47) v) := by
  obtain ⟨u, rfl⟩ := h
  exact ⟨fun i => if i = 47 then v else u i, by kernel_rfl⟩
theorem BasePR.put48 {B : Nat} {line : Int} {p : ByteArray} (a : Act) (v : Value) (h : BasePR B line p a) : BasePR B line p (a.put (some 48) v) := by
  obtain ⟨u, rfl⟩ := h
  exact ⟨fun i => if i = 48 then v else u i, by kernel_rfl⟩
theorem BasePR.put49 {B : Nat} {line : Int} {p : ByteArray} (a : Act) (v : Value) (h : BasePR B line p a) : BasePR B line p (a.put (some 49) v) := by
  obtain ⟨u, rfl⟩ := h
  exact ⟨fun i => if i = 49 then v else u i, by kernel_rfl⟩
theorem BasePR.put50 {B : Nat} {line : Int} {p : ByteArray} (a : Act) (v : Value) (h : BasePR B line p a) : BasePR B line p (a.put (some 50) v) := by
  obtain ⟨u, rfl⟩ := h
  exact ⟨fun i => if i = 50 then v else u i, by kernel_rfl⟩
theorem BasePR.put51 {B : Nat} {line : Int} {p : ByteArray} (a : Act) (v : Value) (h : BasePR B line p a) : BasePR B line p (a.put (some 51) v) := by
  obtain ⟨u, rfl⟩ := h
  exact ⟨fun i => if i = 51 then v else u i, by kernel_rfl⟩
theorem BasePR.put52 {B : Nat} {line : Int} {p : ByteArray} (a : Act) (v : Value) (h : BasePR B line p a) : BasePR B line p (a.put (some 52) v) := by
  obtain ⟨u, rfl⟩ := h
  exact ⟨fun i => if i = 52 then v else u i, by kernel_rfl⟩
theorem BasePR.put53 {B : Nat} {line : Int} {p : ByteArray} (a : Act) (v : Value) (h : BasePR B line p a) : BasePR B line p (a.put (some 53) v) := by
  obtain ⟨u, rfl⟩ := h
  exact ⟨fun i => if i = 53 then v else u i, by kernel_rfl⟩
theorem BasePR.put54 {B : Nat} {line : Int} {p : ByteArray} (a : Act) (v : Value) (h : BasePR B line p a) : BasePR B line p (a.put (some 54) v) := by
  obtain ⟨u, rfl⟩ := h
  exact ⟨fun i => if i = 54 then v else u i, by kernel_rfl⟩
theorem BasePR.put55 {B : Nat} {line : Int} {p : ByteArray} (a : Act) (v : Value) (h : BasePR B line p a) : BasePR B line p (a.put (some 55) v) := by
  obtain ⟨u, rfl⟩ := h
  exact ⟨fun i => if i = 55 then v else u i, by kernel_rfl⟩
theorem BasePR.put56 {B : Nat} {line : Int} {p : ByteArray} (a : Act) (v : Value) (h : BasePR B line p a) : BasePR B line p (a.put (some 56) v) := by
  obtain ⟨u, rfl⟩ := h
  exact ⟨fun i => if i = 56 then v else u i, by kernel_rfl⟩
theorem BasePR.put57 {B : Nat} {line : Int} {p : ByteArray} (a : Act) (v : Value) (h : BasePR B line p a) : BasePR B line p (a.put (some 57) v) := by
  obtain ⟨u, rfl⟩ := h
  exact ⟨fun i => if i = 57 then v else u i, by kernel_rfl⟩
theorem BasePR.put9 {B : Nat} {line : Int} {p : ByteArray} (a : Act) (v : Value) (h : BasePR B line p a) : BasePR B line p (a.put (some 9) v) := by
  obtain ⟨u, rfl⟩ := h
  exact ⟨fun i => if i = 9 then v else u i, by kernel_rfl⟩

theorem pr_no {s : St} {line : Int} {p : ByteArray} {k a b : Int} (h : ¬ ProgOk s line p) : progSt s line p k a b = s ∧ progC s line p k = 80 := by
  unfold progSt progC
  rw [if_neg h, if_neg h]
  exact ⟨rfl, rfl⟩
theorem pr_yes {s : St} {line : Int} {p : ByteArray} {k a b : Int} (h : ProgOk s line p) : progSt s line p k a b = endSt (putSt (stepSt s 1) (3 * line.toNat) (pageT p k a b) (hurtsB k)) k ∧ progC s line p k = endC k := by
  unfold progSt progC
  rw [if_pos h, if_pos h]
  exact ⟨rfl, rfl⟩

theorem rce_prog_yes (s : St) (g c h d i : Nat) (p : ByteArray) (x k a b : Int) (w : World) (hw : WfSt s) (hr : RAt w s g c h d) (hok : ProgOk s i p) :
    Calls Tryz.prog 11 #[.agg (cv s g c h d), .int .i64 (i : Nat), .string p, .agg (fv x k a b)] w (PairT (progSt s i p k a b) (progC s i p k) g h w) := by
  rw [(pr_yes (a := a) (b := b) hok).1, (pr_yes (a := a) (b := b) hok).2]
  have hi : (i : Int).toNat = i := by omega
  rw [hi]
  obtain ⟨k1, k2, k3, k4, k5, k6⟩ := hok
  have hps := takes_size hw k6
  have hl64 := hw.l64
  have hlt := hr.lt hw
  obtain ⟨L, Y, mode, done, bad, torn, slc, tlc, ps, hs⟩ := s
  simp only at k1 k2 k3 k4 k5 hl64
  subst k1 k2
  have hid : i = done := by omega
  subst hid
  have hd2 := hw.done
  simp only at hd2
  have hw1 : WfSt (stepSt ⟨L, Y, mode, i, false, false, slc, tlc, ps, hs⟩ 1) := stepSt_wf hw (Or.inl rfl) (by simp only; omega)
  have hpt : (pageT p k a b).size ≤ 400 := by rw [pageT_size]; exact hps
  have hw2 := putSt_wf hw1 (3 * i) (hurtsB k) hpt
  have hw3 := endSt_wf hw2 k
  have HW1 := Lib.hid hw1
  have HW2 := Lib.hid hw2
  have HW3 := Lib.hid hw3
  have HT := Lib.hid k6
  have HWF := Lib.hid hw
  have HR := Lib.hid hr
  have HLT := Lib.hid hlt
  have HP : Hid (p.size ≤ 1000) := by show p.size ≤ 1000; omega
  have HF : Hid (i ≤ 64) := by show i ≤ 64; omega
  have hi64 : i ≤ 64 := HF.out
  have hm2 : ((mode : Int) == 2) = false := by simp; exact k3
  clear hw1 hw2 hw3 hpt hw hr k6 hlt hps hi hd2
  obtain ⟨s1, hs1⟩ : ∃ s1, stepSt ⟨L, Y, mode, i, false, false, slc, tlc, ps, hs⟩ 1 = s1 := ⟨_, rfl⟩
  rw [hs1] at HW1 HW2 HW3 ⊢
  have HS1 := Lib.hid hs1
  clear hs1
  go_enter Tryz.func11, Tryz.ntmps11
  unfold cv fv
  go_wp2_with fail
  refine (rce_takes ⟨L, Y, mode, i, false, false, slc, tlc, ps, hs⟩ g c h d p _ HWF.out).mono ?_
  rintro e w2 ⟨rfl, hb2⟩
  rw [HT.out]
  have b1 : Blk w2 w.heap.size (cv ⟨L, Y, mode, i, false, false, slc, tlc, ps, hs⟩ g c h d) 30 := (((Blk.new w _ _).alloc _).alloc _).after hb2
  have b2 : Blk w2 (w.heap.size + 1) (fv x k a b) 38 := (blk_mid w _ _ _ _).after hb2
  have b3 : Blk w2 (w.heap.size + 2) zv 30 := (blk_third w _ _ _ _).after hb2
  have bw := (below_3 w _ _ _).trans (hb2.mono (below_3 w _ _ _).size)
  have br := HR.out.after HWF.out bw
  have ht2 : w.heap.size + 3 ≤ w2.heap.size := by have := hb2.size; simp at this; omega
  clear hb2 HR HT
  have hc2 : w2.cell? ⟨w.heap.size, 2, none⟩ = some (.int .i64 mode) := b1.cell 2
  have hf2 := b1.free 2
  have d1 : Blk (w2.setCell ⟨w.heap.size, 2, none⟩ (.int .i64 1)) w.heap.size _ 30 := b1.set 2 _ rfl
  have hc3 : (w2.setCell ⟨w.heap.size, 2, none⟩ (.int .i64 1)).cell? ⟨w.heap.size, 3, none⟩ = some (.int .i64 (i : Nat)) := by rw [d1.cell 3]; rfl
  have hf3 := d1.free 3
  have d2 : Blk ((w2.setCell ⟨w.heap.size, 2, none⟩ (.int .i64 1)).setCell ⟨w.heap.size, 3, none⟩ (.int .i64 ((i : Int) + 1))) w.heap.size (cv (stepSt ⟨L, Y, mode, i, false, false, slc, tlc, ps, hs⟩ 1) g c h d) 30 := d1.set 3 _ (stepSt_cv _ _ _ _ _ _)
  have e2 := (b2.set_other (c := w.heap.size) (by omega) 2 (.int .i64 1)).set_other (c := w.heap.size) (by omega) 3 (.int .i64 ((i : Int) + 1))
  have e3 := (b3.set_other (c := w.heap.size) (by omega) 2 (.int .i64 1)).set_other (c := w.heap.size) (by omega) 3 (.int .i64 ((i : Int) + 1))
  have er : RAt ((w2.setCell ⟨w.heap.size, 2, none⟩ (.int .i64 1)).setCell ⟨w.heap.size, 3, none⟩ (.int .i64 ((i : Int) + 1))) (stepSt ⟨L, Y, mode, i, false, false, slc, tlc, ps, hs⟩ 1) g c h d :=
    RAt.same (br.keep ((Below.heap_setCell _ _ _ _ (by have := HLT.out; simp; omega)).trans (Below.heap_setCell _ _ _ _ (by have := HLT.out; simp; omega))) ((Below.heap_setCell _ _ _ _ (by have := HLT.out; simp; omega)).trans (Below.heap_setCell _ _ _ _ (by have := HLT.out; simp; omega)))) rfl rfl
  have el := (bw.setCell (p := ⟨w.heap.size, 2, none⟩) (Nat.le_refl _) (.int .i64 1)).setCell (p := ⟨w.heap.size, 3, none⟩) (Nat.le_refl _) (.int .i64 ((i : Int) + 1))
  have HCE : Hid (CE w w.heap.size (w.heap.size + 1) (w.heap.size + 2) (w.heap.size + 3) (stepSt ⟨L, Y, mode, i, false, false, slc, tlc, ps, hs⟩ 1) g c h d x k a b ((w2.setCell ⟨w.heap.size, 2, none⟩ (.int .i64 1)).setCell ⟨w.heap.size, 3, none⟩ (.int .i64 ((i : Int) + 1)))) := ⟨d2, e2, ⟨zv, rfl, e3⟩, er, el, by simpa using ht2⟩
  clear b1 b2 b3 bw br ht2 d1 d2 e2 e3 er el
  rw [HS1.out] at HCE
  go_wp2_with fail
  rename_i K0 hK0
  refine wp_region_list3 (SV2 (vsPR s1 g c h d i (i : Int) p x k a b) fPR) (BasePR w.heap.size (i : Int) p) (CE w w.heap.size (w.heap.size + 1) (w.heap.size + 2) (w.heap.size + 3) s1 g c h d x k a b) (TG (w.heap.size + 2) (endSt (putSt s1 (3 * i) (pageT p k a b) (hurtsB k)) k) (w.heap.size + 3)) (RV (vsPR s1 g c h d i (i : Int) p x k a b) (SpPR w.heap.size (putSt s1 (3 * i) (pageT p k a b) (hurtsB k)) (endSt (putSt s1 (3 * i) (pageT p k a b) (hurtsB k)) k) (endC k))) rfl (by kernel_rfl) (RV.ext2 (SpPR.ext HW2.out HW3.out)) ?_ (HCE.out.call HW1.out (Below.refl _ _).drew) (BasePR.of _ (by kernel_rfl)) ?_ ?_
  · exact ⟨BasePR.put45, BasePR.put46, BasePR.put47, BasePR.put48, BasePR.put49, BasePR.put50, BasePR.put51, BasePR.put52, BasePR.put53, BasePR.put54, BasePR.put55, BasePR.put56, BasePR.put57, fun a v h => h, BasePR.put9, trivial⟩
  · refine ⟨?_, ?_, ?_, ?_, ?_, ?_, ?_, ?_, ?_, ?_, ?_, ?_, ?_, ?_, ?_, trivial⟩
    all_goals
      intro a w' hC hB hR
      obtain ⟨u, rfl⟩ := hB
      have HC := Lib.hid hC
      clear hC
    · clear hR
      refine if_yes (by kernel_rfl) ?_
      exact wp_load_row 30 (.tmp 4) rfl _ rfl 30 _ (0, 0) _ HC.out.cell Tryz.underlying30 rfl size_cell ⟨.agg (cv s1 g c h d), rfl, HC.out, TG.refl _ _ _ _, rfl⟩
    · clear hR
      refine if_yes (by kernel_rfl) ?_
      unfold Oper.wp
      go_simp
      exact ⟨.int .i64 (i : Int), rfl, HC.out, TG.refl _ _ _ _, rfl⟩
    · have h46 : u 46 = .int .i64 (i : Int) := hR ⟨1, .data⟩ (by simp) rfl
      have hf := HF.out
      have hw : IntKind.i64.wrap (3 * (i : Int)) = ((3 * i : Nat) : Int) := by rw [IntKind.wrap_i64]; omega
      clear hf
      clear hR
      simp only [h46]
      clear h46
      refine if_yes (by kernel_rfl) ?_
      unfold Oper.wp
      go_simp
      exact ⟨.int .i64 ((3 * i : Nat) : Int), rfl, HC.out, TG.refl _ _ _ _, rfl⟩
    · clear hR
      refine if_yes (by kernel_rfl) ?_
      unfold Oper.wp
      go_simp
      exact ⟨.string p, rfl, HC.out, TG.refl _ _ _ _, rfl⟩
    · clear hR
      refine if_yes (by kernel_rfl) ?_
      exact wp_load_row 38 (.tmp 7) rfl _ rfl 38 _ (0, 0) _ HC.out.how Tryz.underlying38 rfl size_fault ⟨.agg (fv x k a b), rfl, HC.out, TG.refl _ _ _ _, rfl⟩
    · have h48 : u 48 = .string p := hR ⟨3, .data⟩ (by simp) rfl
      have h49 : u 49 = .agg (fv x k a b) := hR ⟨4, .data⟩ (by simp) rfl
      clear hR
      simp only [h48, h49]
      clear h48 h49
      refine if_yes (by kernel_rfl) ?_
      unfold Oper.wp
      go_simp
      refine (rce_page p x k a b _ HP.out).mono ?_
      rintro e w2 ⟨rfl, hb2⟩
      exact ⟨.string (pageT p k a b), rfl, HC.out.call HW1.out hb2, TG.call HW3.out hb2, rfl⟩
    · clear hR
      refine if_yes (by kernel_rfl) ?_
      exact wp_load_row 38 (.tmp 7) rfl _ rfl 38 _ (0, 0) _ HC.out.how Tryz.underlying38 rfl size_fault ⟨.agg (fv x k a b), rfl, HC.out, TG.refl _ _ _ _, rfl⟩
    · have h51 : u 51 = .agg (fv x k a b) := hR ⟨6, .data⟩ (by simp) rfl
      clear hR
      simp only [h51]
      clear h51
      refine if_yes (by kernel_rfl) ?_
      unfold Oper.wp
      go_simp
      refine (rce_hurts x k a b _).mono ?_
      rintro e w2 ⟨rfl, hb2⟩
      exact ⟨.bool (hurtsB k), rfl, HC.out.call HW1.out hb2, TG.call HW3.out hb2, rfl⟩
    · have h45 : u 45 = .agg (cv s1 g c h d) := hR ⟨0, .data⟩ (by simp) rfl
      have h47 : u 47 = .int .i64 ((3 * i : Nat) : Int) := hR ⟨2, .data⟩ (by simp) rfl
      have h50 : u 50 = .string (pageT p k a b) := hR ⟨5, .data⟩ (by simp) rfl
      have h52 : u 52 = .bool (hurtsB k) := hR ⟨7, .data⟩ (by simp) rfl
      clear hR
      simp only [h45, h47, h50, h52]
      clear h45 h47 h50 h52
      refine if_yes (by kernel_rfl) ?_
      unfold Oper.wp
      go_simp
      refine (rce_put s1 g c h d (3 * i) (pageT p k a b) (hurtsB k) _ HW1.out HC.out.rd).mono ?_
      rintro e w2 ⟨⟨g', c', h', d', rfl, hr', hg', hh'⟩, hb2⟩
      exact ⟨.agg (cv (putSt s1 (3 * i) (pageT p k a b) (hurtsB k)) g' c' h' d'), rfl, HC.out.call HW1.out hb2, TG.call HW3.out hb2, ⟨fun _ => ⟨g', c', h', d', rfl, hr', Nat.le_trans HC.out.top hg', Nat.le_trans HC.out.top hh'⟩, fun h => absurd h (by decide), fun h => absurd h (by decide), fun h => absurd h (by decide)⟩⟩
    · clear hR
      refine if_yes (by kernel_rfl) ?_
      exact wp_load_row 38 (.tmp 7) rfl _ rfl 38 _ (0, 0) _ HC.out.how Tryz.underlying38 rfl size_fault ⟨.agg (fv x k a b), rfl, HC.out, TG.refl _ _ _ _, rfl⟩
    · have h54 : u 54 = .agg (fv x k a b) := hR ⟨9, .data⟩ (by simp) rfl
      obtain ⟨g', c', h', d', hg, hr', hg', hh'⟩ := (SpPR.c8 (hR ⟨8, .data⟩ (by simp) rfl)) rfl
      have hg : u 53 = .agg (cv (putSt s1 (3 * i) (pageT p k a b) (hurtsB k)) g' c' h' d') := hg
      clear hR
      simp only [h54]
      clear h54
      refine if_yes (by kernel_rfl) ?_
      simp only [hg]
      unfold Oper.wp
      go_simp
      refine (rce_ends (putSt s1 (3 * i) (pageT p k a b) (hurtsB k)) g' c' h' d' x k a b _).mono ?_
      rintro e w2 ⟨rfl, hb2⟩
      exact ⟨.tuple #[.agg (cv (endSt (putSt s1 (3 * i) (pageT p k a b) (hurtsB k)) k) g' c' h' d'), .int .i64 (endC k)], rfl, HC.out.call HW1.out hb2, TG.call HW3.out hb2, ⟨fun h => absurd h (by decide), fun _ => ⟨g', c', h', d', rfl, RAt_end (hr'.after HW2.out hb2) k, hg', hh'⟩, fun h => absurd h (by decide), fun h => absurd h (by decide)⟩⟩
    · obtain ⟨g', c', h', d', hg, hr', hg', hh'⟩ := (SpPR.c10 (hR ⟨10, .data⟩ (by simp) rfl)) rfl
      have hg : u 55 = .tuple #[.agg (cv (endSt (putSt s1 (3 * i) (pageT p k a b) (hurtsB k)) k) g' c' h' d'), .int .i64 (endC k)] := hg
      clear hR
      refine if_yes (by kernel_rfl) ?_
      simp only [hg]
      unfold Oper.wp
      go_simp
      exact ⟨.agg (cv (endSt (putSt s1 (3 * i) (pageT p k a b) (hurtsB k)) k) g' c' h' d'), rfl, HC.out, TG.refl _ _ _ _, ⟨fun h => absurd h (by decide), fun h => absurd h (by decide), fun _ => ⟨g', c', h', d', rfl, hr', hg', hh'⟩, fun h => absurd h (by decide)⟩⟩
    · obtain ⟨g', c', h', d', hg, hr', hg', hh'⟩ := (SpPR.c10 (hR ⟨10, .data⟩ (by simp) rfl)) rfl
      have hg : u 55 = .tuple #[.agg (cv (endSt (putSt s1 (3 * i) (pageT p k a b) (hurtsB k)) k) g' c' h' d'), .int .i64 (endC k)] := hg
      clear hR
      refine if_yes (by kernel_rfl) ?_
      simp only [hg]
      unfold Oper.wp
      go_simp
      exact ⟨.int .i64 (endC k), rfl, HC.out, TG.refl _ _ _ _, rfl⟩
    · obtain ⟨g', c', h', d', hg, hr', hg', hh'⟩ := (SpPR.c11 (hR ⟨11, .data⟩ (by simp) rfl)) rfl
      have hg : u 56 = .agg (cv (endSt (putSt s1 (3 * i) (pageT p k a b) (hurtsB k)) k) g' c' h' d') := hg
      obtain ⟨cs, hcs, hblk⟩ := HC.out.ans
      clear hR
      refine if_yes (by kernel_rfl) ?_
      simp only [hg]
      have hgood := goodC_put hblk hr' hg' hh' (by omega)
      exact wp_store_row 30 (.tmp 8) (.tmp 56) rfl (w.heap.size + 2) (cv (endSt (putSt s1 (3 * i) (pageT p k a b) (hurtsB k)) k) g' c' h' d') rfl rfl 30 cs hblk size_cell hcs (cv_one _ _ _ _ _) ⟨undef, rfl, HC.out.put _ rfl (by omega) (by omega) (by have := HLT.out; omega) (by have := HLT.out; omega) (by omega), TG.put _ hgood, ⟨fun h => absurd h (by decide), fun h => absurd h (by decide), fun h => absurd h (by decide), fun _ => hgood⟩⟩
    · have h57 : u 57 = .int .i64 (endC k) := hR ⟨12, .data⟩ (by simp) rfl
      clear hR
      simp only [h57]
      clear h57
      refine if_yes (by kernel_rfl) ?_
      unfold Oper.wp
      go_simp
      exact ⟨.int .i64 (endC k), rfl, HC.out, TG.refl _ _ _ _, rfl⟩
  · intro a' w' hC hB hR
    have h9 : a'.tmps.getD 9 undef = .int .i64 (endC k) := hR 14 (by decide)
    have hgood := SpPR.c13 (hR 13 (by decide)) rfl
    obtain ⟨g', c', h', d', hg1, hg2, hg3, hg4⟩ := hgood
    have HG1 := Lib.hid hg1
    have HG2 := Lib.hid hg2
    have HE := Lib.hid hC.low
    clear hR hC
    obtain ⟨u, rfl⟩ := hB
    have h9 : u 9 = .int .i64 (endC k) := h9
    simp only [h9]
    clear h9 hg1 hg2
    go_wp2_with fail
    exact bodyPost_ret (results_cell_tmp rfl _ _ (w.heap.size + 2) 30 _ _ rfl HG1.out Tryz.underlying30 rfl size_cell) rfl ⟨⟨g', c', h', d', rfl, HG2.out, Or.inr ⟨by omega, by omega⟩⟩, HE.out⟩
end Go.Proofs.YtjmoecfgpfdncaaGreatDoor

/- The reference of layer 8, walked: Program, whole. -/
namespace Go.Proofs.YtjmoecfgpfdncaaGreatDoor
set_option maxRecDepth 100000
open Go.RowKit

theorem rce_prog_no (s : St) (g c h d : Nat) (line : Int) (p : ByteArray) (x k a b : Int) (w : World) (hw : WfSt s) (hr : RAt w s g c h d) (hno : ¬ ProgOk s line p) :
    Calls Tryz.prog 11 #[.agg (cv s g c h d), .int .i64 line, .string p, .agg (fv x k a b)] w (PairT (progSt s line p k a b) (progC s line p k) g h w) := by
  rw [(pr_no (a := a) (b := b) hno).1, (pr_no (a := a) (b := b) hno).2]
  have HPOST : Hid (∀ A B C e, e = .returned (.tuple #[.agg (cv s g c h d), .int .i64 80]) → PairT s 80 g h w e (((w.alloc A).alloc B).alloc C)) :=
    fun A B C e he => ⟨⟨g, c, h, d, he, hr.after hw (below_3 w _ _ _), Or.inl ⟨rfl, rfl⟩⟩, below_3 w _ _ _⟩
  have HWF := Lib.hid hw
  have HR := Lib.hid hr
  obtain ⟨L, Y, mode, done, bad, torn, slc, tlc, ps, hs⟩ := s
  clear hw hr
  cases bad
  case true =>
    clear hno
    go_enter Tryz.func11, Tryz.ntmps11
    unfold cv fv
    go_wp2_with fail
    exact bodyPost_ret (results_cell_tmp rfl _ _ (w.heap.size + 1 + 1) 30 _ _ rfl (blk_third w _ _ _ _) Tryz.underlying30 rfl size_cell) rfl (HPOST.out _ _ _ _ rfl)
  case false =>
  cases torn
  case true =>
    clear hno
    go_enter Tryz.func11, Tryz.ntmps11
    unfold cv fv
    go_wp2_with fail
    exact bodyPost_ret (results_cell_tmp rfl _ _ (w.heap.size + 1 + 1) 30 _ _ rfl (blk_third w _ _ _ _) Tryz.underlying30 rfl size_cell) rfl (HPOST.out _ _ _ _ rfl)
  case false =>
  by_cases h1 : mode = 2
  · subst h1
    clear hno
    go_enter Tryz.func11, Tryz.ntmps11
    unfold cv fv
    go_wp2_with fail
    exact bodyPost_ret (results_cell_tmp rfl _ _ (w.heap.size + 1 + 1) 30 _ _ rfl (blk_third w _ _ _ _) Tryz.underlying30 rfl size_cell) rfl (HPOST.out _ _ _ _ rfl)
  have hm2 : ((mode : Int) == 2) = false := by simp; exact h1
  by_cases h2 : line = done
  · by_cases h3 : line < L
    · have htk : takesB ⟨L, Y, mode, done, false, false, slc, tlc, ps, hs⟩ p = false := by
        rw [← Bool.not_eq_true]
        exact fun hc => hno ⟨rfl, rfl, h1, h2, h3, hc⟩
      have HT := Lib.hid htk
      subst h2
      clear hno htk h1
      go_enter Tryz.func11, Tryz.ntmps11
      unfold cv fv
      go_wp2_with fail
      refine (rce_takes ⟨L, Y, mode, done, false, false, slc, tlc, ps, hs⟩ g c h d p _ HWF.out).mono ?_
      rintro e w2 ⟨rfl, hb2⟩
      rw [HT.out]
      have b1 : Blk w2 w.heap.size (cv ⟨L, Y, mode, done, false, false, slc, tlc, ps, hs⟩ g c h d) 30 := (((Blk.new w _ _).alloc _).alloc _).after hb2
      have b3 : Blk w2 (w.heap.size + 2) zv 30 := (blk_third w _ _ _ _).after hb2
      have bw := (below_3 w _ _ _).trans (hb2.mono (below_3 w _ _ _).size)
      have B1 := Lib.hid b1
      have B3 := Lib.hid b3
      have BW := Lib.hid bw
      clear b1 b3 bw hb2 HPOST
      go_wp2_with (first
        | (refine wpList_load_row rfl 30 (.tmp 4) rfl w.heap.size rfl 30 (cv ⟨L, Y, mode, done, false, false, slc, tlc, ps, hs⟩ g c h d) (0, 0) _ B1.out Tryz.underlying30 rfl size_cell ?_)
        | (refine wpList_store_row rfl 30 (.tmp 8) (.tmp 39) rfl (w.heap.size + 2) (cv ⟨L, Y, mode, done, false, false, slc, tlc, ps, hs⟩ g c h d) rfl rfl 30 zv B3.out size_cell rfl (cv_one _ _ _ _ _) ?_))
      have hlt := HR.out.lt HWF.out
      exact bodyPost_ret (results_cell_tmp rfl _ _ (w.heap.size + 2) 30 _ _ rfl (B3.out.put _) Tryz.underlying30 rfl size_cell) rfl ⟨⟨g, c, h, d, rfl, (HR.out.after HWF.out BW.out).keep (setRow_heap_ne _ _ _ _ (by omega)) (setRow_heap_ne _ _ _ _ (by omega)), Or.inl ⟨rfl, rfl⟩⟩, below_put (by omega) _ BW.out⟩
    · have h4 : ¬ ((done : Nat) : Int) < L := by omega
      subst h2
      clear hno h1 h3
      go_enter Tryz.func11, Tryz.ntmps11
      unfold cv fv
      go_wp2_with fail
      exact bodyPost_ret (results_cell_tmp rfl _ _ (w.heap.size + 1 + 1) 30 _ _ rfl (blk_third w _ _ _ _) Tryz.underlying30 rfl size_cell) rfl (HPOST.out _ _ _ _ rfl)
  · have h3 : ((line : Int) == (done : Nat)) = false := by simp; exact h2
    clear hno h1
    go_enter Tryz.func11, Tryz.ntmps11
    unfold cv fv
    go_wp2_with fail
    exact bodyPost_ret (results_cell_tmp rfl _ _ (w.heap.size + 1 + 1) 30 _ _ rfl (blk_third w _ _ _ _) Tryz.underlying30 rfl size_cell) rfl (HPOST.out _ _ _ _ rfl)

theorem rce_prog (s : St) (g c h d : Nat) (line : Int) (p : ByteArray) (x k a b : Int) (w : World) (hw : WfSt s) (hr : RAt w s g c h d) :
    Calls Tryz.prog 11 #[.agg (cv s g c h d), .int .i64 line, .string p, .agg (fv x k a b)] w (PairT (progSt s line p k a b) (progC s line p k) g h w) := by
  by_cases hok : ProgOk s line p
  · obtain ⟨i, rfl⟩ : ∃ i : Nat, line = i := ⟨s.done, hok.2.2.2.1⟩
    exact rce_prog_yes s g c h d i p x k a b w hw hr hok
  · exact rce_prog_no s g c h d line p x k a b w hw hr hok

end Go.Proofs.YtjmoecfgpfdncaaGreatDoor

/- The reference of layer 8, walked: at, Read. -/
namespace Go.Proofs.YtjmoecfgpfdncaaGreatDoor
set_option maxRecDepth 100000
open Go.RowKit

theorem text_full {q : ByteArray} (h : ¬ q = ByteArray.empty) : q.toList.isEmpty = false := by
  rw [ByteArray.toList_eq]
  cases hq : q.data.toList with
  | nil =>
    exfalso
    apply h
    obtain ⟨d⟩ := q
    simp at hq
    subst hq
    rfl
  | cons => rfl
def AtP (s : St) (j : Nat) (w : World) (e : Ending) (w' : World) : Prop := e = .returned (.tuple #[.string (atT s j), .bool (atH s j)]) ∧ Below w.heap.size w w'
theorem rce_at (s : St) (g c h d j : Nat) (w : World) (hw : WfSt s) (hr : RAt w s g c h d) (hj : j < 3 * s.L) :
    Calls Tryz.prog 45 #[.agg (cv s g c h d), .int .i64 (j : Nat)] w (AtP s j w) := by
  have hlt := hr.lt hw
  have hb1 : Below w.heap.size w (w.alloc (.cells (cv s g c h d) 30)) := (Below.refl _ _).alloc (Nat.le_refl _) _
  have hp := (hr.after hw hb1).page hw j hj
  have hm := (hr.after hw hb1).mark hw j hj
  have HCB := Lib.hid (Blk.new w (cv s g c h d) 30)
  have hl64 := hw.l64
  have hsz := hw.size j
  change (pageAt s j).size ≤ 400 at hsz
  have hy : blankT (s.Y : Nat) = blankS s.Y := by unfold blankT; rw [if_pos ⟨by omega, by simpa using hw.y⟩]; simp
  have HY := Lib.hid hy
  have haf : IsAfter s.L s.done (j / 3 : Nat) := ⟨⟨by have := hw.l1; omega, by omega⟩, by omega, by have := hw.done; omega, by omega, by omega⟩
  have HA : Hid (afN s.L s.done (j / 3 : Nat) = ((afterC s.L s.done (j / 3) : Nat) : Int)) := by show afN _ _ _ = _; unfold afN; rw [if_pos haf]; simp only [Int.toNat_natCast]
  have HB : Hid (∀ A, Below w.heap.size w (w.alloc A)) := fun A => (Below.refl _ _).alloc (Nat.le_refl _) _
  have h9 : (j : Int) < (3 * s.L : Nat) := by omega
  unfold AtP
  unfold cv at hp hm ⊢
  by_cases h1 : pageAt s j = ByteArray.empty
  · have ht : atT s j = blankS s.Y ∧ atH s j = false := by unfold atT atH; rw [if_pos h1, if_pos h1]; exact ⟨rfl, rfl⟩
    rw [ht.1, ht.2]
    rw [h1] at hp
    clear hw hr hy haf hb1 hlt HA ht
    go_enter Tryz.func45, Tryz.ntmps45
    go_wp2_with fail
    refine (rfr_blank s.Y _).mono ?_
    rintro e w2 ⟨rfl, hb2⟩
    have HB2 := Lib.hid ((HB.out _).trans (hb2.mono (HB.out _).size))
    rw [HY.out]
    clear hb2
    go_wp2_with fail
    go_ret2
    exact ⟨rfl, HB2.out⟩
  · have hpe := text_full h1
    obtain ⟨q, hq⟩ : ∃ q, pageAt s j = q := ⟨_, rfl⟩
    by_cases h2 : s.hs.getD j false = true
    · have ht : atT s j = pageAt s j ∧ atH s j = true := by unfold atT atH; rw [if_neg h1, if_neg h1, if_pos h2, if_pos h2]; exact ⟨rfl, rfl⟩
      rw [ht.1, ht.2]
      rw [h2] at hm
      rw [hq] at hp hpe ⊢
      clear hw hr hy haf hb1 hlt HA ht hq hsz h1
      go_enter Tryz.func45, Tryz.ntmps45
      go_wp2_with fail
      go_ret2
      exact ⟨rfl, HB.out _⟩
    · have h2' : s.hs.getD j false = false := by simpa using h2
      rw [h2'] at hm
      have hq3 : (j : Int).tdiv 3 = ((j / 3 : Nat) : Int) := by rw [Int.tdiv_eq_ediv_of_nonneg (by omega)]; omega
      have hw3 : IntKind.i64.wrap ((j / 3 : Nat) : Int) = ((j / 3 : Nat) : Int) := by rw [IntKind.wrap_i64]; omega
      have hb3 : Blk (w.alloc (.cells #[.int .i64 s.L, .int .i64 s.Y, .int .i64 s.mode, .int .i64 s.done, .bool s.bad, .bool s.torn, .int .i64 s.slc, .int .i64 s.tlc, .slice (some ⟨g, 0, none⟩) (3 * s.L) c, .slice (some ⟨h, 0, none⟩) (3 * s.L) d] 30)) w.heap.size (cv s g c h d) 30 := Blk.new w _ _
      have HB3 := Lib.hid hb3
      have HP : Hid (∀ w2, Below (w.alloc (.cells #[.int .i64 s.L, .int .i64 s.Y, .int .i64 s.mode, .int .i64 s.done, .bool s.bad, .bool s.torn, .int .i64 s.slc, .int .i64 s.tlc, .slice (some ⟨g, 0, none⟩) (3 * s.L) c, .slice (some ⟨h, 0, none⟩) (3 * s.L) d] 30)).heap.size (w.alloc (.cells #[.int .i64 s.L, .int .i64 s.Y, .int .i64 s.mode, .int .i64 s.done, .bool s.bad, .bool s.torn, .int .i64 s.slc, .int .i64 s.tlc, .slice (some ⟨g, 0, none⟩) (3 * s.L) c, .slice (some ⟨h, 0, none⟩) (3 * s.L) d] 30)) w2 → w2.cell? ⟨g, j, none⟩ = some (.string q)) := by
        intro w2 h3
        rw [← hq]
        exact (((hr.after hw hb1).after hw h3).page hw j hj)
      have HFOG : Hid (isFog s j = (s.mode == 2 && afterC s.L s.done (j / 3) == 1)) := rfl
      have HT : Hid (atT s j = (if isFog s j = true then hurtT q 0 0 else q) ∧ atH s j = isFog s j) := by
        show _ ∧ _
        unfold atT atH
        rw [if_neg h1, if_neg h1, if_neg h2, if_neg h2, hq]
        exact ⟨rfl, rfl⟩
      rw [hq] at hp hpe hsz
      rw [HT.out.1, HT.out.2]
      obtain ⟨fo, hfo⟩ : ∃ fo, isFog s j = fo := ⟨_, rfl⟩
      rw [hfo] at HFOG ⊢
      clear hw hr hy haf hb1 hlt hq h1 h2 hb3 HT hfo h2'
      obtain ⟨af, haf⟩ : ∃ af, afterC s.L s.done (j / 3) = af := ⟨_, rfl⟩
      rw [haf] at HA HFOG
      clear haf
      by_cases hmo : s.mode = 2
      · have hmb : (s.mode == 2) = true := by simp [hmo]
        by_cases ha1 : af = 1
        · have hfo : fo = true := by rw [HFOG.out, hmb, ha1]; rfl
          subst hfo
          rw [if_pos rfl]
          have hab : ((af : Int) == 1) = true := by simp [ha1]
          subst ha1
          clear hmo
          go_enter Tryz.func45, Tryz.ntmps45
          go_wp2_with fail
          refine (ror_after s.L s.done (j / 3 : Nat) _).mono ?_
          rintro e w2 ⟨rfl, hb2⟩
          have hp2 := HP.out w2 hb2
          have hk2 := HB3.out.after hb2
          have hc2 : w2.cell? ⟨w.heap.size, 2, none⟩ = some (.int .i64 s.mode) := hk2.cell 2
          have hc8 : w2.cell? ⟨w.heap.size, 8, none⟩ = some (.slice (some ⟨g, 0, none⟩) (3 * s.L) c) := hk2.cell 8
          have HB2 := Lib.hid ((HB.out _).trans (hb2.mono (HB.out _).size))
          rw [HA.out]
          clear hb2 hk2 HP HB3 hp hm
          go_wp2_with fail
          refine (rfr_hurt q 0 0 _ (by omega)).mono ?_
          rintro e w3 ⟨rfl, hb3⟩
          have HB3 := Lib.hid (HB2.out.trans (hb3.mono HB2.out.size))
          clear hb3 hp2 hc2 hc8
          go_wp2_with fail
          go_ret2
          exact ⟨rfl, HB3.out⟩
        · have hfo : fo = false := by rw [HFOG.out, hmb]; simpa using ha1
          subst hfo
          rw [if_neg (by simp)]
          have hab : ((af : Int) == 1) = false := by simp; omega
          clear hmo ha1
          go_enter Tryz.func45, Tryz.ntmps45
          go_wp2_with fail
          refine (ror_after s.L s.done (j / 3 : Nat) _).mono ?_
          rintro e w2 ⟨rfl, hb2⟩
          have hp2 := HP.out w2 hb2
          have hk2 := HB3.out.after hb2
          have hc2 : w2.cell? ⟨w.heap.size, 2, none⟩ = some (.int .i64 s.mode) := hk2.cell 2
          have hc8 : w2.cell? ⟨w.heap.size, 8, none⟩ = some (.slice (some ⟨g, 0, none⟩) (3 * s.L) c) := hk2.cell 8
          have HB2 := Lib.hid ((HB.out _).trans (hb2.mono (HB.out _).size))
          rw [HA.out]
          clear hb2 hk2 HP HB3 hp hm
          go_wp2_with fail
          go_ret2
          exact ⟨rfl, HB2.out⟩
      · have hmb : (s.mode == 2) = false := by simpa using hmo
        have hfo : fo = false := by rw [HFOG.out, hmb]; rfl
        subst hfo
        rw [if_neg (by simp)]
        clear hmo
        go_enter Tryz.func45, Tryz.ntmps45
        go_wp2_with fail
        refine (ror_after s.L s.done (j / 3 : Nat) _).mono ?_
        rintro e w2 ⟨rfl, hb2⟩
        have hp2 := HP.out w2 hb2
        have hk2 := HB3.out.after hb2
        have hc2 : w2.cell? ⟨w.heap.size, 2, none⟩ = some (.int .i64 s.mode) := hk2.cell 2
        have hc8 : w2.cell? ⟨w.heap.size, 8, none⟩ = some (.slice (some ⟨g, 0, none⟩) (3 * s.L) c) := hk2.cell 8
        have HB2 := Lib.hid ((HB.out _).trans (hb2.mono (HB.out _).size))
        rw [HA.out]
        clear hb2 hk2 HP HB3 hp hm
        go_wp2_with fail
        go_ret2
        exact ⟨rfl, HB2.out⟩

end Go.Proofs.YtjmoecfgpfdncaaGreatDoor

/- The reference of layer 8, walked: Read. -/
namespace Go.Proofs.YtjmoecfgpfdncaaGreatDoor
set_option maxRecDepth 100000
open Go.RowKit

def ReadP (s : St) (line part : Int) (w : World) (e : Ending) (w' : World) : Prop := e = .returned (.tuple #[.string (readT s line part), .int .i64 (readC s line part)]) ∧ Below w.heap.size w w'
theorem read_no {s : St} {line part : Int} (h : ¬ ReadOk s line part) : readT s line part = ByteArray.empty ∧ readC s line part = 80 := by
  unfold readT readC
  rw [if_neg h, if_neg h]
  exact ⟨rfl, rfl⟩
theorem read_yes {s : St} {i q : Nat} (h : ReadOk s i q) : readT s i q = atT s (3 * i + q) ∧ readC s i q = 0 := by
  unfold readT readC
  rw [if_pos h, if_pos h]
  simp
theorem rce_read (s : St) (g c h d : Nat) (line part : Int) (w : World) (hw : WfSt s) (hr : RAt w s g c h d) :
    Calls Tryz.prog 26 #[.agg (cv s g c h d), .int .i64 line, .int .i64 part] w (ReadP s line part w) := by
  have HB : Hid (∀ A, Below w.heap.size w (w.alloc A)) := fun A => (Below.refl _ _).alloc (Nat.le_refl _) _
  unfold ReadP
  by_cases hok : ReadOk s line part
  · obtain ⟨k1, k2, k3, k4, k5⟩ := hok
    obtain ⟨i, rfl⟩ : ∃ i : Nat, line = i := ⟨line.toNat, by omega⟩
    obtain ⟨q, rfl⟩ : ∃ q : Nat, part = q := ⟨part.toNat, by omega⟩
    have hy := read_yes (s := s) (i := i) (q := q) ⟨k1, k2, k3, k4, k5⟩
    rw [hy.1, hy.2]
    have hl64 := hw.l64
    have hb1 : Below w.heap.size w (w.alloc (.cells (cv s g c h d) 30)) := (Below.refl _ _).alloc (Nat.le_refl _) _
    have hw3 : IntKind.i64.wrap (3 * (i : Int)) = 3 * (i : Int) := by rw [IntKind.wrap_i64]; omega
    have hw4 : IntKind.i64.wrap (3 * (i : Int) + (q : Int)) = ((3 * i + q : Nat) : Int) := by rw [IntKind.wrap_i64]; omega
    have HAT := Lib.hid (rce_at s g c h d (3 * i + q) _ hw (hr.after hw hb1) (by omega))
    have hm1 : (s.mode == 1) = false ∨ ((s.mode == 1) = true ∧ q = 0) := by
      by_cases hm : s.mode = 1
      · exact Or.inr ⟨by simpa using hm, by have := fun hq => k5 ⟨hm, hq⟩; omega⟩
      · exact Or.inl (by simpa using hm)
    clear hy hw hr k5 hb1
    have e1 : ((3 * i + q : Nat) : Int) = 3 * (i : Int) + (q : Int) := by omega
    rw [e1] at hw4 HAT
    unfold cv at *
    rcases hm1 with hm1 | ⟨hm1, hq0⟩
    · go_enter Tryz.func26, Tryz.ntmps26
      go_wp2_with fail
      refine HAT.out.mono ?_
      rintro e w2 ⟨rfl, hb2⟩
      have HB2 := Lib.hid ((HB.out _).trans (hb2.mono (HB.out _).size))
      clear hb2
      go_wp2_with fail
      go_ret2
      exact ⟨rfl, HB2.out⟩
    · subst hq0
      go_enter Tryz.func26, Tryz.ntmps26
      go_wp2_with fail
      refine HAT.out.mono ?_
      rintro e w2 ⟨rfl, hb2⟩
      have HB2 := Lib.hid ((HB.out _).trans (hb2.mono (HB.out _).size))
      clear hb2
      go_wp2_with fail
      go_ret2
      exact ⟨rfl, HB2.out⟩
  · rw [(read_no hok).1, (read_no hok).2]
    have hc : line < 0 ∨ (¬ line < 0 ∧ s.L ≤ line) ∨ (¬ line < 0 ∧ ¬ s.L ≤ line ∧ part < 0) ∨ (¬ line < 0 ∧ ¬ s.L ≤ line ∧ ¬ part < 0 ∧ 2 < part) ∨ (¬ line < 0 ∧ ¬ s.L ≤ line ∧ ¬ part < 0 ∧ ¬ 2 < part ∧ s.mode = 1 ∧ part ≠ 0) := by
      have hn : ¬ (0 ≤ line ∧ line < s.L ∧ 0 ≤ part ∧ part ≤ 2 ∧ ¬ (s.mode = 1 ∧ part ≠ 0)) := hok
      omega
    clear hw hr hok
    unfold cv
    rcases hc with h1 | ⟨h1, h2⟩ | ⟨h1, h2, h3⟩ | ⟨h1, h2, h3, h4⟩ | ⟨h1, h2, h3, h4, h5, h6⟩
    · go_enter Tryz.func26, Tryz.ntmps26
      go_wp2_with fail
      go_ret2
      exact ⟨rfl, HB.out _⟩
    · go_enter Tryz.func26, Tryz.ntmps26
      go_wp2_with fail
      go_ret2
      exact ⟨rfl, HB.out _⟩
    · go_enter Tryz.func26, Tryz.ntmps26
      go_wp2_with fail
      go_ret2
      exact ⟨rfl, HB.out _⟩
    · go_enter Tryz.func26, Tryz.ntmps26
      go_wp2_with fail
      go_ret2
      exact ⟨rfl, HB.out _⟩
    · have hm : (s.mode == 1) = true := by simpa using h5
      have hp : (part == 0) = false := by simpa using h6
      clear h5 h6
      go_enter Tryz.func26, Tryz.ntmps26
      go_wp2_with fail
      go_ret2
      exact ⟨rfl, HB.out _⟩

end Go.Proofs.YtjmoecfgpfdncaaGreatDoor

/- As XInv2, where one operation (a store) comes behind all others: what holds of the world need hold up to it alone. -/
namespace Go.Proofs.YtjmoecfgpfdncaaGreatDoor

section
variable {P : Program} {ops : Array Oper} {Q : Exit → Act → World → Prop} {md : Region.Mode}

theorem wpAny_facts3 {Base : Act → Prop} {C : World → Prop} {T : World → World → Prop} {R : Nat → Act → World → Prop} {S : Nat → List Tmp} (z : Nat) (hzb : z < ops.size)
    (hbefore : ∀ (i : Nat) (o : Oper), ops[i]? = some o → ∀ e ∈ o.after, Region.binds md e = true → e.on < i)
    (hslots : ∀ (i j : Nat) (o o' : Oper), ops[i]? = some o → ops[j]? = some o' → j ≠ i → (∀ e ∈ o'.after, Region.binds md e = true → e.on ≠ i) → ∀ d, o.dst = some d → d ∉ S j)
    (hext : ∀ j a a' w w', R j a w → (∀ s ∈ S j, a'.tmps.getD s undef = a.tmps.getD s undef) → T w w' → R j a' w')
    (hbase : ∀ (i : Nat) (o : Oper), ops[i]? = some o → ∀ a v, Base a → Base (a.put o.dst v))
    (hlast : ∀ o, ops[z]? = some o → ∀ i, i < ops.size → i ≠ z → ∃ e ∈ o.after, Region.binds md e = true ∧ e.on = i)
    (hops : ∀ (i : Nat) (o : Oper), ops[i]? = some o → ∀ a w, C w → Base a → (∀ e ∈ o.after, Region.binds md e = true → R e.on a w) →
      wpOp P ops Q i (fun a' w' => ∃ v, a' = a.put o.dst v ∧ (i ≠ z → C w') ∧ T w w' ∧ R i a' w') a w)
    (hfin : ∀ a w, Base a → (∀ i, i < ops.size → R i a w) → Q .normal a w) :
    ∀ (fuel : Nat) (listed : Array Bool) (a : Act) (w : World), still ops.size listed ≤ fuel → listed.size = ops.size → (listed.getD z true = false → C w) → Base a →
      (∀ i, i < ops.size → listed.getD i true = true → R i a w ∧ ∀ o, ops[i]? = some o → ∀ e ∈ o.after, Region.binds md e = true → listed.getD e.on true = true) → wpAny P md ops Q fuel listed a w := by
  have all : ∀ (listed : Array Bool), listed.size = ops.size → Region.ready md ops listed = [] → ∀ i, i < ops.size → listed.getD i true = true := by
    intro listed hsz hr i
    induction i using Nat.strongRecOn with
    | ind i ih =>
      intro hi
      cases hl : listed.getD i true with
      | true => rfl
      | false =>
        exfalso
        have hm : i ∈ Region.ready md ops listed := by
          rw [mem_ready]
          refine ⟨hl, ops[i], by simp [hi], fun e he hb => ?_⟩
          have hlt := hbefore i ops[i] (by simp [hi]) e he hb
          have h2 := ih e.on hlt (by omega)
          have h3 : e.on < listed.size := by omega
          simp [Array.getD, h3] at h2 ⊢
          exact h2
        rw [hr] at hm; cases hm
  intro fuel
  induction fuel with
  | zero =>
    intro listed a w hst hsz hC hB hR
    have hall := still_zero (Nat.le_zero.1 hst)
    have hr : Region.ready md ops listed = [] := by
      cases h : Region.ready md ops listed with
      | nil => rfl
      | cons i l =>
        have hm : i ∈ Region.ready md ops listed := by rw [h]; exact List.mem_cons_self
        obtain ⟨h1, o, ho, _⟩ := mem_ready.1 hm
        have hi : i < ops.size := (Array.getElem?_eq_some_iff.1 ho).1
        rw [hall i hi] at h1; cases h1
    exact ⟨hr, hfin a w hB fun i hi => (hR i hi (hall i hi)).1⟩
  | succ fuel ih =>
    intro listed a w hst hsz hC hB hR
    refine ⟨fun hr => hfin a w hB fun i hi => (hR i hi (all listed hsz hr i hi)).1, fun i hi => ?_⟩
    obtain ⟨h1, o, ho, hdeps⟩ := mem_ready.1 hi
    have hin : i < ops.size := (Array.getElem?_eq_some_iff.1 ho).1
    have hdl : ∀ e ∈ o.after, Region.binds md e = true → listed.getD e.on true = true := by
      intro e he hb
      have hlt := hbefore i o ho e he hb
      have h2 := hdeps e he hb
      have h3 : e.on < listed.size := by omega
      simp [Array.getD, h3] at h2 ⊢
      exact h2
    have hCw : C w := by
      apply hC
      by_cases e : i = z
      · rw [← e]; exact h1
      · cases hz : listed.getD z true with
        | false => rfl
        | true =>
          exfalso
          by_cases hzs : z < ops.size
          · obtain ⟨_, hdz⟩ := hR z hzs hz
            obtain ⟨e', he', hb', hon⟩ := hlast ops[z] (by simp [hzs]) i hin e
            have h4 := hdz ops[z] (by simp [hzs]) e' he' hb'
            rw [hon, h1] at h4; cases h4
          · exact hzs hzb
    refine wpOp_mono ?_ (hops i o ho a w hCw hB fun e he hb => (hR e.on (by have := hbefore i o ho e he hb; omega) (hdl e he hb)).1)
    rintro a' w' ⟨v, rfl, hC', hT, hRv⟩
    have hless := still_less hin h1
    have keep : ∀ k, listed.getD k true = true → (listed.setIfInBounds i true).getD k true = true := by
      intro k hk
      by_cases e : k = i
      · subst e
        have hs : k < listed.size := by omega
        simp [Array.getD, hs]
      · rw [getD_set_ne true (Ne.symm e)]; exact hk
    refine ih _ _ _ (by omega) (by simp [hsz]) (fun hz => hC' fun e => ?_) (hbase i o ho a v hB) fun j hj hlj => ?_
    · subst e
      have hs : i < listed.size := by omega
      simp [Array.getD, hs] at hz
    by_cases e : j = i
    · subst e
      refine ⟨hRv, fun o' ho' e he hb => keep _ ?_⟩
      obtain rfl : o' = o := Option.some.inj (ho'.symm.trans ho)
      exact hdl e he hb
    · rw [getD_set_ne true (Ne.symm e)] at hlj
      obtain ⟨hRj, hdj⟩ := hR j hj hlj
      refine ⟨hext j a _ w w' hRj (fun s hs => put_slot fun x hx hxs => ?_) hT, fun o' ho' e he hb => keep _ (hdj o' ho' e he hb)⟩
      subst hxs
      refine hslots i j o ops[j] ho (by simp [hj]) e (fun e' he' hb' hne => ?_) x hx hs
      have := hdj ops[j] (by simp [hj]) e' he' hb'
      rw [hne, h1] at this; cases this

/-- does operation z come behind all others? -/
def lastB (l : List Oper) (z : Nat) : Bool := match l[z]? with
  | none => false
  | some o => (List.range l.length).all fun i => i == z || o.after.any fun e => Region.binds .any e && e.on == i
/-- .. where operations may be guarded: an operation that is not wanted leaves its slot undefined -/
theorem wp_region_list4 {id : Nat} {l : List Oper} {a : Act} {w : World} (z : Nat) (S : List (List Tmp)) (Base : Act → Prop) (C : World → Prop) (T : World → World → Prop) (R : Nat → Act → World → Prop) (hm : P.follows .mixedOrders = true)
    (hzl : z < l.length) (hzB : lastB l z = true) (hpl : planB l S = true) (hext : ∀ j a a' w w', R j a w → (∀ s ∈ S.getD j [], a'.tmps.getD s undef = a.tmps.getD s undef) → T w w' → R j a' w')
    (hbase : AllFrom (fun _ o => ∀ a v, Base a → Base (a.put o.dst v)) 0 l) (hC : C { w with drawn := w.drawn + 1 }) (hB : Base a)
    (hops : AllFrom (fun i o => ∀ a w, C w → Base a → (∀ e ∈ o.after, Region.binds .any e = true → R e.on a w) →
      if Region.wanted o (yielded l.toArray a.tmps) = true then o.wp P a w (Leaves (fun w' => i ≠ z → C w') T R i o a w) Q
      else Leaves (fun w' => i ≠ z → C w') T R i o a w (a.put o.dst undef) w) 0 l)
    (hfin : ∀ a w, Base a → (∀ i, i < l.length → R i a w) → Q .normal a w) : (Code.region id l.toArray true).wp P Q a w := by
  have hp := List.all_eq_true.1 hpl
  refine wp_region_any hm (wpAny_facts3 z (by simpa using hzl) (S := fun j => S.getD j []) (Base := Base) (C := C) (T := T) (R := R) ?_ ?_ hext hbase.all ?_
    (fun i o ho a w h1 h2 h3 => ?_)
    (fun a w h2 h3 => hfin a w h2 fun i hi => h3 i (by simpa using hi)) _ _ _ _ ?_ (by simp) (fun _ => hC) hB ?_)
  · intro i o ho e he hb
    have ho' : l[i]? = some o := by simpa using ho
    have h1 := hp i (List.mem_range.2 (List.getElem?_eq_some_iff.1 ho').1)
    simp only [ho', Bool.and_eq_true] at h1
    have h2 := (Array.all_eq_true_iff_forall_mem.1 h1.1) e he
    simpa [hb] using h2
  · intro i j o o' ho ho' hne hno d hd
    have hi : l[i]? = some o := by simpa using ho
    have hj : l[j]? = some o' := by simpa using ho'
    have h1 := hp i (List.mem_range.2 (List.getElem?_eq_some_iff.1 hi).1)
    simp only [hi, hd, Bool.and_eq_true] at h1
    have h2 := List.all_eq_true.1 h1.2 j (List.mem_range.2 (List.getElem?_eq_some_iff.1 hj).1)
    simp only [hj, Bool.or_eq_true, beq_iff_eq] at h2
    rcases h2 with h2 | h2 | h2
    · exact absurd h2 hne
    · obtain ⟨k, hk, hb⟩ := Array.any_eq_true.1 h2
      obtain ⟨e, he⟩ : ∃ e, e = o'.after[k] := ⟨_, rfl⟩
      rw [← he] at hb
      have he : e ∈ o'.after := by rw [he]; exact Array.getElem_mem hk
      simp only [Bool.and_eq_true, beq_iff_eq] at hb
      exact absurd hb.2 (hno e he hb.1)
    · intro hm
      simp at h2
      exact h2 hm
  · intro o ho i hi hne
    have ho' : l[z]? = some o := by simpa using ho
    have hi' : i < l.length := by simpa using hi
    unfold lastB at hzB
    rw [ho'] at hzB
    have h1 := List.all_eq_true.1 hzB i (List.mem_range.2 hi')
    simp only [Bool.or_eq_true, beq_iff_eq] at h1
    rcases h1 with h1 | h1
    · exact absurd h1 hne
    · obtain ⟨k, hk, hb⟩ := Array.any_eq_true.1 h1
      simp only [Bool.and_eq_true, beq_iff_eq] at hb
      exact ⟨o.after[k], Array.getElem_mem hk, hb.1, hb.2⟩
  · have h4 := hops.all i o ho a w h1 h2 h3
    unfold wpOp
    simp only [ho]
    by_cases hw : Region.wanted o (yielded l.toArray a.tmps) = true
    · rw [if_pos hw] at h4 ⊢
      exact Or.inl h4
    · rw [if_neg hw] at h4 ⊢
      exact h4
  · unfold still
    exact Nat.le_trans (List.length_filter_le _ _) (by simp)
  · intro i hi h
    have hi' : i < l.length := by simpa using hi
    simp [Array.getD] at h
    omega

end
end Go.Proofs.YtjmoecfgpfdncaaGreatDoor

/- The reference of layer 8, walked: two, where it is taken. -/
namespace Go.Proofs.YtjmoecfgpfdncaaGreatDoor
set_option maxRecDepth 100000
open Go.RowKit

def tv3 (p q r : ByteArray) : Array Value := #[.string p, .string q, .string r]
theorem size_three : (Tryz.prog.info? 36).map (·.size) = some 3 := by kernel_rfl
theorem below_4 (w : World) (A B C D : Obj) : Below w.heap.size w ((((w.alloc A).alloc B).alloc C).alloc D) := (below_3 w A B C).alloc (by simp; omega) _
theorem blk_4a (w : World) (A B C : Obj) (cs : Array Value) (t : TypeId) : Blk ((((w.alloc (.cells cs t)).alloc A).alloc B).alloc C) w.heap.size cs t := (((Blk.new w cs t).alloc A).alloc B).alloc C
theorem blk_4b (w : World) (A B C : Obj) (cs : Array Value) (t : TypeId) : Blk ((((w.alloc A).alloc (.cells cs t)).alloc B).alloc C) (w.heap.size + 1) cs t := (blk_mid w A B cs t).alloc C
theorem blk_4c (w : World) (A B C : Obj) (cs : Array Value) (t : TypeId) : Blk ((((w.alloc A).alloc B).alloc (.cells cs t)).alloc C) (w.heap.size + 2) cs t := (blk_third w A B cs t).alloc C
theorem blk_4d (w : World) (A B C : Obj) (cs : Array Value) (t : TypeId) : Blk ((((w.alloc A).alloc B).alloc C).alloc (.cells cs t)) (w.heap.size + 3) cs t := by
  have h := Blk.new (((w.alloc A).alloc B).alloc C) cs t
  rwa [World.size_alloc, World.size_alloc, World.size_alloc] at h

/-- the world while two goes on, at its beginning -/
structure CW8 (w0 : World) (s : St) (g c h d : Nat) (p q r : ByteArray) (x k a b : Int) (w : World) : Prop where
  cell : Blk w w0.heap.size (cv s g c h d) 30
  pgs : Blk w (w0.heap.size + 1) (tv3 p q r) 36
  how : Blk w (w0.heap.size + 2) (fv x k a b) 38
  ans : Blk w (w0.heap.size + 3) zv 30
  rd : RAt w s g c h d
  low : Below w0.heap.size w0 w
  top : w0.heap.size + 4 ≤ w.heap.size
theorem CW8.call {w0 w w' : World} {s : St} {g c h d : Nat} {p q r : ByteArray} {x k a b : Int} (h0 : CW8 w0 s g c h d p q r x k a b w) (hw : WfSt s) (hb : Below w.heap.size w w') : CW8 w0 s g c h d p q r x k a b w' :=
  ⟨h0.cell.after hb, h0.pgs.after hb, h0.how.after hb, h0.ans.after hb, h0.rd.after hw hb, h0.low.trans (hb.mono h0.low.size), Nat.le_trans h0.top hb.size⟩


theorem tv_one (p q r : ByteArray) : (tv3 p q r).all (·.oneCell') = true := by
  rw [Array.all_eq_true_iff_forall_mem]
  intro v hv
  simp [tv3] at hv
  rcases hv with rfl | rfl | rfl <;> rfl
/-- the n-th of three -/
def pgN (p q r : ByteArray) (n : Nat) : ByteArray := if n = 0 then p else if n = 1 then q else r
theorem tv_cell {w : World} {b : Nat} {p q r : ByteArray} {t : TypeId} (h : Blk w b (tv3 p q r) t) (n : Nat) (hn : n < 3) : w.cell? ⟨b, n, none⟩ = some (.string (pgN p q r n)) := by
  rw [h.cell n]
  match n, hn with
  | 0, _ => rfl
  | 1, _ => rfl
  | 2, _ => rfl
theorem put3_succ (s : St) (i : Nat) (p q r : ByteArray) (k a b : Int) (n : Nat) (hn : n < 3) : put3 s i p q r k a b (n + 1) = putSt (put3 s i p q r k a b n) (i + n) (pageT (pgN p q r n) k a b) (hurtsB k) := by
  match n, hn with
  | 0, _ => rfl
  | 1, _ => rfl
  | 2, _ => rfl
theorem put3_wf {s : St} (h : WfSt s) (i : Nat) {p q r : ByteArray} (k a b : Int) (hp : p.size ≤ 400) (hq : q.size ≤ 400) (hr : r.size ≤ 400) (n : Nat) (hn : n ≤ 3) : WfSt (put3 s i p q r k a b n) := by
  have h1 := putSt_wf h i (hurtsB k) (p := pageT p k a b) (by rw [pageT_size]; exact hp)
  have h2 := putSt_wf h1 (i + 1) (hurtsB k) (p := pageT q k a b) (by rw [pageT_size]; exact hq)
  have h3 := putSt_wf h2 (i + 2) (hurtsB k) (p := pageT r k a b) (by rw [pageT_size]; exact hr)
  match n, hn with
  | 0, _ => exact h
  | 1, _ => exact h1
  | 2, _ => exact h2
  | 3, _ => exact h3
def TZ (R : Nat) (Z : World → Prop) (w w' : World) : Prop := (∀ b, b < w.heap.size → b ≠ R → w'.heap[b]? = w.heap[b]?) ∧ (Z w → Z w')
theorem TZ.refl (R : Nat) (Z : World → Prop) (w : World) : TZ R Z w w := ⟨fun _ _ _ => rfl, id⟩
theorem TZ.call {R : Nat} {Z : World → Prop} {w w' : World} (hZ : Z w → Below w.heap.size w w' → Z w') (hb : Below w.heap.size w w') : TZ R Z w w' := ⟨fun b hlt _ => hb.block b hlt, fun h => hZ h hb⟩
theorem TZ.put {R : Nat} {Z : World → Prop} {w : World} (cs : Array Value) (h : Z (w.setRow R cs)) : TZ R Z w (w.setRow R cs) := ⟨fun b _ hne => setRow_heap_ne _ _ _ _ (by omega), fun _ => h⟩
theorem SlotC.ext4 {x : Tmp} {s : St} {base R : Nat} {Z : World → Prop} {a a' : Act} {w w' : World} (hw : WfSt s) (hR : R < base) (h : SlotC x s base a w) (hx : a'.tmps.getD x undef = a.tmps.getD x undef) (hT : TZ R Z w w') : SlotC x s base a' w' := by
  obtain ⟨g, c, h', d, h1, h2, h3, h4⟩ := h
  have hl := h2.lt hw
  exact ⟨g, c, h', d, hx.trans h1, h2.keep (hT.1 g hl.1 (by omega)) (hT.1 h' hl.2 (by omega)), h3, h4⟩
/-- behind a store: the cell that is put, its slices new -/
def ZTW (w0 : World) (s : St) (p q r : ByteArray) (x k a b : Int) (w : World) : Prop := ∃ g c h d, CW8 w0 s g c h d p q r x k a b w ∧ w0.heap.size + 4 ≤ g ∧ w0.heap.size + 4 ≤ h
theorem ZTW.call {w0 w w' : World} {s : St} {p q r : ByteArray} {x k a b : Int} (hw : WfSt s) (h : ZTW w0 s p q r x k a b w) (hb : Below w.heap.size w w') : ZTW w0 s p q r x k a b w' := by
  obtain ⟨g, c, h', d, h1, h2, h3⟩ := h
  exact ⟨g, c, h', d, h1.call hw hb, h2, h3⟩
theorem CW8.store {w0 w : World} {s t : St} {g c h d g2 c2 h2 d2 : Nat} {p q r : ByteArray} {x k a b : Int} (h0 : CW8 w0 s g c h d p q r x k a b w) (hr : RAt w t g2 c2 h2 d2) (hg : w0.heap.size + 4 ≤ g2) (hh : w0.heap.size + 4 ≤ h2) : ZTW w0 t p q r x k a b (w.setRow w0.heap.size (cv t g2 c2 h2 d2)) :=
  ⟨g2, c2, h2, d2, ⟨h0.cell.put _, h0.pgs.put_other (by omega) _, h0.how.put_other (by omega) _, h0.ans.put_other (by omega) _, hr.keep (setRow_heap_ne _ _ _ _ (by omega)) (setRow_heap_ne _ _ _ _ (by omega)), below_put (Nat.le_refl _) _ h0.low, by rw [size_setRow]; exact h0.top⟩, hg, hh⟩
structure SpTW (w0 : World) (s : St) (p q r : ByteArray) (x k b1 b : Int) (j : Nat) (a : Act) (w : World) : Prop where
  c12 : j = 12 → SlotC 114 s (w0.heap.size + 4) a w
  c13 : j = 13 → ZTW w0 s p q r x k b1 b w
def fTW (j : Nat) : List Tmp := if j = 12 then [114] else []
theorem SpTW.ext {w0 : World} {s : St} {p q r : ByteArray} {x k b1 b : Int} (h2 : WfSt s) : ∀ (j : Nat) (a a' : Act) (w w' : World), SpTW w0 s p q r x k b1 b j a w → (∀ y ∈ fTW j, a'.tmps.getD y undef = a.tmps.getD y undef) → TZ w0.heap.size (ZTW w0 s p q r x k b1 b) w w' → SpTW w0 s p q r x k b1 b j a' w' := by
  rintro j a a' w w' ⟨f1, f2⟩ hx hT
  exact ⟨fun h => (f1 h).ext4 h2 (by omega) (hx 114 (by subst h; simp [fTW])) hT, fun h => hT.2 (f2 h)⟩

/-- what each operation of the region TW leaves -/
def vsTW (B : Nat) (cur : St) (g c h d i n : Nat) (pn : ByteArray) (x k a b : Int) : List (Option (Tmp × Value)) :=
  [some (102, .agg (cv cur g c h d)), some (103, .int .i64 (i : Nat)), some (104, .int .i64 ((3 * i : Nat) : Int)), some (105, .int .i64 (n : Nat)), some (106, .int .i64 ((3 * i + n : Nat) : Int)), some (107, .int .i64 (n : Nat)), some (108, .pointer (some ⟨B + 1, n, none⟩)), some (109, .string pn), some (110, .agg (fv x k a b)), some (111, .string (pageT pn k a b)), some (112, .agg (fv x k a b)), some (113, .bool (hurtsB k)), none, none]
/-- the frame while the region TW runs -/
def BaseTW (B i n : Nat) (arr0 : Array Value) (a : Act) : Prop := ∃ u : Nat → Value, a = ⟨#[arr0.getD 0 undef, .int .i64 (i : Nat), arr0.getD 2 undef, arr0.getD 3 undef, arr0.getD 4 undef, .pointer (some ⟨B, 0, none⟩), arr0.getD 6 undef, .pointer (some ⟨B + 1, 0, none⟩), arr0.getD 8 undef, .pointer (some ⟨B + 2, 0, none⟩), .pointer (some ⟨B + 3, 0, none⟩), arr0.getD 11 undef, arr0.getD 12 undef, arr0.getD 13 undef, arr0.getD 14 undef, .int .i64 (n : Nat), arr0.getD 16 undef, arr0.getD 17 undef, arr0.getD 18 undef, arr0.getD 19 undef, arr0.getD 20 undef, arr0.getD 21 undef, arr0.getD 22 undef, arr0.getD 23 undef, arr0.getD 24 undef, arr0.getD 25 undef, arr0.getD 26 undef, arr0.getD 27 undef, arr0.getD 28 undef, arr0.getD 29 undef, arr0.getD 30 undef, arr0.getD 31 undef, arr0.getD 32 undef, arr0.getD 33 undef, arr0.getD 34 undef, arr0.getD 35 undef, arr0.getD 36 undef, arr0.getD 37 undef, arr0.getD 38 undef, arr0.getD 39 undef, arr0.getD 40 undef, arr0.getD 41 undef, arr0.getD 42 undef, arr0.getD 43 undef, arr0.getD 44 undef, arr0.getD 45 undef, arr0.getD 46 undef, arr0.getD 47 undef, arr0.getD 48 undef, arr0.getD 49 undef, arr0.getD 50 undef, arr0.getD 51 undef, arr0.getD 52 undef, arr0.getD 53 undef, arr0.getD 54 undef, arr0.getD 55 undef, arr0.getD 56 undef, arr0.getD 57 undef, arr0.getD 58 undef, arr0.getD 59 undef, arr0.getD 60 undef, arr0.getD 61 undef, arr0.getD 62 undef, arr0.getD 63 undef, arr0.getD 64 undef, arr0.getD 65 undef, arr0.getD 66 undef, arr0.getD 67 undef, arr0.getD 68 undef, arr0.getD 69 undef, arr0.getD 70 undef, arr0.getD 71 undef, arr0.getD 72 undef, arr0.getD 73 undef, arr0.getD 74 undef, arr0.getD 75 undef, arr0.getD 76 undef, arr0.getD 77 undef, arr0.getD 78 undef, arr0.getD 79 undef, arr0.getD 80 undef, arr0.getD 81 undef, arr0.getD 82 undef, arr0.getD 83 undef, arr0.getD 84 undef, arr0.getD 85 undef, arr0.getD 86 undef, arr0.getD 87 undef, arr0.getD 88 undef, arr0.getD 89 undef, arr0.getD 90 undef, arr0.getD 91 undef, arr0.getD 92 undef, arr0.getD 93 undef, arr0.getD 94 undef, arr0.getD 95 undef, arr0.getD 96 undef, arr0.getD 97 undef, arr0.getD 98 undef, arr0.getD 99 undef, arr0.getD 100 undef, arr0.getD 101 undef, u 102, u 103, u 104, u 105, u 106, u 107, u 108, u 109, u 110, u 111, u 112, u 113, u 114, arr0.getD 115 undef, arr0.getD 116 undef, arr0.getD 117 undef, arr0.getD 118 undef, arr0.getD 119 undef], []⟩
theorem BaseTW.of {B i n : Nat} (arr : Array Value) (h : arr = #[arr.getD 0 undef, .int .i64 (i : Nat), arr.getD 2 undef, arr.getD 3 undef, arr.getD 4 undef, .pointer (some ⟨B, 0, none⟩), arr.getD 6 undef, .pointer (some ⟨B + 1, 0, none⟩), arr.getD 8 undef, .pointer (some ⟨B + 2, 0, none⟩), .pointer (some ⟨B + 3, 0, none⟩), arr.getD 11 undef, arr.getD 12 undef, arr.getD 13 undef, arr.getD 14 undef, .int .i64 (n : Nat), arr.getD 16 undef, arr.getD 17 undef, arr.getD 18 undef, arr.getD 19 undef, arr.getD 20 undef, arr.getD 21 undef, arr.getD 22 undef, arr.getD 23 undef, arr.getD 24 undef, arr.getD 25 undef, arr.getD 26 undef, arr.getD 27 undef, arr.getD 28 undef, arr.getD 29 undef, arr.getD 30 undef, arr.getD 31 undef, arr.getD 32 undef, arr.getD 33 undef, arr.getD 34 undef, arr.getD 35 undef, arr.getD 36 undef, arr.getD 37 undef, arr.getD 38 undef, arr.getD 39 undef, arr.getD 40 undef, arr.getD 41 undef, arr.getD 42 undef, arr.getD 43 undef, arr.getD 44 undef, arr.getD 45 undef, arr.getD 46 undef, arr.getD 47 undef, arr.getD 48 undef, arr.getD 49 undef, arr.getD 50 undef, arr.getD 51 undef, arr.getD 52 undef, arr.getD 53 undef, arr.getD 54 undef, arr.getD 55 undef, arr.getD 56 undef, arr.getD 57 undef, arr.getD 58 undef, arr.getD 59 undef, arr.getD 60 undef, arr.getD 61 undef, arr.getD 62 undef, arr.getD 63 undef, arr.getD 64 undef, arr.getD 65 undef, arr.getD 66 undef, arr.getD 67 undef, arr.getD 68 undef, arr.getD 69 undef, arr.getD 70 undef, arr.getD 71 undef, arr.getD 72 undef, arr.getD 73 undef, arr.getD 74 undef, arr.getD 75 undef, arr.getD 76 undef, arr.getD 77 undef, arr.getD 78 undef, arr.getD 79 undef, arr.getD 80 undef, arr.getD 81 undef, arr.getD 82 undef, arr.getD 83 undef, arr.getD 84 undef, arr.getD 85 undef, arr.getD 86 undef, arr.getD 87 undef, arr.getD 88 undef, arr.getD 89 undef, arr.getD 90 undef, arr.getD 91 undef, arr.getD 92 undef, arr.getD 93 undef, arr.getD 94 undef, arr.getD 95 undef, arr.getD 96 undef, arr.getD 97 undef, arr.getD 98 undef, arr.getD 99 undef, arr.getD 100 undef, arr.getD 101 undef, arr.getD 102 undef, arr.getD 103 undef, arr.getD 104 undef, arr.getD 105 undef, arr.getD 106 undef, arr.getD 107 undef, arr.getD 108 undef, arr.getD 109 undef, arr.getD 110 undef, arr.getD 111 undef, arr.getD 112 undef, arr.getD 113 undef, arr.getD 114 undef, arr.getD 115 undef, arr.getD 116 undef, arr.getD 117 undef, arr.getD 118 undef, arr.getD 119 undef]) : BaseTW B i n arr ⟨arr, []⟩ := ⟨fun i => arr.getD i undef, by rw [← h]⟩
theorem BaseTW.put102 {B i n : Nat} {arr0 : Array Value} (a : Act) (v : Value) (h : BaseTW B i n arr0 a) : BaseTW B i n arr0 (a.put (some 102) v) := by
  obtain ⟨u, rfl⟩ := h
  exact ⟨fun i => if i = 102 then v else u i, by kernel_rfl⟩
theorem BaseTW.put103 {B i n : Nat} {arr0 : Array Value} (a : Act) (v : Value) (h : BaseTW B i n arr0 a) : BaseTW B i n arr0 (a.put (some 103) v) := by
  obtain ⟨u, rfl⟩ := h
  exact ⟨fun i => if i = 103 then v else u i, by kernel_rfl⟩
theorem BaseTW.put104 {B i n : Nat} {arr0 : Array Value} (a : Act) (v : Value) (h : BaseTW B i n arr0 a) : BaseTW B i n arr0 (a.put (some 104) v) := by
  obtain ⟨u, rfl⟩ := h
  exact ⟨fun i => if i = 104 then v else u i, by kernel_rfl⟩
theorem BaseTW.put105 {B i n : Nat} {arr0 : Array Value} (a : Act) (v : Value) (h : BaseTW B i n arr0 a) : BaseTW B i n arr0 (a.put (some 105) v) := by
  obtain ⟨u, rfl⟩ := h
  exact ⟨fun i => if i = 105 then v else u i, by kernel_rfl⟩
theorem BaseTW.put106 {B i n : Nat} {arr0 : Array Value} (a : Act) (v : Value) (h : BaseTW B i n arr0 a) : BaseTW B i n arr0 (a.put (some 106) v) := by
  obtain ⟨u, rfl⟩ := h
  exact ⟨fun i => if i = 106 then v else u i, by kernel_rfl⟩
theorem BaseTW.put107 {B i n : Nat} {arr0 : Array Value} (a : Act) (v : Value) (h : BaseTW B i n arr0 a) : BaseTW B i n arr0 (a.put (some 107) v) := by
  obtain ⟨u, rfl⟩ := h
  exact ⟨fun i => if i = 107 then v else u i, by kernel_rfl⟩
theorem BaseTW.put108 {B i n : Nat} {arr0 : Array Value} (a : Act) (v : Value) (h : BaseTW B i n arr0 a) : BaseTW B i n arr0 (a.put (some 108) v) := by
  obtain ⟨u, rfl⟩ := h
  exact ⟨fun i => if i = 108 then v else u i, by kernel_rfl⟩
theorem BaseTW.put109 {B i n : Nat} {arr0 : Array Value} (a : Act) (v : Value) (h : BaseTW B i n arr0 a) : BaseTW B i n arr0 (a.put (some 109) v) := by
  obtain ⟨u, rfl⟩ := h
  exact ⟨fun i => if i = 109 then v else u i, by kernel_rfl⟩
theorem BaseTW.put110 {B i n : Nat} {arr0 : Array Value} (a : Act) (v : Value) (h : BaseTW B i n arr0 a) : BaseTW B i n arr0 (a.put (some 110) v) := by
  obtain ⟨u, rfl⟩ := h
  exact ⟨fun i => if i = 110 then v else u i, by kernel_rfl⟩
theorem BaseTW.put111 {B i n : Nat} {arr0 : Array Value} (a : Act) (v : Value) (h : BaseTW B i n arr0 a) : BaseTW B i n arr0 (a.put (some 111) v) := by
  obtain ⟨u, rfl⟩ := h
  exact ⟨fun i => if i = 111 then v else u i, by kernel_rfl⟩
theorem BaseTW.put112 {B i n : Nat} {arr0 : Array Value} (a : Act) (v : Value) (h : BaseTW B i n arr0 a) : BaseTW B i n arr0 (a.put (some 112) v) := by
  obtain ⟨u, rfl⟩ := h
  exact ⟨fun i => if i = 112 then v else u i, by kernel_rfl⟩
theorem BaseTW.put113 {B i n : Nat} {arr0 : Array Value} (a : Act) (v : Value) (h : BaseTW B i n arr0 a) : BaseTW B i n arr0 (a.put (some 113) v) := by
  obtain ⟨u, rfl⟩ := h
  exact ⟨fun i => if i = 113 then v else u i, by kernel_rfl⟩
theorem BaseTW.put114 {B i n : Nat} {arr0 : Array Value} (a : Act) (v : Value) (h : BaseTW B i n arr0 a) : BaseTW B i n arr0 (a.put (some 114) v) := by
  obtain ⟨u, rfl⟩ := h
  exact ⟨fun i => if i = 114 then v else u i, by kernel_rfl⟩

set_option maxHeartbeats 1000000 in
theorem rce_two_yes (s : St) (g c h d i : Nat) (p q r : ByteArray) (f : Bool) (x k a b : Int) (w : World) (hw : WfSt s) (hr : RAt w s g c h d) (hok : TwoOk s i p q r f) :
    Calls Tryz.prog 39 #[.agg (cv s g c h d), .int .i64 (i : Nat), .agg (tv3 p q r), .bool f, .agg (fv x k a b)] w (PairT (twoSt s i p q r f k a b) (twoC s i p q r f k) g h w) := by
  have hres : twoSt s i p q r f k a b = endSt (put3 (stepSt s 2) (3 * i) p q r k a b 3) k ∧ twoC s i p q r f k = endC k := by
    unfold twoSt twoC
    rw [if_pos hok, if_pos hok]
    simp
  rw [hres.1, hres.2]
  obtain ⟨k1, k2, k3, k4, k5, k6, k7, k8, k9, k10⟩ := hok
  have hw1 : WfSt (stepSt s 2) := stepSt_wf hw (Or.inr rfl) k4
  have hl64 := hw.l64
  have hps := takes_size hw k7
  have hqs := takes_size hw k8
  have hrs := takes_size hw k9
  obtain ⟨L, Y, mode, done, bad, torn, slc, tlc, ps, hs⟩ := s
  simp only at k1 k2 k3 k4 k5 k6 hl64
  subst k1 k2
  have hm1 : ((mode : Int) == 1) = false := by simpa using k3
  have hst : IsStep L done := ⟨⟨by have := hw.l1; simp only at this; omega, by omega⟩, by omega, by omega⟩
  have hl : stL L done = (i : Nat) := by unfold stL; rw [if_pos hst]; simpa using k5.symm
  have hf : stF L done = f := by unfold stF; rw [if_pos hst]; simpa using k6.symm
  have hc : stC L done = 0 := if_pos hst
  have HL := Lib.hid hl
  have HF := Lib.hid hf
  have HC := Lib.hid hc
  have HW1 := Lib.hid hw1
  have HWF := Lib.hid hw
  have HR := Lib.hid hr
  have HT7 := Lib.hid k7
  have HT8 := Lib.hid k8
  have HT9 := Lib.hid k9
  have H10 := Lib.hid k10
  have hil : i < L := by
    have := place_step (n := L) (k := done) (by omega)
    omega
  have HLT := Lib.hid (hr.lt hw)
  clear hw hr hres hw1 k3 k5 k6 k7 k8 k9 k10 hst hl hf hc
  go_enter Tryz.func39, Tryz.ntmps39
  unfold cv fv tv3
  go_wp2_with fail
  refine (ror_at L done _).mono ?_
  rintro e w2 ⟨rfl, hb2⟩
  rw [HL.out, HF.out, HC.out, show sv (i : Int) f = #[.int .i64 i, .bool f] from rfl]
  have hq0 : CW8 w ⟨L, Y, mode, done, false, false, slc, tlc, ps, hs⟩ g c h d p q r x k a b (w2.alloc (.cells #[.int .i64 i, .bool f] 70)) :=
    CW8.call ⟨(blk_4a w _ _ _ _ _).after hb2, (blk_4b w _ _ _ _ _).after hb2, (blk_4c w _ _ _ _ _).after hb2, (blk_4d w _ _ _ _ _).after hb2, HR.out.after HWF.out ((below_4 w _ _ _ _).trans (hb2.mono (below_4 w _ _ _ _).size)), (below_4 w _ _ _ _).trans (hb2.mono (below_4 w _ _ _ _).size), by have := hb2.size; simp at this; omega⟩ HWF.out ((Below.refl _ _).alloc (Nat.le_refl _) _)
  have c4 : (w2.alloc (.cells #[.int .i64 i, .bool f] 70)).cell? ⟨w.heap.size, 4, none⟩ = some (.bool false) := hq0.cell.cell 4
  have c5 : (w2.alloc (.cells #[.int .i64 i, .bool f] 70)).cell? ⟨w.heap.size, 5, none⟩ = some (.bool false) := hq0.cell.cell 5
  have c2 : (w2.alloc (.cells #[.int .i64 i, .bool f] 70)).cell? ⟨w.heap.size, 2, none⟩ = some (.int .i64 mode) := hq0.cell.cell 2
  have c0 : (w2.alloc (.cells #[.int .i64 i, .bool f] 70)).cell? ⟨w.heap.size + 1, 0, none⟩ = some (.string p) := hq0.pgs.cell 0
  have Q0 := Lib.hid hq0
  have HD := Lib.hid (Blk.new w2 #[.int .i64 (i : Nat), .bool f] 70)
  clear hq0 hb2 HR
  go_wp2_with (first
    | (refine wpList_load_row_if (by kernel_rfl) 30 (.tmp 5) rfl w.heap.size rfl 30 (cv ⟨L, Y, mode, done, false, false, slc, tlc, ps, hs⟩ g c h d) (0, 0) _ Q0.out.cell Tryz.underlying30 rfl size_cell ?_))
  refine (rce_takes ⟨L, Y, mode, done, false, false, slc, tlc, ps, hs⟩ g c h d p _ HWF.out).mono ?_
  rintro e w3 ⟨rfl, hb3⟩
  rw [HT7.out]
  have hd3 := HD.out.after hb3
  have Q3 := Lib.hid (Q0.out.call HWF.out hb3)
  have e1 : w3.cell? ⟨w.heap.size + 1, 1, none⟩ = some (.string q) := Q3.out.pgs.cell 1
  clear hb3 Q0 HD c0 c2 c4 c5
  go_wp2_with (first
    | (refine wpList_load_row_if (by kernel_rfl) 30 (.tmp 5) rfl w.heap.size rfl 30 (cv ⟨L, Y, mode, done, false, false, slc, tlc, ps, hs⟩ g c h d) (0, 0) _ Q3.out.cell Tryz.underlying30 rfl size_cell ?_))
  refine (rce_takes ⟨L, Y, mode, done, false, false, slc, tlc, ps, hs⟩ g c h d q _ HWF.out).mono ?_
  rintro e w4 ⟨rfl, hb4⟩
  rw [HT8.out]
  have Q4 := Lib.hid (Q3.out.call HWF.out hb4)
  have e2 : w4.cell? ⟨w.heap.size + 1, 2, none⟩ = some (.string r) := Q4.out.pgs.cell 2
  clear hb4 Q3 e1 hd3
  go_wp2_with (first
    | (refine wpList_load_row_if (by kernel_rfl) 30 (.tmp 5) rfl w.heap.size rfl 30 (cv ⟨L, Y, mode, done, false, false, slc, tlc, ps, hs⟩ g c h d) (0, 0) _ Q4.out.cell Tryz.underlying30 rfl size_cell ?_))
  refine (rce_takes ⟨L, Y, mode, done, false, false, slc, tlc, ps, hs⟩ g c h d r _ HWF.out).mono ?_
  rintro e w5 ⟨rfl, hb5⟩
  rw [HT9.out]
  have Q5 := Lib.hid (Q4.out.call HWF.out hb5)
  clear hb5 Q4 e2
  go_wp2_with fail
  go_loopw [14] (fun iv wr => ∃ n : Nat, n ≤ 3 ∧ iv = .int .i64 n ∧ CW8 w ⟨L, Y, mode, done, false, false, slc, tlc, ps, hs⟩ g c h d p q r x k a b wr) (fun iv _ => 3 - (intOf iv).toNat)
  case atStart => exact ⟨0, by omega, rfl, Q5.out⟩
  case round =>
    obtain ⟨n, hn, rfl, hq⟩ := hrel
    by_cases hlt : n < 3
    · have hc8 : wr.cell? ⟨w.heap.size, 8, none⟩ = some (.slice (some ⟨g, 0, none⟩) (3 * L) c) := hq.cell.cell 8
      have hpg := hq.rd.page HWF.out (3 * i + n) (by simp only; omega)
      have hpn := tv_cell hq.pgs n hlt
      have hpe : f = true → pageAt ⟨L, Y, mode, done, false, false, slc, tlc, ps, hs⟩ (3 * i + n) = pgN p q r n := by
        intro hf
        have h3 := H10.out hf
        simp only [Int.toNat_natCast] at h3
        match n, hlt with
        | 0, _ => exact h3.1
        | 1, _ => exact h3.2.1
        | 2, _ => exact h3.2.2
      have HQ := Lib.hid hq
      clear hq
      cases f with
      | false =>
        clear hpe hpg hpn hc8
        go_wp2_with fail
        go_quiet (fail)
        go_wp2_with fail
        go_roundw
        case rel => exact ⟨n + 1, by omega, by go_num, HQ.out.call HWF.out (drewN_below2 _ _ _)⟩
        case measure => simp [intOf]; omega
      | true =>
        rw [hpe rfl] at hpg
        have hw1 : IntKind.i64.wrap (3 * (i : Int)) = 3 * (i : Int) := by rw [IntKind.wrap_i64]; omega
        have hw2 : IntKind.i64.wrap (3 * (i : Int) + (n : Int)) = ((3 * i + n : Nat) : Int) := by rw [IntKind.wrap_i64]; omega
        have hb2 : ((3 * i + n : Nat) : Int) < ((3 * L : Nat) : Int) := by omega
        clear hpe
        obtain ⟨pn, hpn2⟩ : ∃ pn, pgN p q r n = pn := ⟨_, rfl⟩
        rw [hpn2] at hpg hpn
        clear hpn2
        go_wp2_with fail
        go_quiet (fail)
        go_wp2_with fail
        go_roundw
        case rel => exact ⟨n + 1, by omega, by go_num, HQ.out.call HWF.out (drewN_below2 _ _ _)⟩
        case measure => simp [intOf]; omega
    · obtain rfl : n = 3 := by omega
      have hc2 : wr.cell? ⟨w.heap.size, 2, none⟩ = some (.int .i64 mode) := hq.cell.cell 2
      have hf2 := hq.cell.free 2
      have d1 : Blk (wr.setCell ⟨w.heap.size, 2, none⟩ (.int .i64 2)) w.heap.size _ 30 := hq.cell.set 2 _ rfl
      have hc3 : (wr.setCell ⟨w.heap.size, 2, none⟩ (.int .i64 2)).cell? ⟨w.heap.size, 3, none⟩ = some (.int .i64 (done : Nat)) := by rw [d1.cell 3]; rfl
      have hf3 := d1.free 3
      obtain ⟨s1, hs1⟩ : ∃ s1, stepSt ⟨L, Y, mode, done, false, false, slc, tlc, ps, hs⟩ 2 = s1 := ⟨_, rfl⟩
      obtain ⟨wz, hwz⟩ : ∃ wz, (wr.setCell ⟨w.heap.size, 2, none⟩ (.int .i64 2)).setCell ⟨w.heap.size, 3, none⟩ (.int .i64 ((done : Int) + 1)) = wz := ⟨_, rfl⟩
      have hgn : g ≠ w.heap.size ∧ h ≠ w.heap.size := by have := HLT.out; omega
      have hq2 : CW8 w s1 g c h d p q r x k a b wz := by
        rw [← hwz, ← hs1]
        exact ⟨d1.set 3 _ (stepSt_cv _ _ _ _ _ _), (hq.pgs.set_other (by omega) _ _).set_other (by omega) _ _, (hq.how.set_other (by omega) _ _).set_other (by omega) _ _, (hq.ans.set_other (by omega) _ _).set_other (by omega) _ _, RAt.same (hq.rd.keep ((Below.heap_setCell _ _ _ _ (by simpa using hgn.1)).trans (Below.heap_setCell _ _ _ _ (by simpa using hgn.1))) ((Below.heap_setCell _ _ _ _ (by simpa using hgn.2)).trans (Below.heap_setCell _ _ _ _ (by simpa using hgn.2)))) rfl rfl, (hq.low.setCell (Nat.le_refl _) _).setCell (Nat.le_refl _) _, by simpa using hq.top⟩
      have hwf1 : WfSt s1 := by rw [← hs1]; exact HW1.out
      have HS1 := Lib.hid hs1
      have HWZ := Lib.hid hwz
      have HQ2 := Lib.hid hq2
      have HWF1 := Lib.hid hwf1
      clear d1 hs1 hwz hq2 hwf1 hq
      have HP3 : Hid (∀ n, n < 3 → (pgN p q r n).size ≤ 400) := by
        show ∀ n, n < 3 → (pgN p q r n).size ≤ 400
        intro n _
        unfold pgN
        split
        · exact hps
        · split
          · exact hqs
          · exact hrs
      clear hgn
      go_wp2_with (rw [HWZ.out])
      go_loopw [15] (fun iv wr => ∃ (n g' c' h' d' : Nat), n ≤ 3 ∧ iv = .int .i64 n ∧ CW8 w (put3 s1 (3 * i) p q r k a b n) g' c' h' d' p q r x k a b wr ∧ ((g' = g ∧ h' = h) ∨ (w.heap.size + 4 ≤ g' ∧ w.heap.size + 4 ≤ h'))) (fun iv _ => 3 - (intOf iv).toNat)
      case atStart => exact ⟨0, g, c, h, d, by omega, rfl, by first | exact HQ2.out | (rw [HWZ.out]; exact HQ2.out), Or.inl ⟨rfl, rfl⟩⟩
      case round =>
        obtain ⟨n, g', c', h', d', hn, rfl, hq, hgh⟩ := hrel
        have hwc : WfSt (put3 s1 (3 * i) p q r k a b n) := put3_wf HWF1.out (3 * i) k a b hps hqs hrs n hn
        obtain ⟨cur, hcur⟩ : ∃ cur, put3 s1 (3 * i) p q r k a b n = cur := ⟨_, rfl⟩
        rw [hcur] at hq hwc
        by_cases hlt : n < 3
        · have CN : Hid (put3 s1 (3 * i) p q r k a b (n + 1) = putSt cur (3 * i + n) (pageT (pgN p q r n) k a b) (hurtsB k)) := by
            show put3 s1 (3 * i) p q r k a b (n + 1) = _
            rw [put3_succ _ _ _ _ _ _ _ _ _ hlt, hcur]
          obtain ⟨pn, hpn⟩ : ∃ pn, pgN p q r n = pn := ⟨_, rfl⟩
          have HPN : Hid (∀ w' : World, Blk w' (w.heap.size + 1) (tv3 p q r) 36 → w'.cell? ⟨w.heap.size + 1, n, none⟩ = some (.string pn)) := fun w' h1 => by rw [← hpn]; exact tv_cell h1 n hlt
          have HP : Hid (pn.size ≤ 1000) := by
            show pn.size ≤ 1000
            have := HP3.out n hlt
            rw [hpn] at this
            omega
          have hpz : (pageT pn k a b).size ≤ 400 := by
            rw [pageT_size]
            have := HP3.out n hlt
            rwa [hpn] at this
          have HWN := Lib.hid (putSt_wf hwc (3 * i + n) (hurtsB k) hpz)
          rw [hpn] at CN
          have HWC := Lib.hid hwc
          have HQ := Lib.hid hq
          have HF : Hid (i ≤ 64 ∧ n < 3) := ⟨by omega, hlt⟩
          have HZC : Hid (∀ w1 w2 : World, ZTW w (putSt cur (3 * i + n) (pageT pn k a b) (hurtsB k)) p q r x k a b w1 → Below w1.heap.size w1 w2 → ZTW w (putSt cur (3 * i + n) (pageT pn k a b) (hurtsB k)) p q r x k a b w2) := fun w1 w2 h1 h2 => h1.call HWN.out h2
          clear hpz hpn hwc hq hcur hgh
          go_wp2_with fail
          rename_i K0 hK0
          generalize hA : (⟨_, _⟩ : Act) = A
          have HA := Lib.hid hA
          have HBT : Hid (BaseTW w.heap.size i n A.tmps A) := by
            show BaseTW _ _ _ _ _
            rw [← hA]
            exact BaseTW.of _ (by kernel_rfl)
          clear hA
          refine wp_region_list4 13 (SV2 (vsTW w.heap.size cur g' c' h' d' i n pn x k a b) fTW) (BaseTW w.heap.size i n A.tmps) (CW8 w cur g' c' h' d' p q r x k a b) (TZ w.heap.size (ZTW w (putSt cur (3 * i + n) (pageT pn k a b) (hurtsB k)) p q r x k a b)) (RV (vsTW w.heap.size cur g' c' h' d' i n pn x k a b) (SpTW w (putSt cur (3 * i + n) (pageT pn k a b) (hurtsB k)) p q r x k a b)) rfl (by decide) (by kernel_rfl) (by kernel_rfl) (RV.ext2 (SpTW.ext HWN.out)) ?_ (HQ.out.call HWC.out (Below.refl _ _).drew) HBT.out ?_ ?_
          · exact ⟨BaseTW.put102, BaseTW.put103, BaseTW.put104, BaseTW.put105, BaseTW.put106, BaseTW.put107, BaseTW.put108, BaseTW.put109, BaseTW.put110, BaseTW.put111, BaseTW.put112, BaseTW.put113, BaseTW.put114, fun a v h => h, trivial⟩
          · refine ⟨?_, ?_, ?_, ?_, ?_, ?_, ?_, ?_, ?_, ?_, ?_, ?_, ?_, ?_, trivial⟩
            all_goals
              intro a w' hC hB hR
              obtain ⟨u, rfl⟩ := hB
              have HC := Lib.hid hC
              clear hC
            · clear hR
              refine if_yes (by kernel_rfl) ?_
              exact wp_load_row 30 (.tmp 5) rfl _ rfl 30 _ (0, 0) _ HC.out.cell Tryz.underlying30 rfl size_cell ⟨.agg (cv cur g' c' h' d'), rfl, (by first | exact HC.out | exact fun _ => HC.out), TZ.refl _ _ _, rfl⟩
            · clear hR
              refine if_yes (by kernel_rfl) ?_
              unfold Oper.wp
              go_simp
              exact ⟨.int .i64 (i : Nat), rfl, (by first | exact HC.out | exact fun _ => HC.out), TZ.refl _ _ _, rfl⟩
            · have h103 : u 103 = .int .i64 (i : Nat) := hR ⟨1, .data⟩ (by simp) rfl
              have hf := HF.out
              have hw : IntKind.i64.wrap (3 * (i : Int)) = ((3 * i : Nat) : Int) := by rw [IntKind.wrap_i64]; omega
              clear hf
              clear hR
              simp only [h103]
              clear h103
              refine if_yes (by kernel_rfl) ?_
              unfold Oper.wp
              go_simp
              exact ⟨_, rfl, (by first | exact HC.out | exact fun _ => HC.out), TZ.refl _ _ _, congrArg (Value.int .i64) (by have hf := HF.out; first | rfl | omega | (rw [IntKind.wrap_i64]; omega))⟩
            · clear hR
              refine if_yes (by kernel_rfl) ?_
              unfold Oper.wp
              go_simp
              exact ⟨.int .i64 (n : Nat), rfl, (by first | exact HC.out | exact fun _ => HC.out), TZ.refl _ _ _, rfl⟩
            · have h104 : u 104 = .int .i64 ((3 * i : Nat) : Int) := hR ⟨2, .data⟩ (by simp) rfl
              have h105 : u 105 = .int .i64 (n : Nat) := hR ⟨3, .data⟩ (by simp) rfl
              have hf := HF.out
              have hw : IntKind.i64.wrap (((3 * i : Nat) : Int) + (n : Int)) = ((3 * i + n : Nat) : Int) := by rw [IntKind.wrap_i64]; omega
              clear hf
              clear hR
              simp only [h104, h105]
              clear h104 h105
              refine if_yes (by kernel_rfl) ?_
              unfold Oper.wp
              go_simp
              exact ⟨_, rfl, (by first | exact HC.out | exact fun _ => HC.out), TZ.refl _ _ _, congrArg (Value.int .i64) (by have hf := HF.out; first | rfl | omega | (rw [IntKind.wrap_i64]; omega))⟩
            · clear hR
              refine if_yes (by kernel_rfl) ?_
              unfold Oper.wp
              go_simp
              exact ⟨.int .i64 (n : Nat), rfl, (by first | exact HC.out | exact fun _ => HC.out), TZ.refl _ _ _, rfl⟩
            · have h107 : u 107 = .int .i64 (n : Nat) := hR ⟨5, .data⟩ (by simp) rfl
              have hf := HF.out.2
              clear hR
              simp only [h107]
              clear h107
              refine if_yes (by kernel_rfl) ?_
              unfold Oper.wp
              go_simp
              exact ⟨.pointer (some ⟨w.heap.size + 1, n, none⟩), rfl, (by first | exact HC.out | exact fun _ => HC.out), TZ.refl _ _ _, rfl⟩
            · have h108 : u 108 = .pointer (some ⟨w.heap.size + 1, n, none⟩) := hR ⟨6, .data⟩ (by simp) rfl
              have hc : w'.cell? ⟨w.heap.size + 1, n, none⟩ = some (.string pn) := HPN.out w' HC.out.pgs
              clear hR
              simp only [h108]
              clear h108
              refine if_yes (by kernel_rfl) ?_
              unfold Oper.wp
              go_simp
              exact ⟨.string pn, rfl, (by first | exact HC.out | exact fun _ => HC.out), TZ.refl _ _ _, rfl⟩
            · clear hR
              refine if_yes (by kernel_rfl) ?_
              exact wp_load_row 38 (.tmp 9) rfl _ rfl 38 _ (0, 0) _ HC.out.how Tryz.underlying38 rfl size_fault ⟨.agg (fv x k a b), rfl, (by first | exact HC.out | exact fun _ => HC.out), TZ.refl _ _ _, rfl⟩
            · have h109 : u 109 = .string pn := hR ⟨7, .data⟩ (by simp) rfl
              have h110 : u 110 = .agg (fv x k a b) := hR ⟨8, .data⟩ (by simp) rfl
              clear hR
              simp only [h109, h110]
              clear h109 h110
              refine if_yes (by kernel_rfl) ?_
              unfold Oper.wp
              go_simp
              refine (rce_page pn x k a b _ HP.out).mono ?_
              rintro e w2 ⟨rfl, hb2⟩
              exact ⟨.string (pageT pn k a b), rfl, (by first | exact HC.out.call HWC.out hb2 | exact fun _ => HC.out.call HWC.out hb2), TZ.call (HZC.out _ _) hb2, rfl⟩
            · clear hR
              refine if_yes (by kernel_rfl) ?_
              exact wp_load_row 38 (.tmp 9) rfl _ rfl 38 _ (0, 0) _ HC.out.how Tryz.underlying38 rfl size_fault ⟨.agg (fv x k a b), rfl, (by first | exact HC.out | exact fun _ => HC.out), TZ.refl _ _ _, rfl⟩
            · have h112 : u 112 = .agg (fv x k a b) := hR ⟨10, .data⟩ (by simp) rfl
              clear hR
              simp only [h112]
              clear h112
              refine if_yes (by kernel_rfl) ?_
              unfold Oper.wp
              go_simp
              refine (rce_hurts x k a b _).mono ?_
              rintro e w2 ⟨rfl, hb2⟩
              exact ⟨.bool (hurtsB k), rfl, (by first | exact HC.out.call HWC.out hb2 | exact fun _ => HC.out.call HWC.out hb2), TZ.call (HZC.out _ _) hb2, rfl⟩
            · have h102 : u 102 = .agg (cv cur g' c' h' d') := hR ⟨0, .data⟩ (by simp) rfl
              have h106 : u 106 = .int .i64 ((3 * i + n : Nat) : Int) := hR ⟨4, .data⟩ (by simp) rfl
              have h111 : u 111 = .string (pageT pn k a b) := hR ⟨9, .data⟩ (by simp) rfl
              have h113 : u 113 = .bool (hurtsB k) := hR ⟨11, .data⟩ (by simp) rfl
              clear hR
              simp only [h102, h106, h111, h113]
              clear h102 h106 h111 h113
              refine if_yes (by kernel_rfl) ?_
              unfold Oper.wp
              go_simp
              refine (rce_put cur g' c' h' d' (3 * i + n) (pageT pn k a b) (hurtsB k) _ HWC.out HC.out.rd).mono ?_
              rintro e w2 ⟨⟨g2, c2, h2, d2, rfl, hr', hg', hh'⟩, hb2⟩
              exact ⟨.agg (cv (putSt cur (3 * i + n) (pageT pn k a b) (hurtsB k)) g2 c2 h2 d2), rfl, (by first | exact HC.out.call HWC.out hb2 | exact fun _ => HC.out.call HWC.out hb2), TZ.call (HZC.out _ _) hb2, ⟨fun _ => ⟨g2, c2, h2, d2, rfl, hr', Nat.le_trans HC.out.top hg', Nat.le_trans HC.out.top hh'⟩, fun h => absurd h (by decide)⟩⟩
            · obtain ⟨g2, c2, h2, d2, hg, hr', hg', hh'⟩ := (SpTW.c12 (hR ⟨12, .data⟩ (by simp) rfl)) rfl
              have hg : u 114 = .agg (cv (putSt cur (3 * i + n) (pageT pn k a b) (hurtsB k)) g2 c2 h2 d2) := hg
              clear hR
              refine if_yes (by kernel_rfl) ?_
              simp only [hg]
              have hgood := CW8.store HC.out hr' hg' hh'
              exact wp_store_row 30 (.tmp 5) (.tmp 114) rfl w.heap.size (cv (putSt cur (3 * i + n) (pageT pn k a b) (hurtsB k)) g2 c2 h2 d2) rfl rfl 30 (cv cur g' c' h' d') HC.out.cell size_cell rfl (cv_one _ _ _ _ _) ⟨undef, rfl, fun h => absurd rfl h, TZ.put _ hgood, ⟨fun h => absurd h (by decide), fun _ => hgood⟩⟩
          · intro a' w' hB hR
            obtain ⟨g2, c2, h2, d2, z1, z2, z3⟩ := SpTW.c13 (hR 13 (by decide)) rfl
            have Z1 := Lib.hid z1
            have Z2 : Hid (w.heap.size + 4 ≤ g2 ∧ w.heap.size + 4 ≤ h2) := ⟨z2, z3⟩
            clear hR z1 z2 z3
            obtain ⟨u, rfl⟩ := hB
            rw [← HA.out]
            clear HA HBT
            go_wp2_with fail
            go_roundw
            case rel =>
              exact ⟨_, _, _, _, _, _, _, _, _, _, _, _, _, _, _, _, _, _, ⟨n + 1, g2, c2, h2, d2, by omega, by go_num, by rw [CN.out]; exact Z1.out, Or.inr Z2.out⟩, rfl⟩
            case measure => simp [intOf]; omega
        · obtain rfl : n = 3 := by omega
          have HCUR : Hid (put3 (stepSt ⟨L, Y, mode, done, false, false, slc, tlc, ps, hs⟩ 2) (3 * i) p q r k a b 3 = cur) := by show put3 _ _ _ _ _ _ _ _ _ = _; rw [HS1.out]; exact hcur
          have HQ := Lib.hid hq
          have HWC := Lib.hid hwc
          have HGH := Lib.hid hgh
          clear hcur hq hwc hgh HQ2 HWZ Q5 hc2 hc3 hf2 hf3
          go_wp2_with (first
            | (refine wpList_load_row rfl 30 (.tmp 5) rfl w.heap.size rfl 30 (cv cur g' c' h' d') (0, 0) _ HQ.out.cell Tryz.underlying30 rfl size_cell ?_)
            | (refine wpList_load_row rfl 38 (.tmp 9) rfl (w.heap.size + 2) rfl 38 (fv x k a b) (0, 0) _ HQ.out.how Tryz.underlying38 rfl size_fault ?_))
          refine (rce_ends cur g' c' h' d' x k a b _).mono ?_
          rintro e w8 ⟨rfl, hb8⟩
          have HQ8 := Lib.hid (HQ.out.call HWC.out hb8)
          clear hb8 HQ
          go_wp2_with (refine wpList_store_row rfl 30 (.tmp 10) (.tmp 118) rfl (w.heap.size + 3) (cv (endSt cur k) g' c' h' d') rfl rfl 30 zv HQ8.out.ans size_cell rfl (cv_one _ _ _ _ _) ?_)
          have hG := HGH.out
          have hL := HLT.out
          rw [HCUR.out]
          exact bodyPost_ret (results_cell_tmp rfl _ _ (w.heap.size + 3) 30 (cv (endSt cur k) g' c' h' d') _ rfl (HQ8.out.ans.put _) Tryz.underlying30 rfl size_cell) rfl ⟨⟨g', c', h', d', rfl, (RAt_end HQ8.out.rd k).keep (setRow_heap_ne _ _ _ _ (by omega)) (setRow_heap_ne _ _ _ _ (by omega)), hG.elim Or.inl (fun h1 => Or.inr ⟨by omega, by omega⟩)⟩, below_put (by omega) _ HQ8.out.low⟩

end Go.Proofs.YtjmoecfgpfdncaaGreatDoor
