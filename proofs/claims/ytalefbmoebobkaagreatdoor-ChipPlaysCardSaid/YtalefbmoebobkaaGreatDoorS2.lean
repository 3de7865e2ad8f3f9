/- Texts of one claim, merged: CeG, CeR5, CeR6, CeR7, CeR8, Inv3, CeRC, CeRD, CeRG, CeRH. -/
import Derived.Test.YtalefbmoebobkaaGreatDoorS1
import Derived.BigQuiet
import Derived.Deep.QuietTactic
/- Cells in a drawn region: what a slot, or a block, holds, while calls and one store of a cell come in any order. -/
namespace Go.Proofs.YtalefbmoebobkaaGreatDoor
set_option maxRecDepth 100000
open Go.RowKit
def SV2 (vs : List (Option (Tmp × Value))) (f : Nat → List Tmp) : List (List Tmp) := vs.mapIdx fun j o => match o with
 | some (d, _) => [d]
 | none => f j
theorem RV.ext2 {vs : List (Option (Tmp × Value))} {f : Nat → List Tmp} {Sp : Nat → Act → World → Prop} {T : World → World → Prop}
  (hsp : ∀ j a a' w w', Sp j a w → (∀ d ∈ f j, a'.tmps.getD d undef = a.tmps.getD d undef) → T w w' → Sp j a' w') :
  ∀ j a a' w w', RV vs Sp j a w → (∀ s ∈ (SV2 vs f).getD j [], a'.tmps.getD s undef = a.tmps.getD s undef) → T w w' → RV vs Sp j a' w' := by
 intro j a a' w w' h hd hT
 unfold RV at *
 rw [List.getD_eq_getElem?_getD] at hd
 cases hj : vs[j]? with
 | none => trivial
 | some o =>
  rw [hj] at h
  cases o with
  | none => exact hsp j a a' w w' h (fun d hm => hd d (by simp [SV2, hj]; exact hm)) hT
  | some p => exact (hd p.1 (by simp [SV2, hj])).trans h
def SlotC (x : Tmp) (s : St) (base : Nat) (a : Act) (w : World) : Prop := ∃ g c h d, a.tmps.getD x undef = .agg (cv s g c h d) ∧ RAt w s g c h d ∧ base ≤ g ∧ base ≤ h
def SlotP (x : Tmp) (s : St) (ec : Int) (base : Nat) (a : Act) (w : World) : Prop := ∃ g c h d, a.tmps.getD x undef = .tuple #[.agg (cv s g c h d), .int .i64 ec] ∧ RAt w s g c h d ∧ base ≤ g ∧ base ≤ h
def GoodC (R : Nat) (s : St) (base : Nat) (w : World) : Prop := ∃ g c h d, Blk w R (cv s g c h d) 66 ∧ RAt w s g c h d ∧ base ≤ g ∧ base ≤ h
def TG (R : Nat) (s : St) (base : Nat) (w w' : World) : Prop := (∀ b, b < w.heap.size → b ≠ R → w'.heap[b]? = w.heap[b]?) ∧ (GoodC R s base w → GoodC R s base w')
theorem TG.refl (R : Nat) (s : St) (base : Nat) (w : World) : TG R s base w w := ⟨fun _ _ _ => rfl, id⟩
theorem GoodC.after {R base : Nat} {s : St} {w w' : World} (h : GoodC R s base w) (hw : WfSt s) (hb : Below w.heap.size w w') : GoodC R s base w' := by
 obtain ⟨g, c, h', d, h1, h2, h3, h4⟩ := h
 exact ⟨g, c, h', d, h1.after hb, h2.after hw hb, h3, h4⟩
theorem TG.call {R base : Nat} {s : St} {w w' : World} (hw : WfSt s) (hb : Below w.heap.size w w') : TG R s base w w' := ⟨fun b hlt _ => hb.block b hlt, fun h => h.after hw hb⟩
theorem RAt.tg {R base : Nat} {s0 s : St} {w w' : World} {g c h d : Nat} (hr : RAt w s g c h d) (hw : WfSt s) (hg : base ≤ g) (hh : base ≤ h) (hR : R < base) (hT : TG R s0 base w w') : RAt w' s g c h d :=
 hr.keep (hT.1 g (hr.lt hw).1 (by omega)) (hT.1 h (hr.lt hw).2 (by omega))
theorem SlotC.ext {x : Tmp} {s s0 : St} {base R : Nat} {a a' : Act} {w w' : World} (hw : WfSt s) (hR : R < base) (h : SlotC x s base a w) (hx : a'.tmps.getD x undef = a.tmps.getD x undef) (hT : TG R s0 base w w') : SlotC x s base a' w' := by
 obtain ⟨g, c, h', d, h1, h2, h3, h4⟩ := h
 exact ⟨g, c, h', d, hx.trans h1, h2.tg hw h3 h4 hR hT, h3, h4⟩
theorem SlotP.ext {x : Tmp} {s s0 : St} {ec : Int} {base R : Nat} {a a' : Act} {w w' : World} (hw : WfSt s) (hR : R < base) (h : SlotP x s ec base a w) (hx : a'.tmps.getD x undef = a.tmps.getD x undef) (hT : TG R s0 base w w') : SlotP x s ec base a' w' := by
 obtain ⟨g, c, h', d, h1, h2, h3, h4⟩ := h
 exact ⟨g, c, h', d, hx.trans h1, h2.tg hw h3 h4 hR hT, h3, h4⟩
theorem goodC_put {R base : Nat} {s : St} {w : World} {cs : Array Value} {g c h d : Nat} (hb : Blk w R cs 66) (hr : RAt w s g c h d) (hg : base ≤ g) (hh : base ≤ h) (hR : R < base) : GoodC R s base (w.setRow R (cv s g c h d)) :=
 ⟨g, c, h, d, hb.put _, hr.keep (setRow_heap_ne _ _ _ _ (by omega)) (setRow_heap_ne _ _ _ _ (by omega)), hg, hh⟩
theorem TG.put {R base : Nat} {s : St} {w : World} (cs : Array Value) (h : GoodC R s base (w.setRow R cs)) : TG R s base w (w.setRow R cs) := ⟨fun b _ hne => setRow_heap_ne _ _ _ _ (by omega), fun _ => h⟩
structure CE (w0 : World) (B F R base : Nat) (s : St) (g c h d : Nat) (x k a b : Int) (w : World) : Prop where
 cell : Blk w B (cv s g c h d) 66
 how : Blk w F (fv x k a b) 40
 ans : ∃ cs : Array Value, cs.size = 10 ∧ Blk w R cs 66
 rd : RAt w s g c h d
 low : Below w0.heap.size w0 w
 top : base ≤ w.heap.size
theorem CE.call {w0 w w' : World} {B F R base : Nat} {s : St} {g c h d : Nat} {x k a b : Int} (h0 : CE w0 B F R base s g c h d x k a b w) (hw : WfSt s) (hb : Below w.heap.size w w') : CE w0 B F R base s g c h d x k a b w' := by
 obtain ⟨h1, h2, ⟨cs, h3, h4⟩, h5, h6, h7⟩ := h0
 exact ⟨h1.after hb, h2.after hb, ⟨cs, h3, h4.after hb⟩, h5.after hw hb, h6.trans (hb.mono h6.size), Nat.le_trans h7 hb.size⟩
theorem CE.put {w0 w : World} {B F R base : Nat} {s : St} {g c h d : Nat} {x k a b : Int} (h0 : CE w0 B F R base s g c h d x k a b w) (cs : Array Value) (hs : cs.size = 10) (hB : B ≠ R) (hF : F ≠ R) (hg : g ≠ R) (hh : h ≠ R) (hl : w0.heap.size ≤ R) : CE w0 B F R base s g c h d x k a b (w.setRow R cs) := by
 obtain ⟨h1, h2, ⟨cs0, h3, h4⟩, h5, h6, h7⟩ := h0
 exact ⟨h1.put_other (by omega) _, h2.put_other (by omega) _, ⟨cs, hs, h4.put cs⟩, h5.keep (setRow_heap_ne _ _ _ _ (by omega)) (setRow_heap_ne _ _ _ _ (by omega)), below_put hl _ h6, by rw [size_setRow]; exact h7⟩
theorem RAt.same {w : World} {s t : St} {g c h d : Nat} (hr : RAt w s g c h d) (hp : t.ps = s.ps) (hh : t.hs = s.hs) : RAt w t g c h d := by
 obtain ⟨h1, h2⟩ := hr
 exact ⟨by rw [hp]; exact h1, by rw [hh]; exact h2⟩
theorem endSt_ps (s : St) (k : Int) : (endSt s k).ps = s.ps ∧ (endSt s k).hs = s.hs := by
 unfold endSt
 split
 ·exact ⟨rfl, rfl⟩
 ·split <;> exact ⟨rfl, rfl⟩
theorem RAt_end {w : World} {s : St} {g c h d : Nat} (hr : RAt w s g c h d) (k : Int) : RAt w (endSt s k) g c h d := hr.same (endSt_ps s k).1 (endSt_ps s k).2
theorem stepSt_cv (s : St) (m : Int) (g c h d : Nat) : ((cv s g c h d).setIfInBounds 2 (.int .i64 m)).setIfInBounds 3 (.int .i64 ((s.done : Int) + 1)) = cv (stepSt s m) g c h d := by
 unfold cv stepSt
 simp
def PairT (s : St) (ec : Int) (g0 h0 : Nat) (w : World) (e : Ending) (w' : World) : Prop :=
 (∃ g c h d, e = .returned (.tuple #[.agg (cv s g c h d), .int .i64 ec]) ∧ RAt w' s g c h d ∧ ((g = g0 ∧ h = h0) ∨ (w.heap.size ≤ g ∧ w.heap.size ≤ h))) ∧ Below w.heap.size w w'
/- The reference of layer 8, walked: Program. -/
theorem blk_mid (w : World) (A B : Obj) (cs : Array Value) (t : TypeId) : Blk (((w.alloc A).alloc (.cells cs t)).alloc B) (w.heap.size + 1) cs t := by
 have h := (Blk.new (w.alloc A) cs t).alloc B
 rwa [World.size_alloc] at h
theorem below_3 (w : World) (A B C : Obj) : Below w.heap.size w (((w.alloc A).alloc B).alloc C) := (((Below.refl w.heap.size w).alloc (Nat.le_refl _) _).alloc (by simp) _).alloc (by simp; omega) _
structure SpPR (B : Nat) (s2 s3 : St) (ec : Int) (j : Nat) (a : Act) (w : World) : Prop where
 c8 : j = 8 → SlotC 53 s2 (B + 3) a w
 c10 : j = 10 → SlotP 55 s3 ec (B + 3) a w
 c11 : j = 11 → SlotC 56 s3 (B + 3) a w
 c13 : j = 13 → GoodC (B + 2) s3 (B + 3) w
def fPR (j : Nat) : List Tmp := if j = 8 then [53] else if j = 10 then [55] else if j = 11 then [56] else []
theorem SpPR.ext {B : Nat} {s2 s3 : St} {ec : Int} (h2 : WfSt s2) (h3 : WfSt s3) : ∀ (j : Nat) (a a' : Act) (w w' : World), SpPR B s2 s3 ec j a w → (∀ x ∈ fPR j, a'.tmps.getD x undef = a.tmps.getD x undef) → TG (B + 2) s3 (B + 3) w w' → SpPR B s2 s3 ec j a' w' := by
 rintro j a a' w w' ⟨f1, f2, f3, f4⟩ hx hT
 exact ⟨fun h => (f1 h).ext h2 (by omega) (hx 53 (by subst h; simp [fPR])) hT, fun h => (f2 h).ext h3 (by omega) (hx 55 (by subst h; simp [fPR])) hT, fun h => (f3 h).ext h3 (by omega) (hx 56 (by subst h; simp [fPR])) hT, fun h => hT.2 (f4 h)⟩
def vsPR (s1 : St) (g c h d i : Nat) (line : Int) (p : ByteArray) (x k a b : Int) : List (Option (Tmp × Value)) :=
 [some (45, .agg (cv s1 g c h d)), some (46, .int .i64 line), some (47, .int .i64 ((3 * i : Nat) : Int)), some (48, .string p), some (49, .agg (fv x k a b)), some (50, .string (pageT p k a b)), some (51, .agg (fv x k a b)), some (52, .bool (hurtsB k)), none, some (54, .agg (fv x k a b)), none, none, some (57, .int .i64 (endC k)), none, some (9, .int .i64 (endC k))]
def BasePR (B : Nat) (line : Int) (p : ByteArray) (a : Act) : Prop := ∃ u : Nat → Value, a = ⟨#[u 0, .int .i64 line, .string p, u 3, .pointer (some ⟨B, 0, none⟩), u 5, u 6, .pointer (some ⟨B + 1, 0, none⟩), .pointer (some ⟨B + 2, 0, none⟩), u 9, u 10, u 11, u 12, u 13, u 14, u 15, u 16, u 17, u 18, u 19, u 20, u 21, u 22, u 23, u 24, u 25, u 26, u 27, u 28, u 29, u 30, u 31, u 32, u 33, u 34, u 35, u 36, u 37, u 38, u 39, u 40, u 41, u 42, u 43, u 44, u 45, u 46, u 47, u 48, u 49, u 50, u 51, u 52, u 53, u 54, u 55, u 56, u 57], []⟩
theorem pr_no {s : St} {line : Int} {p : ByteArray} {k a b : Int} (h : ¬ ProgOk s line p) : progSt s line p k a b = s ∧ progC s line p k = 80 := by
 unfold progSt progC
 rw [if_neg h, if_neg h]
 exact ⟨rfl, rfl⟩
theorem pr_yes {s : St} {line : Int} {p : ByteArray} {k a b : Int} (h : ProgOk s line p) : progSt s line p k a b = endSt (putSt (stepSt s 1) (3 * line.toNat) (pageT p k a b) (hurtsB k)) k ∧ progC s line p k = endC k := by
 unfold progSt progC
 rw [if_pos h, if_pos h]
 exact ⟨rfl, rfl⟩
theorem rce_prog_yes (s : St) (g c h d i : Nat) (p : ByteArray) (x k a b : Int) (w : World) (hw : WfSt s) (hr : RAt w s g c h d) (hok : ProgOk s i p) :
  Calls Tryz.prog 43 #[.agg (cv s g c h d), .int .i64 (i : Nat), .string p, .agg (fv x k a b)] w (PairT (progSt s i p k a b) (progC s i p k) g h w) := by
 rw [(pr_yes (a := a) (b := b) hok).1, (pr_yes (a := a) (b := b) hok).2]
 have hi : (i : Int).toNat = i := by omega
 rw [hi]
 obtain ⟨k1, k2, k3, k4, k5, k6⟩ := hok
 have hps := takes_size hw k6
 have hl64 := hw.l64
 have hlt := hr.lt hw
 obtain ⟨L, Y, mode, done, bad, torn, slc, tlc, ps, hs⟩ := s
 simp only at k1 k2 k3 k4 k5 hl64
 subst k1 k2
 have hid : i = done := by omega
 subst hid
 have hd2 := hw.done
 simp only at hd2
 have hw1 : WfSt (stepSt ⟨L, Y, mode, i, false, false, slc, tlc, ps, hs⟩ 1) := stepSt_wf hw (Or.inl rfl) (by simp only; omega)
 have hpt : (pageT p k a b).size ≤ 400 := by rw [pageT_size]; exact hps
 have hw2 := putSt_wf hw1 (3 * i) (hurtsB k) hpt
 have hw3 := endSt_wf hw2 k
 have HW1 := Lib.hid hw1
 have HW2 := Lib.hid hw2
 have HW3 := Lib.hid hw3
 have HT := Lib.hid k6
 have HWF := Lib.hid hw
 have HR := Lib.hid hr
 have HLT := Lib.hid hlt
 have HP : Hid (p.size ≤ 1000) := by show p.size ≤ 1000; omega
 have HF : Hid (i ≤ 64) := by show i ≤ 64; omega
 have hi64 : i ≤ 64 := HF.out
 have hm2 : ((mode : Int) == 2) = false := by simp; exact k3
 clear hw1 hw2 hw3 hpt hw hr k6 hlt hps hi hd2
 obtain ⟨s1, hs1⟩ : ∃ s1, stepSt ⟨L, Y, mode, i, false, false, slc, tlc, ps, hs⟩ 1 = s1 := ⟨_, rfl⟩
 rw [hs1] at HW1 HW2 HW3 ⊢
 have HS1 := Lib.hid hs1
 clear hs1
 go_enter Tryz.func43, Tryz.ntmps43
 unfold cv fv
 go_wp2_with fail
 refine (rce_takes ⟨L, Y, mode, i, false, false, slc, tlc, ps, hs⟩ g c h d p _ HWF.out).mono ?_
 rintro e w2 ⟨rfl, hb2⟩
 rw [HT.out]
 have b1 : Blk w2 w.heap.size (cv ⟨L, Y, mode, i, false, false, slc, tlc, ps, hs⟩ g c h d) 66 := (((Blk.new w _ _).alloc _).alloc _).after hb2
 have b2 : Blk w2 (w.heap.size + 1) (fv x k a b) 40 := (blk_mid w _ _ _ _).after hb2
 have b3 : Blk w2 (w.heap.size + 2) zv 66 := (blk_third w _ _ _ _).after hb2
 have bw := (below_3 w _ _ _).trans (hb2.mono (below_3 w _ _ _).size)
 have br := HR.out.after HWF.out bw
 have ht2 : w.heap.size + 3 ≤ w2.heap.size := by have := hb2.size; simp at this; omega
 clear hb2 HR HT
 have hc2 : w2.cell? ⟨w.heap.size, 2, none⟩ = some (.int .i64 mode) := b1.cell 2
 have hf2 := b1.free 2
 have d1 : Blk (w2.setCell ⟨w.heap.size, 2, none⟩ (.int .i64 1)) w.heap.size _ 66 := b1.set 2 _ rfl
 have hc3 : (w2.setCell ⟨w.heap.size, 2, none⟩ (.int .i64 1)).cell? ⟨w.heap.size, 3, none⟩ = some (.int .i64 (i : Nat)) := by rw [d1.cell 3]; rfl
 have hf3 := d1.free 3
 have d2 : Blk ((w2.setCell ⟨w.heap.size, 2, none⟩ (.int .i64 1)).setCell ⟨w.heap.size, 3, none⟩ (.int .i64 ((i : Int) + 1))) w.heap.size (cv (stepSt ⟨L, Y, mode, i, false, false, slc, tlc, ps, hs⟩ 1) g c h d) 66 := d1.set 3 _ (stepSt_cv _ _ _ _ _ _)
 have e2 := (b2.set_other (c := w.heap.size) (by omega) 2 (.int .i64 1)).set_other (c := w.heap.size) (by omega) 3 (.int .i64 ((i : Int) + 1))
 have e3 := (b3.set_other (c := w.heap.size) (by omega) 2 (.int .i64 1)).set_other (c := w.heap.size) (by omega) 3 (.int .i64 ((i : Int) + 1))
 have er : RAt ((w2.setCell ⟨w.heap.size, 2, none⟩ (.int .i64 1)).setCell ⟨w.heap.size, 3, none⟩ (.int .i64 ((i : Int) + 1))) (stepSt ⟨L, Y, mode, i, false, false, slc, tlc, ps, hs⟩ 1) g c h d :=
  RAt.same (br.keep ((Below.heap_setCell _ _ _ _ (by have := HLT.out; simp; omega)).trans (Below.heap_setCell _ _ _ _ (by have := HLT.out; simp; omega))) ((Below.heap_setCell _ _ _ _ (by have := HLT.out; simp; omega)).trans (Below.heap_setCell _ _ _ _ (by have := HLT.out; simp; omega)))) rfl rfl
 have el := (bw.setCell (p := ⟨w.heap.size, 2, none⟩) (Nat.le_refl _) (.int .i64 1)).setCell (p := ⟨w.heap.size, 3, none⟩) (Nat.le_refl _) (.int .i64 ((i : Int) + 1))
 have HCE : Hid (CE w w.heap.size (w.heap.size + 1) (w.heap.size + 2) (w.heap.size + 3) (stepSt ⟨L, Y, mode, i, false, false, slc, tlc, ps, hs⟩ 1) g c h d x k a b ((w2.setCell ⟨w.heap.size, 2, none⟩ (.int .i64 1)).setCell ⟨w.heap.size, 3, none⟩ (.int .i64 ((i : Int) + 1)))) := ⟨d2, e2, ⟨zv, rfl, e3⟩, er, el, by simpa using ht2⟩
 clear b1 b2 b3 bw br ht2 d1 d2 e2 e3 er el
 rw [HS1.out] at HCE
 go_wp2_with fail
 rename_i K0 hK0
 refine wp_region_list3 (SV2 (vsPR s1 g c h d i (i : Int) p x k a b) fPR) (BasePR w.heap.size (i : Int) p) (CE w w.heap.size (w.heap.size + 1) (w.heap.size + 2) (w.heap.size + 3) s1 g c h d x k a b) (TG (w.heap.size + 2) (endSt (putSt s1 (3 * i) (pageT p k a b) (hurtsB k)) k) (w.heap.size + 3)) (RV (vsPR s1 g c h d i (i : Int) p x k a b) (SpPR w.heap.size (putSt s1 (3 * i) (pageT p k a b) (hurtsB k)) (endSt (putSt s1 (3 * i) (pageT p k a b) (hurtsB k)) k) (endC k))) rfl (by kernel_rfl) (RV.ext2 (SpPR.ext HW2.out HW3.out)) ?_ (HCE.out.call HW1.out (Below.refl _ _).drew) (fr_of _ (by kernel_rfl)) ?_ ?_
 ·exact ⟨fr_put 45 fun _ _ => by kernel_rfl, fr_put 46 fun _ _ => by kernel_rfl, fr_put 47 fun _ _ => by kernel_rfl, fr_put 48 fun _ _ => by kernel_rfl, fr_put 49 fun _ _ => by kernel_rfl, fr_put 50 fun _ _ => by kernel_rfl, fr_put 51 fun _ _ => by kernel_rfl, fr_put 52 fun _ _ => by kernel_rfl, fr_put 53 fun _ _ => by kernel_rfl, fr_put 54 fun _ _ => by kernel_rfl, fr_put 55 fun _ _ => by kernel_rfl, fr_put 56 fun _ _ => by kernel_rfl, fr_put 57 fun _ _ => by kernel_rfl, fun a v h => h, fr_put 9 fun _ _ => by kernel_rfl, trivial⟩
 ·refine ⟨?_, ?_, ?_, ?_, ?_, ?_, ?_, ?_, ?_, ?_, ?_, ?_, ?_, ?_, ?_, trivial⟩
  all_goals
   intro a w' hC hB hR
   obtain ⟨u, rfl⟩ := hB
   have HC := Lib.hid hC
   clear hC
  ·clear hR; refine if_yes (by kernel_rfl) ?_
   exact wp_load_row 66 (.tmp 4) rfl _ rfl 66 _ (0, 0) _ HC.out.cell Tryz.underlying66 rfl size_cell ⟨.agg (cv s1 g c h d), rfl, HC.out, TG.refl _ _ _ _, rfl⟩
  ·clear hR; refine if_yes (by kernel_rfl) ?_; unfold Oper.wp; go_simp; exact ⟨.int .i64 (i : Int), rfl, HC.out, TG.refl _ _ _ _, rfl⟩
  ·have h46 : u 46 = .int .i64 (i : Int) := hR ⟨1, .data⟩ (by simp) rfl
   have hf := HF.out
   have hw : IntKind.i64.wrap (3 * (i : Int)) = ((3 * i : Nat) : Int) := by rw [IntKind.wrap_i64]; omega
   clear hf; clear hR; simp only [h46]; refine if_yes (by kernel_rfl) ?_; unfold Oper.wp; go_simp; exact ⟨.int .i64 ((3 * i : Nat) : Int), rfl, HC.out, TG.refl _ _ _ _, rfl⟩
  ·clear hR; refine if_yes (by kernel_rfl) ?_; unfold Oper.wp; go_simp; exact ⟨.string p, rfl, HC.out, TG.refl _ _ _ _, rfl⟩
  ·clear hR; refine if_yes (by kernel_rfl) ?_
   exact wp_load_row 40 (.tmp 7) rfl _ rfl 40 _ (0, 0) _ HC.out.how Tryz.underlying40 rfl size_fault ⟨.agg (fv x k a b), rfl, HC.out, TG.refl _ _ _ _, rfl⟩
  ·have h48 : u 48 = .string p := hR ⟨3, .data⟩ (by simp) rfl; have h49 : u 49 = .agg (fv x k a b) := hR ⟨4, .data⟩ (by simp) rfl; clear hR; simp only [h48, h49]; refine if_yes (by kernel_rfl) ?_; unfold Oper.wp; go_simp
   refine (rce_page p x k a b _ HP.out).mono ?_
   rintro e w2 ⟨rfl, hb2⟩
   exact ⟨.string (pageT p k a b), rfl, HC.out.call HW1.out hb2, TG.call HW3.out hb2, rfl⟩
  ·clear hR; refine if_yes (by kernel_rfl) ?_
   exact wp_load_row 40 (.tmp 7) rfl _ rfl 40 _ (0, 0) _ HC.out.how Tryz.underlying40 rfl size_fault ⟨.agg (fv x k a b), rfl, HC.out, TG.refl _ _ _ _, rfl⟩
  ·have h51 : u 51 = .agg (fv x k a b) := hR ⟨6, .data⟩ (by simp) rfl; clear hR; simp only [h51]; refine if_yes (by kernel_rfl) ?_; unfold Oper.wp; go_simp
   refine (rce_hurts x k a b _).mono ?_
   rintro e w2 ⟨rfl, hb2⟩
   exact ⟨.bool (hurtsB k), rfl, HC.out.call HW1.out hb2, TG.call HW3.out hb2, rfl⟩
  ·have h45 : u 45 = .agg (cv s1 g c h d) := hR ⟨0, .data⟩ (by simp) rfl; have h47 : u 47 = .int .i64 ((3 * i : Nat) : Int) := hR ⟨2, .data⟩ (by simp) rfl; have h50 : u 50 = .string (pageT p k a b) := hR ⟨5, .data⟩ (by simp) rfl; have h52 : u 52 = .bool (hurtsB k) := hR ⟨7, .data⟩ (by simp) rfl; clear hR; simp only [h45, h47, h50, h52]; refine if_yes (by kernel_rfl) ?_; unfold Oper.wp; go_simp
   refine (rce_put s1 g c h d (3 * i) (pageT p k a b) (hurtsB k) _ HW1.out HC.out.rd).mono ?_
   rintro e w2 ⟨⟨g', c', h', d', rfl, hr', hg', hh'⟩, hb2⟩
   exact ⟨.agg (cv (putSt s1 (3 * i) (pageT p k a b) (hurtsB k)) g' c' h' d'), rfl, HC.out.call HW1.out hb2, TG.call HW3.out hb2, ⟨fun _ => ⟨g', c', h', d', rfl, hr', Nat.le_trans HC.out.top hg', Nat.le_trans HC.out.top hh'⟩, fun h => absurd h (by decide), fun h => absurd h (by decide), fun h => absurd h (by decide)⟩⟩
  ·clear hR; refine if_yes (by kernel_rfl) ?_
   exact wp_load_row 40 (.tmp 7) rfl _ rfl 40 _ (0, 0) _ HC.out.how Tryz.underlying40 rfl size_fault ⟨.agg (fv x k a b), rfl, HC.out, TG.refl _ _ _ _, rfl⟩
  ·have h54 : u 54 = .agg (fv x k a b) := hR ⟨9, .data⟩ (by simp) rfl
   obtain ⟨g', c', h', d', hg, hr', hg', hh'⟩ := (SpPR.c8 (hR ⟨8, .data⟩ (by simp) rfl)) rfl
   have hg : u 53 = .agg (cv (putSt s1 (3 * i) (pageT p k a b) (hurtsB k)) g' c' h' d') := hg
   clear hR; simp only [h54]; refine if_yes (by kernel_rfl) ?_; simp only [hg]; unfold Oper.wp; go_simp
   refine (rce_ends (putSt s1 (3 * i) (pageT p k a b) (hurtsB k)) g' c' h' d' x k a b _).mono ?_
   rintro e w2 ⟨rfl, hb2⟩
   exact ⟨.tuple #[.agg (cv (endSt (putSt s1 (3 * i) (pageT p k a b) (hurtsB k)) k) g' c' h' d'), .int .i64 (endC k)], rfl, HC.out.call HW1.out hb2, TG.call HW3.out hb2, ⟨fun h => absurd h (by decide), fun _ => ⟨g', c', h', d', rfl, RAt_end (hr'.after HW2.out hb2) k, hg', hh'⟩, fun h => absurd h (by decide), fun h => absurd h (by decide)⟩⟩
  ·obtain ⟨g', c', h', d', hg, hr', hg', hh'⟩ := (SpPR.c10 (hR ⟨10, .data⟩ (by simp) rfl)) rfl
   have hg : u 55 = .tuple #[.agg (cv (endSt (putSt s1 (3 * i) (pageT p k a b) (hurtsB k)) k) g' c' h' d'), .int .i64 (endC k)] := hg
   clear hR; refine if_yes (by kernel_rfl) ?_; simp only [hg]; unfold Oper.wp; go_simp
   exact ⟨.agg (cv (endSt (putSt s1 (3 * i) (pageT p k a b) (hurtsB k)) k) g' c' h' d'), rfl, HC.out, TG.refl _ _ _ _, ⟨fun h => absurd h (by decide), fun h => absurd h (by decide), fun _ => ⟨g', c', h', d', rfl, hr', hg', hh'⟩, fun h => absurd h (by decide)⟩⟩
  ·obtain ⟨g', c', h', d', hg, hr', hg', hh'⟩ := (SpPR.c10 (hR ⟨10, .data⟩ (by simp) rfl)) rfl
   have hg : u 55 = .tuple #[.agg (cv (endSt (putSt s1 (3 * i) (pageT p k a b) (hurtsB k)) k) g' c' h' d'), .int .i64 (endC k)] := hg
   clear hR; refine if_yes (by kernel_rfl) ?_; simp only [hg]; unfold Oper.wp; go_simp; exact ⟨.int .i64 (endC k), rfl, HC.out, TG.refl _ _ _ _, rfl⟩
  ·obtain ⟨g', c', h', d', hg, hr', hg', hh'⟩ := (SpPR.c11 (hR ⟨11, .data⟩ (by simp) rfl)) rfl
   have hg : u 56 = .agg (cv (endSt (putSt s1 (3 * i) (pageT p k a b) (hurtsB k)) k) g' c' h' d') := hg
   obtain ⟨cs, hcs, hblk⟩ := HC.out.ans
   clear hR; refine if_yes (by kernel_rfl) ?_; simp only [hg]
   have hgood := goodC_put hblk hr' hg' hh' (by omega)
   exact wp_store_row 66 (.tmp 8) (.tmp 56) rfl (w.heap.size + 2) (cv (endSt (putSt s1 (3 * i) (pageT p k a b) (hurtsB k)) k) g' c' h' d') rfl rfl 66 cs hblk size_cell hcs (cv_one _ _ _ _ _) ⟨undef, rfl, HC.out.put _ rfl (by omega) (by omega) (by have := HLT.out; omega) (by have := HLT.out; omega) (by omega), TG.put _ hgood, ⟨fun h => absurd h (by decide), fun h => absurd h (by decide), fun h => absurd h (by decide), fun _ => hgood⟩⟩
  ·have h57 : u 57 = .int .i64 (endC k) := hR ⟨12, .data⟩ (by simp) rfl; clear hR; simp only [h57]; refine if_yes (by kernel_rfl) ?_; unfold Oper.wp; go_simp; exact ⟨.int .i64 (endC k), rfl, HC.out, TG.refl _ _ _ _, rfl⟩
 ·intro a' w' hC hB hR
  have h9 : a'.tmps.getD 9 undef = .int .i64 (endC k) := hR 14 (by decide)
  have hgood := SpPR.c13 (hR 13 (by decide)) rfl
  obtain ⟨g', c', h', d', hg1, hg2, hg3, hg4⟩ := hgood
  have HG1 := Lib.hid hg1
  have HG2 := Lib.hid hg2
  have HE := Lib.hid hC.low
  clear hR hC
  obtain ⟨u, rfl⟩ := hB
  have h9 : u 9 = .int .i64 (endC k) := h9
  simp only [h9]; clear h9 hg1 hg2
  go_wp2_with fail
  exact bodyPost_ret (results_cell_tmp rfl _ _ (w.heap.size + 2) 66 _ _ rfl HG1.out Tryz.underlying66 rfl size_cell) rfl ⟨⟨g', c', h', d', rfl, HG2.out, Or.inr ⟨by omega, by omega⟩⟩, HE.out⟩
/- The reference of layer 8, walked: Program, whole. -/
theorem rce_prog_no (s : St) (g c h d : Nat) (line : Int) (p : ByteArray) (x k a b : Int) (w : World) (hw : WfSt s) (hr : RAt w s g c h d) (hno : ¬ ProgOk s line p) :
  Calls Tryz.prog 43 #[.agg (cv s g c h d), .int .i64 line, .string p, .agg (fv x k a b)] w (PairT (progSt s line p k a b) (progC s line p k) g h w) := by
 rw [(pr_no (a := a) (b := b) hno).1, (pr_no (a := a) (b := b) hno).2]
 have HPOST : Hid (∀ A B C e, e = .returned (.tuple #[.agg (cv s g c h d), .int .i64 80]) → PairT s 80 g h w e (((w.alloc A).alloc B).alloc C)) :=
  fun A B C e he => ⟨⟨g, c, h, d, he, hr.after hw (below_3 w _ _ _), Or.inl ⟨rfl, rfl⟩⟩, below_3 w _ _ _⟩
 have HWF := Lib.hid hw
 have HR := Lib.hid hr
 obtain ⟨L, Y, mode, done, bad, torn, slc, tlc, ps, hs⟩ := s
 clear hw hr
 cases bad
 case true =>
  clear hno
  go_enter Tryz.func43, Tryz.ntmps43
  unfold cv fv
  go_wp2_with fail
  exact bodyPost_ret (results_cell_tmp rfl _ _ (w.heap.size + 1 + 1) 66 _ _ rfl (blk_third w _ _ _ _) Tryz.underlying66 rfl size_cell) rfl (HPOST.out _ _ _ _ rfl)
 case false =>
 cases torn
 case true =>
  clear hno
  go_enter Tryz.func43, Tryz.ntmps43
  unfold cv fv
  go_wp2_with fail
  exact bodyPost_ret (results_cell_tmp rfl _ _ (w.heap.size + 1 + 1) 66 _ _ rfl (blk_third w _ _ _ _) Tryz.underlying66 rfl size_cell) rfl (HPOST.out _ _ _ _ rfl)
 case false =>
 by_cases h1 : mode = 2
 ·subst h1
  clear hno
  go_enter Tryz.func43, Tryz.ntmps43
  unfold cv fv
  go_wp2_with fail
  exact bodyPost_ret (results_cell_tmp rfl _ _ (w.heap.size + 1 + 1) 66 _ _ rfl (blk_third w _ _ _ _) Tryz.underlying66 rfl size_cell) rfl (HPOST.out _ _ _ _ rfl)
 have hm2 : ((mode : Int) == 2) = false := by simp; exact h1
 by_cases h2 : line = done
 ·by_cases h3 : line < L
  ·have htk : takesB ⟨L, Y, mode, done, false, false, slc, tlc, ps, hs⟩ p = false := by
    rw [← Bool.not_eq_true]
    exact fun hc => hno ⟨rfl, rfl, h1, h2, h3, hc⟩
   have HT := Lib.hid htk
   subst h2
   clear hno htk h1
   go_enter Tryz.func43, Tryz.ntmps43
   unfold cv fv
   go_wp2_with fail
   refine (rce_takes ⟨L, Y, mode, done, false, false, slc, tlc, ps, hs⟩ g c h d p _ HWF.out).mono ?_
   rintro e w2 ⟨rfl, hb2⟩
   rw [HT.out]
   have b1 : Blk w2 w.heap.size (cv ⟨L, Y, mode, done, false, false, slc, tlc, ps, hs⟩ g c h d) 66 := (((Blk.new w _ _).alloc _).alloc _).after hb2
   have b3 : Blk w2 (w.heap.size + 2) zv 66 := (blk_third w _ _ _ _).after hb2
   have bw := (below_3 w _ _ _).trans (hb2.mono (below_3 w _ _ _).size)
   have B1 := Lib.hid b1
   have B3 := Lib.hid b3
   have BW := Lib.hid bw
   clear b1 b3 bw hb2 HPOST
   go_wp2_with (first
    | (refine wpList_load_row rfl 66 (.tmp 4) rfl w.heap.size rfl 66 (cv ⟨L, Y, mode, done, false, false, slc, tlc, ps, hs⟩ g c h d) (0, 0) _ B1.out Tryz.underlying66 rfl size_cell ?_)
    | (refine wpList_store_row rfl 66 (.tmp 8) (.tmp 39) rfl (w.heap.size + 2) (cv ⟨L, Y, mode, done, false, false, slc, tlc, ps, hs⟩ g c h d) rfl rfl 66 zv B3.out size_cell rfl (cv_one _ _ _ _ _) ?_))
   have hlt := HR.out.lt HWF.out
   exact bodyPost_ret (results_cell_tmp rfl _ _ (w.heap.size + 2) 66 _ _ rfl (B3.out.put _) Tryz.underlying66 rfl size_cell) rfl ⟨⟨g, c, h, d, rfl, (HR.out.after HWF.out BW.out).keep (setRow_heap_ne _ _ _ _ (by omega)) (setRow_heap_ne _ _ _ _ (by omega)), Or.inl ⟨rfl, rfl⟩⟩, below_put (by omega) _ BW.out⟩
  ·have h4 : ¬ ((done : Nat) : Int) < L := by omega
   subst h2
   clear hno h1 h3
   go_enter Tryz.func43, Tryz.ntmps43
   unfold cv fv
   go_wp2_with fail
   exact bodyPost_ret (results_cell_tmp rfl _ _ (w.heap.size + 1 + 1) 66 _ _ rfl (blk_third w _ _ _ _) Tryz.underlying66 rfl size_cell) rfl (HPOST.out _ _ _ _ rfl)
 ·have h3 : ((line : Int) == (done : Nat)) = false := by simp; exact h2
  clear hno h1
  go_enter Tryz.func43, Tryz.ntmps43
  unfold cv fv
  go_wp2_with fail
  exact bodyPost_ret (results_cell_tmp rfl _ _ (w.heap.size + 1 + 1) 66 _ _ rfl (blk_third w _ _ _ _) Tryz.underlying66 rfl size_cell) rfl (HPOST.out _ _ _ _ rfl)
theorem rce_prog (s : St) (g c h d : Nat) (line : Int) (p : ByteArray) (x k a b : Int) (w : World) (hw : WfSt s) (hr : RAt w s g c h d) :
  Calls Tryz.prog 43 #[.agg (cv s g c h d), .int .i64 line, .string p, .agg (fv x k a b)] w (PairT (progSt s line p k a b) (progC s line p k) g h w) := by
 by_cases hok : ProgOk s line p
 ·obtain ⟨i, rfl⟩ : ∃ i : Nat, line = i := ⟨s.done, hok.2.2.2.1⟩
  exact rce_prog_yes s g c h d i p x k a b w hw hr hok
 ·exact rce_prog_no s g c h d line p x k a b w hw hr hok
/- The reference of layer 8, walked: at, Read. -/
theorem text_full {q : ByteArray} (h : ¬ q = ByteArray.empty) : q.toList.isEmpty = false := by
 rw [ByteArray.toList_eq]
 cases hq : q.data.toList with
 | nil =>
  exfalso
  apply h
  obtain ⟨d⟩ := q
  simp at hq
  subst hq
  rfl
 | cons => rfl
def AtP (s : St) (j : Nat) (w : World) (e : Ending) (w' : World) : Prop := e = .returned (.tuple #[.string (atT s j), .bool (atH s j)]) ∧ Below w.heap.size w w'
theorem rce_at (s : St) (g c h d j : Nat) (w : World) (hw : WfSt s) (hr : RAt w s g c h d) (hj : j < 3 * s.L) :
  Calls Tryz.prog 82 #[.agg (cv s g c h d), .int .i64 (j : Nat)] w (AtP s j w) := by
 have hlt := hr.lt hw
 have hb1 : Below w.heap.size w (w.alloc (.cells (cv s g c h d) 66)) := (Below.refl _ _).alloc (Nat.le_refl _) _
 have hp := (hr.after hw hb1).page hw j hj
 have hm := (hr.after hw hb1).mark hw j hj
 have HCB := Lib.hid (Blk.new w (cv s g c h d) 66)
 have hl64 := hw.l64
 have hsz := hw.size j
 change (pageAt s j).size ≤ 400 at hsz
 have hy : blankT (s.Y : Nat) = blankS s.Y := by unfold blankT; rw [if_pos ⟨by omega, by simpa using hw.y⟩]; simp
 have HY := Lib.hid hy
 have haf : IsAfter s.L s.done (j / 3 : Nat) := ⟨⟨by have := hw.l1; omega, by omega⟩, by omega, by have := hw.done; omega, by omega, by omega⟩
 have HA : Hid (afN s.L s.done (j / 3 : Nat) = ((afterC s.L s.done (j / 3) : Nat) : Int)) := by show afN _ _ _ = _; unfold afN; rw [if_pos haf]; simp only [Int.toNat_natCast]
 have HB : Hid (∀ A, Below w.heap.size w (w.alloc A)) := fun A => (Below.refl _ _).alloc (Nat.le_refl _) _
 have h9 : (j : Int) < (3 * s.L : Nat) := by omega
 unfold AtP
 unfold cv at hp hm ⊢
 by_cases h1 : pageAt s j = ByteArray.empty
 ·have ht : atT s j = blankS s.Y ∧ atH s j = false := by unfold atT atH; rw [if_pos h1, if_pos h1]; exact ⟨rfl, rfl⟩
  rw [ht.1, ht.2]
  rw [h1] at hp
  clear hw hr hy haf hb1 hlt HA ht
  go_enter Tryz.func82, Tryz.ntmps82
  go_wp2_with fail
  refine (rfr_blank s.Y _).mono ?_
  rintro e w2 ⟨rfl, hb2⟩
  have HB2 := Lib.hid ((HB.out _).trans (hb2.mono (HB.out _).size))
  rw [HY.out]
  clear hb2
  go_wp2_with fail
  go_ret2
  exact ⟨rfl, HB2.out⟩
 ·have hpe := text_full h1
  obtain ⟨q, hq⟩ : ∃ q, pageAt s j = q := ⟨_, rfl⟩
  by_cases h2 : s.hs.getD j false = true
  ·have ht : atT s j = pageAt s j ∧ atH s j = true := by unfold atT atH; rw [if_neg h1, if_neg h1, if_pos h2, if_pos h2]; exact ⟨rfl, rfl⟩
   rw [ht.1, ht.2]
   rw [h2] at hm
   rw [hq] at hp hpe ⊢
   clear hw hr hy haf hb1 hlt HA ht hq hsz h1
   go_enter Tryz.func82, Tryz.ntmps82
   go_wp2_with fail
   go_ret2
   exact ⟨rfl, HB.out _⟩
  ·have h2' : s.hs.getD j false = false := by simpa using h2
   rw [h2'] at hm
   have hq3 : (j : Int).tdiv 3 = ((j / 3 : Nat) : Int) := by rw [Int.tdiv_eq_ediv_of_nonneg (by omega)]; omega
   have hw3 : IntKind.i64.wrap ((j / 3 : Nat) : Int) = ((j / 3 : Nat) : Int) := by rw [IntKind.wrap_i64]; omega
   have hb3 : Blk (w.alloc (.cells #[.int .i64 s.L, .int .i64 s.Y, .int .i64 s.mode, .int .i64 s.done, .bool s.bad, .bool s.torn, .int .i64 s.slc, .int .i64 s.tlc, .slice (some ⟨g, 0, none⟩) (3 * s.L) c, .slice (some ⟨h, 0, none⟩) (3 * s.L) d] 66)) w.heap.size (cv s g c h d) 66 := Blk.new w _ _
   have HB3 := Lib.hid hb3
   have HP : Hid (∀ w2, Below (w.alloc (.cells #[.int .i64 s.L, .int .i64 s.Y, .int .i64 s.mode, .int .i64 s.done, .bool s.bad, .bool s.torn, .int .i64 s.slc, .int .i64 s.tlc, .slice (some ⟨g, 0, none⟩) (3 * s.L) c, .slice (some ⟨h, 0, none⟩) (3 * s.L) d] 66)).heap.size (w.alloc (.cells #[.int .i64 s.L, .int .i64 s.Y, .int .i64 s.mode, .int .i64 s.done, .bool s.bad, .bool s.torn, .int .i64 s.slc, .int .i64 s.tlc, .slice (some ⟨g, 0, none⟩) (3 * s.L) c, .slice (some ⟨h, 0, none⟩) (3 * s.L) d] 66)) w2 → w2.cell? ⟨g, j, none⟩ = some (.string q)) := by
    intro w2 h3
    rw [← hq]
    exact (((hr.after hw hb1).after hw h3).page hw j hj)
   have HFOG : Hid (isFog s j = (s.mode == 2 && afterC s.L s.done (j / 3) == 1)) := rfl
   have HT : Hid (atT s j = (if isFog s j = true then hurtT q 0 0 else q) ∧ atH s j = isFog s j) := by
    show _ ∧ _
    unfold atT atH
    rw [if_neg h1, if_neg h1, if_neg h2, if_neg h2, hq]
    exact ⟨rfl, rfl⟩
   rw [hq] at hp hpe hsz
   rw [HT.out.1, HT.out.2]
   obtain ⟨fo, hfo⟩ : ∃ fo, isFog s j = fo := ⟨_, rfl⟩
   rw [hfo] at HFOG ⊢
   clear hw hr hy haf hb1 hlt hq h1 h2 hb3 HT hfo h2'
   obtain ⟨af, haf⟩ : ∃ af, afterC s.L s.done (j / 3) = af := ⟨_, rfl⟩
   rw [haf] at HA HFOG
   clear haf
   by_cases hmo : s.mode = 2
   ·have hmb : (s.mode == 2) = true := by simp [hmo]
    by_cases ha1 : af = 1
    ·have hfo : fo = true := by rw [HFOG.out, hmb, ha1]; rfl
     subst hfo
     rw [if_pos rfl]
     have hab : ((af : Int) == 1) = true := by simp [ha1]
     subst ha1
     clear hmo
     go_enter Tryz.func82, Tryz.ntmps82
     go_wp2_with fail
     refine (ror_after s.L s.done (j / 3 : Nat) _).mono ?_
     rintro e w2 ⟨rfl, hb2⟩
     have hp2 := HP.out w2 hb2
     have hk2 := HB3.out.after hb2
     have hc2 : w2.cell? ⟨w.heap.size, 2, none⟩ = some (.int .i64 s.mode) := hk2.cell 2
     have hc8 : w2.cell? ⟨w.heap.size, 8, none⟩ = some (.slice (some ⟨g, 0, none⟩) (3 * s.L) c) := hk2.cell 8
     have HB2 := Lib.hid ((HB.out _).trans (hb2.mono (HB.out _).size))
     rw [HA.out]
     clear hb2 hk2 HP HB3 hp hm
     go_wp2_with fail
     refine (rfr_hurt q 0 0 _ (by omega)).mono ?_
     rintro e w3 ⟨rfl, hb3⟩
     have HB3 := Lib.hid (HB2.out.trans (hb3.mono HB2.out.size))
     clear hb3 hp2 hc2 hc8
     go_wp2_with fail
     go_ret2
     exact ⟨rfl, HB3.out⟩
    ·have hfo : fo = false := by rw [HFOG.out, hmb]; simpa using ha1
     subst hfo
     rw [if_neg (by simp)]
     have hab : ((af : Int) == 1) = false := by simp; omega
     clear hmo ha1
     go_enter Tryz.func82, Tryz.ntmps82
     go_wp2_with fail
     refine (ror_after s.L s.done (j / 3 : Nat) _).mono ?_
     rintro e w2 ⟨rfl, hb2⟩
     have hp2 := HP.out w2 hb2
     have hk2 := HB3.out.after hb2
     have hc2 : w2.cell? ⟨w.heap.size, 2, none⟩ = some (.int .i64 s.mode) := hk2.cell 2
     have hc8 : w2.cell? ⟨w.heap.size, 8, none⟩ = some (.slice (some ⟨g, 0, none⟩) (3 * s.L) c) := hk2.cell 8
     have HB2 := Lib.hid ((HB.out _).trans (hb2.mono (HB.out _).size))
     rw [HA.out]
     clear hb2 hk2 HP HB3 hp hm
     go_wp2_with fail
     go_ret2
     exact ⟨rfl, HB2.out⟩
   ·have hmb : (s.mode == 2) = false := by simpa using hmo
    have hfo : fo = false := by rw [HFOG.out, hmb]; rfl
    subst hfo
    rw [if_neg (by simp)]
    clear hmo
    go_enter Tryz.func82, Tryz.ntmps82
    go_wp2_with fail
    refine (ror_after s.L s.done (j / 3 : Nat) _).mono ?_
    rintro e w2 ⟨rfl, hb2⟩
    have hp2 := HP.out w2 hb2
    have hk2 := HB3.out.after hb2
    have hc2 : w2.cell? ⟨w.heap.size, 2, none⟩ = some (.int .i64 s.mode) := hk2.cell 2
    have hc8 : w2.cell? ⟨w.heap.size, 8, none⟩ = some (.slice (some ⟨g, 0, none⟩) (3 * s.L) c) := hk2.cell 8
    have HB2 := Lib.hid ((HB.out _).trans (hb2.mono (HB.out _).size))
    rw [HA.out]
    clear hb2 hk2 HP HB3 hp hm
    go_wp2_with fail
    go_ret2
    exact ⟨rfl, HB2.out⟩
/- The reference of layer 8, walked: Read. -/
def ReadP (s : St) (line part : Int) (w : World) (e : Ending) (w' : World) : Prop := e = .returned (.tuple #[.string (readT s line part), .int .i64 (readC s line part)]) ∧ Below w.heap.size w w'
theorem read_no {s : St} {line part : Int} (h : ¬ ReadOk s line part) : readT s line part = ByteArray.empty ∧ readC s line part = 80 := by
 unfold readT readC
 rw [if_neg h, if_neg h]
 exact ⟨rfl, rfl⟩
theorem read_yes {s : St} {i q : Nat} (h : ReadOk s i q) : readT s i q = atT s (3 * i + q) ∧ readC s i q = 0 := by
 unfold readT readC
 rw [if_pos h, if_pos h]
 simp
theorem rce_read (s : St) (g c h d : Nat) (line part : Int) (w : World) (hw : WfSt s) (hr : RAt w s g c h d) :
  Calls Tryz.prog 38 #[.agg (cv s g c h d), .int .i64 line, .int .i64 part] w (ReadP s line part w) := by
 have HB : Hid (∀ A, Below w.heap.size w (w.alloc A)) := fun A => (Below.refl _ _).alloc (Nat.le_refl _) _
 unfold ReadP
 by_cases hok : ReadOk s line part
 ·obtain ⟨k1, k2, k3, k4, k5⟩ := hok
  obtain ⟨i, rfl⟩ : ∃ i : Nat, line = i := ⟨line.toNat, by omega⟩
  obtain ⟨q, rfl⟩ : ∃ q : Nat, part = q := ⟨part.toNat, by omega⟩
  have hy := read_yes (s := s) (i := i) (q := q) ⟨k1, k2, k3, k4, k5⟩
  rw [hy.1, hy.2]
  have hl64 := hw.l64
  have hb1 : Below w.heap.size w (w.alloc (.cells (cv s g c h d) 66)) := (Below.refl _ _).alloc (Nat.le_refl _) _
  have hw3 : IntKind.i64.wrap (3 * (i : Int)) = 3 * (i : Int) := by rw [IntKind.wrap_i64]; omega
  have hw4 : IntKind.i64.wrap (3 * (i : Int) + (q : Int)) = ((3 * i + q : Nat) : Int) := by rw [IntKind.wrap_i64]; omega
  have HAT := Lib.hid (rce_at s g c h d (3 * i + q) _ hw (hr.after hw hb1) (by omega))
  have hm1 : (s.mode == 1) = false ∨ ((s.mode == 1) = true ∧ q = 0) := by
   by_cases hm : s.mode = 1
   ·exact Or.inr ⟨by simpa using hm, by have := fun hq => k5 ⟨hm, hq⟩; omega⟩
   ·exact Or.inl (by simpa using hm)
  clear hy hw hr k5 hb1
  have e1 : ((3 * i + q : Nat) : Int) = 3 * (i : Int) + (q : Int) := by omega
  rw [e1] at hw4 HAT
  unfold cv at *
  rcases hm1 with hm1 | ⟨hm1, hq0⟩
  ·go_enter Tryz.func38, Tryz.ntmps38
   go_wp2_with fail
   refine HAT.out.mono ?_
   rintro e w2 ⟨rfl, hb2⟩
   have HB2 := Lib.hid ((HB.out _).trans (hb2.mono (HB.out _).size))
   clear hb2
   go_wp2_with fail
   go_ret2
   exact ⟨rfl, HB2.out⟩
  ·subst hq0
   go_enter Tryz.func38, Tryz.ntmps38
   go_wp2_with fail
   refine HAT.out.mono ?_
   rintro e w2 ⟨rfl, hb2⟩
   have HB2 := Lib.hid ((HB.out _).trans (hb2.mono (HB.out _).size))
   clear hb2
   go_wp2_with fail
   go_ret2
   exact ⟨rfl, HB2.out⟩
 ·rw [(read_no hok).1, (read_no hok).2]
  have hc : line < 0 ∨ (¬ line < 0 ∧ s.L ≤ line) ∨ (¬ line < 0 ∧ ¬ s.L ≤ line ∧ part < 0) ∨ (¬ line < 0 ∧ ¬ s.L ≤ line ∧ ¬ part < 0 ∧ 2 < part) ∨ (¬ line < 0 ∧ ¬ s.L ≤ line ∧ ¬ part < 0 ∧ ¬ 2 < part ∧ s.mode = 1 ∧ part ≠ 0) := by
   have hn : ¬ (0 ≤ line ∧ line < s.L ∧ 0 ≤ part ∧ part ≤ 2 ∧ ¬ (s.mode = 1 ∧ part ≠ 0)) := hok
   omega
  clear hw hr hok
  unfold cv
  rcases hc with h1 | ⟨h1, h2⟩ | ⟨h1, h2, h3⟩ | ⟨h1, h2, h3, h4⟩ | ⟨h1, h2, h3, h4, h5, h6⟩
  ·go_enter Tryz.func38, Tryz.ntmps38
   go_wp2_with fail
   go_ret2
   exact ⟨rfl, HB.out _⟩
  ·go_enter Tryz.func38, Tryz.ntmps38
   go_wp2_with fail
   go_ret2
   exact ⟨rfl, HB.out _⟩
  ·go_enter Tryz.func38, Tryz.ntmps38
   go_wp2_with fail
   go_ret2
   exact ⟨rfl, HB.out _⟩
  ·go_enter Tryz.func38, Tryz.ntmps38
   go_wp2_with fail
   go_ret2
   exact ⟨rfl, HB.out _⟩
  ·have hm : (s.mode == 1) = true := by simpa using h5
   have hp : (part == 0) = false := by simpa using h6
   clear h5 h6
   go_enter Tryz.func38, Tryz.ntmps38
   go_wp2_with fail
   go_ret2
   exact ⟨rfl, HB.out _⟩
end Go.Proofs.YtalefbmoebobkaaGreatDoor
/- As XInv2, where one operation (a store) comes behind all others: what holds of the world need hold up to it alone. -/
namespace Go.Proofs.YtalefbmoebobkaaGreatDoor
set_option maxRecDepth 100000
section
variable {P : Program} {ops : Array Oper} {Q : Exit → Act → World → Prop} {md : Region.Mode}
theorem wpAny_facts3 {Base : Act → Prop} {C : World → Prop} {T : World → World → Prop} {R : Nat → Act → World → Prop} {S : Nat → List Tmp} (z : Nat) (hzb : z < ops.size)
  (hbefore : ∀ (i : Nat) (o : Oper), ops[i]? = some o → ∀ e ∈ o.after, Region.binds md e = true → e.on < i)
  (hslots : ∀ (i j : Nat) (o o' : Oper), ops[i]? = some o → ops[j]? = some o' → j ≠ i → (∀ e ∈ o'.after, Region.binds md e = true → e.on ≠ i) → ∀ d, o.dst = some d → d ∉ S j)
  (hext : ∀ j a a' w w', R j a w → (∀ s ∈ S j, a'.tmps.getD s undef = a.tmps.getD s undef) → T w w' → R j a' w')
  (hbase : ∀ (i : Nat) (o : Oper), ops[i]? = some o → ∀ a v, Base a → Base (a.put o.dst v))
  (hlast : ∀ o, ops[z]? = some o → ∀ i, i < ops.size → i ≠ z → ∃ e ∈ o.after, Region.binds md e = true ∧ e.on = i)
  (hops : ∀ (i : Nat) (o : Oper), ops[i]? = some o → ∀ a w, C w → Base a → (∀ e ∈ o.after, Region.binds md e = true → R e.on a w) →
   wpOp P ops Q i (fun a' w' => ∃ v, a' = a.put o.dst v ∧ (i ≠ z → C w') ∧ T w w' ∧ R i a' w') a w)
  (hfin : ∀ a w, Base a → (∀ i, i < ops.size → R i a w) → Q .normal a w) :
  ∀ (fuel : Nat) (listed : Array Bool) (a : Act) (w : World), still ops.size listed ≤ fuel → listed.size = ops.size → (listed.getD z true = false → C w) → Base a →
   (∀ i, i < ops.size → listed.getD i true = true → R i a w ∧ ∀ o, ops[i]? = some o → ∀ e ∈ o.after, Region.binds md e = true → listed.getD e.on true = true) → wpAny P md ops Q fuel listed a w := by
 have all : ∀ (listed : Array Bool), listed.size = ops.size → Region.ready md ops listed = [] → ∀ i, i < ops.size → listed.getD i true = true := by
  intro listed hsz hr i
  induction i using Nat.strongRecOn with
  | ind i ih =>
   intro hi
   cases hl : listed.getD i true with
   | true => rfl
   | false =>
    exfalso
    have hm : i ∈ Region.ready md ops listed := by
     rw [mem_ready]
     refine ⟨hl, ops[i], by simp [hi], fun e he hb => ?_⟩
     have hlt := hbefore i ops[i] (by simp [hi]) e he hb
     have h2 := ih e.on hlt (by omega)
     have h3 : e.on < listed.size := by omega
     simp [Array.getD, h3] at h2 ⊢
     exact h2
    rw [hr] at hm; cases hm
 intro fuel
 induction fuel with
 | zero =>
  intro listed a w hst hsz hC hB hR
  have hall := still_zero (Nat.le_zero.1 hst)
  have hr : Region.ready md ops listed = [] := by
   cases h : Region.ready md ops listed with
   | nil => rfl
   | cons i l =>
    have hm : i ∈ Region.ready md ops listed := by rw [h]; exact List.mem_cons_self
    obtain ⟨h1, o, ho, _⟩ := mem_ready.1 hm
    have hi : i < ops.size := (Array.getElem?_eq_some_iff.1 ho).1
    rw [hall i hi] at h1; cases h1
  exact ⟨hr, hfin a w hB fun i hi => (hR i hi (hall i hi)).1⟩
 | succ fuel ih =>
  intro listed a w hst hsz hC hB hR
  refine ⟨fun hr => hfin a w hB fun i hi => (hR i hi (all listed hsz hr i hi)).1, fun i hi => ?_⟩
  obtain ⟨h1, o, ho, hdeps⟩ := mem_ready.1 hi
  have hin : i < ops.size := (Array.getElem?_eq_some_iff.1 ho).1
  have hdl : ∀ e ∈ o.after, Region.binds md e = true → listed.getD e.on true = true := by
   intro e he hb
   have hlt := hbefore i o ho e he hb
   have h2 := hdeps e he hb
   have h3 : e.on < listed.size := by omega
   simp [Array.getD, h3] at h2 ⊢
   exact h2
  have hCw : C w := by
   apply hC
   by_cases e : i = z
   ·rw [← e]; exact h1
   ·cases hz : listed.getD z true with
    | false => rfl
    | true =>
     exfalso
     by_cases hzs : z < ops.size
     ·obtain ⟨_, hdz⟩ := hR z hzs hz
      obtain ⟨e', he', hb', hon⟩ := hlast ops[z] (by simp [hzs]) i hin e
      have h4 := hdz ops[z] (by simp [hzs]) e' he' hb'
      rw [hon, h1] at h4; cases h4
     ·exact hzs hzb
  refine wpOp_mono ?_ (hops i o ho a w hCw hB fun e he hb => (hR e.on (by have := hbefore i o ho e he hb; omega) (hdl e he hb)).1)
  rintro a' w' ⟨v, rfl, hC', hT, hRv⟩
  have hless := still_less hin h1
  have keep : ∀ k, listed.getD k true = true → (listed.setIfInBounds i true).getD k true = true := by
   intro k hk
   by_cases e : k = i
   ·subst e
    have hs : k < listed.size := by omega
    simp [Array.getD, hs]
   ·rw [getD_set_ne true (Ne.symm e)]; exact hk
  refine ih _ _ _ (by omega) (by simp [hsz]) (fun hz => hC' fun e => ?_) (hbase i o ho a v hB) fun j hj hlj => ?_
  ·subst e
   have hs : i < listed.size := by omega
   simp [Array.getD, hs] at hz
  by_cases e : j = i
  ·subst e
   refine ⟨hRv, fun o' ho' e he hb => keep _ ?_⟩
   obtain rfl : o' = o := Option.some.inj (ho'.symm.trans ho)
   exact hdl e he hb
  ·rw [getD_set_ne true (Ne.symm e)] at hlj
   obtain ⟨hRj, hdj⟩ := hR j hj hlj
   refine ⟨hext j a _ w w' hRj (fun s hs => put_slot fun x hx hxs => ?_) hT, fun o' ho' e he hb => keep _ (hdj o' ho' e he hb)⟩
   subst hxs
   refine hslots i j o ops[j] ho (by simp [hj]) e (fun e' he' hb' hne => ?_) x hx hs
   have := hdj ops[j] (by simp [hj]) e' he' hb'
   rw [hne, h1] at this; cases this
def lastB (l : List Oper) (z : Nat) : Bool := match l[z]? with
 | none => false
 | some o => (List.range l.length).all fun i => i == z || o.after.any fun e => Region.binds .any e && e.on == i
theorem wp_region_list4 {id : Nat} {l : List Oper} {a : Act} {w : World} (z : Nat) (S : List (List Tmp)) (Base : Act → Prop) (C : World → Prop) (T : World → World → Prop) (R : Nat → Act → World → Prop) (hm : P.follows .mixedOrders = true)
  (hzl : z < l.length) (hzB : lastB l z = true) (hpl : planB l S = true) (hext : ∀ j a a' w w', R j a w → (∀ s ∈ S.getD j [], a'.tmps.getD s undef = a.tmps.getD s undef) → T w w' → R j a' w')
  (hbase : AllFrom (fun _ o => ∀ a v, Base a → Base (a.put o.dst v)) 0 l) (hC : C { w with drawn := w.drawn + 1 }) (hB : Base a)
  (hops : AllFrom (fun i o => ∀ a w, C w → Base a → (∀ e ∈ o.after, Region.binds .any e = true → R e.on a w) →
   if Region.wanted o (yielded l.toArray a.tmps) = true then o.wp P a w (Leaves (fun w' => i ≠ z → C w') T R i o a w) Q
   else Leaves (fun w' => i ≠ z → C w') T R i o a w (a.put o.dst undef) w) 0 l)
  (hfin : ∀ a w, Base a → (∀ i, i < l.length → R i a w) → Q .normal a w) : (Code.region id l.toArray true).wp P Q a w := by
 have hp := List.all_eq_true.1 hpl
 refine wp_region_any hm (wpAny_facts3 z (by simpa using hzl) (S := fun j => S.getD j []) (Base := Base) (C := C) (T := T) (R := R) ?_ ?_ hext hbase.all ?_
  (fun i o ho a w h1 h2 h3 => ?_)
  (fun a w h2 h3 => hfin a w h2 fun i hi => h3 i (by simpa using hi)) _ _ _ _ ?_ (by simp) (fun _ => hC) hB ?_)
 ·intro i o ho e he hb
  have ho' : l[i]? = some o := by simpa using ho
  have h1 := hp i (List.mem_range.2 (List.getElem?_eq_some_iff.1 ho').1)
  simp only [ho', Bool.and_eq_true] at h1
  have h2 := (Array.all_eq_true_iff_forall_mem.1 h1.1) e he
  simpa [hb] using h2
 ·intro i j o o' ho ho' hne hno d hd
  have hi : l[i]? = some o := by simpa using ho
  have hj : l[j]? = some o' := by simpa using ho'
  have h1 := hp i (List.mem_range.2 (List.getElem?_eq_some_iff.1 hi).1)
  simp only [hi, hd, Bool.and_eq_true] at h1
  have h2 := List.all_eq_true.1 h1.2 j (List.mem_range.2 (List.getElem?_eq_some_iff.1 hj).1)
  simp only [hj, Bool.or_eq_true, beq_iff_eq] at h2
  rcases h2 with h2 | h2 | h2
  ·exact absurd h2 hne
  ·obtain ⟨k, hk, hb⟩ := Array.any_eq_true.1 h2
   obtain ⟨e, he⟩ : ∃ e, e = o'.after[k] := ⟨_, rfl⟩
   rw [← he] at hb
   have he : e ∈ o'.after := by rw [he]; exact Array.getElem_mem hk
   simp only [Bool.and_eq_true, beq_iff_eq] at hb
   exact absurd hb.2 (hno e he hb.1)
  ·intro hm
   simp at h2
   exact h2 hm
 ·intro o ho i hi hne
  have ho' : l[z]? = some o := by simpa using ho
  have hi' : i < l.length := by simpa using hi
  unfold lastB at hzB
  rw [ho'] at hzB
  have h1 := List.all_eq_true.1 hzB i (List.mem_range.2 hi')
  simp only [Bool.or_eq_true, beq_iff_eq] at h1
  rcases h1 with h1 | h1
  ·exact absurd h1 hne
  ·obtain ⟨k, hk, hb⟩ := Array.any_eq_true.1 h1
   simp only [Bool.and_eq_true, beq_iff_eq] at hb
   exact ⟨o.after[k], Array.getElem_mem hk, hb.1, hb.2⟩
 ·have h4 := hops.all i o ho a w h1 h2 h3
  unfold wpOp
  simp only [ho]
  by_cases hw : Region.wanted o (yielded l.toArray a.tmps) = true
  ·rw [if_pos hw] at h4 ⊢
   exact Or.inl h4
  ·rw [if_neg hw] at h4 ⊢
   exact h4
 ·unfold still
  exact Nat.le_trans (List.length_filter_le _ _) (by simp)
 ·intro i hi h
  have hi' : i < l.length := by simpa using hi
  simp [Array.getD] at h
  omega
end
end Go.Proofs.YtalefbmoebobkaaGreatDoor
/- The reference of layer 8, walked: two, where it is taken. -/
namespace Go.Proofs.YtalefbmoebobkaaGreatDoor
set_option maxRecDepth 100000
open Go.RowKit
def tv3 (p q r : ByteArray) : Array Value := #[.string p, .string q, .string r]
theorem size_three : (Tryz.prog.info? 38).map (·.size) = some 3 := by kernel_rfl
theorem below_4 (w : World) (A B C D : Obj) : Below w.heap.size w ((((w.alloc A).alloc B).alloc C).alloc D) := (below_3 w A B C).alloc (by simp; omega) _
theorem blk_4a (w : World) (A B C : Obj) (cs : Array Value) (t : TypeId) : Blk ((((w.alloc (.cells cs t)).alloc A).alloc B).alloc C) w.heap.size cs t := (((Blk.new w cs t).alloc A).alloc B).alloc C
theorem blk_4b (w : World) (A B C : Obj) (cs : Array Value) (t : TypeId) : Blk ((((w.alloc A).alloc (.cells cs t)).alloc B).alloc C) (w.heap.size + 1) cs t := (blk_mid w A B cs t).alloc C
theorem blk_4c (w : World) (A B C : Obj) (cs : Array Value) (t : TypeId) : Blk ((((w.alloc A).alloc B).alloc (.cells cs t)).alloc C) (w.heap.size + 2) cs t := (blk_third w A B cs t).alloc C
theorem blk_4d (w : World) (A B C : Obj) (cs : Array Value) (t : TypeId) : Blk ((((w.alloc A).alloc B).alloc C).alloc (.cells cs t)) (w.heap.size + 3) cs t := by
 have h := Blk.new (((w.alloc A).alloc B).alloc C) cs t
 rwa [World.size_alloc, World.size_alloc, World.size_alloc] at h
structure CW8 (w0 : World) (s : St) (g c h d : Nat) (p q r : ByteArray) (x k a b : Int) (w : World) : Prop where
 cell : Blk w w0.heap.size (cv s g c h d) 66
 pgs : Blk w (w0.heap.size + 1) (tv3 p q r) 38
 how : Blk w (w0.heap.size + 2) (fv x k a b) 40
 ans : Blk w (w0.heap.size + 3) zv 66
 rd : RAt w s g c h d
 low : Below w0.heap.size w0 w
 top : w0.heap.size + 4 ≤ w.heap.size
theorem CW8.call {w0 w w' : World} {s : St} {g c h d : Nat} {p q r : ByteArray} {x k a b : Int} (h0 : CW8 w0 s g c h d p q r x k a b w) (hw : WfSt s) (hb : Below w.heap.size w w') : CW8 w0 s g c h d p q r x k a b w' :=
 ⟨h0.cell.after hb, h0.pgs.after hb, h0.how.after hb, h0.ans.after hb, h0.rd.after hw hb, h0.low.trans (hb.mono h0.low.size), Nat.le_trans h0.top hb.size⟩
def pgN (p q r : ByteArray) (n : Nat) : ByteArray := if n = 0 then p else if n = 1 then q else r
theorem tv_cell {w : World} {b : Nat} {p q r : ByteArray} {t : TypeId} (h : Blk w b (tv3 p q r) t) (n : Nat) (hn : n < 3) : w.cell? ⟨b, n, none⟩ = some (.string (pgN p q r n)) := by
 rw [h.cell n]
 match n, hn with
 | 0, _ => rfl
 | 1, _ => rfl
 | 2, _ => rfl
theorem put3_succ (s : St) (i : Nat) (p q r : ByteArray) (k a b : Int) (n : Nat) (hn : n < 3) : put3 s i p q r k a b (n + 1) = putSt (put3 s i p q r k a b n) (i + n) (pageT (pgN p q r n) k a b) (hurtsB k) := by
 match n, hn with
 | 0, _ => rfl
 | 1, _ => rfl
 | 2, _ => rfl
theorem put3_wf {s : St} (h : WfSt s) (i : Nat) {p q r : ByteArray} (k a b : Int) (hp : p.size ≤ 400) (hq : q.size ≤ 400) (hr : r.size ≤ 400) (n : Nat) (hn : n ≤ 3) : WfSt (put3 s i p q r k a b n) := by
 have h1 := putSt_wf h i (hurtsB k) (p := pageT p k a b) (by rw [pageT_size]; exact hp)
 have h2 := putSt_wf h1 (i + 1) (hurtsB k) (p := pageT q k a b) (by rw [pageT_size]; exact hq)
 have h3 := putSt_wf h2 (i + 2) (hurtsB k) (p := pageT r k a b) (by rw [pageT_size]; exact hr)
 match n, hn with
 | 0, _ => exact h
 | 1, _ => exact h1
 | 2, _ => exact h2
 | 3, _ => exact h3
def TZ (R : Nat) (Z : World → Prop) (w w' : World) : Prop := (∀ b, b < w.heap.size → b ≠ R → w'.heap[b]? = w.heap[b]?) ∧ (Z w → Z w')
theorem TZ.refl (R : Nat) (Z : World → Prop) (w : World) : TZ R Z w w := ⟨fun _ _ _ => rfl, id⟩
theorem TZ.call {R : Nat} {Z : World → Prop} {w w' : World} (hZ : Z w → Below w.heap.size w w' → Z w') (hb : Below w.heap.size w w') : TZ R Z w w' := ⟨fun b hlt _ => hb.block b hlt, fun h => hZ h hb⟩
theorem TZ.put {R : Nat} {Z : World → Prop} {w : World} (cs : Array Value) (h : Z (w.setRow R cs)) : TZ R Z w (w.setRow R cs) := ⟨fun b _ hne => setRow_heap_ne _ _ _ _ (by omega), fun _ => h⟩
theorem SlotC.ext4 {x : Tmp} {s : St} {base R : Nat} {Z : World → Prop} {a a' : Act} {w w' : World} (hw : WfSt s) (hR : R < base) (h : SlotC x s base a w) (hx : a'.tmps.getD x undef = a.tmps.getD x undef) (hT : TZ R Z w w') : SlotC x s base a' w' := by
 obtain ⟨g, c, h', d, h1, h2, h3, h4⟩ := h
 have hl := h2.lt hw
 exact ⟨g, c, h', d, hx.trans h1, h2.keep (hT.1 g hl.1 (by omega)) (hT.1 h' hl.2 (by omega)), h3, h4⟩
def ZTW (w0 : World) (s : St) (p q r : ByteArray) (x k a b : Int) (w : World) : Prop := ∃ g c h d, CW8 w0 s g c h d p q r x k a b w ∧ w0.heap.size + 4 ≤ g ∧ w0.heap.size + 4 ≤ h
theorem ZTW.call {w0 w w' : World} {s : St} {p q r : ByteArray} {x k a b : Int} (hw : WfSt s) (h : ZTW w0 s p q r x k a b w) (hb : Below w.heap.size w w') : ZTW w0 s p q r x k a b w' := by
 obtain ⟨g, c, h', d, h1, h2, h3⟩ := h
 exact ⟨g, c, h', d, h1.call hw hb, h2, h3⟩
theorem CW8.store {w0 w : World} {s t : St} {g c h d g2 c2 h2 d2 : Nat} {p q r : ByteArray} {x k a b : Int} (h0 : CW8 w0 s g c h d p q r x k a b w) (hr : RAt w t g2 c2 h2 d2) (hg : w0.heap.size + 4 ≤ g2) (hh : w0.heap.size + 4 ≤ h2) : ZTW w0 t p q r x k a b (w.setRow w0.heap.size (cv t g2 c2 h2 d2)) :=
 ⟨g2, c2, h2, d2, ⟨h0.cell.put _, h0.pgs.put_other (by omega) _, h0.how.put_other (by omega) _, h0.ans.put_other (by omega) _, hr.keep (setRow_heap_ne _ _ _ _ (by omega)) (setRow_heap_ne _ _ _ _ (by omega)), below_put (Nat.le_refl _) _ h0.low, by rw [size_setRow]; exact h0.top⟩, hg, hh⟩
structure SpTW (w0 : World) (s : St) (p q r : ByteArray) (x k b1 b : Int) (j : Nat) (a : Act) (w : World) : Prop where
 c12 : j = 12 → SlotC 114 s (w0.heap.size + 4) a w
 c13 : j = 13 → ZTW w0 s p q r x k b1 b w
def fTW (j : Nat) : List Tmp := if j = 12 then [114] else []
theorem SpTW.ext {w0 : World} {s : St} {p q r : ByteArray} {x k b1 b : Int} (h2 : WfSt s) : ∀ (j : Nat) (a a' : Act) (w w' : World), SpTW w0 s p q r x k b1 b j a w → (∀ y ∈ fTW j, a'.tmps.getD y undef = a.tmps.getD y undef) → TZ w0.heap.size (ZTW w0 s p q r x k b1 b) w w' → SpTW w0 s p q r x k b1 b j a' w' := by
 rintro j a a' w w' ⟨f1, f2⟩ hx hT
 exact ⟨fun h => (f1 h).ext4 h2 (by omega) (hx 114 (by subst h; simp [fTW])) hT, fun h => hT.2 (f2 h)⟩
def vsTW (B : Nat) (cur : St) (g c h d i n : Nat) (pn : ByteArray) (x k a b : Int) : List (Option (Tmp × Value)) :=
 [some (102, .agg (cv cur g c h d)), some (103, .int .i64 (i : Nat)), some (104, .int .i64 ((3 * i : Nat) : Int)), some (105, .int .i64 (n : Nat)), some (106, .int .i64 ((3 * i + n : Nat) : Int)), some (107, .int .i64 (n : Nat)), some (108, .pointer (some ⟨B + 1, n, none⟩)), some (109, .string pn), some (110, .agg (fv x k a b)), some (111, .string (pageT pn k a b)), some (112, .agg (fv x k a b)), some (113, .bool (hurtsB k)), none, none]
def BaseTW (B i n : Nat) (arr0 : Array Value) (a : Act) : Prop := ∃ u : Nat → Value, a = ⟨#[arr0.getD 0 undef, .int .i64 (i : Nat), arr0.getD 2 undef, arr0.getD 3 undef, arr0.getD 4 undef, .pointer (some ⟨B, 0, none⟩), arr0.getD 6 undef, .pointer (some ⟨B + 1, 0, none⟩), arr0.getD 8 undef, .pointer (some ⟨B + 2, 0, none⟩), .pointer (some ⟨B + 3, 0, none⟩), arr0.getD 11 undef, arr0.getD 12 undef, arr0.getD 13 undef, arr0.getD 14 undef, .int .i64 (n : Nat), arr0.getD 16 undef, arr0.getD 17 undef, arr0.getD 18 undef, arr0.getD 19 undef, arr0.getD 20 undef, arr0.getD 21 undef, arr0.getD 22 undef, arr0.getD 23 undef, arr0.getD 24 undef, arr0.getD 25 undef, arr0.getD 26 undef, arr0.getD 27 undef, arr0.getD 28 undef, arr0.getD 29 undef, arr0.getD 30 undef, arr0.getD 31 undef, arr0.getD 32 undef, arr0.getD 33 undef, arr0.getD 34 undef, arr0.getD 35 undef, arr0.getD 36 undef, arr0.getD 37 undef, arr0.getD 38 undef, arr0.getD 39 undef, arr0.getD 40 undef, arr0.getD 41 undef, arr0.getD 42 undef, arr0.getD 43 undef, arr0.getD 44 undef, arr0.getD 45 undef, arr0.getD 46 undef, arr0.getD 47 undef, arr0.getD 48 undef, arr0.getD 49 undef, arr0.getD 50 undef, arr0.getD 51 undef, arr0.getD 52 undef, arr0.getD 53 undef, arr0.getD 54 undef, arr0.getD 55 undef, arr0.getD 56 undef, arr0.getD 57 undef, arr0.getD 58 undef, arr0.getD 59 undef, arr0.getD 60 undef, arr0.getD 61 undef, arr0.getD 62 undef, arr0.getD 63 undef, arr0.getD 64 undef, arr0.getD 65 undef, arr0.getD 66 undef, arr0.getD 67 undef, arr0.getD 68 undef, arr0.getD 69 undef, arr0.getD 70 undef, arr0.getD 71 undef, arr0.getD 72 undef, arr0.getD 73 undef, arr0.getD 74 undef, arr0.getD 75 undef, arr0.getD 76 undef, arr0.getD 77 undef, arr0.getD 78 undef, arr0.getD 79 undef, arr0.getD 80 undef, arr0.getD 81 undef, arr0.getD 82 undef, arr0.getD 83 undef, arr0.getD 84 undef, arr0.getD 85 undef, arr0.getD 86 undef, arr0.getD 87 undef, arr0.getD 88 undef, arr0.getD 89 undef, arr0.getD 90 undef, arr0.getD 91 undef, arr0.getD 92 undef, arr0.getD 93 undef, arr0.getD 94 undef, arr0.getD 95 undef, arr0.getD 96 undef, arr0.getD 97 undef, arr0.getD 98 undef, arr0.getD 99 undef, arr0.getD 100 undef, arr0.getD 101 undef, u 102, u 103, u 104, u 105, u 106, u 107, u 108, u 109, u 110, u 111, u 112, u 113, u 114, arr0.getD 115 undef, arr0.getD 116 undef, arr0.getD 117 undef, arr0.getD 118 undef, arr0.getD 119 undef], []⟩
set_option maxHeartbeats 1000000 in
theorem rce_two_yes (s : St) (g c h d i : Nat) (p q r : ByteArray) (f : Bool) (x k a b : Int) (w : World) (hw : WfSt s) (hr : RAt w s g c h d) (hok : TwoOk s i p q r f) :
  Calls Tryz.prog 92 #[.agg (cv s g c h d), .int .i64 (i : Nat), .agg (tv3 p q r), .bool f, .agg (fv x k a b)] w (PairT (twoSt s i p q r f k a b) (twoC s i p q r f k) g h w) := by
 have hres : twoSt s i p q r f k a b = endSt (put3 (stepSt s 2) (3 * i) p q r k a b 3) k ∧ twoC s i p q r f k = endC k := by
  unfold twoSt twoC
  rw [if_pos hok, if_pos hok]
  simp
 rw [hres.1, hres.2]
 obtain ⟨k1, k2, k3, k4, k5, k6, k7, k8, k9, k10⟩ := hok
 have hw1 : WfSt (stepSt s 2) := stepSt_wf hw (Or.inr rfl) k4
 have hl64 := hw.l64
 have hps := takes_size hw k7
 have hqs := takes_size hw k8
 have hrs := takes_size hw k9
 obtain ⟨L, Y, mode, done, bad, torn, slc, tlc, ps, hs⟩ := s
 simp only at k1 k2 k3 k4 k5 k6 hl64
 subst k1 k2
 have hm1 : ((mode : Int) == 1) = false := by simpa using k3
 have hst : IsStep L done := ⟨⟨by have := hw.l1; simp only at this; omega, by omega⟩, by omega, by omega⟩
 have hl : stL L done = (i : Nat) := by unfold stL; rw [if_pos hst]; simpa using k5.symm
 have hf : stF L done = f := by unfold stF; rw [if_pos hst]; simpa using k6.symm
 have hc : stC L done = 0 := if_pos hst
 have HL := Lib.hid hl
 have HF := Lib.hid hf
 have HC := Lib.hid hc
 have HW1 := Lib.hid hw1
 have HWF := Lib.hid hw
 have HR := Lib.hid hr
 have HT7 := Lib.hid k7
 have HT8 := Lib.hid k8
 have HT9 := Lib.hid k9
 have H10 := Lib.hid k10
 have hil : i < L := by
  have := place_step (n := L) (k := done) (by omega)
  omega
 have HLT := Lib.hid (hr.lt hw)
 clear hw hr hres hw1 k3 k5 k6 k7 k8 k9 k10 hst hl hf hc
 go_enter Tryz.func92, Tryz.ntmps92
 unfold cv fv tv3
 go_wp2_with fail
 refine (ror_at L done _).mono ?_
 rintro e w2 ⟨rfl, hb2⟩
 rw [HL.out, HF.out, HC.out, show sv (i : Int) f = #[.int .i64 i, .bool f] from rfl]
 have hq0 : CW8 w ⟨L, Y, mode, done, false, false, slc, tlc, ps, hs⟩ g c h d p q r x k a b (w2.alloc (.cells #[.int .i64 i, .bool f] 131)) :=
  CW8.call ⟨(blk_4a w _ _ _ _ _).after hb2, (blk_4b w _ _ _ _ _).after hb2, (blk_4c w _ _ _ _ _).after hb2, (blk_4d w _ _ _ _ _).after hb2, HR.out.after HWF.out ((below_4 w _ _ _ _).trans (hb2.mono (below_4 w _ _ _ _).size)), (below_4 w _ _ _ _).trans (hb2.mono (below_4 w _ _ _ _).size), by have := hb2.size; simp at this; omega⟩ HWF.out ((Below.refl _ _).alloc (Nat.le_refl _) _)
 have c4 : (w2.alloc (.cells #[.int .i64 i, .bool f] 131)).cell? ⟨w.heap.size, 4, none⟩ = some (.bool false) := hq0.cell.cell 4
 have c5 : (w2.alloc (.cells #[.int .i64 i, .bool f] 131)).cell? ⟨w.heap.size, 5, none⟩ = some (.bool false) := hq0.cell.cell 5
 have c2 : (w2.alloc (.cells #[.int .i64 i, .bool f] 131)).cell? ⟨w.heap.size, 2, none⟩ = some (.int .i64 mode) := hq0.cell.cell 2
 have c0 : (w2.alloc (.cells #[.int .i64 i, .bool f] 131)).cell? ⟨w.heap.size + 1, 0, none⟩ = some (.string p) := hq0.pgs.cell 0
 have Q0 := Lib.hid hq0
 have HD := Lib.hid (Blk.new w2 #[.int .i64 (i : Nat), .bool f] 131)
 clear hq0 hb2 HR
 go_wp2_with (first
  | (refine wpList_load_row_if (by kernel_rfl) 66 (.tmp 5) rfl w.heap.size rfl 66 (cv ⟨L, Y, mode, done, false, false, slc, tlc, ps, hs⟩ g c h d) (0, 0) _ Q0.out.cell Tryz.underlying66 rfl size_cell ?_))
 refine (rce_takes ⟨L, Y, mode, done, false, false, slc, tlc, ps, hs⟩ g c h d p _ HWF.out).mono ?_
 rintro e w3 ⟨rfl, hb3⟩
 rw [HT7.out]
 have hd3 := HD.out.after hb3
 have Q3 := Lib.hid (Q0.out.call HWF.out hb3)
 have e1 : w3.cell? ⟨w.heap.size + 1, 1, none⟩ = some (.string q) := Q3.out.pgs.cell 1
 clear hb3 Q0 HD c0 c2 c4 c5
 go_wp2_with (first
  | (refine wpList_load_row_if (by kernel_rfl) 66 (.tmp 5) rfl w.heap.size rfl 66 (cv ⟨L, Y, mode, done, false, false, slc, tlc, ps, hs⟩ g c h d) (0, 0) _ Q3.out.cell Tryz.underlying66 rfl size_cell ?_))
 refine (rce_takes ⟨L, Y, mode, done, false, false, slc, tlc, ps, hs⟩ g c h d q _ HWF.out).mono ?_
 rintro e w4 ⟨rfl, hb4⟩
 rw [HT8.out]
 have Q4 := Lib.hid (Q3.out.call HWF.out hb4)
 have e2 : w4.cell? ⟨w.heap.size + 1, 2, none⟩ = some (.string r) := Q4.out.pgs.cell 2
 clear hb4 Q3 e1 hd3
 go_wp2_with (first
  | (refine wpList_load_row_if (by kernel_rfl) 66 (.tmp 5) rfl w.heap.size rfl 66 (cv ⟨L, Y, mode, done, false, false, slc, tlc, ps, hs⟩ g c h d) (0, 0) _ Q4.out.cell Tryz.underlying66 rfl size_cell ?_))
 refine (rce_takes ⟨L, Y, mode, done, false, false, slc, tlc, ps, hs⟩ g c h d r _ HWF.out).mono ?_
 rintro e w5 ⟨rfl, hb5⟩
 rw [HT9.out]
 have Q5 := Lib.hid (Q4.out.call HWF.out hb5)
 clear hb5 Q4 e2
 go_wp2_with fail
 go_loopw [14] (fun iv wr => ∃ n : Nat, n ≤ 3 ∧ iv = .int .i64 n ∧ CW8 w ⟨L, Y, mode, done, false, false, slc, tlc, ps, hs⟩ g c h d p q r x k a b wr) (fun iv _ => 3 - (intOf iv).toNat)
 case atStart => exact ⟨0, by omega, rfl, Q5.out⟩
 case round =>
  obtain ⟨n, hn, rfl, hq⟩ := hrel
  by_cases hlt : n < 3
  ·have hc8 : wr.cell? ⟨w.heap.size, 8, none⟩ = some (.slice (some ⟨g, 0, none⟩) (3 * L) c) := hq.cell.cell 8
   have hpg := hq.rd.page HWF.out (3 * i + n) (by simp only; omega)
   have hpn := tv_cell hq.pgs n hlt
   have hpe : f = true → pageAt ⟨L, Y, mode, done, false, false, slc, tlc, ps, hs⟩ (3 * i + n) = pgN p q r n := by
    intro hf
    have h3 := H10.out hf
    simp only [Int.toNat_natCast] at h3
    match n, hlt with
    | 0, _ => exact h3.1
    | 1, _ => exact h3.2.1
    | 2, _ => exact h3.2.2
   have HQ := Lib.hid hq
   clear hq
   cases f with
   | false =>
    clear hpe hpg hpn hc8
    go_wp2_with fail
    go_quiet (fail)
    go_wp2_with fail
    go_roundw
    case rel => exact ⟨n + 1, by omega, by go_num, HQ.out.call HWF.out (drewN_below2 _ _ _)⟩
    case measure => simp [intOf]; omega
   | true =>
    rw [hpe rfl] at hpg
    have hw1 : IntKind.i64.wrap (3 * (i : Int)) = 3 * (i : Int) := by rw [IntKind.wrap_i64]; omega
    have hw2 : IntKind.i64.wrap (3 * (i : Int) + (n : Int)) = ((3 * i + n : Nat) : Int) := by rw [IntKind.wrap_i64]; omega
    have hb2 : ((3 * i + n : Nat) : Int) < ((3 * L : Nat) : Int) := by omega
    clear hpe
    obtain ⟨pn, hpn2⟩ : ∃ pn, pgN p q r n = pn := ⟨_, rfl⟩
    rw [hpn2] at hpg hpn
    clear hpn2
    go_wp2_with fail
    go_quiet (fail)
    go_wp2_with fail
    go_roundw
    case rel => exact ⟨n + 1, by omega, by go_num, HQ.out.call HWF.out (drewN_below2 _ _ _)⟩
    case measure => simp [intOf]; omega
  ·obtain rfl : n = 3 := by omega
   have hc2 : wr.cell? ⟨w.heap.size, 2, none⟩ = some (.int .i64 mode) := hq.cell.cell 2
   have hf2 := hq.cell.free 2
   have d1 : Blk (wr.setCell ⟨w.heap.size, 2, none⟩ (.int .i64 2)) w.heap.size _ 66 := hq.cell.set 2 _ rfl
   have hc3 : (wr.setCell ⟨w.heap.size, 2, none⟩ (.int .i64 2)).cell? ⟨w.heap.size, 3, none⟩ = some (.int .i64 (done : Nat)) := by rw [d1.cell 3]; rfl
   have hf3 := d1.free 3
   obtain ⟨s1, hs1⟩ : ∃ s1, stepSt ⟨L, Y, mode, done, false, false, slc, tlc, ps, hs⟩ 2 = s1 := ⟨_, rfl⟩
   obtain ⟨wz, hwz⟩ : ∃ wz, (wr.setCell ⟨w.heap.size, 2, none⟩ (.int .i64 2)).setCell ⟨w.heap.size, 3, none⟩ (.int .i64 ((done : Int) + 1)) = wz := ⟨_, rfl⟩
   have hgn : g ≠ w.heap.size ∧ h ≠ w.heap.size := by have := HLT.out; omega
   have hq2 : CW8 w s1 g c h d p q r x k a b wz := by
    rw [← hwz, ← hs1]
    exact ⟨d1.set 3 _ (stepSt_cv _ _ _ _ _ _), (hq.pgs.set_other (by omega) _ _).set_other (by omega) _ _, (hq.how.set_other (by omega) _ _).set_other (by omega) _ _, (hq.ans.set_other (by omega) _ _).set_other (by omega) _ _, RAt.same (hq.rd.keep ((Below.heap_setCell _ _ _ _ (by simpa using hgn.1)).trans (Below.heap_setCell _ _ _ _ (by simpa using hgn.1))) ((Below.heap_setCell _ _ _ _ (by simpa using hgn.2)).trans (Below.heap_setCell _ _ _ _ (by simpa using hgn.2)))) rfl rfl, (hq.low.setCell (Nat.le_refl _) _).setCell (Nat.le_refl _) _, by simpa using hq.top⟩
   have hwf1 : WfSt s1 := by rw [← hs1]; exact HW1.out
   have HS1 := Lib.hid hs1
   have HWZ := Lib.hid hwz
   have HQ2 := Lib.hid hq2
   have HWF1 := Lib.hid hwf1
   clear d1 hs1 hwz hq2 hwf1 hq
   have HP3 : Hid (∀ n, n < 3 → (pgN p q r n).size ≤ 400) := by
    show ∀ n, n < 3 → (pgN p q r n).size ≤ 400
    intro n _
    unfold pgN
    split
    ·exact hps
    ·split
     ·exact hqs
     ·exact hrs
   clear hgn
   go_wp2_with (rw [HWZ.out])
   go_loopw [15] (fun iv wr => ∃ (n g' c' h' d' : Nat), n ≤ 3 ∧ iv = .int .i64 n ∧ CW8 w (put3 s1 (3 * i) p q r k a b n) g' c' h' d' p q r x k a b wr ∧ ((g' = g ∧ h' = h) ∨ (w.heap.size + 4 ≤ g' ∧ w.heap.size + 4 ≤ h'))) (fun iv _ => 3 - (intOf iv).toNat)
   case atStart => exact ⟨0, g, c, h, d, by omega, rfl, by first | exact HQ2.out | (rw [HWZ.out]; exact HQ2.out), Or.inl ⟨rfl, rfl⟩⟩
   case round =>
    obtain ⟨n, g', c', h', d', hn, rfl, hq, hgh⟩ := hrel
    have hwc : WfSt (put3 s1 (3 * i) p q r k a b n) := put3_wf HWF1.out (3 * i) k a b hps hqs hrs n hn
    obtain ⟨cur, hcur⟩ : ∃ cur, put3 s1 (3 * i) p q r k a b n = cur := ⟨_, rfl⟩
    rw [hcur] at hq hwc
    by_cases hlt : n < 3
    ·have CN : Hid (put3 s1 (3 * i) p q r k a b (n + 1) = putSt cur (3 * i + n) (pageT (pgN p q r n) k a b) (hurtsB k)) := by
      show put3 s1 (3 * i) p q r k a b (n + 1) = _
      rw [put3_succ _ _ _ _ _ _ _ _ _ hlt, hcur]
     obtain ⟨pn, hpn⟩ : ∃ pn, pgN p q r n = pn := ⟨_, rfl⟩
     have HPN : Hid (∀ w' : World, Blk w' (w.heap.size + 1) (tv3 p q r) 38 → w'.cell? ⟨w.heap.size + 1, n, none⟩ = some (.string pn)) := fun w' h1 => by rw [← hpn]; exact tv_cell h1 n hlt
     have HP : Hid (pn.size ≤ 1000) := by
      show pn.size ≤ 1000
      have := HP3.out n hlt
      rw [hpn] at this
      omega
     have hpz : (pageT pn k a b).size ≤ 400 := by
      rw [pageT_size]
      have := HP3.out n hlt
      rwa [hpn] at this
     have HWN := Lib.hid (putSt_wf hwc (3 * i + n) (hurtsB k) hpz)
     rw [hpn] at CN
     have HWC := Lib.hid hwc
     have HQ := Lib.hid hq
     have HF : Hid (i ≤ 64 ∧ n < 3) := ⟨by omega, hlt⟩
     have HZC : Hid (∀ w1 w2 : World, ZTW w (putSt cur (3 * i + n) (pageT pn k a b) (hurtsB k)) p q r x k a b w1 → Below w1.heap.size w1 w2 → ZTW w (putSt cur (3 * i + n) (pageT pn k a b) (hurtsB k)) p q r x k a b w2) := fun w1 w2 h1 h2 => h1.call HWN.out h2
     clear hpz hpn hwc hq hcur hgh
     go_wp2_with fail
     rename_i K0 hK0
     generalize hA : (⟨_, _⟩ : Act) = A
     have HA := Lib.hid hA
     have HBT : Hid (BaseTW w.heap.size i n A.tmps A) := by
      show BaseTW _ _ _ _ _
      rw [← hA]
      exact fr_of _ (by kernel_rfl)
     clear hA
     refine wp_region_list4 13 (SV2 (vsTW w.heap.size cur g' c' h' d' i n pn x k a b) fTW) (BaseTW w.heap.size i n A.tmps) (CW8 w cur g' c' h' d' p q r x k a b) (TZ w.heap.size (ZTW w (putSt cur (3 * i + n) (pageT pn k a b) (hurtsB k)) p q r x k a b)) (RV (vsTW w.heap.size cur g' c' h' d' i n pn x k a b) (SpTW w (putSt cur (3 * i + n) (pageT pn k a b) (hurtsB k)) p q r x k a b)) rfl (by decide) (by kernel_rfl) (by kernel_rfl) (RV.ext2 (SpTW.ext HWN.out)) ?_ (HQ.out.call HWC.out (Below.refl _ _).drew) HBT.out ?_ ?_
     ·exact ⟨fr_put 102 fun _ _ => by kernel_rfl, fr_put 103 fun _ _ => by kernel_rfl, fr_put 104 fun _ _ => by kernel_rfl, fr_put 105 fun _ _ => by kernel_rfl, fr_put 106 fun _ _ => by kernel_rfl, fr_put 107 fun _ _ => by kernel_rfl, fr_put 108 fun _ _ => by kernel_rfl, fr_put 109 fun _ _ => by kernel_rfl, fr_put 110 fun _ _ => by kernel_rfl, fr_put 111 fun _ _ => by kernel_rfl, fr_put 112 fun _ _ => by kernel_rfl, fr_put 113 fun _ _ => by kernel_rfl, fr_put 114 fun _ _ => by kernel_rfl, fun a v h => h, trivial⟩
     ·refine ⟨?_, ?_, ?_, ?_, ?_, ?_, ?_, ?_, ?_, ?_, ?_, ?_, ?_, ?_, trivial⟩
      all_goals
       intro a w' hC hB hR
       obtain ⟨u, rfl⟩ := hB
       have HC := Lib.hid hC
       clear hC
      ·clear hR; refine if_yes (by kernel_rfl) ?_
       exact wp_load_row 66 (.tmp 5) rfl _ rfl 66 _ (0, 0) _ HC.out.cell Tryz.underlying66 rfl size_cell ⟨.agg (cv cur g' c' h' d'), rfl, (by first | exact HC.out | exact fun _ => HC.out), TZ.refl _ _ _, rfl⟩
      ·clear hR; refine if_yes (by kernel_rfl) ?_; unfold Oper.wp; go_simp; exact ⟨.int .i64 (i : Nat), rfl, (by first | exact HC.out | exact fun _ => HC.out), TZ.refl _ _ _, rfl⟩
      ·have h103 : u 103 = .int .i64 (i : Nat) := hR ⟨1, .data⟩ (by simp) rfl
       have hf := HF.out
       have hw : IntKind.i64.wrap (3 * (i : Int)) = ((3 * i : Nat) : Int) := by rw [IntKind.wrap_i64]; omega
       clear hf; clear hR; simp only [h103]; refine if_yes (by kernel_rfl) ?_; unfold Oper.wp; go_simp
       exact ⟨_, rfl, (by first | exact HC.out | exact fun _ => HC.out), TZ.refl _ _ _, congrArg (Value.int .i64) (by have hf := HF.out; first | rfl | omega | (rw [IntKind.wrap_i64]; omega))⟩
      ·clear hR; refine if_yes (by kernel_rfl) ?_; unfold Oper.wp; go_simp; exact ⟨.int .i64 (n : Nat), rfl, (by first | exact HC.out | exact fun _ => HC.out), TZ.refl _ _ _, rfl⟩
      ·have h104 : u 104 = .int .i64 ((3 * i : Nat) : Int) := hR ⟨2, .data⟩ (by simp) rfl; have h105 : u 105 = .int .i64 (n : Nat) := hR ⟨3, .data⟩ (by simp) rfl
       have hf := HF.out
       have hw : IntKind.i64.wrap (((3 * i : Nat) : Int) + (n : Int)) = ((3 * i + n : Nat) : Int) := by rw [IntKind.wrap_i64]; omega
       clear hf; clear hR; simp only [h104, h105]; refine if_yes (by kernel_rfl) ?_; unfold Oper.wp; go_simp
       exact ⟨_, rfl, (by first | exact HC.out | exact fun _ => HC.out), TZ.refl _ _ _, congrArg (Value.int .i64) (by have hf := HF.out; first | rfl | omega | (rw [IntKind.wrap_i64]; omega))⟩
      ·clear hR; refine if_yes (by kernel_rfl) ?_; unfold Oper.wp; go_simp; exact ⟨.int .i64 (n : Nat), rfl, (by first | exact HC.out | exact fun _ => HC.out), TZ.refl _ _ _, rfl⟩
      ·have h107 : u 107 = .int .i64 (n : Nat) := hR ⟨5, .data⟩ (by simp) rfl
       have hf := HF.out.2
       clear hR; simp only [h107]; refine if_yes (by kernel_rfl) ?_; unfold Oper.wp; go_simp; exact ⟨.pointer (some ⟨w.heap.size + 1, n, none⟩), rfl, (by first | exact HC.out | exact fun _ => HC.out), TZ.refl _ _ _, rfl⟩
      ·have h108 : u 108 = .pointer (some ⟨w.heap.size + 1, n, none⟩) := hR ⟨6, .data⟩ (by simp) rfl
       have hc : w'.cell? ⟨w.heap.size + 1, n, none⟩ = some (.string pn) := HPN.out w' HC.out.pgs
       clear hR; simp only [h108]; refine if_yes (by kernel_rfl) ?_; unfold Oper.wp; go_simp; exact ⟨.string pn, rfl, (by first | exact HC.out | exact fun _ => HC.out), TZ.refl _ _ _, rfl⟩
      ·clear hR; refine if_yes (by kernel_rfl) ?_
       exact wp_load_row 40 (.tmp 9) rfl _ rfl 40 _ (0, 0) _ HC.out.how Tryz.underlying40 rfl size_fault ⟨.agg (fv x k a b), rfl, (by first | exact HC.out | exact fun _ => HC.out), TZ.refl _ _ _, rfl⟩
      ·have h109 : u 109 = .string pn := hR ⟨7, .data⟩ (by simp) rfl; have h110 : u 110 = .agg (fv x k a b) := hR ⟨8, .data⟩ (by simp) rfl; clear hR; simp only [h109, h110]; refine if_yes (by kernel_rfl) ?_; unfold Oper.wp; go_simp
       refine (rce_page pn x k a b _ HP.out).mono ?_
       rintro e w2 ⟨rfl, hb2⟩
       exact ⟨.string (pageT pn k a b), rfl, (by first | exact HC.out.call HWC.out hb2 | exact fun _ => HC.out.call HWC.out hb2), TZ.call (HZC.out _ _) hb2, rfl⟩
      ·clear hR; refine if_yes (by kernel_rfl) ?_
       exact wp_load_row 40 (.tmp 9) rfl _ rfl 40 _ (0, 0) _ HC.out.how Tryz.underlying40 rfl size_fault ⟨.agg (fv x k a b), rfl, (by first | exact HC.out | exact fun _ => HC.out), TZ.refl _ _ _, rfl⟩
      ·have h112 : u 112 = .agg (fv x k a b) := hR ⟨10, .data⟩ (by simp) rfl; clear hR; simp only [h112]; refine if_yes (by kernel_rfl) ?_; unfold Oper.wp; go_simp
       refine (rce_hurts x k a b _).mono ?_
       rintro e w2 ⟨rfl, hb2⟩
       exact ⟨.bool (hurtsB k), rfl, (by first | exact HC.out.call HWC.out hb2 | exact fun _ => HC.out.call HWC.out hb2), TZ.call (HZC.out _ _) hb2, rfl⟩
      ·have h102 : u 102 = .agg (cv cur g' c' h' d') := hR ⟨0, .data⟩ (by simp) rfl; have h106 : u 106 = .int .i64 ((3 * i + n : Nat) : Int) := hR ⟨4, .data⟩ (by simp) rfl; have h111 : u 111 = .string (pageT pn k a b) := hR ⟨9, .data⟩ (by simp) rfl; have h113 : u 113 = .bool (hurtsB k) := hR ⟨11, .data⟩ (by simp) rfl; clear hR; simp only [h102, h106, h111, h113]; refine if_yes (by kernel_rfl) ?_; unfold Oper.wp; go_simp
       refine (rce_put cur g' c' h' d' (3 * i + n) (pageT pn k a b) (hurtsB k) _ HWC.out HC.out.rd).mono ?_
       rintro e w2 ⟨⟨g2, c2, h2, d2, rfl, hr', hg', hh'⟩, hb2⟩
       exact ⟨.agg (cv (putSt cur (3 * i + n) (pageT pn k a b) (hurtsB k)) g2 c2 h2 d2), rfl, (by first | exact HC.out.call HWC.out hb2 | exact fun _ => HC.out.call HWC.out hb2), TZ.call (HZC.out _ _) hb2, ⟨fun _ => ⟨g2, c2, h2, d2, rfl, hr', Nat.le_trans HC.out.top hg', Nat.le_trans HC.out.top hh'⟩, fun h => absurd h (by decide)⟩⟩
      ·obtain ⟨g2, c2, h2, d2, hg, hr', hg', hh'⟩ := (SpTW.c12 (hR ⟨12, .data⟩ (by simp) rfl)) rfl
       have hg : u 114 = .agg (cv (putSt cur (3 * i + n) (pageT pn k a b) (hurtsB k)) g2 c2 h2 d2) := hg
       clear hR; refine if_yes (by kernel_rfl) ?_; simp only [hg]
       have hgood := CW8.store HC.out hr' hg' hh'
       exact wp_store_row 66 (.tmp 5) (.tmp 114) rfl w.heap.size (cv (putSt cur (3 * i + n) (pageT pn k a b) (hurtsB k)) g2 c2 h2 d2) rfl rfl 66 (cv cur g' c' h' d') HC.out.cell size_cell rfl (cv_one _ _ _ _ _) ⟨undef, rfl, fun h => absurd rfl h, TZ.put _ hgood, ⟨fun h => absurd h (by decide), fun _ => hgood⟩⟩
     ·intro a' w' hB hR
      obtain ⟨g2, c2, h2, d2, z1, z2, z3⟩ := SpTW.c13 (hR 13 (by decide)) rfl
      have Z1 := Lib.hid z1
      have Z2 : Hid (w.heap.size + 4 ≤ g2 ∧ w.heap.size + 4 ≤ h2) := ⟨z2, z3⟩
      clear hR z1 z2 z3
      obtain ⟨u, rfl⟩ := hB
      rw [← HA.out]
      clear HA HBT
      go_wp2_with fail
      go_roundw
      case rel =>
       exact ⟨_, _, _, _, _, _, _, _, _, _, _, _, _, _, _, _, _, _, ⟨n + 1, g2, c2, h2, d2, by omega, by go_num, by rw [CN.out]; exact Z1.out, Or.inr Z2.out⟩, rfl⟩
      case measure => simp [intOf]; omega
    ·obtain rfl : n = 3 := by omega
     have HCUR : Hid (put3 (stepSt ⟨L, Y, mode, done, false, false, slc, tlc, ps, hs⟩ 2) (3 * i) p q r k a b 3 = cur) := by show put3 _ _ _ _ _ _ _ _ _ = _; rw [HS1.out]; exact hcur
     have HQ := Lib.hid hq
     have HWC := Lib.hid hwc
     have HGH := Lib.hid hgh
     clear hcur hq hwc hgh HQ2 HWZ Q5 hc2 hc3 hf2 hf3
     go_wp2_with (first
      | (refine wpList_load_row rfl 66 (.tmp 5) rfl w.heap.size rfl 66 (cv cur g' c' h' d') (0, 0) _ HQ.out.cell Tryz.underlying66 rfl size_cell ?_)
      | (refine wpList_load_row rfl 40 (.tmp 9) rfl (w.heap.size + 2) rfl 40 (fv x k a b) (0, 0) _ HQ.out.how Tryz.underlying40 rfl size_fault ?_))
     refine (rce_ends cur g' c' h' d' x k a b _).mono ?_
     rintro e w8 ⟨rfl, hb8⟩
     have HQ8 := Lib.hid (HQ.out.call HWC.out hb8)
     clear hb8 HQ
     go_wp2_with (refine wpList_store_row rfl 66 (.tmp 10) (.tmp 118) rfl (w.heap.size + 3) (cv (endSt cur k) g' c' h' d') rfl rfl 66 zv HQ8.out.ans size_cell rfl (cv_one _ _ _ _ _) ?_)
     have hG := HGH.out
     have hL := HLT.out
     rw [HCUR.out]
     exact bodyPost_ret (results_cell_tmp rfl _ _ (w.heap.size + 3) 66 (cv (endSt cur k) g' c' h' d') _ rfl (HQ8.out.ans.put _) Tryz.underlying66 rfl size_cell) rfl ⟨⟨g', c', h', d', rfl, (RAt_end HQ8.out.rd k).keep (setRow_heap_ne _ _ _ _ (by omega)) (setRow_heap_ne _ _ _ _ (by omega)), hG.elim Or.inl (fun h1 => Or.inr ⟨by omega, by omega⟩)⟩, below_put (by omega) _ HQ8.out.low⟩
/- The reference of layer 8, walked: two, where it is refused; Foggy, Fine. -/
theorem two_no {s : St} {line : Int} {p q r : ByteArray} {f : Bool} {k a b : Int} (h : ¬ TwoOk s line p q r f) : twoSt s line p q r f k a b = s ∧ twoC s line p q r f k = 80 := by
 unfold twoSt twoC
 rw [if_neg h, if_neg h]
 exact ⟨rfl, rfl⟩
set_option maxHeartbeats 1000000 in
theorem two_bad (L Y : Nat) (mode : Int) (done slc tlc : Nat) (ps : List ByteArray) (hs : List Bool) (torn : Bool) (g c h d : Nat) (line : Int) (p q r : ByteArray) (f : Bool) (x k a b : Int) (w : World) (hw : WfSt ⟨L, Y, mode, done, true, torn, slc, tlc, ps, hs⟩) (hr : RAt w ⟨L, Y, mode, done, true, torn, slc, tlc, ps, hs⟩ g c h d) :
  Calls Tryz.prog 92 #[.agg (cv ⟨L, Y, mode, done, true, torn, slc, tlc, ps, hs⟩ g c h d), .int .i64 line, .agg (tv3 p q r), .bool f, .agg (fv x k a b)] w (PairT ⟨L, Y, mode, done, true, torn, slc, tlc, ps, hs⟩ 80 g h w) := by
 have HWF := Lib.hid hw
 have HR := Lib.hid hr
 clear hw hr
 obtain ⟨sl, hsl⟩ : ∃ sl, stL L done = sl := ⟨_, rfl⟩
 obtain ⟨sf, hsf⟩ : ∃ sf, stF L done = sf := ⟨_, rfl⟩
 obtain ⟨sc, hsc⟩ : ∃ sc, stC L done = sc := ⟨_, rfl⟩
 have HL := Lib.hid hsl
 have HF := Lib.hid hsf
 have HC := Lib.hid hsc
 clear hsl hsf hsc
 go_enter Tryz.func92, Tryz.ntmps92
 unfold cv fv tv3
 go_wp2_with fail
 refine (ror_at L done _).mono ?_
 rintro e w2 ⟨rfl, hb2⟩
 rw [HL.out, HF.out, HC.out, show sv sl sf = #[.int .i64 sl, .bool sf] from rfl]
 have hq0 : CW8 w ⟨L, Y, mode, done, true, torn, slc, tlc, ps, hs⟩ g c h d p q r x k a b (w2.alloc (.cells #[.int .i64 sl, .bool sf] 131)) :=
  CW8.call ⟨(blk_4a w _ _ _ _ _).after hb2, (blk_4b w _ _ _ _ _).after hb2, (blk_4c w _ _ _ _ _).after hb2, (blk_4d w _ _ _ _ _).after hb2, HR.out.after HWF.out ((below_4 w _ _ _ _).trans (hb2.mono (below_4 w _ _ _ _).size)), (below_4 w _ _ _ _).trans (hb2.mono (below_4 w _ _ _ _).size), by have := hb2.size; simp at this; omega⟩ HWF.out ((Below.refl _ _).alloc (Nat.le_refl _) _)
 have c4 : (w2.alloc (.cells #[.int .i64 sl, .bool sf] 131)).cell? ⟨w.heap.size, 4, none⟩ = some (.bool true) := hq0.cell.cell 4
 have c5 : (w2.alloc (.cells #[.int .i64 sl, .bool sf] 131)).cell? ⟨w.heap.size, 5, none⟩ = some (.bool torn) := hq0.cell.cell 5
 have c2 : (w2.alloc (.cells #[.int .i64 sl, .bool sf] 131)).cell? ⟨w.heap.size, 2, none⟩ = some (.int .i64 mode) := hq0.cell.cell 2
 have c0 : (w2.alloc (.cells #[.int .i64 sl, .bool sf] 131)).cell? ⟨w.heap.size + 1, 0, none⟩ = some (.string p) := hq0.pgs.cell 0
 have Q0 := Lib.hid hq0
 clear hq0 hb2
 go_wp2_with (first
  | (refine wpList_load_row rfl 66 (.tmp 5) rfl w.heap.size rfl 66 (cv ⟨L, Y, mode, done, true, torn, slc, tlc, ps, hs⟩ g c h d) (0, 0) _ Q0.out.cell Tryz.underlying66 rfl size_cell ?_)
  | (refine wpList_store_row rfl 66 (.tmp 10) (.tmp 72) rfl (w.heap.size + 3) (cv ⟨L, Y, mode, done, true, torn, slc, tlc, ps, hs⟩ g c h d) rfl rfl 66 zv Q0.out.ans size_cell rfl (cv_one _ _ _ _ _) ?_))
 have hlt := HR.out.lt HWF.out
 exact bodyPost_ret (results_cell_tmp rfl _ _ (w.heap.size + 3) 66 (cv ⟨L, Y, mode, done, true, torn, slc, tlc, ps, hs⟩ g c h d) _ rfl (Q0.out.ans.put _) Tryz.underlying66 rfl size_cell) rfl ⟨⟨g, c, h, d, rfl, Q0.out.rd.keep (setRow_heap_ne _ _ _ _ (by omega)) (setRow_heap_ne _ _ _ _ (by omega)), Or.inl ⟨rfl, rfl⟩⟩, below_put (by omega) _ Q0.out.low⟩
set_option maxHeartbeats 1000000 in
theorem two_torn (L Y : Nat) (mode : Int) (done slc tlc : Nat) (ps : List ByteArray) (hs : List Bool) (g c h d : Nat) (line : Int) (p q r : ByteArray) (f : Bool) (x k a b : Int) (w : World) (hw : WfSt ⟨L, Y, mode, done, false, true, slc, tlc, ps, hs⟩) (hr : RAt w ⟨L, Y, mode, done, false, true, slc, tlc, ps, hs⟩ g c h d) :
  Calls Tryz.prog 92 #[.agg (cv ⟨L, Y, mode, done, false, true, slc, tlc, ps, hs⟩ g c h d), .int .i64 line, .agg (tv3 p q r), .bool f, .agg (fv x k a b)] w (PairT ⟨L, Y, mode, done, false, true, slc, tlc, ps, hs⟩ 80 g h w) := by
 have HWF := Lib.hid hw
 have HR := Lib.hid hr
 clear hw hr
 obtain ⟨sl, hsl⟩ : ∃ sl, stL L done = sl := ⟨_, rfl⟩
 obtain ⟨sf, hsf⟩ : ∃ sf, stF L done = sf := ⟨_, rfl⟩
 obtain ⟨sc, hsc⟩ : ∃ sc, stC L done = sc := ⟨_, rfl⟩
 have HL := Lib.hid hsl
 have HF := Lib.hid hsf
 have HC := Lib.hid hsc
 clear hsl hsf hsc
 go_enter Tryz.func92, Tryz.ntmps92
 unfold cv fv tv3
 go_wp2_with fail
 refine (ror_at L done _).mono ?_
 rintro e w2 ⟨rfl, hb2⟩
 rw [HL.out, HF.out, HC.out, show sv sl sf = #[.int .i64 sl, .bool sf] from rfl]
 have hq0 : CW8 w ⟨L, Y, mode, done, false, true, slc, tlc, ps, hs⟩ g c h d p q r x k a b (w2.alloc (.cells #[.int .i64 sl, .bool sf] 131)) :=
  CW8.call ⟨(blk_4a w _ _ _ _ _).after hb2, (blk_4b w _ _ _ _ _).after hb2, (blk_4c w _ _ _ _ _).after hb2, (blk_4d w _ _ _ _ _).after hb2, HR.out.after HWF.out ((below_4 w _ _ _ _).trans (hb2.mono (below_4 w _ _ _ _).size)), (below_4 w _ _ _ _).trans (hb2.mono (below_4 w _ _ _ _).size), by have := hb2.size; simp at this; omega⟩ HWF.out ((Below.refl _ _).alloc (Nat.le_refl _) _)
 have c4 : (w2.alloc (.cells #[.int .i64 sl, .bool sf] 131)).cell? ⟨w.heap.size, 4, none⟩ = some (.bool false) := hq0.cell.cell 4
 have c5 : (w2.alloc (.cells #[.int .i64 sl, .bool sf] 131)).cell? ⟨w.heap.size, 5, none⟩ = some (.bool true) := hq0.cell.cell 5
 have c2 : (w2.alloc (.cells #[.int .i64 sl, .bool sf] 131)).cell? ⟨w.heap.size, 2, none⟩ = some (.int .i64 mode) := hq0.cell.cell 2
 have c0 : (w2.alloc (.cells #[.int .i64 sl, .bool sf] 131)).cell? ⟨w.heap.size + 1, 0, none⟩ = some (.string p) := hq0.pgs.cell 0
 have Q0 := Lib.hid hq0
 clear hq0 hb2
 go_wp2_with (first
  | (refine wpList_load_row rfl 66 (.tmp 5) rfl w.heap.size rfl 66 (cv ⟨L, Y, mode, done, false, true, slc, tlc, ps, hs⟩ g c h d) (0, 0) _ Q0.out.cell Tryz.underlying66 rfl size_cell ?_)
  | (refine wpList_store_row rfl 66 (.tmp 10) (.tmp 72) rfl (w.heap.size + 3) (cv ⟨L, Y, mode, done, false, true, slc, tlc, ps, hs⟩ g c h d) rfl rfl 66 zv Q0.out.ans size_cell rfl (cv_one _ _ _ _ _) ?_))
 have hlt := HR.out.lt HWF.out
 exact bodyPost_ret (results_cell_tmp rfl _ _ (w.heap.size + 3) 66 (cv ⟨L, Y, mode, done, false, true, slc, tlc, ps, hs⟩ g c h d) _ rfl (Q0.out.ans.put _) Tryz.underlying66 rfl size_cell) rfl ⟨⟨g, c, h, d, rfl, Q0.out.rd.keep (setRow_heap_ne _ _ _ _ (by omega)) (setRow_heap_ne _ _ _ _ (by omega)), Or.inl ⟨rfl, rfl⟩⟩, below_put (by omega) _ Q0.out.low⟩
set_option maxHeartbeats 1000000 in
theorem two_mode (L Y : Nat) (mode : Int) (done slc tlc : Nat) (ps : List ByteArray) (hs : List Bool) (g c h d : Nat) (line : Int) (p q r : ByteArray) (f : Bool) (x k a b : Int) (w : World) (hw : WfSt ⟨L, Y, mode, done, false, false, slc, tlc, ps, hs⟩) (hr : RAt w ⟨L, Y, mode, done, false, false, slc, tlc, ps, hs⟩ g c h d) (hm : mode = 1) :
  Calls Tryz.prog 92 #[.agg (cv ⟨L, Y, mode, done, false, false, slc, tlc, ps, hs⟩ g c h d), .int .i64 line, .agg (tv3 p q r), .bool f, .agg (fv x k a b)] w (PairT ⟨L, Y, mode, done, false, false, slc, tlc, ps, hs⟩ 80 g h w) := by
 have HWF := Lib.hid hw
 have HR := Lib.hid hr
 clear hw hr
 obtain ⟨sl, hsl⟩ : ∃ sl, stL L done = sl := ⟨_, rfl⟩
 obtain ⟨sf, hsf⟩ : ∃ sf, stF L done = sf := ⟨_, rfl⟩
 obtain ⟨sc, hsc⟩ : ∃ sc, stC L done = sc := ⟨_, rfl⟩
 have HL := Lib.hid hsl
 have HF := Lib.hid hsf
 have HC := Lib.hid hsc
 subst hm
 clear hsl hsf hsc
 go_enter Tryz.func92, Tryz.ntmps92
 unfold cv fv tv3
 go_wp2_with fail
 refine (ror_at L done _).mono ?_
 rintro e w2 ⟨rfl, hb2⟩
 rw [HL.out, HF.out, HC.out, show sv sl sf = #[.int .i64 sl, .bool sf] from rfl]
 have hq0 : CW8 w ⟨L, Y, 1, done, false, false, slc, tlc, ps, hs⟩ g c h d p q r x k a b (w2.alloc (.cells #[.int .i64 sl, .bool sf] 131)) :=
  CW8.call ⟨(blk_4a w _ _ _ _ _).after hb2, (blk_4b w _ _ _ _ _).after hb2, (blk_4c w _ _ _ _ _).after hb2, (blk_4d w _ _ _ _ _).after hb2, HR.out.after HWF.out ((below_4 w _ _ _ _).trans (hb2.mono (below_4 w _ _ _ _).size)), (below_4 w _ _ _ _).trans (hb2.mono (below_4 w _ _ _ _).size), by have := hb2.size; simp at this; omega⟩ HWF.out ((Below.refl _ _).alloc (Nat.le_refl _) _)
 have c4 : (w2.alloc (.cells #[.int .i64 sl, .bool sf] 131)).cell? ⟨w.heap.size, 4, none⟩ = some (.bool false) := hq0.cell.cell 4
 have c5 : (w2.alloc (.cells #[.int .i64 sl, .bool sf] 131)).cell? ⟨w.heap.size, 5, none⟩ = some (.bool false) := hq0.cell.cell 5
 have c2 : (w2.alloc (.cells #[.int .i64 sl, .bool sf] 131)).cell? ⟨w.heap.size, 2, none⟩ = some (.int .i64 1) := hq0.cell.cell 2
 have c0 : (w2.alloc (.cells #[.int .i64 sl, .bool sf] 131)).cell? ⟨w.heap.size + 1, 0, none⟩ = some (.string p) := hq0.pgs.cell 0
 have Q0 := Lib.hid hq0
 clear hq0 hb2
 go_wp2_with (first
  | (refine wpList_load_row rfl 66 (.tmp 5) rfl w.heap.size rfl 66 (cv ⟨L, Y, 1, done, false, false, slc, tlc, ps, hs⟩ g c h d) (0, 0) _ Q0.out.cell Tryz.underlying66 rfl size_cell ?_)
  | (refine wpList_store_row rfl 66 (.tmp 10) (.tmp 72) rfl (w.heap.size + 3) (cv ⟨L, Y, 1, done, false, false, slc, tlc, ps, hs⟩ g c h d) rfl rfl 66 zv Q0.out.ans size_cell rfl (cv_one _ _ _ _ _) ?_))
 have hlt := HR.out.lt HWF.out
 exact bodyPost_ret (results_cell_tmp rfl _ _ (w.heap.size + 3) 66 (cv ⟨L, Y, 1, done, false, false, slc, tlc, ps, hs⟩ g c h d) _ rfl (Q0.out.ans.put _) Tryz.underlying66 rfl size_cell) rfl ⟨⟨g, c, h, d, rfl, Q0.out.rd.keep (setRow_heap_ne _ _ _ _ (by omega)) (setRow_heap_ne _ _ _ _ (by omega)), Or.inl ⟨rfl, rfl⟩⟩, below_put (by omega) _ Q0.out.low⟩
set_option maxHeartbeats 1000000 in
theorem two_step (L Y : Nat) (mode : Int) (done slc tlc : Nat) (ps : List ByteArray) (hs : List Bool) (g c h d : Nat) (line : Int) (p q r : ByteArray) (f : Bool) (x k a b : Int) (w : World) (hw : WfSt ⟨L, Y, mode, done, false, false, slc, tlc, ps, hs⟩) (hr : RAt w ⟨L, Y, mode, done, false, false, slc, tlc, ps, hs⟩ g c h d) (hm : mode ≠ 1) (he : stC L done ≠ 0) :
  Calls Tryz.prog 92 #[.agg (cv ⟨L, Y, mode, done, false, false, slc, tlc, ps, hs⟩ g c h d), .int .i64 line, .agg (tv3 p q r), .bool f, .agg (fv x k a b)] w (PairT ⟨L, Y, mode, done, false, false, slc, tlc, ps, hs⟩ 80 g h w) := by
 have HWF := Lib.hid hw
 have HR := Lib.hid hr
 clear hw hr
 obtain ⟨sl, hsl⟩ : ∃ sl, stL L done = sl := ⟨_, rfl⟩
 obtain ⟨sf, hsf⟩ : ∃ sf, stF L done = sf := ⟨_, rfl⟩
 obtain ⟨sc, hsc⟩ : ∃ sc, stC L done = sc := ⟨_, rfl⟩
 have HL := Lib.hid hsl
 have HF := Lib.hid hsf
 have HC := Lib.hid hsc
 have hmb : ((mode : Int) == 1) = false := by simpa using hm
 obtain rfl : sc = 1 := by
  rw [← hsc]
  unfold stC at he ⊢
  by_cases hst : IsStep L done
  ·rw [if_pos hst] at he; exact absurd rfl he
  ·rw [if_neg hst]
 clear hsl hsf hsc hm he
 go_enter Tryz.func92, Tryz.ntmps92
 unfold cv fv tv3
 go_wp2_with fail
 refine (ror_at L done _).mono ?_
 rintro e w2 ⟨rfl, hb2⟩
 rw [HL.out, HF.out, HC.out, show sv sl sf = #[.int .i64 sl, .bool sf] from rfl]
 have hq0 : CW8 w ⟨L, Y, mode, done, false, false, slc, tlc, ps, hs⟩ g c h d p q r x k a b (w2.alloc (.cells #[.int .i64 sl, .bool sf] 131)) :=
  CW8.call ⟨(blk_4a w _ _ _ _ _).after hb2, (blk_4b w _ _ _ _ _).after hb2, (blk_4c w _ _ _ _ _).after hb2, (blk_4d w _ _ _ _ _).after hb2, HR.out.after HWF.out ((below_4 w _ _ _ _).trans (hb2.mono (below_4 w _ _ _ _).size)), (below_4 w _ _ _ _).trans (hb2.mono (below_4 w _ _ _ _).size), by have := hb2.size; simp at this; omega⟩ HWF.out ((Below.refl _ _).alloc (Nat.le_refl _) _)
 have c4 : (w2.alloc (.cells #[.int .i64 sl, .bool sf] 131)).cell? ⟨w.heap.size, 4, none⟩ = some (.bool false) := hq0.cell.cell 4
 have c5 : (w2.alloc (.cells #[.int .i64 sl, .bool sf] 131)).cell? ⟨w.heap.size, 5, none⟩ = some (.bool false) := hq0.cell.cell 5
 have c2 : (w2.alloc (.cells #[.int .i64 sl, .bool sf] 131)).cell? ⟨w.heap.size, 2, none⟩ = some (.int .i64 mode) := hq0.cell.cell 2
 have c0 : (w2.alloc (.cells #[.int .i64 sl, .bool sf] 131)).cell? ⟨w.heap.size + 1, 0, none⟩ = some (.string p) := hq0.pgs.cell 0
 have Q0 := Lib.hid hq0
 clear hq0 hb2
 go_wp2_with (first
  | (refine wpList_load_row rfl 66 (.tmp 5) rfl w.heap.size rfl 66 (cv ⟨L, Y, mode, done, false, false, slc, tlc, ps, hs⟩ g c h d) (0, 0) _ Q0.out.cell Tryz.underlying66 rfl size_cell ?_)
  | (refine wpList_store_row rfl 66 (.tmp 10) (.tmp 72) rfl (w.heap.size + 3) (cv ⟨L, Y, mode, done, false, false, slc, tlc, ps, hs⟩ g c h d) rfl rfl 66 zv Q0.out.ans size_cell rfl (cv_one _ _ _ _ _) ?_))
 have hlt := HR.out.lt HWF.out
 exact bodyPost_ret (results_cell_tmp rfl _ _ (w.heap.size + 3) 66 (cv ⟨L, Y, mode, done, false, false, slc, tlc, ps, hs⟩ g c h d) _ rfl (Q0.out.ans.put _) Tryz.underlying66 rfl size_cell) rfl ⟨⟨g, c, h, d, rfl, Q0.out.rd.keep (setRow_heap_ne _ _ _ _ (by omega)) (setRow_heap_ne _ _ _ _ (by omega)), Or.inl ⟨rfl, rfl⟩⟩, below_put (by omega) _ Q0.out.low⟩
/- The reference of layer 8, walked: two, where it is refused; Foggy, Fine. -/
set_option maxHeartbeats 1000000 in
theorem two_line (L Y : Nat) (mode : Int) (done slc tlc : Nat) (ps : List ByteArray) (hs : List Bool) (g c h d : Nat) (line : Int) (p q r : ByteArray) (f : Bool) (x k a b : Int) (w : World) (hw : WfSt ⟨L, Y, mode, done, false, false, slc, tlc, ps, hs⟩) (hr : RAt w ⟨L, Y, mode, done, false, false, slc, tlc, ps, hs⟩ g c h d) (hm : mode ≠ 1) (he : stC L done = 0) (hl : line ≠ stL L done) :
  Calls Tryz.prog 92 #[.agg (cv ⟨L, Y, mode, done, false, false, slc, tlc, ps, hs⟩ g c h d), .int .i64 line, .agg (tv3 p q r), .bool f, .agg (fv x k a b)] w (PairT ⟨L, Y, mode, done, false, false, slc, tlc, ps, hs⟩ 80 g h w) := by
 have HWF := Lib.hid hw
 have HR := Lib.hid hr
 clear hw hr
 obtain ⟨sl, hsl⟩ : ∃ sl, stL L done = sl := ⟨_, rfl⟩
 obtain ⟨sf, hsf⟩ : ∃ sf, stF L done = sf := ⟨_, rfl⟩
 obtain ⟨sc, hsc⟩ : ∃ sc, stC L done = sc := ⟨_, rfl⟩
 have HL := Lib.hid hsl
 have HF := Lib.hid hsf
 have HC := Lib.hid hsc
 have hmb : ((mode : Int) == 1) = false := by simpa using hm
 obtain rfl : sc = 0 := by rw [← hsc]; exact he
 have hlb : ((sl : Int) == line) = false := by rw [← hsl]; simpa using fun e => hl e.symm
 have hln : ¬ sl = line := by rw [← hsl]; exact fun e => hl e.symm
 clear hsl hsf hsc hm he hl
 go_enter Tryz.func92, Tryz.ntmps92
 unfold cv fv tv3
 go_wp2_with fail
 refine (ror_at L done _).mono ?_
 rintro e w2 ⟨rfl, hb2⟩
 rw [HL.out, HF.out, HC.out, show sv sl sf = #[.int .i64 sl, .bool sf] from rfl]
 have hq0 : CW8 w ⟨L, Y, mode, done, false, false, slc, tlc, ps, hs⟩ g c h d p q r x k a b (w2.alloc (.cells #[.int .i64 sl, .bool sf] 131)) :=
  CW8.call ⟨(blk_4a w _ _ _ _ _).after hb2, (blk_4b w _ _ _ _ _).after hb2, (blk_4c w _ _ _ _ _).after hb2, (blk_4d w _ _ _ _ _).after hb2, HR.out.after HWF.out ((below_4 w _ _ _ _).trans (hb2.mono (below_4 w _ _ _ _).size)), (below_4 w _ _ _ _).trans (hb2.mono (below_4 w _ _ _ _).size), by have := hb2.size; simp at this; omega⟩ HWF.out ((Below.refl _ _).alloc (Nat.le_refl _) _)
 have c4 : (w2.alloc (.cells #[.int .i64 sl, .bool sf] 131)).cell? ⟨w.heap.size, 4, none⟩ = some (.bool false) := hq0.cell.cell 4
 have c5 : (w2.alloc (.cells #[.int .i64 sl, .bool sf] 131)).cell? ⟨w.heap.size, 5, none⟩ = some (.bool false) := hq0.cell.cell 5
 have c2 : (w2.alloc (.cells #[.int .i64 sl, .bool sf] 131)).cell? ⟨w.heap.size, 2, none⟩ = some (.int .i64 mode) := hq0.cell.cell 2
 have c0 : (w2.alloc (.cells #[.int .i64 sl, .bool sf] 131)).cell? ⟨w.heap.size + 1, 0, none⟩ = some (.string p) := hq0.pgs.cell 0
 have Q0 := Lib.hid hq0
 clear hq0 hb2
 go_wp2_with (first
  | (refine wpList_load_row rfl 66 (.tmp 5) rfl w.heap.size rfl 66 (cv ⟨L, Y, mode, done, false, false, slc, tlc, ps, hs⟩ g c h d) (0, 0) _ Q0.out.cell Tryz.underlying66 rfl size_cell ?_)
  | (refine wpList_store_row rfl 66 (.tmp 10) (.tmp 72) rfl (w.heap.size + 3) (cv ⟨L, Y, mode, done, false, false, slc, tlc, ps, hs⟩ g c h d) rfl rfl 66 zv Q0.out.ans size_cell rfl (cv_one _ _ _ _ _) ?_))
 have hlt := HR.out.lt HWF.out
 exact bodyPost_ret (results_cell_tmp rfl _ _ (w.heap.size + 3) 66 (cv ⟨L, Y, mode, done, false, false, slc, tlc, ps, hs⟩ g c h d) _ rfl (Q0.out.ans.put _) Tryz.underlying66 rfl size_cell) rfl ⟨⟨g, c, h, d, rfl, Q0.out.rd.keep (setRow_heap_ne _ _ _ _ (by omega)) (setRow_heap_ne _ _ _ _ (by omega)), Or.inl ⟨rfl, rfl⟩⟩, below_put (by omega) _ Q0.out.low⟩
set_option maxHeartbeats 1000000 in
theorem two_fine (L Y : Nat) (mode : Int) (done slc tlc : Nat) (ps : List ByteArray) (hs : List Bool) (g c h d : Nat) (line : Int) (p q r : ByteArray) (f : Bool) (x k a b : Int) (w : World) (hw : WfSt ⟨L, Y, mode, done, false, false, slc, tlc, ps, hs⟩) (hr : RAt w ⟨L, Y, mode, done, false, false, slc, tlc, ps, hs⟩ g c h d) (hm : mode ≠ 1) (he : stC L done = 0) (hl : line = stL L done) (hf : f ≠ stF L done) :
  Calls Tryz.prog 92 #[.agg (cv ⟨L, Y, mode, done, false, false, slc, tlc, ps, hs⟩ g c h d), .int .i64 line, .agg (tv3 p q r), .bool f, .agg (fv x k a b)] w (PairT ⟨L, Y, mode, done, false, false, slc, tlc, ps, hs⟩ 80 g h w) := by
 have HWF := Lib.hid hw
 have HR := Lib.hid hr
 clear hw hr
 obtain ⟨sl, hsl⟩ : ∃ sl, stL L done = sl := ⟨_, rfl⟩
 obtain ⟨sf, hsf⟩ : ∃ sf, stF L done = sf := ⟨_, rfl⟩
 obtain ⟨sc, hsc⟩ : ∃ sc, stC L done = sc := ⟨_, rfl⟩
 have HL := Lib.hid hsl
 have HF := Lib.hid hsf
 have HC := Lib.hid hsc
 have hmb : ((mode : Int) == 1) = false := by simpa using hm
 obtain rfl : sc = 0 := by rw [← hsc]; exact he
 obtain rfl : sl = line := by rw [← hsl]; exact hl.symm
 cases f
 ·obtain rfl : sf = true := by rw [← hsf]; revert hf; cases stF L done <;> simp
  clear hsl hsf hsc hm he hl hf
  go_enter Tryz.func92, Tryz.ntmps92
  unfold cv fv tv3
  go_wp2_with fail
  refine (ror_at L done _).mono ?_
  rintro e w2 ⟨rfl, hb2⟩
  rw [HL.out, HF.out, HC.out, show sv sl true = #[.int .i64 sl, .bool true] from rfl]
  have hq0 : CW8 w ⟨L, Y, mode, done, false, false, slc, tlc, ps, hs⟩ g c h d p q r x k a b (w2.alloc (.cells #[.int .i64 sl, .bool true] 131)) :=
   CW8.call ⟨(blk_4a w _ _ _ _ _).after hb2, (blk_4b w _ _ _ _ _).after hb2, (blk_4c w _ _ _ _ _).after hb2, (blk_4d w _ _ _ _ _).after hb2, HR.out.after HWF.out ((below_4 w _ _ _ _).trans (hb2.mono (below_4 w _ _ _ _).size)), (below_4 w _ _ _ _).trans (hb2.mono (below_4 w _ _ _ _).size), by have := hb2.size; simp at this; omega⟩ HWF.out ((Below.refl _ _).alloc (Nat.le_refl _) _)
  have c4 : (w2.alloc (.cells #[.int .i64 sl, .bool true] 131)).cell? ⟨w.heap.size, 4, none⟩ = some (.bool false) := hq0.cell.cell 4
  have c5 : (w2.alloc (.cells #[.int .i64 sl, .bool true] 131)).cell? ⟨w.heap.size, 5, none⟩ = some (.bool false) := hq0.cell.cell 5
  have c2 : (w2.alloc (.cells #[.int .i64 sl, .bool true] 131)).cell? ⟨w.heap.size, 2, none⟩ = some (.int .i64 mode) := hq0.cell.cell 2
  have c0 : (w2.alloc (.cells #[.int .i64 sl, .bool true] 131)).cell? ⟨w.heap.size + 1, 0, none⟩ = some (.string p) := hq0.pgs.cell 0
  have Q0 := Lib.hid hq0
  clear hq0 hb2
  go_wp2_with (first
   | (refine wpList_load_row rfl 66 (.tmp 5) rfl w.heap.size rfl 66 (cv ⟨L, Y, mode, done, false, false, slc, tlc, ps, hs⟩ g c h d) (0, 0) _ Q0.out.cell Tryz.underlying66 rfl size_cell ?_)
   | (refine wpList_store_row rfl 66 (.tmp 10) (.tmp 72) rfl (w.heap.size + 3) (cv ⟨L, Y, mode, done, false, false, slc, tlc, ps, hs⟩ g c h d) rfl rfl 66 zv Q0.out.ans size_cell rfl (cv_one _ _ _ _ _) ?_))
  have hlt := HR.out.lt HWF.out
  exact bodyPost_ret (results_cell_tmp rfl _ _ (w.heap.size + 3) 66 (cv ⟨L, Y, mode, done, false, false, slc, tlc, ps, hs⟩ g c h d) _ rfl (Q0.out.ans.put _) Tryz.underlying66 rfl size_cell) rfl ⟨⟨g, c, h, d, rfl, Q0.out.rd.keep (setRow_heap_ne _ _ _ _ (by omega)) (setRow_heap_ne _ _ _ _ (by omega)), Or.inl ⟨rfl, rfl⟩⟩, below_put (by omega) _ Q0.out.low⟩
 ·obtain rfl : sf = false := by rw [← hsf]; revert hf; cases stF L done <;> simp
  clear hsl hsf hsc hm he hl hf
  go_enter Tryz.func92, Tryz.ntmps92
  unfold cv fv tv3
  go_wp2_with fail
  refine (ror_at L done _).mono ?_
  rintro e w2 ⟨rfl, hb2⟩
  rw [HL.out, HF.out, HC.out, show sv sl false = #[.int .i64 sl, .bool false] from rfl]
  have hq0 : CW8 w ⟨L, Y, mode, done, false, false, slc, tlc, ps, hs⟩ g c h d p q r x k a b (w2.alloc (.cells #[.int .i64 sl, .bool false] 131)) :=
   CW8.call ⟨(blk_4a w _ _ _ _ _).after hb2, (blk_4b w _ _ _ _ _).after hb2, (blk_4c w _ _ _ _ _).after hb2, (blk_4d w _ _ _ _ _).after hb2, HR.out.after HWF.out ((below_4 w _ _ _ _).trans (hb2.mono (below_4 w _ _ _ _).size)), (below_4 w _ _ _ _).trans (hb2.mono (below_4 w _ _ _ _).size), by have := hb2.size; simp at this; omega⟩ HWF.out ((Below.refl _ _).alloc (Nat.le_refl _) _)
  have c4 : (w2.alloc (.cells #[.int .i64 sl, .bool false] 131)).cell? ⟨w.heap.size, 4, none⟩ = some (.bool false) := hq0.cell.cell 4
  have c5 : (w2.alloc (.cells #[.int .i64 sl, .bool false] 131)).cell? ⟨w.heap.size, 5, none⟩ = some (.bool false) := hq0.cell.cell 5
  have c2 : (w2.alloc (.cells #[.int .i64 sl, .bool false] 131)).cell? ⟨w.heap.size, 2, none⟩ = some (.int .i64 mode) := hq0.cell.cell 2
  have c0 : (w2.alloc (.cells #[.int .i64 sl, .bool false] 131)).cell? ⟨w.heap.size + 1, 0, none⟩ = some (.string p) := hq0.pgs.cell 0
  have Q0 := Lib.hid hq0
  clear hq0 hb2
  go_wp2_with (first
   | (refine wpList_load_row rfl 66 (.tmp 5) rfl w.heap.size rfl 66 (cv ⟨L, Y, mode, done, false, false, slc, tlc, ps, hs⟩ g c h d) (0, 0) _ Q0.out.cell Tryz.underlying66 rfl size_cell ?_)
   | (refine wpList_store_row rfl 66 (.tmp 10) (.tmp 72) rfl (w.heap.size + 3) (cv ⟨L, Y, mode, done, false, false, slc, tlc, ps, hs⟩ g c h d) rfl rfl 66 zv Q0.out.ans size_cell rfl (cv_one _ _ _ _ _) ?_))
  have hlt := HR.out.lt HWF.out
  exact bodyPost_ret (results_cell_tmp rfl _ _ (w.heap.size + 3) 66 (cv ⟨L, Y, mode, done, false, false, slc, tlc, ps, hs⟩ g c h d) _ rfl (Q0.out.ans.put _) Tryz.underlying66 rfl size_cell) rfl ⟨⟨g, c, h, d, rfl, Q0.out.rd.keep (setRow_heap_ne _ _ _ _ (by omega)) (setRow_heap_ne _ _ _ _ (by omega)), Or.inl ⟨rfl, rfl⟩⟩, below_put (by omega) _ Q0.out.low⟩
set_option maxHeartbeats 1000000 in
theorem two_p (L Y : Nat) (mode : Int) (done slc tlc : Nat) (ps : List ByteArray) (hs : List Bool) (g c h d : Nat) (line : Int) (p q r : ByteArray) (f : Bool) (x k a b : Int) (w : World) (hw : WfSt ⟨L, Y, mode, done, false, false, slc, tlc, ps, hs⟩) (hr : RAt w ⟨L, Y, mode, done, false, false, slc, tlc, ps, hs⟩ g c h d) (hm : mode ≠ 1) (he : stC L done = 0) (hl : line = stL L done) (hf : f = stF L done) (ht7 : takesB ⟨L, Y, mode, done, false, false, slc, tlc, ps, hs⟩ p = false) :
  Calls Tryz.prog 92 #[.agg (cv ⟨L, Y, mode, done, false, false, slc, tlc, ps, hs⟩ g c h d), .int .i64 line, .agg (tv3 p q r), .bool f, .agg (fv x k a b)] w (PairT ⟨L, Y, mode, done, false, false, slc, tlc, ps, hs⟩ 80 g h w) := by
 have HWF := Lib.hid hw
 have HR := Lib.hid hr
 clear hw hr
 obtain ⟨sl, hsl⟩ : ∃ sl, stL L done = sl := ⟨_, rfl⟩
 obtain ⟨sf, hsf⟩ : ∃ sf, stF L done = sf := ⟨_, rfl⟩
 obtain ⟨sc, hsc⟩ : ∃ sc, stC L done = sc := ⟨_, rfl⟩
 have HL := Lib.hid hsl
 have HF := Lib.hid hsf
 have HC := Lib.hid hsc
 have hmb : ((mode : Int) == 1) = false := by simpa using hm
 obtain rfl : sc = 0 := by rw [← hsc]; exact he
 obtain rfl : sl = line := by rw [← hsl]; exact hl.symm
 obtain rfl : sf = f := by rw [← hsf]; exact hf.symm
 have HT7 : Hid (takesB ⟨L, Y, mode, done, false, false, slc, tlc, ps, hs⟩ p = false) := ht7
 clear hsl hsf hsc hm he hl hf ht7
 go_enter Tryz.func92, Tryz.ntmps92
 unfold cv fv tv3
 go_wp2_with fail
 refine (ror_at L done _).mono ?_
 rintro e w2 ⟨rfl, hb2⟩
 rw [HL.out, HF.out, HC.out, show sv sl sf = #[.int .i64 sl, .bool sf] from rfl]
 have hq0 : CW8 w ⟨L, Y, mode, done, false, false, slc, tlc, ps, hs⟩ g c h d p q r x k a b (w2.alloc (.cells #[.int .i64 sl, .bool sf] 131)) :=
  CW8.call ⟨(blk_4a w _ _ _ _ _).after hb2, (blk_4b w _ _ _ _ _).after hb2, (blk_4c w _ _ _ _ _).after hb2, (blk_4d w _ _ _ _ _).after hb2, HR.out.after HWF.out ((below_4 w _ _ _ _).trans (hb2.mono (below_4 w _ _ _ _).size)), (below_4 w _ _ _ _).trans (hb2.mono (below_4 w _ _ _ _).size), by have := hb2.size; simp at this; omega⟩ HWF.out ((Below.refl _ _).alloc (Nat.le_refl _) _)
 have c4 : (w2.alloc (.cells #[.int .i64 sl, .bool sf] 131)).cell? ⟨w.heap.size, 4, none⟩ = some (.bool false) := hq0.cell.cell 4
 have c5 : (w2.alloc (.cells #[.int .i64 sl, .bool sf] 131)).cell? ⟨w.heap.size, 5, none⟩ = some (.bool false) := hq0.cell.cell 5
 have c2 : (w2.alloc (.cells #[.int .i64 sl, .bool sf] 131)).cell? ⟨w.heap.size, 2, none⟩ = some (.int .i64 mode) := hq0.cell.cell 2
 have c0 : (w2.alloc (.cells #[.int .i64 sl, .bool sf] 131)).cell? ⟨w.heap.size + 1, 0, none⟩ = some (.string p) := hq0.pgs.cell 0
 have Q0 := Lib.hid hq0
 clear hq0 hb2
 go_wp2_with (first
  | (refine wpList_load_row_if (by kernel_rfl) 66 (.tmp 5) rfl w.heap.size rfl 66 (cv ⟨L, Y, mode, done, false, false, slc, tlc, ps, hs⟩ g c h d) (0, 0) _ Q0.out.cell Tryz.underlying66 rfl size_cell ?_))
 refine (rce_takes ⟨L, Y, mode, done, false, false, slc, tlc, ps, hs⟩ g c h d p _ HWF.out).mono ?_
 rintro e w3 ⟨rfl, hb3⟩
 rw [HT7.out]
 have Q3 := Lib.hid (Q0.out.call HWF.out hb3)
 have e1 : w3.cell? ⟨w.heap.size + 1, 1, none⟩ = some (.string q) := Q3.out.pgs.cell 1
 clear hb3 Q0 c0 c2 c4 c5
 go_wp2_with (first
  | (refine wpList_load_row rfl 66 (.tmp 5) rfl w.heap.size rfl 66 (cv ⟨L, Y, mode, done, false, false, slc, tlc, ps, hs⟩ g c h d) (0, 0) _ Q3.out.cell Tryz.underlying66 rfl size_cell ?_)
  | (refine wpList_store_row rfl 66 (.tmp 10) (.tmp 72) rfl (w.heap.size + 3) (cv ⟨L, Y, mode, done, false, false, slc, tlc, ps, hs⟩ g c h d) rfl rfl 66 zv Q3.out.ans size_cell rfl (cv_one _ _ _ _ _) ?_))
 have hlt := HR.out.lt HWF.out
 exact bodyPost_ret (results_cell_tmp rfl _ _ (w.heap.size + 3) 66 (cv ⟨L, Y, mode, done, false, false, slc, tlc, ps, hs⟩ g c h d) _ rfl (Q3.out.ans.put _) Tryz.underlying66 rfl size_cell) rfl ⟨⟨g, c, h, d, rfl, Q3.out.rd.keep (setRow_heap_ne _ _ _ _ (by omega)) (setRow_heap_ne _ _ _ _ (by omega)), Or.inl ⟨rfl, rfl⟩⟩, below_put (by omega) _ Q3.out.low⟩
/- The reference of layer 8, walked: two, where it is refused; Foggy, Fine. -/
set_option maxHeartbeats 1000000 in
theorem two_q (L Y : Nat) (mode : Int) (done slc tlc : Nat) (ps : List ByteArray) (hs : List Bool) (g c h d : Nat) (line : Int) (p q r : ByteArray) (f : Bool) (x k a b : Int) (w : World) (hw : WfSt ⟨L, Y, mode, done, false, false, slc, tlc, ps, hs⟩) (hr : RAt w ⟨L, Y, mode, done, false, false, slc, tlc, ps, hs⟩ g c h d) (hm : mode ≠ 1) (he : stC L done = 0) (hl : line = stL L done) (hf : f = stF L done) (ht7 : takesB ⟨L, Y, mode, done, false, false, slc, tlc, ps, hs⟩ p = true) (ht8 : takesB ⟨L, Y, mode, done, false, false, slc, tlc, ps, hs⟩ q = false) :
  Calls Tryz.prog 92 #[.agg (cv ⟨L, Y, mode, done, false, false, slc, tlc, ps, hs⟩ g c h d), .int .i64 line, .agg (tv3 p q r), .bool f, .agg (fv x k a b)] w (PairT ⟨L, Y, mode, done, false, false, slc, tlc, ps, hs⟩ 80 g h w) := by
 have HWF := Lib.hid hw
 have HR := Lib.hid hr
 clear hw hr
 obtain ⟨sl, hsl⟩ : ∃ sl, stL L done = sl := ⟨_, rfl⟩
 obtain ⟨sf, hsf⟩ : ∃ sf, stF L done = sf := ⟨_, rfl⟩
 obtain ⟨sc, hsc⟩ : ∃ sc, stC L done = sc := ⟨_, rfl⟩
 have HL := Lib.hid hsl
 have HF := Lib.hid hsf
 have HC := Lib.hid hsc
 have hmb : ((mode : Int) == 1) = false := by simpa using hm
 obtain rfl : sc = 0 := by rw [← hsc]; exact he
 obtain rfl : sl = line := by rw [← hsl]; exact hl.symm
 obtain rfl : sf = f := by rw [← hsf]; exact hf.symm
 have HT7 : Hid (takesB ⟨L, Y, mode, done, false, false, slc, tlc, ps, hs⟩ p = true) := ht7
 have HT8 : Hid (takesB ⟨L, Y, mode, done, false, false, slc, tlc, ps, hs⟩ q = false) := ht8
 clear hsl hsf hsc hm he hl hf ht7 ht8
 go_enter Tryz.func92, Tryz.ntmps92
 unfold cv fv tv3
 go_wp2_with fail
 refine (ror_at L done _).mono ?_
 rintro e w2 ⟨rfl, hb2⟩
 rw [HL.out, HF.out, HC.out, show sv sl sf = #[.int .i64 sl, .bool sf] from rfl]
 have hq0 : CW8 w ⟨L, Y, mode, done, false, false, slc, tlc, ps, hs⟩ g c h d p q r x k a b (w2.alloc (.cells #[.int .i64 sl, .bool sf] 131)) :=
  CW8.call ⟨(blk_4a w _ _ _ _ _).after hb2, (blk_4b w _ _ _ _ _).after hb2, (blk_4c w _ _ _ _ _).after hb2, (blk_4d w _ _ _ _ _).after hb2, HR.out.after HWF.out ((below_4 w _ _ _ _).trans (hb2.mono (below_4 w _ _ _ _).size)), (below_4 w _ _ _ _).trans (hb2.mono (below_4 w _ _ _ _).size), by have := hb2.size; simp at this; omega⟩ HWF.out ((Below.refl _ _).alloc (Nat.le_refl _) _)
 have c4 : (w2.alloc (.cells #[.int .i64 sl, .bool sf] 131)).cell? ⟨w.heap.size, 4, none⟩ = some (.bool false) := hq0.cell.cell 4
 have c5 : (w2.alloc (.cells #[.int .i64 sl, .bool sf] 131)).cell? ⟨w.heap.size, 5, none⟩ = some (.bool false) := hq0.cell.cell 5
 have c2 : (w2.alloc (.cells #[.int .i64 sl, .bool sf] 131)).cell? ⟨w.heap.size, 2, none⟩ = some (.int .i64 mode) := hq0.cell.cell 2
 have c0 : (w2.alloc (.cells #[.int .i64 sl, .bool sf] 131)).cell? ⟨w.heap.size + 1, 0, none⟩ = some (.string p) := hq0.pgs.cell 0
 have Q0 := Lib.hid hq0
 clear hq0 hb2
 go_wp2_with (first
  | (refine wpList_load_row_if (by kernel_rfl) 66 (.tmp 5) rfl w.heap.size rfl 66 (cv ⟨L, Y, mode, done, false, false, slc, tlc, ps, hs⟩ g c h d) (0, 0) _ Q0.out.cell Tryz.underlying66 rfl size_cell ?_))
 refine (rce_takes ⟨L, Y, mode, done, false, false, slc, tlc, ps, hs⟩ g c h d p _ HWF.out).mono ?_
 rintro e w3 ⟨rfl, hb3⟩
 rw [HT7.out]
 have Q3 := Lib.hid (Q0.out.call HWF.out hb3)
 have e1 : w3.cell? ⟨w.heap.size + 1, 1, none⟩ = some (.string q) := Q3.out.pgs.cell 1
 clear hb3 Q0 c0 c2 c4 c5
 go_wp2_with (first
  | (refine wpList_load_row_if (by kernel_rfl) 66 (.tmp 5) rfl w.heap.size rfl 66 (cv ⟨L, Y, mode, done, false, false, slc, tlc, ps, hs⟩ g c h d) (0, 0) _ Q3.out.cell Tryz.underlying66 rfl size_cell ?_))
 refine (rce_takes ⟨L, Y, mode, done, false, false, slc, tlc, ps, hs⟩ g c h d q _ HWF.out).mono ?_
 rintro e w4 ⟨rfl, hb4⟩
 rw [HT8.out]
 have Q4 := Lib.hid (Q3.out.call HWF.out hb4)
 have e2 : w4.cell? ⟨w.heap.size + 1, 2, none⟩ = some (.string r) := Q4.out.pgs.cell 2
 clear hb4 Q3 e1
 go_wp2_with (first
  | (refine wpList_load_row rfl 66 (.tmp 5) rfl w.heap.size rfl 66 (cv ⟨L, Y, mode, done, false, false, slc, tlc, ps, hs⟩ g c h d) (0, 0) _ Q4.out.cell Tryz.underlying66 rfl size_cell ?_)
  | (refine wpList_store_row rfl 66 (.tmp 10) (.tmp 72) rfl (w.heap.size + 3) (cv ⟨L, Y, mode, done, false, false, slc, tlc, ps, hs⟩ g c h d) rfl rfl 66 zv Q4.out.ans size_cell rfl (cv_one _ _ _ _ _) ?_))
 have hlt := HR.out.lt HWF.out
 exact bodyPost_ret (results_cell_tmp rfl _ _ (w.heap.size + 3) 66 (cv ⟨L, Y, mode, done, false, false, slc, tlc, ps, hs⟩ g c h d) _ rfl (Q4.out.ans.put _) Tryz.underlying66 rfl size_cell) rfl ⟨⟨g, c, h, d, rfl, Q4.out.rd.keep (setRow_heap_ne _ _ _ _ (by omega)) (setRow_heap_ne _ _ _ _ (by omega)), Or.inl ⟨rfl, rfl⟩⟩, below_put (by omega) _ Q4.out.low⟩
set_option maxHeartbeats 1000000 in
theorem two_r (L Y : Nat) (mode : Int) (done slc tlc : Nat) (ps : List ByteArray) (hs : List Bool) (g c h d : Nat) (line : Int) (p q r : ByteArray) (f : Bool) (x k a b : Int) (w : World) (hw : WfSt ⟨L, Y, mode, done, false, false, slc, tlc, ps, hs⟩) (hr : RAt w ⟨L, Y, mode, done, false, false, slc, tlc, ps, hs⟩ g c h d) (hm : mode ≠ 1) (he : stC L done = 0) (hl : line = stL L done) (hf : f = stF L done) (ht7 : takesB ⟨L, Y, mode, done, false, false, slc, tlc, ps, hs⟩ p = true) (ht8 : takesB ⟨L, Y, mode, done, false, false, slc, tlc, ps, hs⟩ q = true) (ht9 : takesB ⟨L, Y, mode, done, false, false, slc, tlc, ps, hs⟩ r = false) :
  Calls Tryz.prog 92 #[.agg (cv ⟨L, Y, mode, done, false, false, slc, tlc, ps, hs⟩ g c h d), .int .i64 line, .agg (tv3 p q r), .bool f, .agg (fv x k a b)] w (PairT ⟨L, Y, mode, done, false, false, slc, tlc, ps, hs⟩ 80 g h w) := by
 have HWF := Lib.hid hw
 have HR := Lib.hid hr
 clear hw hr
 obtain ⟨sl, hsl⟩ : ∃ sl, stL L done = sl := ⟨_, rfl⟩
 obtain ⟨sf, hsf⟩ : ∃ sf, stF L done = sf := ⟨_, rfl⟩
 obtain ⟨sc, hsc⟩ : ∃ sc, stC L done = sc := ⟨_, rfl⟩
 have HL := Lib.hid hsl
 have HF := Lib.hid hsf
 have HC := Lib.hid hsc
 have hmb : ((mode : Int) == 1) = false := by simpa using hm
 obtain rfl : sc = 0 := by rw [← hsc]; exact he
 obtain rfl : sl = line := by rw [← hsl]; exact hl.symm
 obtain rfl : sf = f := by rw [← hsf]; exact hf.symm
 have HT7 : Hid (takesB ⟨L, Y, mode, done, false, false, slc, tlc, ps, hs⟩ p = true) := ht7
 have HT8 : Hid (takesB ⟨L, Y, mode, done, false, false, slc, tlc, ps, hs⟩ q = true) := ht8
 have HT9 : Hid (takesB ⟨L, Y, mode, done, false, false, slc, tlc, ps, hs⟩ r = false) := ht9
 clear hsl hsf hsc hm he hl hf ht7 ht8 ht9
 go_enter Tryz.func92, Tryz.ntmps92
 unfold cv fv tv3
 go_wp2_with fail
 refine (ror_at L done _).mono ?_
 rintro e w2 ⟨rfl, hb2⟩
 rw [HL.out, HF.out, HC.out, show sv sl sf = #[.int .i64 sl, .bool sf] from rfl]
 have hq0 : CW8 w ⟨L, Y, mode, done, false, false, slc, tlc, ps, hs⟩ g c h d p q r x k a b (w2.alloc (.cells #[.int .i64 sl, .bool sf] 131)) :=
  CW8.call ⟨(blk_4a w _ _ _ _ _).after hb2, (blk_4b w _ _ _ _ _).after hb2, (blk_4c w _ _ _ _ _).after hb2, (blk_4d w _ _ _ _ _).after hb2, HR.out.after HWF.out ((below_4 w _ _ _ _).trans (hb2.mono (below_4 w _ _ _ _).size)), (below_4 w _ _ _ _).trans (hb2.mono (below_4 w _ _ _ _).size), by have := hb2.size; simp at this; omega⟩ HWF.out ((Below.refl _ _).alloc (Nat.le_refl _) _)
 have c4 : (w2.alloc (.cells #[.int .i64 sl, .bool sf] 131)).cell? ⟨w.heap.size, 4, none⟩ = some (.bool false) := hq0.cell.cell 4
 have c5 : (w2.alloc (.cells #[.int .i64 sl, .bool sf] 131)).cell? ⟨w.heap.size, 5, none⟩ = some (.bool false) := hq0.cell.cell 5
 have c2 : (w2.alloc (.cells #[.int .i64 sl, .bool sf] 131)).cell? ⟨w.heap.size, 2, none⟩ = some (.int .i64 mode) := hq0.cell.cell 2
 have c0 : (w2.alloc (.cells #[.int .i64 sl, .bool sf] 131)).cell? ⟨w.heap.size + 1, 0, none⟩ = some (.string p) := hq0.pgs.cell 0
 have Q0 := Lib.hid hq0
 clear hq0 hb2
 go_wp2_with (first
  | (refine wpList_load_row_if (by kernel_rfl) 66 (.tmp 5) rfl w.heap.size rfl 66 (cv ⟨L, Y, mode, done, false, false, slc, tlc, ps, hs⟩ g c h d) (0, 0) _ Q0.out.cell Tryz.underlying66 rfl size_cell ?_))
 refine (rce_takes ⟨L, Y, mode, done, false, false, slc, tlc, ps, hs⟩ g c h d p _ HWF.out).mono ?_
 rintro e w3 ⟨rfl, hb3⟩
 rw [HT7.out]
 have Q3 := Lib.hid (Q0.out.call HWF.out hb3)
 have e1 : w3.cell? ⟨w.heap.size + 1, 1, none⟩ = some (.string q) := Q3.out.pgs.cell 1
 clear hb3 Q0 c0 c2 c4 c5
 go_wp2_with (first
  | (refine wpList_load_row_if (by kernel_rfl) 66 (.tmp 5) rfl w.heap.size rfl 66 (cv ⟨L, Y, mode, done, false, false, slc, tlc, ps, hs⟩ g c h d) (0, 0) _ Q3.out.cell Tryz.underlying66 rfl size_cell ?_))
 refine (rce_takes ⟨L, Y, mode, done, false, false, slc, tlc, ps, hs⟩ g c h d q _ HWF.out).mono ?_
 rintro e w4 ⟨rfl, hb4⟩
 rw [HT8.out]
 have Q4 := Lib.hid (Q3.out.call HWF.out hb4)
 have e2 : w4.cell? ⟨w.heap.size + 1, 2, none⟩ = some (.string r) := Q4.out.pgs.cell 2
 clear hb4 Q3 e1
 go_wp2_with (first
  | (refine wpList_load_row_if (by kernel_rfl) 66 (.tmp 5) rfl w.heap.size rfl 66 (cv ⟨L, Y, mode, done, false, false, slc, tlc, ps, hs⟩ g c h d) (0, 0) _ Q4.out.cell Tryz.underlying66 rfl size_cell ?_))
 refine (rce_takes ⟨L, Y, mode, done, false, false, slc, tlc, ps, hs⟩ g c h d r _ HWF.out).mono ?_
 rintro e w5 ⟨rfl, hb5⟩
 rw [HT9.out]
 have Q5 := Lib.hid (Q4.out.call HWF.out hb5)
 clear hb5 Q4 e2
 go_wp2_with (first
  | (refine wpList_load_row rfl 66 (.tmp 5) rfl w.heap.size rfl 66 (cv ⟨L, Y, mode, done, false, false, slc, tlc, ps, hs⟩ g c h d) (0, 0) _ Q5.out.cell Tryz.underlying66 rfl size_cell ?_)
  | (refine wpList_store_row rfl 66 (.tmp 10) (.tmp 72) rfl (w.heap.size + 3) (cv ⟨L, Y, mode, done, false, false, slc, tlc, ps, hs⟩ g c h d) rfl rfl 66 zv Q5.out.ans size_cell rfl (cv_one _ _ _ _ _) ?_))
 have hlt := HR.out.lt HWF.out
 exact bodyPost_ret (results_cell_tmp rfl _ _ (w.heap.size + 3) 66 (cv ⟨L, Y, mode, done, false, false, slc, tlc, ps, hs⟩ g c h d) _ rfl (Q5.out.ans.put _) Tryz.underlying66 rfl size_cell) rfl ⟨⟨g, c, h, d, rfl, Q5.out.rd.keep (setRow_heap_ne _ _ _ _ (by omega)) (setRow_heap_ne _ _ _ _ (by omega)), Or.inl ⟨rfl, rfl⟩⟩, below_put (by omega) _ Q5.out.low⟩
theorem text_ne {a b : ByteArray} (h : a ≠ b) : (a.toList == b.toList) = false := by
 rw [← Bool.not_eq_true]
 intro hc
 apply h
 rw [beq_iff_eq, ByteArray.toList_eq, ByteArray.toList_eq] at hc
 exact bytes_eq hc
set_option maxHeartbeats 1000000 in
theorem two_loop (L Y : Nat) (mode : Int) (done slc tlc : Nat) (ps : List ByteArray) (hs : List Bool) (g c h d : Nat) (line : Int) (p q r : ByteArray) (f : Bool) (x k a b : Int) (w : World) (hw : WfSt ⟨L, Y, mode, done, false, false, slc, tlc, ps, hs⟩) (hr : RAt w ⟨L, Y, mode, done, false, false, slc, tlc, ps, hs⟩ g c h d) (i : Nat) (hi : line = i) (hil : i < L) (hl64 : L ≤ 64) (hm : mode ≠ 1) (he : stC L done = 0) (hl : line = stL L done) (hf : f = true) (hf2 : stF L done = true) (ht7 : takesB ⟨L, Y, mode, done, false, false, slc, tlc, ps, hs⟩ p = true) (ht8 : takesB ⟨L, Y, mode, done, false, false, slc, tlc, ps, hs⟩ q = true) (ht9 : takesB ⟨L, Y, mode, done, false, false, slc, tlc, ps, hs⟩ r = true) (m : Nat) (hm3 : m < 3) (heq : ∀ n, n < m → pageAt ⟨L, Y, mode, done, false, false, slc, tlc, ps, hs⟩ (3 * i + n) = pgN p q r n) (hne : pageAt ⟨L, Y, mode, done, false, false, slc, tlc, ps, hs⟩ (3 * i + m) ≠ pgN p q r m) :
  Calls Tryz.prog 92 #[.agg (cv ⟨L, Y, mode, done, false, false, slc, tlc, ps, hs⟩ g c h d), .int .i64 line, .agg (tv3 p q r), .bool f, .agg (fv x k a b)] w (PairT ⟨L, Y, mode, done, false, false, slc, tlc, ps, hs⟩ 80 g h w) := by
 have HWF := Lib.hid hw
 have HR := Lib.hid hr
 clear hw hr
 obtain ⟨sl, hsl⟩ : ∃ sl, stL L done = sl := ⟨_, rfl⟩
 obtain ⟨sf, hsf⟩ : ∃ sf, stF L done = sf := ⟨_, rfl⟩
 obtain ⟨sc, hsc⟩ : ∃ sc, stC L done = sc := ⟨_, rfl⟩
 have HL := Lib.hid hsl
 have HF := Lib.hid hsf
 have HC := Lib.hid hsc
 have hmb : ((mode : Int) == 1) = false := by simpa using hm
 subst hf
 subst hi
 obtain rfl : sc = 0 := by rw [← hsc]; exact he
 obtain rfl : sl = (i : Nat) := by rw [← hsl]; exact hl.symm
 obtain rfl : sf = true := by rw [← hsf]; exact hf2
 have HT7 : Hid (takesB ⟨L, Y, mode, done, false, false, slc, tlc, ps, hs⟩ p = true) := ht7
 have HT8 : Hid (takesB ⟨L, Y, mode, done, false, false, slc, tlc, ps, hs⟩ q = true) := ht8
 have HT9 : Hid (takesB ⟨L, Y, mode, done, false, false, slc, tlc, ps, hs⟩ r = true) := ht9
 have HEQ := Lib.hid heq
 have HNE := Lib.hid hne
 clear hsl hsf hsc hm he hl hf2 ht7 ht8 ht9 heq hne
 go_enter Tryz.func92, Tryz.ntmps92
 unfold cv fv tv3
 go_wp2_with fail
 refine (ror_at L done _).mono ?_
 rintro e w2 ⟨rfl, hb2⟩
 rw [HL.out, HF.out, HC.out, show sv _ _ = #[.int .i64 (i : Nat), .bool true] from rfl]
 have hq0 : CW8 w ⟨L, Y, mode, done, false, false, slc, tlc, ps, hs⟩ g c h d p q r x k a b (w2.alloc (.cells #[.int .i64 (i : Nat), .bool true] 131)) :=
  CW8.call ⟨(blk_4a w _ _ _ _ _).after hb2, (blk_4b w _ _ _ _ _).after hb2, (blk_4c w _ _ _ _ _).after hb2, (blk_4d w _ _ _ _ _).after hb2, HR.out.after HWF.out ((below_4 w _ _ _ _).trans (hb2.mono (below_4 w _ _ _ _).size)), (below_4 w _ _ _ _).trans (hb2.mono (below_4 w _ _ _ _).size), by have := hb2.size; simp at this; omega⟩ HWF.out ((Below.refl _ _).alloc (Nat.le_refl _) _)
 have c4 : (w2.alloc (.cells #[.int .i64 (i : Nat), .bool true] 131)).cell? ⟨w.heap.size, 4, none⟩ = some (.bool false) := hq0.cell.cell 4
 have c5 : (w2.alloc (.cells #[.int .i64 (i : Nat), .bool true] 131)).cell? ⟨w.heap.size, 5, none⟩ = some (.bool false) := hq0.cell.cell 5
 have c2 : (w2.alloc (.cells #[.int .i64 (i : Nat), .bool true] 131)).cell? ⟨w.heap.size, 2, none⟩ = some (.int .i64 mode) := hq0.cell.cell 2
 have c0 : (w2.alloc (.cells #[.int .i64 (i : Nat), .bool true] 131)).cell? ⟨w.heap.size + 1, 0, none⟩ = some (.string p) := hq0.pgs.cell 0
 have Q0 := Lib.hid hq0
 clear hq0 hb2
 go_wp2_with (first
  | (refine wpList_load_row_if (by kernel_rfl) 66 (.tmp 5) rfl w.heap.size rfl 66 (cv ⟨L, Y, mode, done, false, false, slc, tlc, ps, hs⟩ g c h d) (0, 0) _ Q0.out.cell Tryz.underlying66 rfl size_cell ?_))
 refine (rce_takes ⟨L, Y, mode, done, false, false, slc, tlc, ps, hs⟩ g c h d p _ HWF.out).mono ?_
 rintro e w3 ⟨rfl, hb3⟩
 rw [HT7.out]
 have Q3 := Lib.hid (Q0.out.call HWF.out hb3)
 have e1 : w3.cell? ⟨w.heap.size + 1, 1, none⟩ = some (.string q) := Q3.out.pgs.cell 1
 clear hb3 Q0 c0 c2 c4 c5
 go_wp2_with (first
  | (refine wpList_load_row_if (by kernel_rfl) 66 (.tmp 5) rfl w.heap.size rfl 66 (cv ⟨L, Y, mode, done, false, false, slc, tlc, ps, hs⟩ g c h d) (0, 0) _ Q3.out.cell Tryz.underlying66 rfl size_cell ?_))
 refine (rce_takes ⟨L, Y, mode, done, false, false, slc, tlc, ps, hs⟩ g c h d q _ HWF.out).mono ?_
 rintro e w4 ⟨rfl, hb4⟩
 rw [HT8.out]
 have Q4 := Lib.hid (Q3.out.call HWF.out hb4)
 have e2 : w4.cell? ⟨w.heap.size + 1, 2, none⟩ = some (.string r) := Q4.out.pgs.cell 2
 clear hb4 Q3 e1
 go_wp2_with (first
  | (refine wpList_load_row_if (by kernel_rfl) 66 (.tmp 5) rfl w.heap.size rfl 66 (cv ⟨L, Y, mode, done, false, false, slc, tlc, ps, hs⟩ g c h d) (0, 0) _ Q4.out.cell Tryz.underlying66 rfl size_cell ?_))
 refine (rce_takes ⟨L, Y, mode, done, false, false, slc, tlc, ps, hs⟩ g c h d r _ HWF.out).mono ?_
 rintro e w5 ⟨rfl, hb5⟩
 rw [HT9.out]
 have Q5 := Lib.hid (Q4.out.call HWF.out hb5)
 clear hb5 Q4 e2
 go_wp2_with fail
 go_loopw [14] (fun iv wr => ∃ n : Nat, n ≤ m ∧ iv = .int .i64 n ∧ CW8 w ⟨L, Y, mode, done, false, false, slc, tlc, ps, hs⟩ g c h d p q r x k a b wr) (fun iv _ => 3 - (intOf iv).toNat)
 case atStart => exact ⟨0, by omega, rfl, Q5.out⟩
 case round =>
  obtain ⟨n, hn, rfl, hq⟩ := hrel
  have hc8 : wr.cell? ⟨w.heap.size, 8, none⟩ = some (.slice (some ⟨g, 0, none⟩) (3 * L) c) := hq.cell.cell 8
  have hpg := hq.rd.page HWF.out (3 * i + n) (by simp only; omega)
  have hpn := tv_cell hq.pgs n (by omega)
  have HQ := Lib.hid hq
  clear hq
  have hw1 : IntKind.i64.wrap (3 * (i : Int)) = 3 * (i : Int) := by rw [IntKind.wrap_i64]; omega
  have hw2 : IntKind.i64.wrap (3 * (i : Int) + (n : Int)) = ((3 * i + n : Nat) : Int) := by rw [IntKind.wrap_i64]; omega
  have hb2 : ((3 * i + n : Nat) : Int) < ((3 * L : Nat) : Int) := by omega
  have hn3 : n < 3 := by omega
  by_cases hlt : n < m
  ·rw [HEQ.out n hlt] at hpg
   obtain ⟨pn, hpn2⟩ : ∃ pn, pgN p q r n = pn := ⟨_, rfl⟩
   rw [hpn2] at hpg hpn
   clear hpn2
   go_wp2_with fail
   go_quiet (fail)
   go_wp2_with fail
   go_roundw
   case rel => exact ⟨n + 1, by omega, by go_num, HQ.out.call HWF.out (drewN_below2 _ _ _)⟩
   case measure => simp [intOf]; omega
  ·obtain rfl : n = m := by omega
   have hbe := text_ne HNE.out
   obtain ⟨pn, hpn2⟩ : ∃ pn, pgN p q r n = pn := ⟨_, rfl⟩
   obtain ⟨po, hpo2⟩ : ∃ po, pageAt ⟨L, Y, mode, done, false, false, slc, tlc, ps, hs⟩ (3 * i + n) = po := ⟨_, rfl⟩
   rw [hpn2] at hpn hbe
   rw [hpo2] at hpg hbe
   clear hpn2 hpo2
   have HQ9 : Hid (∀ nq, CW8 w ⟨L, Y, mode, done, false, false, slc, tlc, ps, hs⟩ g c h d p q r x k a b (wr.drewN nq)) := fun nq => HQ.out.call HWF.out (drewN_below2 _ _ _)
   go_wp2_with fail
   go_quiet (fail)
   go_wp2_with (first
    | (refine wpList_load_row rfl 66 (.tmp 5) rfl w.heap.size rfl 66 (cv ⟨L, Y, mode, done, false, false, slc, tlc, ps, hs⟩ g c h d) (0, 0) _ (HQ9.out _).cell Tryz.underlying66 rfl size_cell ?_)
    | (refine wpList_store_row rfl 66 (.tmp 10) (.tmp 92) rfl (w.heap.size + 3) (cv ⟨L, Y, mode, done, false, false, slc, tlc, ps, hs⟩ g c h d) rfl rfl 66 zv (HQ9.out _).ans size_cell rfl (cv_one _ _ _ _ _) ?_))
   have hlt := HR.out.lt HWF.out
   exact bodyPost_ret (results_cell_tmp rfl _ _ (w.heap.size + 3) 66 (cv ⟨L, Y, mode, done, false, false, slc, tlc, ps, hs⟩ g c h d) _ rfl ((HQ9.out _).ans.put _) Tryz.underlying66 rfl size_cell) rfl ⟨⟨g, c, h, d, rfl, (HQ9.out _).rd.keep (setRow_heap_ne _ _ _ _ (by omega)) (setRow_heap_ne _ _ _ _ (by omega)), Or.inl ⟨rfl, rfl⟩⟩, below_put (by omega) _ (HQ9.out _).low⟩
end Go.Proofs.YtalefbmoebobkaaGreatDoor
