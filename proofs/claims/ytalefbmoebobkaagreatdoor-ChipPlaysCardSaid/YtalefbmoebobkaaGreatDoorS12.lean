/- Texts of one claim, merged: ChR4, ChR5, ChR6, ChL9, ChR7. -/
import Derived.Test.YtalefbmoebobkaaGreatDoorS11
import Derived.Test.YtalefbmoebobkaaGreatDoorS2
import Derived.Test.YtalefbmoebobkaaGreatDoorS10
import Derived.Test.YtalefbmoebobkaaGreatDoorS9
import Derived.Test.YtalefbmoebobkaaGreatDoorS5
/- The reference of layer 10, walked: Read. -/
namespace Go.Proofs.YtalefbmoebobkaaGreatDoor
set_option maxRecDepth 100000
open Go.RowKit
def RdP (c : ChS) (of : Option Addr) (m : Nat) (t : ByteArray) (e0 : Int) (oc0 : Option Addr) (l0 : List RC) (w : World) (e : Ending) (w' : World) : Prop :=
 (∃ oc k l, e = .returned (.tuple #[.agg (chv c oc k of m), .string t, .int .i64 e0]) ∧ RCh w' c oc of l ∧ ∀ q, Foot oc l q → Foot oc0 l0 q ∨ w.heap.size ≤ q) ∧ Below w.heap.size w w'
theorem results_cell_tmp2Q {P : Program} {fn : Func} {p q r : Tmp} {ty : TypeId} (h : fn.results = #[.cell p ty, .tmp q, .tmp r]) (tmps : Array Value) (w : World) (g : Nat) (t : TypeId) (cs : Array Value) (d : TypeDesc)
  (hp : tmps.getD p undef = .pointer (some ⟨g, 0, none⟩)) (hg : Blk w g cs t)
  (hu : P.underlying ty = some d) (hd : (match d with | .struct _ | .array _ _ => true | _ => false) = true) (hi : (P.info? ty).map (·.size) = some cs.size) :
  (results fn tmps).run P w = .ok (.tuple #[.agg cs, tmps.getD q undef, tmps.getD r undef]) w := by
 have hp' : tmps[p]?.getD undef = .pointer (some ⟨g, 0, none⟩) := by simpa using hp
 simp [results, h, hp', asAddr, run_loadVar_row w g t ty cs (0, 0) d hg hu hd hi]
theorem RCh.of {w : World} {c c2 : ChS} {oc of : Option Addr} {l : List RC} (h : RCh w c oc of l) (h1 : c2.cs = c.cs) (h2 : c2.fs = c.fs) : RCh w c2 oc of l := ⟨h.same.trans h1.symm, h.row, h.all, by rw [h2]; exact h.fs⟩
def vsRD (bA b3 B off nl k i : Nat) (y : RC) (ln pt : Int) (tq : ByteArray) (e0 : Int) : List (Option (Tmp × Value)) :=
 [some (45, .pointer (some ⟨bA, 6, none⟩)), some (46, .slice (some ⟨B, off, none⟩) nl k), some (47, .pointer (some ⟨b3, 0, none⟩)), some (48, .int .i64 (i : Int)), some (49, .pointer (some ⟨B, off + i * 10, none⟩)), some (50, .agg #[.int .i64 (y.s.L : Nat), .int .i64 (y.s.Y : Nat), .int .i64 y.s.mode, .int .i64 (y.s.done : Nat), .bool y.s.bad, .bool y.s.torn, .int .i64 (y.s.slc : Nat), .int .i64 (y.s.tlc : Nat), .slice (some ⟨y.g, 0, none⟩) (3 * y.s.L) y.c, .slice (some ⟨y.h, 0, none⟩) (3 * y.s.L) y.d]), some (51, .pointer (some ⟨b3, 1, none⟩)), some (52, .int .i64 ln), some (53, .pointer (some ⟨b3, 2, none⟩)), some (54, .int .i64 pt), some (55, .tuple #[.string tq, .int .i64 e0]), some (44, .tuple #[.string tq, .int .i64 e0]), some (56, .string tq), some (57, .int .i64 e0), some (11, .string tq), some (12, .int .i64 e0)]
def BaseRD (bA b3 bZ b7 : Nat) (a : Act) : Prop := ∃ u : Nat → Value, a = ⟨#[u 0, u 1, .pointer (some ⟨bA, 0, none⟩), .pointer (some ⟨b3, 0, none⟩), .pointer (some ⟨bZ, 0, none⟩), .string ByteArray.empty, .int .i64 0, .pointer (some ⟨b7, 0, none⟩), u 8, u 9, u 10, u 11, u 12, u 13, u 14, u 15, u 16, u 17, u 18, u 19, u 20, u 21, u 22, u 23, u 24, u 25, u 26, u 27, u 28, u 29, u 30, u 31, u 32, u 33, u 34, u 35, u 36, u 37, u 38, u 39, u 40, u 41, u 42, u 43, u 44, u 45, u 46, u 47, u 48, u 49, u 50, u 51, u 52, u 53, u 54, u 55, u 56, u 57, u 58, u 59, u 60, u 61, u 62, u 63, u 64, u 65, u 66, u 67, u 68, u 69, u 70, u 71, u 72, u 73, u 74, u 75, u 76, u 77, u 78, u 79, u 80, u 81, u 82, u 83, u 84, u 85, u 86, u 87, u 88, u 89, u 90, u 91, u 92, u 93, u 94], []⟩
set_option maxHeartbeats 8000000 in
theorem rch_read (c : ChS) (oc of : Option Addr) (k m : Nat) (l : List RC) (n : Nat) (hn : n ≤ 100000000) (hwf : WfCh n c) (b ln pt : Int) (w : World) (h : RCh w c oc of l) :
  Calls Tryz.prog 8 #[.agg (chv c oc k of m), .agg #[.int .i64 b, .int .i64 ln, .int .i64 pt]] w (RdP (rdSt c b ln pt) of m (rdT c b ln pt) (rdC c b ln pt) oc l w) := by
 obtain ⟨W, hW⟩ : ∃ W, ((w.alloc (.cells (chv c oc k of m) 32)).alloc (.cells #[.int .i64 b, .int .i64 ln, .int .i64 pt] 37)).alloc (.cells #[.int .i64 0, .int .i64 0, .int .i64 0, .int .i64 0, .int .i64 0, .int .i64 0, .slice none 0 0, .slice none 0 0, .int .i64 0, .int .i64 0, .int .i64 0, .bool false, .bool false, .int .i64 0, .int .i64 0] 32) = W := ⟨_, rfl⟩
 have hs2 : W.heap.size = w.heap.size + 3 := by rw [← hW, World.size_alloc, World.size_alloc, World.size_alloc]
 have hcb : Blk (((w.alloc (.cells (chv c oc k of m) 32)).alloc (.cells #[.int .i64 b, .int .i64 ln, .int .i64 pt] 37)).alloc (.cells #[.int .i64 0, .int .i64 0, .int .i64 0, .int .i64 0, .int .i64 0, .int .i64 0, .slice none 0 0, .slice none 0 0, .int .i64 0, .int .i64 0, .int .i64 0, .bool false, .bool false, .int .i64 0, .int .i64 0] 32)) w.heap.size (chv c oc k of m) 32 := ((Blk.new w _ _).alloc _).alloc _
 have hpb : Blk W (w.heap.size + 1) #[.int .i64 b, .int .i64 ln, .int .i64 pt] 37 := by rw [← hW]; exact (blk_snd2 w _ _ _).alloc _
 have hzb : Blk (((w.alloc (.cells (chv c oc k of m) 32)).alloc (.cells #[.int .i64 b, .int .i64 ln, .int .i64 pt] 37)).alloc (.cells #[.int .i64 0, .int .i64 0, .int .i64 0, .int .i64 0, .int .i64 0, .int .i64 0, .slice none 0 0, .slice none 0 0, .int .i64 0, .int .i64 0, .int .i64 0, .bool false, .bool false, .int .i64 0, .int .i64 0] 32)) (w.heap.size + 2) chz 32 := by
  have h := Blk.new ((w.alloc (.cells (chv c oc k of m) 32)).alloc (.cells #[.int .i64 b, .int .i64 ln, .int .i64 pt] 37)) #[.int .i64 0, .int .i64 0, .int .i64 0, .int .i64 0, .int .i64 0, .int .i64 0, .slice none 0 0, .slice none 0 0, .int .i64 0, .int .i64 0, .int .i64 0, .bool false, .bool false, .int .i64 0, .int .i64 0] 32
  rwa [World.size_alloc, World.size_alloc] at h
 have hbw : Below w.heap.size w W := by rw [← hW]; exact (below_two w _ _).alloc (by simp; omega) _
 have c11 : (((w.alloc (.cells (chv c oc k of m) 32)).alloc (.cells #[.int .i64 b, .int .i64 ln, .int .i64 pt] 37)).alloc (.cells #[.int .i64 0, .int .i64 0, .int .i64 0, .int .i64 0, .int .i64 0, .int .i64 0, .slice none 0 0, .slice none 0 0, .int .i64 0, .int .i64 0, .int .i64 0, .bool false, .bool false, .int .i64 0, .int .i64 0] 32)).cell? ⟨w.heap.size, 11, none⟩ = some (.bool c.off) := hcb.cell 11
 have c7 : (((w.alloc (.cells (chv c oc k of m) 32)).alloc (.cells #[.int .i64 b, .int .i64 ln, .int .i64 pt] 37)).alloc (.cells #[.int .i64 0, .int .i64 0, .int .i64 0, .int .i64 0, .int .i64 0, .int .i64 0, .slice none 0 0, .slice none 0 0, .int .i64 0, .int .i64 0, .int .i64 0, .bool false, .bool false, .int .i64 0, .int .i64 0] 32)).cell? ⟨w.heap.size, 7, none⟩ = some (.slice of c.fs.length m) := hcb.cell 7
 have c8 : (((w.alloc (.cells (chv c oc k of m) 32)).alloc (.cells #[.int .i64 b, .int .i64 ln, .int .i64 pt] 37)).alloc (.cells #[.int .i64 0, .int .i64 0, .int .i64 0, .int .i64 0, .int .i64 0, .int .i64 0, .slice none 0 0, .slice none 0 0, .int .i64 0, .int .i64 0, .int .i64 0, .bool false, .bool false, .int .i64 0, .int .i64 0] 32)).cell? ⟨w.heap.size, 8, none⟩ = some (.int .i64 c.ops) := hcb.cell 8
 have HC := Lib.hid hcb
 have HP := Lib.hid hpb
 have HZ := Lib.hid hzb
 have HBW := Lib.hid hbw
 have HW := Lib.hid hW
 have HS := Lib.hid hs2
 have H := Lib.hid h
 have HWF := Lib.hid hwf
 have HNN := Lib.hid hn
 clear hcb hpb hzb hbw hW hs2 h hwf hn
 by_cases hoff : c.off = true
 ·rw [hoff] at c11
  have HD : Hid (rdSt c b ln pt = c ∧ rdC c b ln pt = 82 ∧ rdT c b ln pt = ByteArray.empty) := by
   have h0 : ¬ (ReadsCh c b ln pt ∧ ¬ (howF c 1).2.1 = 1) := fun hh => by have h1 := hh.1.1; rw [hoff] at h1; cases h1
   exact ⟨by unfold rdSt; rw [if_pos hoff], by unfold rdC; rw [if_pos hoff], by unfold rdT; rw [if_neg h0]⟩
  clear hoff
  go_enter Tryz.func8, Tryz.ntmps8
  go_wp2_with (first
   | (refine wpList_load_row rfl 32 (.tmp 2) rfl w.heap.size rfl 32 (chv c oc k of m) (0, 0) _ HC.out Tryz.underlying32 rfl size_chip ?_)
   | (refine wpList_store_row rfl 32 (.tmp 4) (.tmp 19) rfl (w.heap.size + 2) (chv c oc k of m) rfl rfl 32 chz HZ.out size_chip rfl (chv_one _ _ _ _ _) ?_))
  have HBL : Hid (Below w.heap.size w (((w.alloc (.cells (chv c oc k of m) 32)).alloc (.cells #[.int .i64 b, .int .i64 ln, .int .i64 pt] 37)).alloc (.cells #[.int .i64 0, .int .i64 0, .int .i64 0, .int .i64 0, .int .i64 0, .int .i64 0, .slice none 0 0, .slice none 0 0, .int .i64 0, .int .i64 0, .int .i64 0, .bool false, .bool false, .int .i64 0, .int .i64 0] 32))) := by rw [HW.out]; exact HBW.out
  refine bodyPost_ret (results_cell_tmp2Q rfl _ _ (w.heap.size + 2) 32 _ _ rfl (HZ.out.put _) Tryz.underlying32 rfl size_chip) rfl ?_
  rw [HD.out.1, HD.out.2.1, HD.out.2.2]
  refine ⟨⟨oc, k, l, rfl, ?_, fun _ h => Or.inl h⟩, ?_⟩
  ·exact H.out.after (below_put (by omega) _ HBL.out)
  ·exact below_put (by omega) _ HBL.out
 ·have hoff' : c.off = false := by cases h : c.off <;> simp_all
  rw [hoff'] at c11
  have hmt := rfa_meets of m c.fs HWF.out.fs c.ops 1 W (H.out.after HBW.out).fs
  rw [meetV_how] at hmt
  obtain ⟨mb, hmb⟩ : ∃ mb, (meetF c.fs c.ops 1).isSome = mb := ⟨_, rfl⟩
  rcases hh : howF c 1 with ⟨f1, f2, f3, f4⟩
  rw [hh, hmb] at hmt
  have HMT : Hid (Calls Tryz.prog 35 #[.slice of c.fs.length m, .int .i64 c.ops, .int .i64 1] W fun e w' => e = .returned (.tuple #[.agg #[.int .i64 f1, .int .i64 f2, .int .i64 f3, .int .i64 f4], .bool mb]) ∧ Below W.heap.size W w') := hmt
  have HHV := Lib.hid hh
  have HOF := Lib.hid hoff'
  clear hmt hh hmb hoff hoff'
  have hops : (c.ops : Int) ≤ 100000000 := by have h1 := HWF.out.ops; have h2 := HNN.out; omega
  go_enter Tryz.func8, Tryz.ntmps8
  go_wp2_with fail
  change Calls _ _ _ (((w.alloc (.cells (chv c oc k of m) 32)).alloc (.cells #[.int .i64 b, .int .i64 ln, .int .i64 pt] 37)).alloc (.cells #[.int .i64 0, .int .i64 0, .int .i64 0, .int .i64 0, .int .i64 0, .int .i64 0, .slice none 0 0, .slice none 0 0, .int .i64 0, .int .i64 0, .int .i64 0, .bool false, .bool false, .int .i64 0, .int .i64 0] 32)) _
  rw [HW.out]
  rw [HW.out] at HC HZ
  clear c11 c7 c8 HW
  refine HMT.out.mono ?_
  rintro e w2 ⟨rfl, hb2⟩
  clear HMT
  obtain ⟨w3, hw3⟩ : ∃ w3, w2.alloc (.cells #[.int .i64 f1, .int .i64 f2, .int .i64 f3, .int .i64 f4] 40) = w3 := ⟨_, rfl⟩
  have hb3 : Below W.heap.size W w3 := by rw [← hw3]; exact hb2.alloc hb2.size _
  have hfb : Blk w3 w2.heap.size (fv f1 f2 f3 f4) 40 := by rw [← hw3]; exact Blk.new _ _ _
  have c8 : (w2.alloc (.cells #[.int .i64 f1, .int .i64 f2, .int .i64 f3, .int .i64 f4] 40)).cell? ⟨w.heap.size, 8, none⟩ = some (.int .i64 c.ops) := by rw [hw3, (HC.out.after hb3).cell 8]; rfl
  have r8 : (w2.alloc (.cells #[.int .i64 f1, .int .i64 f2, .int .i64 f3, .int .i64 f4] 40)).frozen? ⟨w.heap.size, 8, none⟩ = false := by rw [hw3]; exact (HC.out.after hb3).free 8
  have HW3 := Lib.hid hw3
  have HB3 := Lib.hid hb3
  have HFB := Lib.hid hfb
  have hwl : W.heap.size ≤ w2.heap.size := hb2.size
  have HWL := Lib.hid hwl
  clear hw3 hb3 hfb hwl hb2
  obtain ⟨w4, hw4⟩ : ∃ w4, (w2.alloc (.cells #[.int .i64 f1, .int .i64 f2, .int .i64 f3, .int .i64 f4] 40)).setCell ⟨w.heap.size, 8, none⟩ (.int .i64 ((c.ops : Int) + 1)) = w4 := ⟨_, rfl⟩
  have h4 : Blk ((w2.alloc (.cells #[.int .i64 f1, .int .i64 f2, .int .i64 f3, .int .i64 f4] 40)).setCell ⟨w.heap.size, 8, none⟩ (.int .i64 ((c.ops : Int) + 1))) w.heap.size (chv (opsCh c) oc k of m) 32 := by
   rw [HW3.out]; exact (HC.out.after HB3.out).set 8 _ rfl
  have hx4 : Blk w4 (w.heap.size + 1) #[.int .i64 b, .int .i64 ln, .int .i64 pt] 37 ∧ Blk w4 (w.heap.size + 2) chz 32 ∧ Blk w4 w2.heap.size (fv f1 f2 f3 f4) 40 := by
   rw [← hw4, HW3.out]
   have h1 := HS.out
   have h2 := HWL.out
   exact ⟨(HP.out.after HB3.out).set_other (by omega) _ _, (HZ.out.after HB3.out).set_other (by omega) _ _, HFB.out.set_other (by omega) _ _⟩
  have hb4 : Below w.heap.size w w4 := by
   rw [← hw4, HW3.out]
   exact (HBW.out.trans (HB3.out.mono HBW.out.size)).setCell (Nat.le_refl _) _
  have c0 : ((w2.alloc (.cells #[.int .i64 f1, .int .i64 f2, .int .i64 f3, .int .i64 f4] 40)).setCell ⟨w.heap.size, 8, none⟩ (.int .i64 ((c.ops : Int) + 1))).cell? ⟨w.heap.size + 1, 0, none⟩ = some (.int .i64 b) := by rw [hw4]; exact hx4.1.cell 0
  have HW4 := Lib.hid hw4
  have HC4 := Lib.hid h4
  have HX4 := Lib.hid hx4
  have HB4 := Lib.hid hb4
  clear h4 hx4 hb4 hw4
  go_wp2_with (refine wpList_load_row rfl 32 (.tmp 2) rfl w.heap.size rfl 32 (chv (opsCh c) oc k of m) (0, 0) _ HC4.out Tryz.underlying32 rfl size_chip ?_)
  rw [HW4.out]
  rw [HW4.out] at HC4
  clear c8 r8 c0 HW4 HW3 HC HP HZ HFB
  refine (rch_has (opsCh c) oc of k m b w4).mono ?_
  rintro e w5 ⟨rfl, hb5⟩
  have HC5 := Lib.hid (HC4.out.after hb5)
  have HP5 := Lib.hid (HX4.out.1.after hb5)
  have HZ5 := Lib.hid (HX4.out.2.1.after hb5)
  have HF5 := Lib.hid (HX4.out.2.2.after hb5)
  have HB5 := Lib.hid (HB4.out.trans (hb5.mono HB4.out.size))
  have HF2 : Hid (W.heap.size ≤ w2.heap.size ∧ W.heap.size = w.heap.size + 3 ∧ w2.heap.size < w5.heap.size) := ⟨HWL.out, HS.out, (HX4.out.2.2.after hb5).lt⟩
  clear HC4 HX4 HB4 hb5
  by_cases hx : chHas (opsCh c) b
  ·rw [decide_eq_true hx]
   have hx' : chHas c b := hx
   obtain ⟨i, hi⟩ : ∃ i : Nat, b = i := ⟨b.toNat, by have h1 := hx.1; omega⟩
   subst hi
   have hil : i < l.length := by rw [H.out.len]; have h1 := hx.2; exact Int.ofNat_lt.1 h1
   have hic : i < c.cs.length := by rw [← H.out.len]; exact hil
   obtain ⟨B, off, hoc, hBl, hrow⟩ := H.out.row (by intro h0; rw [h0] at hil; exact absurd hil (Nat.not_lt_zero _))
   subst hoc
   obtain ⟨y, hy⟩ : ∃ y, l[i] = y := ⟨_, rfl⟩
   have hry := hrow i hil
   rw [hy] at hry
   have hyw := H.out.all y (by rw [← hy]; exact List.getElem_mem hil)
   have hcell : cellOf c (i : Nat) = y.s := by
    unfold cellOf
    rw [Int.toNat_natCast, List.getD_eq_getElem?_getD, ← H.out.same, List.getElem?_map, List.getElem?_eq_getElem hil, hy]; rfl
   obtain ⟨t0, ht0⟩ : ∃ t0, readT y.s ln pt = t0 := ⟨_, rfl⟩
   obtain ⟨e0, he0⟩ : ∃ e0, readC y.s ln pt = e0 := ⟨_, rfl⟩
   have HK6 : Hid (∀ w', Below w5.heap.size w5 w' → w'.cell? ⟨w.heap.size, 6, none⟩ = some (.slice (some ⟨B, off, none⟩) c.cs.length k)) := fun w' hb => (HC5.out.after hb).cell 6
   have HK0 : Hid (∀ w', Below w5.heap.size w5 w' → w'.cell? ⟨w.heap.size + 1, 0, none⟩ = some (.int .i64 (i : Int))) := fun w' hb => (HP5.out.after hb).cell 0
   have HK1 : Hid (∀ w', Below w5.heap.size w5 w' → w'.cell? ⟨w.heap.size + 1, 1, none⟩ = some (.int .i64 ln)) := fun w' hb => (HP5.out.after hb).cell 1
   have HK2 : Hid (∀ w', Below w5.heap.size w5 w' → w'.cell? ⟨w.heap.size + 1, 2, none⟩ = some (.int .i64 pt)) := fun w' hb => (HP5.out.after hb).cell 2
   have HIN : Hid ((i : Int) < (c.cs.length : Int)) := Int.ofNat_lt.2 hic
   have HRD : Hid (∀ w', Below w5.heap.size w5 w' → Calls Tryz.prog 38 #[.agg #[.int .i64 (y.s.L : Nat), .int .i64 (y.s.Y : Nat), .int .i64 y.s.mode, .int .i64 (y.s.done : Nat), .bool y.s.bad, .bool y.s.torn, .int .i64 (y.s.slc : Nat), .int .i64 (y.s.tlc : Nat), .slice (some ⟨y.g, 0, none⟩) (3 * y.s.L) y.c, .slice (some ⟨y.h, 0, none⟩) (3 * y.s.L) y.d], .int .i64 ln, .int .i64 pt] w' fun e w2 => e = .returned (.tuple #[.string t0, .int .i64 e0]) ∧ Below w'.heap.size w' w2) := by
    intro w' hb
    rw [← ht0, ← he0]
    exact rce_read y.s y.g y.c y.h y.d ln pt w' hyw.1 (hyw.2.after hyw.1 (HB5.out.trans (hb.mono HB5.out.size)))
   have HRY : Hid (∀ w', Below w5.heap.size w5 w' → w'.rangeAt B (off + i * 10) [.int .i64 (y.s.L : Nat), .int .i64 (y.s.Y : Nat), .int .i64 y.s.mode, .int .i64 (y.s.done : Nat), .bool y.s.bad, .bool y.s.torn, .int .i64 (y.s.slc : Nat), .int .i64 (y.s.tlc : Nat), .slice (some ⟨y.g, 0, none⟩) (3 * y.s.L) y.c, .slice (some ⟨y.h, 0, none⟩) (3 * y.s.L) y.d]) := fun w' hb j v hj => by
    rw [World.cell?_of_block (w := w) ((HB5.out.trans (hb.mono HB5.out.size)).block B hBl)]; exact hry j v hj
   have HT : Hid (t0.size ≤ 1000) := by
    show t0.size ≤ 1000
    rw [← ht0]
    unfold readT
    split
    ·exact Nat.le_trans (atT_size hyw.1 _) (by decide)
    ·exact Nat.zero_le _
   have HE : Hid ((ReadsCh c (i : Nat) ln pt ∧ e0 = 0 ∧ t0 = atT (cellOf c (i : Nat)) (3 * ln.toNat + pt.toNat)) ∨ (¬ ReadsCh c (i : Nat) ln pt ∧ e0 = 80)) := by
    by_cases hr : ReadOk y.s ln pt
    ·refine Or.inl ⟨⟨HOF.out, hx', by rw [hcell]; exact hr⟩, ?_, ?_⟩
     ·rw [← he0]; unfold readC; rw [if_pos hr]
     ·rw [← ht0, hcell]; unfold readT; rw [if_pos hr]
    ·exact Or.inr ⟨fun hh => hr (by rw [← hcell]; exact hh.2.2), by rw [← he0]; unfold readC; rw [if_neg hr]⟩
   clear hx hx' hil hic hBl hrow hy hry hyw hcell ht0 he0
   obtain ⟨Wr, hWr⟩ : ∃ Wr, w5 = Wr := ⟨_, rfl⟩
   subst hWr
   have hA3 : w.heap.size + 3 ≤ w2.heap.size := by have h1 := HF2.out; omega
   go_wp2_with fail
   rename_i K0 hK0
   refine wp_region_list3 (SV (vsRD w.heap.size (w.heap.size + 1) B off c.cs.length k i y ln pt t0 e0) []) (BaseRD w.heap.size (w.heap.size + 1) (w.heap.size + 1 + 1) w2.heap.size) (fun w' => Below w5.heap.size w5 w') (fun w1 w2 => Below w1.heap.size w1 w2) (RV (vsRD w.heap.size (w.heap.size + 1) B off c.cs.length k i y ln pt t0 e0) (fun _ _ _ => False)) rfl (by kernel_rfl) (RV.ext no_specialF) ?_ ((Below.refl _ _).drew) (fr_of _ (by kernel_rfl)) ?_ ?_
   ·exact ⟨fr_put 45 fun _ _ => by kernel_rfl, fr_put 46 fun _ _ => by kernel_rfl, fr_put 47 fun _ _ => by kernel_rfl, fr_put 48 fun _ _ => by kernel_rfl, fr_put 49 fun _ _ => by kernel_rfl, fr_put 50 fun _ _ => by kernel_rfl, fr_put 51 fun _ _ => by kernel_rfl, fr_put 52 fun _ _ => by kernel_rfl, fr_put 53 fun _ _ => by kernel_rfl, fr_put 54 fun _ _ => by kernel_rfl, fr_put 55 fun _ _ => by kernel_rfl, fr_put 44 fun _ _ => by kernel_rfl, fr_put 56 fun _ _ => by kernel_rfl, fr_put 57 fun _ _ => by kernel_rfl, fr_put 11 fun _ _ => by kernel_rfl, fr_put 12 fun _ _ => by kernel_rfl, trivial⟩
   ·refine ⟨?_, ?_, ?_, ?_, ?_, ?_, ?_, ?_, ?_, ?_, ?_, ?_, ?_, ?_, ?_, ?_, trivial⟩
    all_goals
     intro a w' hC hB hR
     obtain ⟨u, rfl⟩ := hB
     have HC := Lib.hid hC
     clear hC; clear hK0
    ·clear hR; refine if_yes (by kernel_rfl) ?_; unfold Oper.wp; go_simp; exact ⟨.pointer (some ⟨w.heap.size, 6, none⟩), rfl, HC.out, Below.refl _ _, rfl⟩
    ·have h45 : u 45 = .pointer (some ⟨w.heap.size, 6, none⟩) := hR ⟨0, .data⟩ (by simp) rfl
     have hc : w'.cell? ⟨w.heap.size, 6, none⟩ = some (.slice (some ⟨B, off, none⟩) c.cs.length k) := HK6.out w' HC.out
     clear hR; simp only [h45]; refine if_yes (by kernel_rfl) ?_; unfold Oper.wp; go_simp
     exact ⟨.slice (some ⟨B, off, none⟩) c.cs.length k, rfl, HC.out, Below.refl _ _, rfl⟩
    ·clear hR; refine if_yes (by kernel_rfl) ?_; unfold Oper.wp; go_simp; exact ⟨.pointer (some ⟨(w.heap.size + 1), 0, none⟩), rfl, HC.out, Below.refl _ _, rfl⟩
    ·have h47 : u 47 = .pointer (some ⟨(w.heap.size + 1), 0, none⟩) := hR ⟨2, .data⟩ (by simp) rfl
     have hc : w'.cell? ⟨(w.heap.size + 1), 0, none⟩ = some (.int .i64 (i : Int)) := HK0.out w' HC.out
     clear hR; simp only [h47]; refine if_yes (by kernel_rfl) ?_; unfold Oper.wp; go_simp; exact ⟨.int .i64 (i : Int), rfl, HC.out, Below.refl _ _, rfl⟩
    ·have h46 : u 46 = .slice (some ⟨B, off, none⟩) c.cs.length k := hR ⟨1, .data⟩ (by simp) rfl; have h48 : u 48 = .int .i64 (i : Int) := hR ⟨3, .data⟩ (by simp) rfl
     have hin := HIN.out
     clear hR; simp only [h46, h48]; refine if_yes (by kernel_rfl) ?_; unfold Oper.wp; go_simp; exact ⟨.pointer (some ⟨B, off + i * 10, none⟩), rfl, HC.out, Below.refl _ _, rfl⟩
    ·have h49 : u 49 = .pointer (some ⟨B, off + i * 10, none⟩) := hR ⟨4, .data⟩ (by simp) rfl; clear hR; simp only [h49]; refine if_yes (by kernel_rfl) ?_
     exact wp_load_mid 66 (.tmp 49) rfl B (off + i * 10) rfl [.int .i64 (y.s.L : Nat), .int .i64 (y.s.Y : Nat), .int .i64 y.s.mode, .int .i64 (y.s.done : Nat), .bool y.s.bad, .bool y.s.torn, .int .i64 (y.s.slc : Nat), .int .i64 (y.s.tlc : Nat), .slice (some ⟨y.g, 0, none⟩) (3 * y.s.L) y.c, .slice (some ⟨y.h, 0, none⟩) (3 * y.s.L) y.d] _ (HRY.out _ HC.out) Tryz.underlying66 rfl size_cell ⟨.agg #[.int .i64 (y.s.L : Nat), .int .i64 (y.s.Y : Nat), .int .i64 y.s.mode, .int .i64 (y.s.done : Nat), .bool y.s.bad, .bool y.s.torn, .int .i64 (y.s.slc : Nat), .int .i64 (y.s.tlc : Nat), .slice (some ⟨y.g, 0, none⟩) (3 * y.s.L) y.c, .slice (some ⟨y.h, 0, none⟩) (3 * y.s.L) y.d], rfl, HC.out, Below.refl _ _, rfl⟩
    ·clear hR; refine if_yes (by kernel_rfl) ?_; unfold Oper.wp; go_simp; exact ⟨.pointer (some ⟨(w.heap.size + 1), 1, none⟩), rfl, HC.out, Below.refl _ _, rfl⟩
    ·have h51 : u 51 = .pointer (some ⟨(w.heap.size + 1), 1, none⟩) := hR ⟨6, .data⟩ (by simp) rfl
     have hc : w'.cell? ⟨(w.heap.size + 1), 1, none⟩ = some (.int .i64 ln) := HK1.out w' HC.out
     clear hR; simp only [h51]; refine if_yes (by kernel_rfl) ?_; unfold Oper.wp; go_simp; exact ⟨.int .i64 ln, rfl, HC.out, Below.refl _ _, rfl⟩
    ·clear hR; refine if_yes (by kernel_rfl) ?_; unfold Oper.wp; go_simp; exact ⟨.pointer (some ⟨(w.heap.size + 1), 2, none⟩), rfl, HC.out, Below.refl _ _, rfl⟩
    ·have h53 : u 53 = .pointer (some ⟨(w.heap.size + 1), 2, none⟩) := hR ⟨8, .data⟩ (by simp) rfl
     have hc : w'.cell? ⟨(w.heap.size + 1), 2, none⟩ = some (.int .i64 pt) := HK2.out w' HC.out
     clear hR; simp only [h53]; refine if_yes (by kernel_rfl) ?_; unfold Oper.wp; go_simp; exact ⟨.int .i64 pt, rfl, HC.out, Below.refl _ _, rfl⟩
    ·have h50 : u 50 = .agg #[.int .i64 (y.s.L : Nat), .int .i64 (y.s.Y : Nat), .int .i64 y.s.mode, .int .i64 (y.s.done : Nat), .bool y.s.bad, .bool y.s.torn, .int .i64 (y.s.slc : Nat), .int .i64 (y.s.tlc : Nat), .slice (some ⟨y.g, 0, none⟩) (3 * y.s.L) y.c, .slice (some ⟨y.h, 0, none⟩) (3 * y.s.L) y.d] := hR ⟨5, .data⟩ (by simp) rfl; have h52 : u 52 = .int .i64 ln := hR ⟨7, .data⟩ (by simp) rfl; have h54 : u 54 = .int .i64 pt := hR ⟨9, .data⟩ (by simp) rfl; clear hR; simp only [h50, h52, h54]; refine if_yes (by kernel_rfl) ?_; unfold Oper.wp; go_simp
     refine (HRD.out _ HC.out).mono ?_
     rintro e w2' ⟨rfl, hb2⟩
     exact ⟨.tuple #[.string t0, .int .i64 e0], rfl, HC.out.trans (hb2.mono HC.out.size), hb2, rfl⟩
    ·have h55 : u 55 = .tuple #[.string t0, .int .i64 e0] := hR ⟨10, .data⟩ (by simp) rfl; clear hR; simp only [h55]; refine if_yes (by kernel_rfl) ?_; unfold Oper.wp; go_simp
     exact ⟨.tuple #[.string t0, .int .i64 e0], rfl, HC.out, Below.refl _ _, rfl⟩
    ·have h44 : u 44 = .tuple #[.string t0, .int .i64 e0] := hR ⟨11, .data⟩ (by simp) rfl; clear hR; simp only [h44]; refine if_yes (by kernel_rfl) ?_; unfold Oper.wp; go_simp; exact ⟨.string t0, rfl, HC.out, Below.refl _ _, rfl⟩
    ·have h44 : u 44 = .tuple #[.string t0, .int .i64 e0] := hR ⟨11, .data⟩ (by simp) rfl; clear hR; simp only [h44]; refine if_yes (by kernel_rfl) ?_; unfold Oper.wp; go_simp; exact ⟨.int .i64 e0, rfl, HC.out, Below.refl _ _, rfl⟩
    ·have h56 : u 56 = .string t0 := hR ⟨12, .data⟩ (by simp) rfl; clear hR; simp only [h56]; refine if_yes (by kernel_rfl) ?_; unfold Oper.wp; go_simp; exact ⟨.string t0, rfl, HC.out, Below.refl _ _, rfl⟩
    ·have h57 : u 57 = .int .i64 e0 := hR ⟨13, .data⟩ (by simp) rfl; clear hR; simp only [h57]; refine if_yes (by kernel_rfl) ?_; unfold Oper.wp; go_simp; exact ⟨.int .i64 e0, rfl, HC.out, Below.refl _ _, rfl⟩
   ·intro a' w6 hC hB hR
    have h11 := hR 14 (by decide)
    have h12 := hR 15 (by decide)
    obtain ⟨u, rfl⟩ := hB
    have h11 : u 11 = .string t0 := h11
    have h12 : u 12 = .int .i64 e0 := h12
    have HC6 := Lib.hid (HC5.out.after hC)
    have HZ6 := Lib.hid (HZ5.out.after hC)
    have HF6 := Lib.hid (HF5.out.after hC)
    have HB6 := Lib.hid (HB5.out.trans (hC.mono HB5.out.size))
    have k1 : w6.cell? ⟨w2.heap.size, 1, none⟩ = some (.int .i64 f2) := HF6.out.cell 1
    have hszz : w2.heap.size < w6.heap.size := HF6.out.lt
    simp only [h11, h12]; clear hR h11 h12 hC HC5 HZ5 HF5 HB5 HK6 HK0 HK1 HK2 HRD HRY
    rcases HE.out with ⟨hr, rfl, ht⟩ | ⟨hr, rfl⟩
    ·by_cases h1 : f2 = 1
     ·subst h1
      have HD : Hid (rdSt c (i : Nat) ln pt = endCh (opsCh c) 82 ∧ rdC c (i : Nat) ln pt = 82 ∧ rdT c (i : Nat) ln pt = ByteArray.empty) := by
       have h0 : ¬ c.off = true := by rw [HOF.out]; simp
       have hk : (howF c 1).2.1 = 1 := by rw [HHV.out]
       exact ⟨by unfold rdSt; rw [if_neg h0, if_pos hr, if_pos hk], by unfold rdC; rw [if_neg h0, if_pos hr, if_pos hk], by unfold rdT; rw [if_neg (fun hh => hh.2 hk)]⟩
      clear hr ht HE
      go_wp2_with (refine wpList_load_row rfl 32 (.tmp 2) rfl w.heap.size rfl 32 (chv (opsCh c) (some ⟨B, off, none⟩) k of m) (0, 0) _ HC6.out Tryz.underlying32 rfl size_chip ?_)
      refine (rch_counts (opsCh c) (some ⟨B, off, none⟩) of k m 82 w6 (by have h1 := HWF.out.rej; have h2 := HNN.out; show c.rej ≤ _; omega) (by have h1 := HWF.out.cuts; have h2 := HNN.out; show c.cuts ≤ _; omega)).mono ?_
      rintro e w7 ⟨rfl, hb7⟩
      obtain ⟨w8, hw8⟩ : ∃ w8, (w7.alloc (.cells #[.int .i64 0, .int .i64 0, .int .i64 0, .int .i64 0, .int .i64 0, .int .i64 0, .slice none 0 0, .slice none 0 0, .int .i64 0, .int .i64 0, .int .i64 0, .bool false, .bool false, .int .i64 0, .int .i64 0] 32)).setRow w7.heap.size (chv (endCh (opsCh c) 82) (some ⟨B, off, none⟩) k of m) = w8 := ⟨_, rfl⟩
      have h8 : Below w.heap.size w w8 := by
       rw [← hw8]
       have h1 := HB6.out.trans (hb7.mono HB6.out.size)
       exact below_put h1.size _ (h1.alloc h1.size _)
      have HN0 : Hid (Blk (w7.alloc (.cells #[.int .i64 0, .int .i64 0, .int .i64 0, .int .i64 0, .int .i64 0, .int .i64 0, .slice none 0 0, .slice none 0 0, .int .i64 0, .int .i64 0, .int .i64 0, .bool false, .bool false, .int .i64 0, .int .i64 0] 32)) w7.heap.size chz 32) := Blk.new _ _ _
      have HN8 : Hid (Blk ((w7.alloc (.cells #[.int .i64 0, .int .i64 0, .int .i64 0, .int .i64 0, .int .i64 0, .int .i64 0, .slice none 0 0, .slice none 0 0, .int .i64 0, .int .i64 0, .int .i64 0, .bool false, .bool false, .int .i64 0, .int .i64 0] 32)).setRow w7.heap.size (chv (endCh (opsCh c) 82) (some ⟨B, off, none⟩) k of m)) w7.heap.size (chv (endCh (opsCh c) 82) (some ⟨B, off, none⟩) k of m) 32) := HN0.out.put _
      have HZ8 : Hid (Blk ((w7.alloc (.cells #[.int .i64 0, .int .i64 0, .int .i64 0, .int .i64 0, .int .i64 0, .int .i64 0, .slice none 0 0, .slice none 0 0, .int .i64 0, .int .i64 0, .int .i64 0, .bool false, .bool false, .int .i64 0, .int .i64 0] 32)).setRow w7.heap.size (chv (endCh (opsCh c) 82) (some ⟨B, off, none⟩) k of m)) (w.heap.size + 2) chz 32) := ((HZ6.out.after hb7).alloc _).put_other (by have h1 := (HZ6.out.after hb7).lt; omega) _
      have HB8 : Hid (Below w.heap.size w ((w7.alloc (.cells #[.int .i64 0, .int .i64 0, .int .i64 0, .int .i64 0, .int .i64 0, .int .i64 0, .slice none 0 0, .slice none 0 0, .int .i64 0, .int .i64 0, .int .i64 0, .bool false, .bool false, .int .i64 0, .int .i64 0] 32)).setRow w7.heap.size (chv (endCh (opsCh c) 82) (some ⟨B, off, none⟩) k of m))) := by rw [hw8]; exact h8
      clear hb7 hw8 h8 HC6 HZ6 HB6
      go_wp2_with (first
       | (refine wpList_store_row rfl 32 (.tmp 15) (.tmp 74) rfl w7.heap.size (chv (endCh (opsCh c) 82) (some ⟨B, off, none⟩) k of m) rfl rfl 32 chz HN0.out size_chip rfl (chv_one _ _ _ _ _) ?_)
       | (refine wpList_load_row rfl 32 (.tmp 15) rfl w7.heap.size rfl 32 (chv (endCh (opsCh c) 82) (some ⟨B, off, none⟩) k of m) (0, 0) _ HN8.out Tryz.underlying32 rfl size_chip ?_)
       | (refine wpList_store_row rfl 32 (.tmp 4) (.tmp 76) rfl (w.heap.size + 2) (chv (endCh (opsCh c) 82) (some ⟨B, off, none⟩) k of m) rfl rfl 32 chz HZ8.out size_chip rfl (chv_one _ _ _ _ _) ?_))
      refine bodyPost_ret (results_cell_tmp2Q rfl _ _ (w.heap.size + 2) 32 _ _ rfl (HZ8.out.put _) Tryz.underlying32 rfl size_chip) rfl ?_
      rw [HD.out.1, HD.out.2.1, HD.out.2.2]
      exact ⟨⟨_, k, l, rfl, (H.out.ops'.ends 82).after (below_put (by omega) _ HB8.out), fun _ h => Or.inl h⟩, below_put (by omega) _ HB8.out⟩
     ·have hb1 : (f2 == 1) = false := by simpa using h1
      have HD0 : Hid (rdSt c (i : Nat) ln pt = calmCh (opsCh c) ∧ rdC c (i : Nat) ln pt = 0 ∧ rdT c (i : Nat) ln pt = shakeCh c (flipCh c t0)) := by
       have h0 : ¬ c.off = true := by rw [HOF.out]; simp
       have hk : ¬ (howF c 1).2.1 = 1 := by rw [HHV.out]; exact h1
       exact ⟨by unfold rdSt; rw [if_neg h0, if_pos hr, if_neg hk], by unfold rdC; rw [if_neg h0, if_pos hr, if_neg hk], by unfold rdT; rw [if_pos ⟨hr, hk⟩, ← ht]⟩
      clear hr ht HE
      by_cases h3 : f2 = 3
      ·subst h3
       obtain ⟨t1, ht1⟩ : ∃ t1, flipF t0 (f1, 3, f3, f4) = t1 := ⟨_, rfl⟩
       have HT1 : Hid (t1.size ≤ 1000) := by show t1.size ≤ 1000; rw [← ht1, flipF_sizeC]; exact HT.out
       have hfl : flipCh c t0 = t1 := by unfold flipCh; rw [HHV.out, if_pos rfl]; exact ht1
       have HD := Lib.hid (HD0.out)
       rw [hfl] at HD
       have HFLP : Hid (Calls Tryz.prog 39 #[.string t0, .agg (fv f1 3 f3 f4)] w6 fun e w' => e = .returned (.string t1) ∧ Below w6.heap.size w6 w') := by rw [← ht1]; exact rfa_flipped t0 (f1, 3, f3, f4) w6 HT.out
       clear hfl ht1 HD0
       go_wp2_with (refine wpList_load_row rfl 40 (.tmp 7) rfl w2.heap.size rfl 40 (fv f1 3 f3 f4) (0, 0) _ HF6.out Tryz.underlying40 rfl size_fault ?_)
       refine HFLP.out.mono ?_
       rintro e w7 ⟨rfl, hb7⟩
       have HC_w7 := Lib.hid (HC6.out.after hb7)
       have HZ_w7 := Lib.hid (HZ6.out.after hb7)
       have HB_w7 := Lib.hid (HB6.out.trans (hb7.mono HB6.out.size))
       clear hb7 HC6 HZ6 HB6 HF6 k1 HFLP
       have c12 : w7.cell? ⟨w.heap.size, 12, none⟩ = some (.bool c.shk) := HC_w7.out.cell 12
       have c13 : w7.cell? ⟨w.heap.size, 13, none⟩ = some (.int .i64 c.a) := HC_w7.out.cell 13
       have c14 : w7.cell? ⟨w.heap.size, 14, none⟩ = some (.int .i64 c.b) := HC_w7.out.cell 14
       cases hsk : c.shk with
       | true =>
        rw [hsk] at c12
        have HSH : Hid (shakeCh c t1 = hurtT t1 c.a c.b) := by show shakeCh c t1 = _; unfold shakeCh; rw [if_pos hsk]
        clear hsk
        go_wp2_with fail
        refine (rfr_hurt t1 c.a c.b w7 HT1.out).mono ?_
        rintro e w8 ⟨rfl, hb8⟩
        rw [← HSH.out]
        have f12 : w8.frozen? ⟨w.heap.size, 12, none⟩ = false := (HC_w7.out.after hb8).free 12
        have d12 : w8.cell? ⟨w.heap.size, 12, none⟩ = some (.bool c.shk) := (HC_w7.out.after hb8).cell 12
        have hc9 : Blk (w8.setCell ⟨w.heap.size, 12, none⟩ (.bool false)) w.heap.size (chv (calmCh (opsCh c)) (some ⟨B, off, none⟩) k of m) 32 := (HC_w7.out.after hb8).set 12 _ rfl
        have hz9 : Blk (w8.setCell ⟨w.heap.size, 12, none⟩ (.bool false)) (w.heap.size + 2) chz 32 := (HZ_w7.out.after hb8).set_other (by omega) _ _
        have hb9 : Below w.heap.size w (w8.setCell ⟨w.heap.size, 12, none⟩ (.bool false)) := (HB_w7.out.trans (hb8.mono HB_w7.out.size)).setCell (Nat.le_refl _) _
        have HC9 := Lib.hid hc9
        have HZ9 := Lib.hid hz9
        have HB9 := Lib.hid hb9
        clear hb8 c12 c13 c14 hc9 hz9 hb9
        generalize shakeCh c t1 = t2 at *
        go_wp2_with (first
         | (refine wpList_load_row rfl 32 (.tmp 2) rfl w.heap.size rfl 32 (chv (calmCh (opsCh c)) (some ⟨B, off, none⟩) k of m) (0, 0) _ HC9.out Tryz.underlying32 rfl size_chip ?_)
         | (refine wpList_store_row rfl 32 (.tmp 4) (.tmp 93) rfl (w.heap.size + 2) (chv (calmCh (opsCh c)) (some ⟨B, off, none⟩) k of m) rfl rfl 32 chz HZ9.out size_chip rfl (chv_one _ _ _ _ _) ?_))
        refine bodyPost_ret (results_cell_tmp2Q rfl _ _ (w.heap.size + 2) 32 _ _ rfl (HZ9.out.put _) Tryz.underlying32 rfl size_chip) rfl ?_
        rw [HD.out.1, HD.out.2.1, HD.out.2.2]
        exact ⟨⟨_, k, l, rfl, (H.out.of (c2 := calmCh (opsCh c)) rfl rfl).after (below_put (by omega) _ HB9.out), fun _ h => Or.inl h⟩, below_put (by omega) _ HB9.out⟩
       | false =>
        rw [hsk] at c12
        have HSH : Hid (shakeCh c t1 = t1) := by show shakeCh c t1 = _; unfold shakeCh; rw [if_neg (by rw [hsk]; simp)]
        have HCM : Hid (calmCh (opsCh c) = opsCh c) := by
         show calmCh (opsCh c) = opsCh c
         unfold calmCh opsCh
         obtain ⟨G, cs, fs, ops, cuts, rej, off', shk, a', b'⟩ := c
         simp only at hsk
         rw [hsk]
        clear hsk c13 c14
        rw [HSH.out, HCM.out] at HD
        go_wp2_with (first
         | (refine wpList_load_row rfl 32 (.tmp 2) rfl w.heap.size rfl 32 (chv (opsCh c) (some ⟨B, off, none⟩) k of m) (0, 0) _ HC_w7.out Tryz.underlying32 rfl size_chip ?_)
         | (refine wpList_store_row rfl 32 (.tmp 4) (.tmp 93) rfl (w.heap.size + 2) (chv (opsCh c) (some ⟨B, off, none⟩) k of m) rfl rfl 32 chz HZ_w7.out size_chip rfl (chv_one _ _ _ _ _) ?_))
        refine bodyPost_ret (results_cell_tmp2Q rfl _ _ (w.heap.size + 2) 32 _ _ rfl (HZ_w7.out.put _) Tryz.underlying32 rfl size_chip) rfl ?_
        rw [HD.out.1, HD.out.2.1, HD.out.2.2]
        exact ⟨⟨_, k, l, rfl, H.out.ops'.after (below_put (by omega) _ HB_w7.out), fun _ h => Or.inl h⟩, below_put (by omega) _ HB_w7.out⟩
      ·have hb3 : (f2 == 3) = false := by simpa using h3
       obtain ⟨t1, ht1⟩ : ∃ t1, t0 = t1 := ⟨_, rfl⟩
       have HT1 : Hid (t1.size ≤ 1000) := by show t1.size ≤ 1000; rw [← ht1]; exact HT.out
       have hfl : flipCh c t0 = t1 := by unfold flipCh; rw [HHV.out, if_neg h3]; exact ht1
       have HD := Lib.hid (HD0.out)
       rw [hfl] at HD
       rw [ht1]
       clear hfl HD0 HT
       have HC_w6 := HC6
       have HZ_w6 := HZ6
       have HB_w6 := HB6
       clear HC6 HZ6 HB6 HF6
       have c12 : w6.cell? ⟨w.heap.size, 12, none⟩ = some (.bool c.shk) := HC_w6.out.cell 12
       have c13 : w6.cell? ⟨w.heap.size, 13, none⟩ = some (.int .i64 c.a) := HC_w6.out.cell 13
       have c14 : w6.cell? ⟨w.heap.size, 14, none⟩ = some (.int .i64 c.b) := HC_w6.out.cell 14
       cases hsk : c.shk with
       | true =>
        rw [hsk] at c12
        have HSH : Hid (shakeCh c t1 = hurtT t1 c.a c.b) := by show shakeCh c t1 = _; unfold shakeCh; rw [if_pos hsk]
        clear hsk
        go_wp2_with fail
        refine (rfr_hurt t1 c.a c.b w6 HT1.out).mono ?_
        rintro e w8 ⟨rfl, hb8⟩
        rw [← HSH.out]
        have f12 : w8.frozen? ⟨w.heap.size, 12, none⟩ = false := (HC_w6.out.after hb8).free 12
        have d12 : w8.cell? ⟨w.heap.size, 12, none⟩ = some (.bool c.shk) := (HC_w6.out.after hb8).cell 12
        have hc9 : Blk (w8.setCell ⟨w.heap.size, 12, none⟩ (.bool false)) w.heap.size (chv (calmCh (opsCh c)) (some ⟨B, off, none⟩) k of m) 32 := (HC_w6.out.after hb8).set 12 _ rfl
        have hz9 : Blk (w8.setCell ⟨w.heap.size, 12, none⟩ (.bool false)) (w.heap.size + 2) chz 32 := (HZ_w6.out.after hb8).set_other (by omega) _ _
        have hb9 : Below w.heap.size w (w8.setCell ⟨w.heap.size, 12, none⟩ (.bool false)) := (HB_w6.out.trans (hb8.mono HB_w6.out.size)).setCell (Nat.le_refl _) _
        have HC9 := Lib.hid hc9
        have HZ9 := Lib.hid hz9
        have HB9 := Lib.hid hb9
        clear hb8 c12 c13 c14 hc9 hz9 hb9
        generalize shakeCh c t1 = t2 at *
        go_wp2_with (first
         | (refine wpList_load_row rfl 32 (.tmp 2) rfl w.heap.size rfl 32 (chv (calmCh (opsCh c)) (some ⟨B, off, none⟩) k of m) (0, 0) _ HC9.out Tryz.underlying32 rfl size_chip ?_)
         | (refine wpList_store_row rfl 32 (.tmp 4) (.tmp 93) rfl (w.heap.size + 2) (chv (calmCh (opsCh c)) (some ⟨B, off, none⟩) k of m) rfl rfl 32 chz HZ9.out size_chip rfl (chv_one _ _ _ _ _) ?_))
        refine bodyPost_ret (results_cell_tmp2Q rfl _ _ (w.heap.size + 2) 32 _ _ rfl (HZ9.out.put _) Tryz.underlying32 rfl size_chip) rfl ?_
        rw [HD.out.1, HD.out.2.1, HD.out.2.2]
        exact ⟨⟨_, k, l, rfl, (H.out.of (c2 := calmCh (opsCh c)) rfl rfl).after (below_put (by omega) _ HB9.out), fun _ h => Or.inl h⟩, below_put (by omega) _ HB9.out⟩
       | false =>
        rw [hsk] at c12
        have HSH : Hid (shakeCh c t1 = t1) := by show shakeCh c t1 = _; unfold shakeCh; rw [if_neg (by rw [hsk]; simp)]
        have HCM : Hid (calmCh (opsCh c) = opsCh c) := by
         show calmCh (opsCh c) = opsCh c
         unfold calmCh opsCh
         obtain ⟨G, cs, fs, ops, cuts, rej, off', shk, a', b'⟩ := c
         simp only at hsk
         rw [hsk]
        clear hsk c13 c14
        rw [HSH.out, HCM.out] at HD
        go_wp2_with (first
         | (refine wpList_load_row rfl 32 (.tmp 2) rfl w.heap.size rfl 32 (chv (opsCh c) (some ⟨B, off, none⟩) k of m) (0, 0) _ HC_w6.out Tryz.underlying32 rfl size_chip ?_)
         | (refine wpList_store_row rfl 32 (.tmp 4) (.tmp 93) rfl (w.heap.size + 2) (chv (opsCh c) (some ⟨B, off, none⟩) k of m) rfl rfl 32 chz HZ_w6.out size_chip rfl (chv_one _ _ _ _ _) ?_))
        refine bodyPost_ret (results_cell_tmp2Q rfl _ _ (w.heap.size + 2) 32 _ _ rfl (HZ_w6.out.put _) Tryz.underlying32 rfl size_chip) rfl ?_
        rw [HD.out.1, HD.out.2.1, HD.out.2.2]
        exact ⟨⟨_, k, l, rfl, H.out.ops'.after (below_put (by omega) _ HB_w6.out), fun _ h => Or.inl h⟩, below_put (by omega) _ HB_w6.out⟩
    ·have HD : Hid (rdSt c (i : Nat) ln pt = endCh (opsCh c) 80 ∧ rdC c (i : Nat) ln pt = 80 ∧ rdT c (i : Nat) ln pt = ByteArray.empty) := by
      have h0 : ¬ c.off = true := by rw [HOF.out]; simp
      exact ⟨by unfold rdSt; rw [if_neg h0, if_neg hr], by unfold rdC; rw [if_neg h0, if_neg hr], by unfold rdT; rw [if_neg (fun hh => hr hh.1)]⟩
     clear hr HE
     go_wp2_with (refine wpList_load_row rfl 32 (.tmp 2) rfl w.heap.size rfl 32 (chv (opsCh c) (some ⟨B, off, none⟩) k of m) (0, 0) _ HC6.out Tryz.underlying32 rfl size_chip ?_)
     refine (rch_counts (opsCh c) (some ⟨B, off, none⟩) of k m 80 w6 (by have h1 := HWF.out.rej; have h2 := HNN.out; show c.rej ≤ _; omega) (by have h1 := HWF.out.cuts; have h2 := HNN.out; show c.cuts ≤ _; omega)).mono ?_
     rintro e w7 ⟨rfl, hb7⟩
     obtain ⟨w8, hw8⟩ : ∃ w8, (w7.alloc (.cells #[.int .i64 0, .int .i64 0, .int .i64 0, .int .i64 0, .int .i64 0, .int .i64 0, .slice none 0 0, .slice none 0 0, .int .i64 0, .int .i64 0, .int .i64 0, .bool false, .bool false, .int .i64 0, .int .i64 0] 32)).setRow w7.heap.size (chv (endCh (opsCh c) 80) (some ⟨B, off, none⟩) k of m) = w8 := ⟨_, rfl⟩
     have h8 : Below w.heap.size w w8 := by
      rw [← hw8]
      have h1 := HB6.out.trans (hb7.mono HB6.out.size)
      exact below_put h1.size _ (h1.alloc h1.size _)
     have HN0 : Hid (Blk (w7.alloc (.cells #[.int .i64 0, .int .i64 0, .int .i64 0, .int .i64 0, .int .i64 0, .int .i64 0, .slice none 0 0, .slice none 0 0, .int .i64 0, .int .i64 0, .int .i64 0, .bool false, .bool false, .int .i64 0, .int .i64 0] 32)) w7.heap.size chz 32) := Blk.new _ _ _
     have HN8 : Hid (Blk ((w7.alloc (.cells #[.int .i64 0, .int .i64 0, .int .i64 0, .int .i64 0, .int .i64 0, .int .i64 0, .slice none 0 0, .slice none 0 0, .int .i64 0, .int .i64 0, .int .i64 0, .bool false, .bool false, .int .i64 0, .int .i64 0] 32)).setRow w7.heap.size (chv (endCh (opsCh c) 80) (some ⟨B, off, none⟩) k of m)) w7.heap.size (chv (endCh (opsCh c) 80) (some ⟨B, off, none⟩) k of m) 32) := HN0.out.put _
     have HZ8 : Hid (Blk ((w7.alloc (.cells #[.int .i64 0, .int .i64 0, .int .i64 0, .int .i64 0, .int .i64 0, .int .i64 0, .slice none 0 0, .slice none 0 0, .int .i64 0, .int .i64 0, .int .i64 0, .bool false, .bool false, .int .i64 0, .int .i64 0] 32)).setRow w7.heap.size (chv (endCh (opsCh c) 80) (some ⟨B, off, none⟩) k of m)) (w.heap.size + 2) chz 32) := ((HZ6.out.after hb7).alloc _).put_other (by have h1 := (HZ6.out.after hb7).lt; omega) _
     have HB8 : Hid (Below w.heap.size w ((w7.alloc (.cells #[.int .i64 0, .int .i64 0, .int .i64 0, .int .i64 0, .int .i64 0, .int .i64 0, .slice none 0 0, .slice none 0 0, .int .i64 0, .int .i64 0, .int .i64 0, .bool false, .bool false, .int .i64 0, .int .i64 0] 32)).setRow w7.heap.size (chv (endCh (opsCh c) 80) (some ⟨B, off, none⟩) k of m))) := by rw [hw8]; exact h8
     clear hb7 hw8 h8 HC6 HZ6 HB6
     go_wp2_with (first
      | (refine wpList_store_row rfl 32 (.tmp 13) (.tmp 64) rfl w7.heap.size (chv (endCh (opsCh c) 80) (some ⟨B, off, none⟩) k of m) rfl rfl 32 chz HN0.out size_chip rfl (chv_one _ _ _ _ _) ?_)
      | (refine wpList_load_row rfl 32 (.tmp 13) rfl w7.heap.size rfl 32 (chv (endCh (opsCh c) 80) (some ⟨B, off, none⟩) k of m) (0, 0) _ HN8.out Tryz.underlying32 rfl size_chip ?_)
      | (refine wpList_store_row rfl 32 (.tmp 4) (.tmp 66) rfl (w.heap.size + 2) (chv (endCh (opsCh c) 80) (some ⟨B, off, none⟩) k of m) rfl rfl 32 chz HZ8.out size_chip rfl (chv_one _ _ _ _ _) ?_))
     refine bodyPost_ret (results_cell_tmp2Q rfl _ _ (w.heap.size + 2) 32 _ _ rfl (HZ8.out.put _) Tryz.underlying32 rfl size_chip) rfl ?_
     rw [HD.out.1, HD.out.2.1, HD.out.2.2]
     exact ⟨⟨_, k, l, rfl, (H.out.ops'.ends 80).after (below_put (by omega) _ HB8.out), fun _ h => Or.inl h⟩, below_put (by omega) _ HB8.out⟩
  ·rw [decide_eq_false hx]
   have HD : Hid (rdSt c b ln pt = endCh (opsCh c) 80 ∧ rdC c b ln pt = 80 ∧ rdT c b ln pt = ByteArray.empty) := by
    have h0 : ¬ c.off = true := by rw [HOF.out]; simp
    have h1 : ¬ ReadsCh c b ln pt := fun hh => hx hh.2.1
    exact ⟨by unfold rdSt; rw [if_neg h0, if_neg h1], by unfold rdC; rw [if_neg h0, if_neg h1], by unfold rdT; rw [if_neg (fun hh => h1 hh.1)]⟩
   clear hx
   obtain ⟨w6, hw6⟩ : ∃ w6, w5 = w6 := ⟨_, rfl⟩
   subst hw6
   have HC6 := HC5
   have HZ6 := HZ5
   have HB6 := HB5
   go_wp2_with (refine wpList_load_row rfl 32 (.tmp 2) rfl w.heap.size rfl 32 (chv (opsCh c) oc k of m) (0, 0) _ HC5.out Tryz.underlying32 rfl size_chip ?_)
   refine (rch_counts (opsCh c) oc of k m 80 w5 (by have h1 := HWF.out.rej; have h2 := HNN.out; show c.rej ≤ _; omega) (by have h1 := HWF.out.cuts; have h2 := HNN.out; show c.cuts ≤ _; omega)).mono ?_
   rintro e w7 ⟨rfl, hb7⟩
   obtain ⟨w8, hw8⟩ : ∃ w8, (w7.alloc (.cells #[.int .i64 0, .int .i64 0, .int .i64 0, .int .i64 0, .int .i64 0, .int .i64 0, .slice none 0 0, .slice none 0 0, .int .i64 0, .int .i64 0, .int .i64 0, .bool false, .bool false, .int .i64 0, .int .i64 0] 32)).setRow w7.heap.size (chv (endCh (opsCh c) 80) oc k of m) = w8 := ⟨_, rfl⟩
   have h8 : Below w.heap.size w w8 := by
    rw [← hw8]
    have h1 := HB6.out.trans (hb7.mono HB6.out.size)
    exact below_put h1.size _ (h1.alloc h1.size _)
   have HN0 : Hid (Blk (w7.alloc (.cells #[.int .i64 0, .int .i64 0, .int .i64 0, .int .i64 0, .int .i64 0, .int .i64 0, .slice none 0 0, .slice none 0 0, .int .i64 0, .int .i64 0, .int .i64 0, .bool false, .bool false, .int .i64 0, .int .i64 0] 32)) w7.heap.size chz 32) := Blk.new _ _ _
   have HN8 : Hid (Blk ((w7.alloc (.cells #[.int .i64 0, .int .i64 0, .int .i64 0, .int .i64 0, .int .i64 0, .int .i64 0, .slice none 0 0, .slice none 0 0, .int .i64 0, .int .i64 0, .int .i64 0, .bool false, .bool false, .int .i64 0, .int .i64 0] 32)).setRow w7.heap.size (chv (endCh (opsCh c) 80) oc k of m)) w7.heap.size (chv (endCh (opsCh c) 80) oc k of m) 32) := HN0.out.put _
   have HZ8 : Hid (Blk ((w7.alloc (.cells #[.int .i64 0, .int .i64 0, .int .i64 0, .int .i64 0, .int .i64 0, .int .i64 0, .slice none 0 0, .slice none 0 0, .int .i64 0, .int .i64 0, .int .i64 0, .bool false, .bool false, .int .i64 0, .int .i64 0] 32)).setRow w7.heap.size (chv (endCh (opsCh c) 80) oc k of m)) (w.heap.size + 2) chz 32) := ((HZ6.out.after hb7).alloc _).put_other (by have h1 := (HZ6.out.after hb7).lt; omega) _
   have HB8 : Hid (Below w.heap.size w ((w7.alloc (.cells #[.int .i64 0, .int .i64 0, .int .i64 0, .int .i64 0, .int .i64 0, .int .i64 0, .slice none 0 0, .slice none 0 0, .int .i64 0, .int .i64 0, .int .i64 0, .bool false, .bool false, .int .i64 0, .int .i64 0] 32)).setRow w7.heap.size (chv (endCh (opsCh c) 80) oc k of m))) := by rw [hw8]; exact h8
   clear hb7 hw8 h8 HC6 HZ6 HB6
   go_wp2_with (first
    | (refine wpList_store_row rfl 32 (.tmp 9) (.tmp 40) rfl w7.heap.size (chv (endCh (opsCh c) 80) oc k of m) rfl rfl 32 chz HN0.out size_chip rfl (chv_one _ _ _ _ _) ?_)
    | (refine wpList_load_row rfl 32 (.tmp 9) rfl w7.heap.size rfl 32 (chv (endCh (opsCh c) 80) oc k of m) (0, 0) _ HN8.out Tryz.underlying32 rfl size_chip ?_)
    | (refine wpList_store_row rfl 32 (.tmp 4) (.tmp 42) rfl (w.heap.size + 2) (chv (endCh (opsCh c) 80) oc k of m) rfl rfl 32 chz HZ8.out size_chip rfl (chv_one _ _ _ _ _) ?_))
   refine bodyPost_ret (results_cell_tmp2Q rfl _ _ (w.heap.size + 2) 32 _ _ rfl (HZ8.out.put _) Tryz.underlying32 rfl size_chip) rfl ?_
   rw [HD.out.1, HD.out.2.1, HD.out.2.2]
   exact ⟨⟨_, k, l, rfl, (H.out.ops'.ends 80).after (below_put (by omega) _ HB8.out), fun _ h => Or.inl h⟩, below_put (by omega) _ HB8.out⟩
/- The reference of layer 10, walked: New. -/
theorem chz_one : chz.all (·.oneCell') = true := by
 rw [Array.all_eq_true_iff_forall_mem]
 intro v hv
 simp [chz] at hv
 rcases hv with rfl | rfl | rfl | rfl | rfl <;> rfl
def cN (b l y n s r : Int) (v : Value) (of : Option Addr) (nf m : Nat) : Array Value :=
 #[.int .i64 b, .int .i64 l, .int .i64 y, .int .i64 n, .int .i64 s, .int .i64 r, v, .slice of nf m, .int .i64 0, .int .i64 0, .int .i64 0, .bool false, .bool false, .int .i64 0, .int .i64 0]
structure NewR (w w0 wr : World) (C : Nat) (b l y n s r : Int) (of : Option Addr) (nf m : Nat) (i : Nat) (v : Value) (L : List RC) : Prop where
 len : L.length = i
 chip : Blk wr C (cN b l y n s r v of nf m) 32
 own : wr.ownsRow (C + 1) 66 10 v i (flatR L)
 all : ∀ x ∈ L, x.s = newSt l.toNat y.toNat ∧ RAt wr x.s x.g x.c x.h x.d ∧ C + 1 ≤ x.g ∧ C + 1 ≤ x.h
 low : Below C w0 wr
 bel : Below w.heap.size w wr
def NewP (b l y n s r : Int) (of : Option Addr) (m : Nat) (fs : List Fa) (w : World) (e : Ending) (w' : World) : Prop :=
 (OkG b l y n s r → ∃ oc k L, e = .returned (.tuple #[.agg (chv (newCh ⟨b, l, y, n, s, r⟩ (List.replicate b.toNat (newSt l.toNat y.toNat)) fs) oc k of m), .int .i64 0]) ∧ RCh w' (newCh ⟨b, l, y, n, s, r⟩ (List.replicate b.toNat (newSt l.toNat y.toNat)) fs) oc of L ∧ ∀ q, Foot oc L q → w.heap.size ≤ q)
 ∧ (¬ OkG b l y n s r → e = .returned (.tuple #[.agg chz, .int .i64 60])) ∧ Below w.heap.size w w'
set_option maxHeartbeats 4000000 in
theorem rch_new (b l y n s r : Int) (of : Option Addr) (m : Nat) (fs : List Fa) (hfl : fs.length ≤ maxLen) (w : World) (hf : FsAt w of fs) :
  Calls Tryz.prog 5 #[.agg #[.int .i64 b, .int .i64 l, .int .i64 y, .int .i64 n, .int .i64 s, .int .i64 r], .slice of fs.length m] w (NewP b l y n s r of m fs w) := by
 obtain ⟨W, hW⟩ : ∃ W, (w.alloc (.cells #[.int .i64 b, .int .i64 l, .int .i64 y, .int .i64 n, .int .i64 s, .int .i64 r] 23)).alloc (.cells #[.int .i64 0, .int .i64 0, .int .i64 0, .int .i64 0, .int .i64 0, .int .i64 0, .slice none 0 0, .slice none 0 0, .int .i64 0, .int .i64 0, .int .i64 0, .bool false, .bool false, .int .i64 0, .int .i64 0] 32) = W := ⟨_, rfl⟩
 have hs2 : W.heap.size = w.heap.size + 2 := by rw [← hW, World.size_alloc, World.size_alloc]
 have hgb : Blk ((w.alloc (.cells #[.int .i64 b, .int .i64 l, .int .i64 y, .int .i64 n, .int .i64 s, .int .i64 r] 23)).alloc (.cells #[.int .i64 0, .int .i64 0, .int .i64 0, .int .i64 0, .int .i64 0, .int .i64 0, .slice none 0 0, .slice none 0 0, .int .i64 0, .int .i64 0, .int .i64 0, .bool false, .bool false, .int .i64 0, .int .i64 0] 32)) w.heap.size #[.int .i64 b, .int .i64 l, .int .i64 y, .int .i64 n, .int .i64 s, .int .i64 r] 23 := (Blk.new w _ _).alloc _
 have hzb : Blk ((w.alloc (.cells #[.int .i64 b, .int .i64 l, .int .i64 y, .int .i64 n, .int .i64 s, .int .i64 r] 23)).alloc (.cells #[.int .i64 0, .int .i64 0, .int .i64 0, .int .i64 0, .int .i64 0, .int .i64 0, .slice none 0 0, .slice none 0 0, .int .i64 0, .int .i64 0, .int .i64 0, .bool false, .bool false, .int .i64 0, .int .i64 0] 32)) (w.heap.size + 1) chz 32 := blk_snd2 w _ _ _
 have hbw : Below w.heap.size w W := by rw [← hW]; exact below_two w _ _
 have HG := Lib.hid hgb
 have HZ := Lib.hid hzb
 have HBW := Lib.hid hbw
 have HW := Lib.hid hW
 have HS := Lib.hid hs2
 have HF := Lib.hid hf
 have HFL := Lib.hid hfl
 obtain ⟨nf, hnf⟩ : ∃ nf, fs.length = nf := ⟨_, rfl⟩
 have HNF := Lib.hid hnf
 rw [hnf]
 clear hgb hzb hbw hW hs2 hf hfl hnf
 obtain ⟨i0, hi0, hz0, hz1, hz2⟩ := info_parts infoCell
 go_enter Tryz.func5, Tryz.ntmps5
 go_wp2_with fail
 change Calls _ _ _ ((w.alloc (.cells #[.int .i64 b, .int .i64 l, .int .i64 y, .int .i64 n, .int .i64 s, .int .i64 r] 23)).alloc (.cells #[.int .i64 0, .int .i64 0, .int .i64 0, .int .i64 0, .int .i64 0, .int .i64 0, .slice none 0 0, .slice none 0 0, .int .i64 0, .int .i64 0, .int .i64 0, .bool false, .bool false, .int .i64 0, .int .i64 0] 32)) _
 rw [HW.out]
 rw [HW.out] at HG HZ
 clear HW
 refine (rge_check b l y n s r W).mono ?_
 rintro e w2 ⟨rfl, hb2⟩
 have HG2 := Lib.hid (HG.out.after hb2)
 have HZ2 := Lib.hid (HZ.out.after hb2)
 have HB2 := Lib.hid (HBW.out.trans (hb2.mono HBW.out.size))
 have hw2 : w.heap.size + 2 ≤ w2.heap.size := by have h1 := hb2.size; have h2 := HS.out; omega
 clear hb2 HG HZ HBW HS
 by_cases hok : OkG b l y n s r
 ·rw [chk_ok hok]
  have HOK := Lib.hid hok
  have hnew : NewOk l y := by
   obtain ⟨h1, _, _⟩ := hok
   have h2 := h1.2.2
   exact ⟨⟨by omega, by omega⟩, by omega, by unfold LenOk; omega⟩
  have hbn : 0 ≤ b ∧ b ≤ 64 := by
   obtain ⟨h1, _, _⟩ := hok
   exact ⟨by have := h1.1; omega, h1.2.1⟩
  have HNEW := Lib.hid hnew
  obtain ⟨bn, hb⟩ : ∃ bn : Nat, b = bn := ⟨b.toNat, by omega⟩
  have HBN := Lib.hid hb
  have hbn2 : bn ≤ 64 := by omega
  rw [hb]
  rw [hb] at HG2
  rw [hb] at HOK
  clear hok hnew hb hbn
  obtain ⟨w3, hw3⟩ : ∃ w3, w2.alloc (.cells #[.int .i64 (bn : Nat), .int .i64 l, .int .i64 y, .int .i64 n, .int .i64 s, .int .i64 r, .slice none 0 0, .slice of nf m, .int .i64 0, .int .i64 0, .int .i64 0, .bool false, .bool false, .int .i64 0, .int .i64 0] 32) = w3 := ⟨_, rfl⟩
  have h3 : NewR w w3 w3 w2.heap.size bn l y n s r of nf m 0 (.slice none 0 0) [] := by
   rw [← hw3]
   exact ⟨rfl, Blk.new _ _ _, World.ownsRow_nil _ _ _ _, fun x hx => absurd hx List.not_mem_nil, Below.refl _ _, HB2.out.alloc HB2.out.size _⟩
  have HG3 : Hid (Blk w3 w.heap.size #[.int .i64 (bn : Nat), .int .i64 l, .int .i64 y, .int .i64 n, .int .i64 s, .int .i64 r] 23) := by show Blk w3 _ _ _; rw [← hw3]; exact HG2.out.alloc _
  have HZ3 : Hid (Blk w3 (w.heap.size + 1) chz 32) := by show Blk w3 _ _ _; rw [← hw3]; exact HZ2.out.alloc _
  have HW3 := Lib.hid hw3
  have H3 := Lib.hid h3
  clear hw3 h3
  go_wp2_with (refine wpList_load_row rfl 23 (.tmp 2) rfl w.heap.size rfl 23 #[.int .i64 (bn : Nat), .int .i64 l, .int .i64 y, .int .i64 n, .int .i64 s, .int .i64 r] (0, 0) _ HG2.out Tryz.underlying23 rfl size_geoC ?_)
  rw [HW3.out]
  clear HW3 HG2 HZ2 HB2
  go_loopw [7] (fun iv wr => ∃ (i : Nat) (v : Value) (L : List RC), i ≤ bn ∧ iv = .int .i64 i ∧ Hid (NewR w w3 wr w2.heap.size bn l y n s r of nf m i v L)) (fun iv _ => bn - (intOf iv).toNat)
  case atStart => exact ⟨0, _, [], Nat.zero_le _, rfl, H3⟩
  case round =>
   clear H3
   obtain ⟨i, v, L, hi, rfl, R⟩ := hrel
   have HGr : Hid (Blk wr w.heap.size #[.int .i64 (bn : Nat), .int .i64 l, .int .i64 y, .int .i64 n, .int .i64 s, .int .i64 r] 23) := HG3.out.below R.out.low (by omega)
   have c0 : wr.cell? ⟨w.heap.size, 0, none⟩ = some (.int .i64 (bn : Nat)) := HGr.out.cell 0
   have c1 : wr.cell? ⟨w.heap.size, 1, none⟩ = some (.int .i64 l) := HGr.out.cell 1
   have c2 : wr.cell? ⟨w.heap.size, 2, none⟩ = some (.int .i64 y) := HGr.out.cell 2
   by_cases hlt : i < bn
   ·have hltz : (i : Int) < (bn : Int) := by omega
    clear hlt
    go_wp2_with fail
    refine (rce_new l y wr).mono ?_
    rintro e w4 ⟨hy, _, hb4⟩
    obtain ⟨g, h, c, d, rfl, hr4, hg4, hh4⟩ := hy HNEW.out
    obtain ⟨x, hx⟩ : ∃ x : RC, x = ⟨newSt l.toNat y.toNat, g, c, h, d⟩ := ⟨_, rfl⟩
    have hcv : cv (newSt l.toNat y.toNat) g c h d = #[.int .i64 (x.s.L : Nat), .int .i64 (x.s.Y : Nat), .int .i64 x.s.mode, .int .i64 (x.s.done : Nat), .bool x.s.bad, .bool x.s.torn, .int .i64 (x.s.slc : Nat), .int .i64 (x.s.tlc : Nat), .slice (some ⟨x.g, 0, none⟩) (3 * x.s.L) x.c, .slice (some ⟨x.h, 0, none⟩) (3 * x.s.L) x.d] := by rw [hx]; rfl
    rw [hcv]
    have HX := Lib.hid hx
    clear hx hcv hy
    have hCl := R.out.chip.lt
    have hC4 := R.out.chip.after hb4
    have ho4 := ownsRow_afterK R.out.own hb4
    obtain ⟨w5, hw5⟩ : ∃ w5, w4.alloc (.cells #[.int .i64 (x.s.L : Nat), .int .i64 (x.s.Y : Nat), .int .i64 x.s.mode, .int .i64 (x.s.done : Nat), .bool x.s.bad, .bool x.s.torn, .int .i64 (x.s.slc : Nat), .int .i64 (x.s.tlc : Nat), .slice (some ⟨x.g, 0, none⟩) (3 * x.s.L) x.c, .slice (some ⟨x.h, 0, none⟩) (3 * x.s.L) x.d] 66) = w5 := ⟨_, rfl⟩
    have hsz4 : w2.heap.size + 1 ≤ w4.heap.size := by have h1 := hb4.size; omega
    have hC5 : Blk w5 w2.heap.size (cN bn l y n s r v of nf m) 32 := by rw [← hw5]; exact hC4.alloc _
    have c6 : w5.cell? ⟨w2.heap.size, 6, none⟩ = some v := hC5.cell 6
    have hx5 : Blk w5 w4.heap.size #[.int .i64 (x.s.L : Nat), .int .i64 (x.s.Y : Nat), .int .i64 x.s.mode, .int .i64 (x.s.done : Nat), .bool x.s.bad, .bool x.s.torn, .int .i64 (x.s.slc : Nat), .int .i64 (x.s.tlc : Nat), .slice (some ⟨x.g, 0, none⟩) (3 * x.s.L) x.c, .slice (some ⟨x.h, 0, none⟩) (3 * x.s.L) x.d] 66 := by rw [← hw5]; exact Blk.new _ _ _
    have hop : w5.ownsRow (w2.heap.size + 1) 66 10 v i (flatR L) := by rw [← hw5]; exact ho4.alloc _
    have hs5 : w5.heap.size = w4.heap.size + 1 := by rw [← hw5, World.size_alloc]
    have hb45 : Below w4.heap.size w4 w5 := by rw [← hw5]; exact (Below.refl _ _).alloc (Nat.le_refl _) _
    have HX5 := Lib.hid hx5
    have HS5 := Lib.hid hs5
    have HB45 := Lib.hid hb45
    have HB4 := Lib.hid hb4
    have HR4 := Lib.hid (⟨hr4, hg4, hh4⟩ : RAt w4 (newSt l.toNat y.toNat) g c h d ∧ wr.heap.size ≤ g ∧ wr.heap.size ≤ h)
    have HC5 := Lib.hid hC5
    have hsw : w2.heap.size + 1 ≤ w5.heap.size := by omega
    clear hC4 ho4 hx5 hs5 hb45 hb4 hr4 hg4 hh4 hC5
    go_wp2_with (first
     | (refine wpList_load_row rfl 66 (.tmp 8) rfl w4.heap.size rfl 66 #[.int .i64 (x.s.L : Nat), .int .i64 (x.s.Y : Nat), .int .i64 x.s.mode, .int .i64 (x.s.done : Nat), .bool x.s.bad, .bool x.s.torn, .int .i64 (x.s.slc : Nat), .int .i64 (x.s.tlc : Nat), .slice (some ⟨x.g, 0, none⟩) (3 * x.s.L) x.c, .slice (some ⟨x.h, 0, none⟩) (3 * x.s.L) x.d] (0, 0) _ HX5.out Tryz.underlying66 rfl size_cell ?_)
     | (at_builtin; refine wpList_append_own _ rfl _ _ 30 rfl (w2.heap.size + 1) 66 i0 (.agg zv) 10 104 Tryz.underlying30 hi0 hz0 hz1 hz2 rfl (by decide) _ _ _ rfl (hop.alloc _) ⟨w5.heap.size, 0, none⟩ 1 1 [.int .i64 (x.s.L : Nat), .int .i64 (x.s.Y : Nat), .int .i64 x.s.mode, .int .i64 (x.s.done : Nat), .bool x.s.bad, .bool x.s.torn, .int .i64 (x.s.slc : Nat), .int .i64 (x.s.tlc : Nat), .slice (some ⟨x.g, 0, none⟩) (3 * x.s.L) x.c, .slice (some ⟨x.h, 0, none⟩) (3 * x.s.L) x.d] rfl rfl ?c1 ?c2 ?c3 ?c4 ?c5 ?_))
    case c1 => exact cells_newQ w5 #[.int .i64 (x.s.L : Nat), .int .i64 (x.s.Y : Nat), .int .i64 x.s.mode, .int .i64 (x.s.done : Nat), .bool x.s.bad, .bool x.s.torn, .int .i64 (x.s.slc : Nat), .int .i64 (x.s.tlc : Nat), .slice (some ⟨x.g, 0, none⟩) (3 * x.s.L) x.c, .slice (some ⟨x.h, 0, none⟩) (3 * x.s.L) x.d] _
    case c2 => intro u hu; simp at hu; rcases hu with rfl | rfl | rfl | rfl | rfl | rfl | rfl | rfl | rfl | rfl <;> rfl
    case c3 => unfold maxLen; omega
    case c4 => omega
    case c5 => simp; omega
    intro v1 w6 hown1 hgrow1 _
    obtain ⟨gk, ck, rfl⟩ := Joins.ownsRow_form hown1 (by omega)
    have hb56 := own_below10 hop hsw hgrow1
    have hC6 : Blk w6 w2.heap.size (cN bn l y n s r v of nf m) 32 := HC5.out.below hb56 (Nat.lt_succ_self _)
    have d6 : w6.cell? ⟨w2.heap.size, 6, none⟩ = some v := hC6.cell 6
    have f6 : w6.frozen? ⟨w2.heap.size, 6, none⟩ = false := hC6.free 6
    have HR' : Hid (NewR w w3 (w6.setCell ⟨w2.heap.size, 6, none⟩ (.slice (some ⟨gk, 0, none⟩) (i + 1) ck)) w2.heap.size bn l y n s r of nf m (i + 1) (.slice (some ⟨gk, 0, none⟩) (i + 1) ck) (L ++ [x])) := by
     have hws : WfSt (newSt l.toNat y.toNat) := by
      obtain ⟨⟨h1, h2⟩, _, h3⟩ := HNEW.out
      exact newSt_ok (by omega) (by omega) h3
     have hkeep : ∀ q, q < w5.heap.size → v.ownBlock ≠ some q → q ≠ w2.heap.size → (w6.setCell ⟨w2.heap.size, 6, none⟩ (.slice (some ⟨gk, 0, none⟩) (i + 1) ck)).heap[q]? = w5.heap[q]? := fun q hq hne hqc => by
      rw [Below.heap_setCell _ _ _ _ (by simpa using hqc), hgrow1.block q (by rw [World.size_alloc]; omega) (fun e => hne e.symm)]
      exact ((Below.refl w5.heap.size w5).alloc (Nat.le_refl _) _).block q hq
     have hold : ∀ z ∈ L, z.s = newSt l.toNat y.toNat ∧ RAt w5 z.s z.g z.c z.h z.d ∧ w2.heap.size + 1 ≤ z.g ∧ w2.heap.size + 1 ≤ z.h := fun z hz => by
      obtain ⟨e1, e2, e3, e4⟩ := R.out.all z hz
      have hwz : WfSt z.s := by rw [e1]; exact hws
      exact ⟨e1, (e2.after hwz HB4.out).after hwz HB45.out, e3, e4⟩
     have hne : ∀ z ∈ L, v.ownBlock ≠ some z.g ∧ v.ownBlock ≠ some z.h := fun z hz => by
      obtain ⟨e1, e2, _, _⟩ := hold z hz
      have hwz : WfSt z.s := by rw [e1]; exact hws
      have hpos : 0 < L.length := List.length_pos_of_mem hz
      have hpi : 0 < i := by rw [← R.out.len]; exact hpos
      obtain ⟨k, cap, hv⟩ := Joins.ownsRow_form hop hpi
      have hop' := hop
      rw [hv] at hop'
      have h1 := hop'.cellAt 0 (by omega)
      have h2 := flatR_get L 0 0 hpos (by omega)
      have h3 : w5.cell? ⟨k, 0, none⟩ = some (.int .i64 (L[0].s.L : Nat)) := h1.trans h2
      have h4 := e2.page hwz 0 (by have := hwz.l1; omega)
      have h5 := e2.mark hwz 0 (by have := hwz.l1; omega)
      rw [hv]
      simp only [Value.ownBlock, ne_eq, Option.some.injEq]
      constructor
      ·intro hk; subst hk; rw [h3] at h4; cases h4
      ·intro hk; subst hk; rw [h3] at h5; cases h5
     have hnx : v.ownBlock ≠ some g ∧ v.ownBlock ≠ some h := by
      have h1 := HR4.out.2
      exact ⟨fun e => by have := (R.out.own.lt _ e).2; omega, fun e => by have := (R.out.own.lt _ e).2; omega⟩
     have hrx : RAt w5 (newSt l.toNat y.toNat) g c h d := HR4.out.1.after hws HB45.out
     have hlx := hrx.lt hws
     have hcwr := R.out.chip.lt
     refine ⟨?_, hC6.set 6 _ rfl, ?_, fun z hz => ?_, ?_, ?_⟩
     ·rw [List.length_append, R.out.len]; rfl
     ·rw [flatR_app]
      exact ownsRow_setCell_below hown1 (Nat.lt_succ_self _) _
     ·rcases List.mem_append.1 hz with hz | hz
      ·obtain ⟨e1, e2, e3, e4⟩ := hold z hz
       have hwz : WfSt z.s := by rw [e1]; exact hws
       have hlz := e2.lt hwz
       exact ⟨e1, e2.keep (hkeep _ hlz.1 (hne z hz).1 (by omega)) (hkeep _ hlz.2 (hne z hz).2 (by omega)), e3, e4⟩
      ·obtain rfl := List.mem_singleton.1 hz
       have h1 := HR4.out.2
       rw [HX.out]
       exact ⟨rfl, hrx.keep (hkeep _ hlx.1 hnx.1 (by omega)) (hkeep _ hlx.2 hnx.2 (by omega)), by show _ ≤ g; omega, by show _ ≤ h; omega⟩
     ·exact (((R.out.low.trans (HB4.out.mono (by omega))).trans (HB45.out.mono (by omega))).trans (hb56.mono (by omega))).setCell (Nat.le_refl _) _
     ·exact (((R.out.bel.trans (HB4.out.mono R.out.bel.size)).trans (HB45.out.mono (by omega))).trans (hb56.mono (by omega))).setCell (by show w.heap.size ≤ w2.heap.size; omega) _
    clear hop hown1 hgrow1 hb56 hC6 R c6 hsw hsz4 hCl hw5
    go_wp2_with fail
    go_roundw
    case rel => exact ⟨i + 1, _, _, by omega, by go_num, HR'⟩
    case measure => simp [intOf]; omega
   ·obtain rfl : i = bn := by omega
    have hltz : ¬ (i : Int) < (i : Int) := by omega
    obtain ⟨oa, cap, hv, hcs, hba⟩ := own_cs2 R.out.own R.out.len
    have hfsl : (newCh ⟨(i : Nat), l, y, n, s, r⟩ (List.replicate i (newSt l.toNat y.toNat)) fs).fs.length = nf := HNF.out
    have hcv : cN i l y n s r v of nf m = chv (newCh ⟨(i : Nat), l, y, n, s, r⟩ (List.replicate i (newSt l.toNat y.toNat)) fs) oa cap of m := by
     unfold chv cN
     rw [hfsl, hv, show (newCh ⟨(i : Nat), l, y, n, s, r⟩ (List.replicate i (newSt l.toNat y.toNat)) fs).cs.length = i from List.length_replicate]
     rfl
    have hch := R.out.chip
    rw [hcv] at hch
    have HCH := Lib.hid hch
    have HCS := Lib.hid hcs
    have HBA := Lib.hid hba
    have HZr : Hid (Blk wr (w.heap.size + 1) chz 32) := HZ3.out.below R.out.low (by omega)
    have hws : WfSt (newSt l.toNat y.toNat) := by
     obtain ⟨⟨h1, h2⟩, _, h3⟩ := HNEW.out
     exact newSt_ok (by omega) (by omega) h3
    have HWS := Lib.hid hws
    clear hv hfsl hcv hch hcs hba hws hi0 hz0 hz1 hz2
    obtain ⟨ch, hchv⟩ : ∃ ch, newCh ⟨(i : Nat), l, y, n, s, r⟩ (List.replicate i (newSt l.toNat y.toNat)) fs = ch := ⟨_, rfl⟩
    have HCHV := Lib.hid hchv
    rw [hchv] at HCH
    clear hchv
    go_wp2_with (first
     | (refine wpList_load_row rfl 32 (.tmp 6) rfl w2.heap.size rfl 32 (chv ch oa cap of m) (0, 0) _ HCH.out Tryz.underlying32 rfl size_chip ?_)
     | (refine wpList_store_row rfl 32 (.tmp 4) (.tmp 37) rfl (w.heap.size + 1) (chv ch oa cap of m) rfl rfl 32 chz HZr.out size_chip rfl (chv_one _ _ _ _ _) ?_))
    refine bodyPost_ret (results_cell_tmp rfl _ _ (w.heap.size + 1) 32 (chv ch oa cap of m) _ rfl (HZr.out.put _) Tryz.underlying32 rfl size_chip) rfl ?_
    have hbb : b = (i : Nat) := HBN.out
    subst hbb
    have hbf : Below w.heap.size w (wr.setRow (w.heap.size + 1) (chv ch oa cap of m)) := below_put (by omega) _ R.out.bel
    have hzz : ∀ z ∈ L, z.g ≠ w.heap.size + 1 ∧ z.h ≠ w.heap.size + 1 := fun z hz => by
     have h1 := (R.out.all z hz).2.2
     omega
    have hR : RCh wr (newCh ⟨(i : Nat), l, y, n, s, r⟩ (List.replicate i (newSt l.toNat y.toNat)) fs) oa of L := by
     refine ⟨?_, HCS.out, fun z hz => ?_, HF.out.below R.out.bel⟩
     ·show L.map (·.s) = List.replicate i (newSt l.toNat y.toNat)
      rw [← R.out.len]
      exact List.eq_replicate_iff.2 ⟨List.length_map _, fun t ht => by obtain ⟨z, hz, rfl⟩ := List.mem_map.1 ht; exact (R.out.all z hz).1⟩
     ·have h1 := R.out.all z hz
      exact ⟨by rw [h1.1]; exact HWS.out, h1.2.1⟩
    refine ⟨fun _ => ⟨oa, cap, L, ?_, ?_, ?_⟩, fun h => absurd HOK.out h, hbf⟩
    ·show _ = Ending.returned (.tuple #[.agg (chv (newCh ⟨(i : Nat), l, y, n, s, r⟩ (List.replicate i (newSt l.toNat y.toNat)) fs) oa cap of m), .int .i64 0])
     rw [HCHV.out]; rfl
    ·exact hR.put (w.heap.size + 1) _ hzz (fun a ha => by have h1 := HBA.out a ha; omega) (HF.out.below hbf)
    ·rintro q (⟨_, a, ha, rfl⟩ | ⟨z, hz, hq⟩)
     ·have h1 := HBA.out a ha
      omega
     ·have h1 := (R.out.all z hz).2.2
      rcases hq with rfl | rfl <;> omega
 ·rw [chk_no hok]
  have HNO := Lib.hid hok
  clear hok hi0 hz0 hz1 hz2
  go_wp2_with (refine wpList_store_row rfl 32 (.tmp 4) (.tmp 13) rfl (w.heap.size + 1) chz rfl rfl 32 chz HZ2.out size_chip rfl chz_one ?_)
  refine bodyPost_ret (results_cell_tmp rfl _ _ (w.heap.size + 1) 32 chz _ rfl (HZ2.out.put _) Tryz.underlying32 rfl size_chip) rfl ?_
  exact ⟨fun h => absurd h HNO.out, fun _ => rfl, below_put (by omega) _ HB2.out⟩
/- The reference of layer 10, walked: Copy. -/
def CopyP (c : ChS) (oc : Option Addr) (k : Nat) (og : Option Addr) (m2 : Nat) (fs : List Fa) (l : List RC) (w : World) (e : Ending) (w' : World) : Prop :=
 e = .returned (.agg (chv (newCh c.G c.cs fs) oc k og m2)) ∧ RCh w' (newCh c.G c.cs fs) oc og l ∧ Below w.heap.size w w'
set_option maxHeartbeats 2000000 in
theorem rch_copy (c : ChS) (oc of : Option Addr) (k m : Nat) (l : List RC) (og : Option Addr) (m2 : Nat) (fs : List Fa) (w : World) (h : RCh w c oc of l) (hf : FsAt w og fs) :
  Calls Tryz.prog 17 #[.agg (chv c oc k of m), .slice og fs.length m2] w (CopyP c oc k og m2 fs l w) := by
 have H := Lib.hid h
 have HF := Lib.hid hf
 obtain ⟨nf, hnf⟩ : ∃ nf, fs.length = nf := ⟨_, rfl⟩
 have HNF := Lib.hid hnf
 rw [hnf]
 obtain ⟨⟨gb, gl, gy, gn, gs, gr⟩, cs, fs0, ops, cuts, rej, off, shk, a, b⟩ := c
 obtain ⟨ncs, hncs⟩ : ∃ ncs, cs.length = ncs := ⟨_, rfl⟩
 have HNC := Lib.hid hncs
 obtain ⟨nf0, hnf0⟩ : ∃ nf0, fs0.length = nf0 := ⟨_, rfl⟩
 have hcv : chv ⟨⟨gb, gl, gy, gn, gs, gr⟩, cs, fs0, ops, cuts, rej, off, shk, a, b⟩ oc k of m = #[.int .i64 gb, .int .i64 gl, .int .i64 gy, .int .i64 gn, .int .i64 gs, .int .i64 gr, .slice oc ncs k, .slice of nf0 m, .int .i64 ops, .int .i64 cuts, .int .i64 rej, .bool off, .bool shk, .int .i64 a, .int .i64 b] := by
  unfold chv; rw [← hncs, ← hnf0]
 rw [hcv]
 clear h hf hnf hncs hnf0 hcv
 go_enter Tryz.func17, Tryz.ntmps17
 go_wp2_with fail
 refine bodyPost_ret (results_cell_row (P := Tryz.prog) rfl _ _ (w.heap.size + 1) 32 _ (0, 0) _ rfl (blk_snd2 w _ _ _) Tryz.underlying32 rfl size_chip) rfl ⟨?_, ?_, below_two w _ _⟩
 ·unfold chv newCh
  simp only
  rw [HNF.out, HNC.out]
  rfl
 ·exact ⟨H.out.same, H.out.row.below (below_two w _ _), H.out.all.after (below_two w _ _), HF.out.below (below_two w _ _)⟩
/- Layer 10, the laws: the code's chip and the reference's, side by side. -/
def RF (c : ChS) (oc of : Option Addr) (L : List RC) (q : Nat) : Prop := Foot oc L q ∨ (c.fs ≠ [] ∧ ∃ a, of = some a ∧ q = a.block)
theorem RCh.lt {w : World} {c : ChS} {oc of : Option Addr} {L : List RC} (h : RCh w c oc of L) : ∀ q, RF c oc of L q → q < w.heap.size := by
 rintro q ((⟨hl, a, ha, rfl⟩ | ⟨x, hx, hq⟩) | ⟨hf, a, ha, rfl⟩)
 ·obtain ⟨b, off, h1, h2, _⟩ := h.row hl
  rw [ha] at h1
  obtain rfl := Option.some.inj h1
  exact h2
 ·have h1 := (h.all x hx).2.lt (h.all x hx).1
  rcases hq with rfl | rfl
  ·exact h1.1
  ·exact h1.2
 ·obtain ⟨b, off, h1, h2, _⟩ := h.fs hf
  rw [ha] at h1
  obtain rfl := Option.some.inj h1
  exact h2
theorem RCh.keep {w w' : World} {c : ChS} {oc of : Option Addr} {L : List RC} (h : RCh w c oc of L) (hk : ∀ q, RF c oc of L q → w'.heap[q]? = w.heap[q]?) : RCh w' c oc of L := by
 refine ⟨h.same, fun hl => ?_, fun x hx => ?_, fun hf => ?_⟩
 ·obtain ⟨b, off, h1, h2, h3⟩ := h.row hl
  have e := hk b (Or.inl (Or.inl ⟨hl, _, h1, rfl⟩))
  exact ⟨b, off, h1, size_of_keep h2 e, fun i hi j v hv => by rw [cell_of_heap e]; exact h3 i hi j v hv⟩
 ·exact ⟨(h.all x hx).1, (h.all x hx).2.keep (hk _ (Or.inl (Or.inr ⟨x, hx, Or.inl rfl⟩))) (hk _ (Or.inl (Or.inr ⟨x, hx, Or.inr rfl⟩)))⟩
 ·obtain ⟨b, off, h1, h2, h3⟩ := h.fs hf
  have e := hk b (Or.inr ⟨hf, _, h1, rfl⟩)
  exact ⟨b, off, h1, size_of_keep h2 e, fun i hi j v hv => by rw [cell_of_heap e]; exact h3 i hi j v hv⟩
structure PC2 (w0 : World) (D o : Nat) (F : Nat → Prop) (x c : ChS) (oc of : Option Addr) (k m : Nat) (L : List RC) (w : World) : Prop where
 one : EC w0 o F x w
 blk : Blk w D (chv c oc k of m) 32
 ref : RCh w c oc of L
 low : w0.heap.size ≤ D
 nD : ¬ F D
 apart : ∀ q, RF c oc of L q → ¬ F q ∧ q ≠ D
theorem PC2.after {w0 w w' : World} {D o : Nat} {F : Nat → Prop} {x c : ChS} {oc of : Option Addr} {k m : Nat} {L : List RC} (h : PC2 w0 D o F x c oc of k m L w) (hb : Below w.heap.size w w') : PC2 w0 D o F x c oc of k m L w' :=
 ⟨h.one.after hb, h.blk.after hb, h.ref.after hb, h.low, h.nD, h.apart⟩
theorem PC2.act1 {w0 w w' : World} {D o : Nat} {F F' : Nat → Prop} {x x' c : ChS} {oc of : Option Addr} {k m : Nat} {L : List RC} (h : PC2 w0 D o F x c oc of k m L w) (hc : ChAt w' o F' x') (hg : Grows F F' w) (ho : Only F w w') : PC2 w0 D o F' x' c oc of k m L w' :=
 ⟨h.one.act hc hg ho, h.blk.only ho h.nD, h.ref.keep fun q hq => ho.block q (h.ref.lt q hq) (h.apart q hq).1, h.low,
  fun hf => (hg D hf).elim h.nD (fun h1 => by have := h.blk.lt; omega),
  fun q hq => ⟨fun hf => (hg q hf).elim (h.apart q hq).1 (fun h1 => by have := h.ref.lt q hq; omega), (h.apart q hq).2⟩⟩
theorem PC2.act2 {w0 w w' : World} {D o : Nat} {F : Nat → Prop} {x c c' : ChS} {oc of oc' of' : Option Addr} {k m k' m' : Nat} {L L' : List RC} (h : PC2 w0 D o F x c oc of k m L w) (hr : RCh w' c' oc' of' L') (hb : Below w.heap.size w w')
  (hf : ∀ q, RF c' oc' of' L' q → RF c oc of L q ∨ w.heap.size ≤ q) : PC2 w0 D o F x c' oc' of' k' m' L' (w'.setRow D (chv c' oc' k' of' m')) := by
 have hD := h.blk.lt
 have hl := h.one.ch.lt
 refine ⟨⟨(h.one.ch.after hb).keep fun q hq => setRow_heap_ne _ _ _ _ (fun e => h.nD (e ▸ hq)), h.one.new, below_put h.low _ (h.one.low.trans (hb.mono h.one.low.size))⟩, (h.blk.after hb).put _, hr.keep fun q hq => setRow_heap_ne _ _ _ _ ?_, h.low, h.nD, fun q hq => ?_⟩
 ·exact (hf q hq).elim (fun h1 => Ne.symm (h.apart q h1).2) (fun h1 => by omega)
 ·exact (hf q hq).elim (h.apart q) (fun h1 => ⟨fun h2 => by have := hl q h2; omega, by omega⟩)
theorem RF.same {c c' : ChS} {oc oc' of : Option Addr} {L L' : List RC} {B : Nat} (hf : c'.fs = c.fs) (h : ∀ q, Foot oc' L' q → Foot oc L q ∨ B ≤ q) : ∀ q, RF c' oc' of L' q → RF c oc of L q ∨ B ≤ q := by
 rintro q (h1 | ⟨h1, h2⟩)
 ·exact (h q h1).imp Or.inl id
 ·exact Or.inl (Or.inr ⟨by rw [← hf]; exact h1, h2⟩)
theorem PC2.cell {w0 w : World} {D o : Nat} {F : Nat → Prop} {x c c' : ChS} {oc of : Option Addr} {k m : Nat} {L : List RC} (h : PC2 w0 D o F x c oc of k m L w) (i : Nat) (v : Value) (h1 : c'.cs = c.cs) (h2 : c'.fs = c.fs)
  (he : (chv c oc k of m).setIfInBounds i v = chv c' oc k of m) : PC2 w0 D o F x c' oc of k m L (w.setCell ⟨D, i, none⟩ v) := by
 have hk : ∀ q, q ≠ D → (w.setCell ⟨D, i, none⟩ v).heap[q]? = w.heap[q]? := fun q hq => Below.heap_setCell _ _ _ _ hq
 have hrf : ∀ q, RF c' oc of L q → RF c oc of L q := fun q hq => hq.imp id (fun hq => ⟨by rw [← h2]; exact hq.1, hq.2⟩)
 exact ⟨⟨h.one.ch.keep fun q hq => hk q (fun e => h.nD (e ▸ hq)), h.one.new, h.one.low.setCell h.low _⟩, h.blk.set i v he,
  (h.ref.of h1 h2).keep fun q hq => hk q (h.apart q (hrf q hq)).2, h.low, h.nD, fun q hq => h.apart q (hrf q hq)⟩
theorem PC2.copy {w0 w w' : World} {D o o' : Nat} {F F' : Nat → Prop} {x x' c : ChS} {oc of : Option Addr} {k m : Nat} {L : List RC} (h : PC2 w0 D o F x c oc of k m L w) (hc : ChAt w' o' F' x') (hn : ∀ q, F' q → w.heap.size ≤ q) (hb : Below w.heap.size w w') : PC2 w0 D o' F' x' c oc of k m L w' :=
 ⟨⟨hc, fun q hq => Nat.le_trans h.one.low.size (hn q hq), h.one.low.trans (hb.mono h.one.low.size)⟩, h.blk.after hb, h.ref.after hb, h.low,
  fun hf => by have h1 := hn D hf; have h2 := h.blk.lt; omega, fun q hq => ⟨fun hf => by have h1 := hn q hf; have h2 := h.ref.lt q hq; omega, (h.apart q hq).2⟩⟩
theorem doSt_same (c : ChS) (op block line : Int) (p q r : ByteArray) : (doSt c op block line p q r).fs = c.fs ∧ (doSt c op block line p q r).cs.length = c.cs.length := by
 unfold doSt
 split
 ·exact ⟨rfl, rfl⟩
 ·split
  ·rw [(endCh_same _ _).2.1, (endCh_same _ _).1]; exact ⟨rfl, by simp [setCh, opsCh]⟩
  ·rw [(endCh_same _ _).2.1, (endCh_same _ _).1]; exact ⟨rfl, rfl⟩
theorem rdSt_same (c : ChS) (block line part : Int) : (rdSt c block line part).fs = c.fs ∧ (rdSt c block line part).cs.length = c.cs.length := by
 unfold rdSt
 split
 ·exact ⟨rfl, rfl⟩
 ·split
  ·split
   ·rw [(endCh_same _ _).2.1, (endCh_same _ _).1]; exact ⟨rfl, rfl⟩
   ·exact ⟨rfl, rfl⟩
  ·rw [(endCh_same _ _).2.1, (endCh_same _ _).1]; exact ⟨rfl, rfl⟩
theorem newCh_wf {c : ChS} {i : Nat} (h : WfCh i c) (fs : List Fa) (hf : fs.length ≤ maxLen) : WfCh i (newCh c.G c.cs fs) := ⟨h.cells, Nat.zero_le _, Nat.zero_le _, Nat.zero_le _, h.many, hf⟩
theorem onCh_wf {c : ChS} {i : Nat} (h : WfCh i c) : WfCh i (onCh c) := ⟨h.cells, h.ops, h.cuts, h.rej, h.many, h.fs⟩
theorem shkCh_wf {c : ChS} {i : Nat} (h : WfCh i c) (a b : Int) : WfCh i (shkCh c a b) := ⟨h.cells, h.ops, h.cuts, h.rej, h.many, h.fs⟩
theorem PC2.start {w0 w2 : World} {o : Nat} {F : Nat → Prop} {x : ChS} {oc of : Option Addr} {k m : Nat} {L : List RC} (h : EC w0 o F x w2) (hr : RCh w2 x oc of L) (hap : ∀ q, RF x oc of L q → ¬ F q) (z : Array Value) :
  PC2 w0 w2.heap.size o F x x oc of k m L ((w2.alloc (.cells z 32)).setRow w2.heap.size (chv x oc k of m)) := by
 have hb : Below w2.heap.size w2 (w2.alloc (.cells z 32)) := (Below.refl _ _).alloc (Nat.le_refl _) _
 have hl := h.ch.lt
 have hr2 := hr.lt
 exact ⟨⟨(h.ch.after hb).keep fun q hq => setRow_heap_ne _ _ _ _ (by have := hl q hq; omega), h.new, below_put h.low.size _ (h.low.trans (hb.mono h.low.size))⟩, (Blk.new w2 z _).put _,
  (hr.after hb).keep fun q hq => setRow_heap_ne _ _ _ _ (by have := hr2 q hq; omega), h.low.size, fun hf => by have := hl _ hf; omega, fun q hq => ⟨hap q hq, by have := hr2 q hq; omega⟩⟩
theorem rch_do' (c : ChS) (oc of : Option Addr) (k m : Nat) (l : List RC) (n : Nat) (hn : n ≤ 100000000) (hwf : WfCh n c) (op : Int) (hop : op = 2 ∨ op = 3 ∨ op = 4 ∨ op = 5) (block line : Int) (p q r : ByteArray) (w : World) (h : RCh w c oc of l) :
  Calls Tryz.prog 10 #[.agg (chv c oc k of m), .int .i64 op, .int .i64 block, .int .i64 line, .agg (tv3 p q r)] w fun e w' => ∃ oc' k' L', e = .returned (.tuple #[.agg (chv (doSt c op block line p q r) oc' k' of m), .int .i64 (doC c op block line p q r)]) ∧
   RCh w' (doSt c op block line p q r) oc' of L' ∧ (∀ q', RF (doSt c op block line p q r) oc' of L' q' → RF c oc of l q' ∨ w.heap.size ≤ q') ∧ Below w.heap.size w w' :=
 (rch_do c oc of k m l n hn hwf op hop block line p q r w h).mono fun _ _ ⟨⟨oc', k', L', h1, h2, h3⟩, h4⟩ => ⟨oc', k', L', h1, h2, RF.same (doSt_same c op block line p q r).1 h3, h4⟩
def RoundS (w : World) (D i : Nat) (s7 : Value) (wr : World) : Prop :=
 ∃ o F c oc of k m L, s7 = .pointer (some ⟨o, 0, none⟩) ∧ PC2 w D o F c c oc of k m L wr ∧ WfCh i c ∧ c.cs.length ≤ 12
def RoundR (w : World) (D i : Nat) (s7 s13 s14 s15 s16 : Value) (wr : World) : Prop :=
 ∃ e t, s13 = .int .i64 e ∧ s14 = .int .i64 e ∧ s15 = .string t ∧ s16 = .string t ∧ RoundS w D i s7 wr
end Go.Proofs.YtalefbmoebobkaaGreatDoor
/- Layer 10, the laws: all that can be asked without an operation is alike. -/
namespace Go.Proofs.YtalefbmoebobkaaGreatDoor
set_option maxRecDepth 100000
open Go.RowKit Go.Shelf Go.Proofs
def vsAK (o b8 i : Nat) (bb : Bool) (mo sc tc : Int) : List (Option (Tmp × Value)) :=
 [some (48, .pointer (some ⟨o, 0, none⟩)), some (49, .int .i64 (i : Int)), some (50, .bool bb), some (51, .pointer (some ⟨b8, 4, none⟩)), some (52, .bool bb), some (53, .bool false), some (54, .bool false), some (55, .pointer (some ⟨o, 0, none⟩)), some (56, .int .i64 (i : Int)), some (57, .int .i64 mo), some (58, .pointer (some ⟨b8, 2, none⟩)), some (59, .int .i64 mo), some (60, .bool false), some (61, .bool false), some (62, .bool false), some (63, .int .i64 sc), some (64, .pointer (some ⟨b8, 6, none⟩)), some (65, .int .i64 sc), some (66, .bool false), some (67, .bool false), some (68, .bool false), some (69, .int .i64 tc), some (70, .pointer (some ⟨b8, 7, none⟩)), some (71, .int .i64 tc), some (72, .bool false), some (73, .bool false)]
def BaseAK (o b8 i : Nat) (sc tc : Int) (arr0 : Array Value) (a : Act) : Prop := ∃ u : Nat → Value, a = ⟨#[.pointer (some ⟨o, 0, none⟩), arr0.getD 1 undef, arr0.getD 2 undef, arr0.getD 3 undef, arr0.getD 4 undef, .int .i64 (i : Int), .int .i64 sc, .int .i64 tc, .pointer (some ⟨b8, 0, none⟩), arr0.getD 9 undef, arr0.getD 10 undef, arr0.getD 11 undef, arr0.getD 12 undef, arr0.getD 13 undef, arr0.getD 14 undef, arr0.getD 15 undef, arr0.getD 16 undef, arr0.getD 17 undef, arr0.getD 18 undef, arr0.getD 19 undef, arr0.getD 20 undef, arr0.getD 21 undef, arr0.getD 22 undef, arr0.getD 23 undef, arr0.getD 24 undef, arr0.getD 25 undef, arr0.getD 26 undef, arr0.getD 27 undef, arr0.getD 28 undef, arr0.getD 29 undef, arr0.getD 30 undef, arr0.getD 31 undef, arr0.getD 32 undef, arr0.getD 33 undef, arr0.getD 34 undef, arr0.getD 35 undef, arr0.getD 36 undef, arr0.getD 37 undef, arr0.getD 38 undef, arr0.getD 39 undef, arr0.getD 40 undef, arr0.getD 41 undef, arr0.getD 42 undef, arr0.getD 43 undef, arr0.getD 44 undef, arr0.getD 45 undef, arr0.getD 46 undef, arr0.getD 47 undef, u 48, u 49, u 50, u 51, u 52, u 53, u 54, u 55, u 56, u 57, u 58, u 59, u 60, u 61, u 62, u 63, u 64, u 65, u 66, u 67, u 68, u 69, u 70, u 71, u 72, u 73, arr0.getD 74 undef, arr0.getD 75 undef, arr0.getD 76 undef, arr0.getD 77 undef, arr0.getD 78 undef], []⟩
def vsAG (o bA : Nat) (g1 g2 g3 g4 g5 g6 : Int) : List (Option (Tmp × Value)) :=
 [some (74, .pointer (some ⟨o, 0, none⟩)), some (75, .agg #[.int .i64 g1, .int .i64 g2, .int .i64 g3, .int .i64 g4, .int .i64 g5, .int .i64 g6]), some (76, .pointer (some ⟨bA, 0, none⟩)), some (77, .agg #[.int .i64 g1, .int .i64 g2, .int .i64 g3, .int .i64 g4, .int .i64 g5, .int .i64 g6]), some (78, .bool true), some (4, .bool true)]
def BaseAG (o bA : Nat) (a : Act) : Prop := ∃ u : Nat → Value, a = ⟨#[.pointer (some ⟨o, 0, none⟩), u 1, u 2, .pointer (some ⟨bA, 0, none⟩), u 4, u 5, u 6, u 7, u 8, u 9, u 10, u 11, u 12, u 13, u 14, u 15, u 16, u 17, u 18, u 19, u 20, u 21, u 22, u 23, u 24, u 25, u 26, u 27, u 28, u 29, u 30, u 31, u 32, u 33, u 34, u 35, u 36, u 37, u 38, u 39, u 40, u 41, u 42, u 43, u 44, u 45, u 46, u 47, u 48, u 49, u 50, u 51, u 52, u 53, u 54, u 55, u 56, u 57, u 58, u 59, u 60, u 61, u 62, u 63, u 64, u 65, u 66, u 67, u 68, u 69, u 70, u 71, u 72, u 73, u 74, u 75, u 76, u 77, u 78], []⟩
set_option maxHeartbeats 8000000 in
theorem walk_alike (o : Nat) (F : Nat → Prop) (c : ChS) (oc of : Option Addr) (k m : Nat) (l : List RC) (n : Nat) (hwf : WfCh n c) (w : World) (h : ChAt w o F c) (hr : RCh w c oc of l) :
  Calls Tryz.prog 22 #[.pointer (some ⟨o, 0, none⟩), .agg (chv c oc k of m)] w fun e w' => e = .returned (.bool true) ∧ Below w.heap.size w w' := by
 obtain ⟨W, hW⟩ : ∃ W, w.alloc (.cells (chv c oc k of m) 32) = W := ⟨_, rfl⟩
 have hcb : Blk W w.heap.size (chv c oc k of m) 32 := by rw [← hW]; exact Blk.new _ _ _
 have hbw : Below w.heap.size w W := by rw [← hW]; exact (Below.refl _ _).alloc (Nat.le_refl _) _
 have H := Lib.hid h
 have HR := Lib.hid hr
 have HWF := Lib.hid hwf
 have HCB := Lib.hid hcb
 have HBW := Lib.hid hbw
 obtain ⟨nc, hnc⟩ : ∃ nc, c.cs.length = nc := ⟨_, rfl⟩
 have HNC := Lib.hid hnc
 have hnc2 : nc ≤ 1000 := by have := HWF.out.many; omega
 have HWW := Lib.hid hW
 clear h hr hwf hcb hbw hnc hW
 go_enter Tryz.func22, Tryz.ntmps22
 go_wp2_with fail
 rw [HWW.out]
 go_loopw [5] (fun iv wr => ∃ x : Int, -1 ≤ x ∧ x ≤ (nc : Int) + 1 ∧ iv = .int .i64 x ∧ Hid (Below W.heap.size W wr)) (fun iv _ => ((nc : Int) + 1 - intOf iv).toNat)
 case atStart => exact ⟨-1, by omega, by omega, rfl, Below.refl _ _⟩
 case round =>
  obtain ⟨x, hx0, hx1, rfl, HB⟩ := hrel
  have HCr := Lib.hid (HCB.out.after HB.out)
  have c6 : wr.cell? ⟨w.heap.size, 6, none⟩ = some (.slice oc nc k) := by rw [HCr.out.cell 6, ← HNC.out]; rfl
  have HBr := Lib.hid (HBW.out.trans (HB.out.mono HBW.out.size))
  have HWC : Hid (WfCs c) := fun s hs => (HWF.out.cells s hs).1
  by_cases hlt : x ≤ (nc : Int)
  ·obtain ⟨sc, hsc⟩ : ∃ sc, slcCh c x = sc := ⟨_, rfl⟩
   obtain ⟨tc, htc⟩ : ∃ tc, tlcCh c x = tc := ⟨_, rfl⟩
   have hwear := ch_wear o F c x wr HWC.out (H.out.after HBr.out)
   rw [hsc, htc] at hwear
   have HWE := Lib.hid hwear
   clear hwear
   go_wp2_with fail
   refine HWE.out.mono ?_
   rintro e wr2 ⟨rfl, hb2⟩
   have HC2 := Lib.hid (HCr.out.after hb2)
   have HB2 := Lib.hid (HB.out.trans (hb2.mono HB.out.size))
   clear HWE hb2 HCr HBr HB c6
   go_wp2_with (refine wpList_load_row rfl 32 (.tmp 3) rfl w.heap.size rfl 32 (chv c oc k of m) (0, 0) _ HC2.out Tryz.underlying32 rfl size_chip ?_)
   refine (rch_has c oc of k m x wr2).mono ?_
   rintro e wr3 ⟨rfl, hb3⟩
   have HC3 := Lib.hid (HC2.out.after hb3)
   have HB3 := Lib.hid (HB2.out.trans (hb3.mono HB2.out.size))
   have HA3 := Lib.hid (H.out.after (HBW.out.trans (HB3.out.mono HBW.out.size)))
   clear hb3 HC2 HB2
   by_cases hx : chHas c x
   ·rw [decide_eq_true hx]
    obtain ⟨i, hi⟩ : ∃ i : Nat, x = i := ⟨x.toNat, by have h1 := hx.1; omega⟩
    subst hi
    have hil : i < l.length := by rw [HR.out.len]; have h1 := hx.2; exact Int.ofNat_lt.1 h1
    have hin : (i : Int) < (nc : Int) := by have h1 := hx.2; rw [HNC.out] at h1; exact h1
    obtain ⟨B, off, hoc, hBl, hrow⟩ := HR.out.row (by intro h0; rw [h0] at hil; exact absurd hil (Nat.not_lt_zero _))
    subst hoc
    obtain ⟨y, hy⟩ : ∃ y, l[i] = y := ⟨_, rfl⟩
    have hry := hrow i hil
    rw [hy] at hry
    have hcell : cellOf c (i : Nat) = y.s := by
     unfold cellOf
     rw [Int.toNat_natCast, List.getD_eq_getElem?_getD, ← HR.out.same, List.getElem?_map, List.getElem?_eq_getElem hil, hy]; rfl
    have HRY : Hid (wr3.rangeAt B (off + i * 10) [.int .i64 (y.s.L : Nat), .int .i64 (y.s.Y : Nat), .int .i64 y.s.mode, .int .i64 (y.s.done : Nat), .bool y.s.bad, .bool y.s.torn, .int .i64 (y.s.slc : Nat), .int .i64 (y.s.tlc : Nat), .slice (some ⟨y.g, 0, none⟩) (3 * y.s.L) y.c, .slice (some ⟨y.h, 0, none⟩) (3 * y.s.L) y.d]) := fun j v hj => by
     rw [World.cell?_of_block (w := w) ((HBW.out.trans (HB3.out.mono HBW.out.size)).block B hBl)]; exact hry j v hj
    have c6 : wr3.cell? ⟨w.heap.size, 6, none⟩ = some (.slice (some ⟨B, off, none⟩) nc k) := by rw [HC3.out.cell 6, ← HNC.out]; rfl
    have hs1 : sc = (y.s.slc : Nat) := by rw [← hsc]; unfold slcCh; rw [if_pos hx, hcell]
    have ht1 : tc = (y.s.tlc : Nat) := by rw [← htc]; unfold tlcCh; rw [if_pos hx, hcell]
    have hb1 : badCh c (i : Nat) = y.s.bad := by unfold badCh; rw [if_pos hx, hcell]
    have hm1 : modeCh c (i : Nat) = y.s.mode := by unfold modeCh; rw [if_pos hx, hcell]
    obtain ⟨bb, hbb⟩ : ∃ bb, y.s.bad = bb := ⟨_, rfl⟩
    obtain ⟨mo, hmo⟩ : ∃ mo, y.s.mode = mo := ⟨_, rfl⟩
    rw [hbb] at hb1
    rw [hmo] at hm1
    obtain ⟨wr6, hw6⟩ : ∃ wr6, wr3.alloc (.cells #[.int .i64 (y.s.L : Nat), .int .i64 (y.s.Y : Nat), .int .i64 y.s.mode, .int .i64 (y.s.done : Nat), .bool y.s.bad, .bool y.s.torn, .int .i64 (y.s.slc : Nat), .int .i64 (y.s.tlc : Nat), .slice (some ⟨y.g, 0, none⟩) (3 * y.s.L) y.c, .slice (some ⟨y.h, 0, none⟩) (3 * y.s.L) y.d] 66) = wr6 := ⟨_, rfl⟩
    have hyb : Blk wr6 wr3.heap.size #[.int .i64 (y.s.L : Nat), .int .i64 (y.s.Y : Nat), .int .i64 y.s.mode, .int .i64 (y.s.done : Nat), .bool y.s.bad, .bool y.s.torn, .int .i64 (y.s.slc : Nat), .int .i64 (y.s.tlc : Nat), .slice (some ⟨y.g, 0, none⟩) (3 * y.s.L) y.c, .slice (some ⟨y.h, 0, none⟩) (3 * y.s.L) y.d] 66 := by rw [← hw6]; exact Blk.new _ _ _
    have hb36 : Below wr3.heap.size wr3 wr6 := by rw [← hw6]; exact (Below.refl _ _).alloc (Nat.le_refl _) _
    have hA6 := HA3.out.after hb36
    have HBD : Hid (∀ w', Below wr6.heap.size wr6 w' → Calls Tryz.prog 56 #[.pointer (some ⟨o, 0, none⟩), .int .i64 (i : Int)] w' fun e w2 => e = .returned (.bool bb) ∧ w' = w2) := fun w' hb => by
     rw [← hb1]; exact ch_bad o F c (i : Nat) w' HWC.out (hA6.after hb)
    have HMO : Hid (∀ w', Below wr6.heap.size wr6 w' → Calls Tryz.prog 57 #[.pointer (some ⟨o, 0, none⟩), .int .i64 (i : Int)] w' fun e w2 => e = .returned (.int .i64 mo) ∧ w' = w2) := fun w' hb => by
     rw [← hm1]; exact ch_mode o F c (i : Nat) w' HWC.out (hA6.after hb)
    have HK4 : Hid (∀ w', Below wr6.heap.size wr6 w' → w'.cell? ⟨wr3.heap.size, 4, none⟩ = some (.bool bb)) := fun w' hb => by rw [← hbb]; exact (hyb.after hb).cell 4
    have HK2 : Hid (∀ w', Below wr6.heap.size wr6 w' → w'.cell? ⟨wr3.heap.size, 2, none⟩ = some (.int .i64 mo)) := fun w' hb => by rw [← hmo]; exact (hyb.after hb).cell 2
    have HK6 : Hid (∀ w', Below wr6.heap.size wr6 w' → w'.cell? ⟨wr3.heap.size, 6, none⟩ = some (.int .i64 sc)) := fun w' hb => by rw [hs1]; exact (hyb.after hb).cell 6
    have HK7 : Hid (∀ w', Below wr6.heap.size wr6 w' → w'.cell? ⟨wr3.heap.size, 7, none⟩ = some (.int .i64 tc)) := fun w' hb => by rw [ht1]; exact (hyb.after hb).cell 7
    have HB36 := Lib.hid hb36
    clear hsc htc hx hil hBl hrow hy hry hcell hs1 ht1 hb1 hm1 hbb hmo hyb hb36 hA6
    go_wp2_with (refine wpList_load_mid rfl 66 (.tmp 46) rfl B (off + i * 10) rfl [.int .i64 (y.s.L : Nat), .int .i64 (y.s.Y : Nat), .int .i64 y.s.mode, .int .i64 (y.s.done : Nat), .bool y.s.bad, .bool y.s.torn, .int .i64 (y.s.slc : Nat), .int .i64 (y.s.tlc : Nat), .slice (some ⟨y.g, 0, none⟩) (3 * y.s.L) y.c, .slice (some ⟨y.h, 0, none⟩) (3 * y.s.L) y.d] _ HRY.out Tryz.underlying66 rfl size_cell ?_)
    clear hw6 c6 HRY
    rename_i K0 hK0
    generalize hA : (⟨_, _⟩ : Act) = A
    have HA := Lib.hid hA
    have HBT : Hid (BaseAK o wr3.heap.size i sc tc A.tmps A) := by
     show BaseAK _ _ _ _ _ _ _
     rw [← hA]
     exact fr_of _ (by kernel_rfl)
    clear hA
    refine wp_region_list3 (SV (vsAK o wr3.heap.size i bb mo sc tc) []) (BaseAK o wr3.heap.size i sc tc A.tmps) (fun w' => Below wr6.heap.size wr6 w') (fun w1 w2 => Below w1.heap.size w1 w2) (RV (vsAK o wr3.heap.size i bb mo sc tc) (fun _ _ _ => False)) rfl (by kernel_rfl) (RV.ext no_specialF) ?_ ((Below.refl _ _).drew) HBT.out ?_ ?_
    ·exact ⟨fr_put 48 fun _ _ => by kernel_rfl, fr_put 49 fun _ _ => by kernel_rfl, fr_put 50 fun _ _ => by kernel_rfl, fr_put 51 fun _ _ => by kernel_rfl, fr_put 52 fun _ _ => by kernel_rfl, fr_put 53 fun _ _ => by kernel_rfl, fr_put 54 fun _ _ => by kernel_rfl, fr_put 55 fun _ _ => by kernel_rfl, fr_put 56 fun _ _ => by kernel_rfl, fr_put 57 fun _ _ => by kernel_rfl, fr_put 58 fun _ _ => by kernel_rfl, fr_put 59 fun _ _ => by kernel_rfl, fr_put 60 fun _ _ => by kernel_rfl, fr_put 61 fun _ _ => by kernel_rfl, fr_put 62 fun _ _ => by kernel_rfl, fr_put 63 fun _ _ => by kernel_rfl, fr_put 64 fun _ _ => by kernel_rfl, fr_put 65 fun _ _ => by kernel_rfl, fr_put 66 fun _ _ => by kernel_rfl, fr_put 67 fun _ _ => by kernel_rfl, fr_put 68 fun _ _ => by kernel_rfl, fr_put 69 fun _ _ => by kernel_rfl, fr_put 70 fun _ _ => by kernel_rfl, fr_put 71 fun _ _ => by kernel_rfl, fr_put 72 fun _ _ => by kernel_rfl, fr_put 73 fun _ _ => by kernel_rfl, trivial⟩
    ·refine ⟨?_, ?_, ?_, ?_, ?_, ?_, ?_, ?_, ?_, ?_, ?_, ?_, ?_, ?_, ?_, ?_, ?_, ?_, ?_, ?_, ?_, ?_, ?_, ?_, ?_, ?_, trivial⟩
     all_goals
      intro a w' hC hB hR
      obtain ⟨u, rfl⟩ := hB
      have HC := Lib.hid hC
      clear hC; clear hK0
     ·clear hR; refine if_yes (by kernel_rfl) ?_; unfold Oper.wp; go_simp; exact ⟨.pointer (some ⟨o, 0, none⟩), rfl, HC.out, Below.refl _ _, rfl⟩
     ·clear hR; refine if_yes (by kernel_rfl) ?_; unfold Oper.wp; go_simp; exact ⟨.int .i64 (i : Int), rfl, HC.out, Below.refl _ _, rfl⟩
     ·have h48 : u 48 = .pointer (some ⟨o, 0, none⟩) := hR ⟨0, .data⟩ (by simp) rfl; have h49 : u 49 = .int .i64 (i : Int) := hR ⟨1, .data⟩ (by simp) rfl; clear hR; simp only [h48, h49]; refine if_yes (by kernel_rfl) ?_; unfold Oper.wp; go_simp
      refine (HBD.out _ HC.out).mono ?_
      rintro e w2' ⟨rfl, rfl⟩
      exact ⟨.bool bb, rfl, HC.out, Below.refl _ _, rfl⟩
     ·clear hR; refine if_yes (by kernel_rfl) ?_; unfold Oper.wp; go_simp; exact ⟨.pointer (some ⟨wr3.heap.size, 4, none⟩), rfl, HC.out, Below.refl _ _, rfl⟩
     ·have h51 : u 51 = .pointer (some ⟨wr3.heap.size, 4, none⟩) := hR ⟨3, .data⟩ (by simp) rfl
      have hc : w'.cell? ⟨wr3.heap.size, 4, none⟩ = some (.bool bb) := HK4.out w' HC.out
      clear hR; simp only [h51]; refine if_yes (by kernel_rfl) ?_; unfold Oper.wp; go_simp; exact ⟨.bool bb, rfl, HC.out, Below.refl _ _, rfl⟩
     ·have h50 : u 50 = .bool bb := hR ⟨2, .data⟩ (by simp) rfl; have h52 : u 52 = .bool bb := hR ⟨4, .data⟩ (by simp) rfl; clear hR; simp only [h50, h52]; refine if_yes (by kernel_rfl) ?_; unfold Oper.wp; go_simp; exact ⟨.bool false, rfl, HC.out, Below.refl _ _, rfl⟩
     ·have h53 : u 53 = .bool false := hR ⟨5, .data⟩ (by simp) rfl; clear hR; simp only [h53]; refine if_yes (by kernel_rfl) ?_; unfold Oper.wp; go_simp; exact ⟨.bool false, rfl, HC.out, Below.refl _ _, rfl⟩
     ·have g54 : u 54 = .bool false := hR ⟨6, .guard⟩ (by simp) rfl; clear hR; simp only [g54]; refine if_yes (by kernel_rfl) ?_; unfold Oper.wp; go_simp; exact ⟨.pointer (some ⟨o, 0, none⟩), rfl, HC.out, Below.refl _ _, rfl⟩
     ·have g54 : u 54 = .bool false := hR ⟨6, .guard⟩ (by simp) rfl; clear hR; simp only [g54]; refine if_yes (by kernel_rfl) ?_; unfold Oper.wp; go_simp; exact ⟨.int .i64 (i : Int), rfl, HC.out, Below.refl _ _, rfl⟩
     ·have g54 : u 54 = .bool false := hR ⟨6, .guard⟩ (by simp) rfl; have h55 : u 55 = .pointer (some ⟨o, 0, none⟩) := hR ⟨7, .data⟩ (by simp) rfl; have h56 : u 56 = .int .i64 (i : Int) := hR ⟨8, .data⟩ (by simp) rfl; clear hR; simp only [g54, h55, h56]; refine if_yes (by kernel_rfl) ?_; unfold Oper.wp; go_simp
      refine (HMO.out _ HC.out).mono ?_
      rintro e w2' ⟨rfl, rfl⟩
      exact ⟨.int .i64 mo, rfl, HC.out, Below.refl _ _, rfl⟩
     ·have g54 : u 54 = .bool false := hR ⟨6, .guard⟩ (by simp) rfl; clear hR; simp only [g54]; refine if_yes (by kernel_rfl) ?_; unfold Oper.wp; go_simp; exact ⟨.pointer (some ⟨wr3.heap.size, 2, none⟩), rfl, HC.out, Below.refl _ _, rfl⟩
     ·have g54 : u 54 = .bool false := hR ⟨6, .guard⟩ (by simp) rfl; have h58 : u 58 = .pointer (some ⟨wr3.heap.size, 2, none⟩) := hR ⟨10, .data⟩ (by simp) rfl
      have hc : w'.cell? ⟨wr3.heap.size, 2, none⟩ = some (.int .i64 mo) := HK2.out w' HC.out
      clear hR; simp only [g54, h58]; refine if_yes (by kernel_rfl) ?_; unfold Oper.wp; go_simp; exact ⟨.int .i64 mo, rfl, HC.out, Below.refl _ _, rfl⟩
     ·have g54 : u 54 = .bool false := hR ⟨6, .guard⟩ (by simp) rfl; have h57 : u 57 = .int .i64 mo := hR ⟨9, .data⟩ (by simp) rfl; have h59 : u 59 = .int .i64 mo := hR ⟨11, .data⟩ (by simp) rfl; clear hR; simp only [g54, h57, h59]; refine if_yes (by kernel_rfl) ?_; unfold Oper.wp; go_simp; exact ⟨.bool false, rfl, HC.out, Below.refl _ _, rfl⟩
     ·have h54 : u 54 = .bool false := hR ⟨6, .data⟩ (by simp) rfl; have h60 : u 60 = .bool false := hR ⟨12, .data⟩ (by simp) rfl; clear hR; simp only [h54, h60]; refine if_yes (by kernel_rfl) ?_; unfold Oper.wp; go_simp; exact ⟨.bool false, rfl, HC.out, Below.refl _ _, rfl⟩
     ·have h61 : u 61 = .bool false := hR ⟨13, .data⟩ (by simp) rfl; clear hR; simp only [h61]; refine if_yes (by kernel_rfl) ?_; unfold Oper.wp; go_simp; exact ⟨.bool false, rfl, HC.out, Below.refl _ _, rfl⟩
     ·have g62 : u 62 = .bool false := hR ⟨14, .guard⟩ (by simp) rfl; clear hR; simp only [g62]; refine if_yes (by kernel_rfl) ?_; unfold Oper.wp; go_simp; exact ⟨.int .i64 sc, rfl, HC.out, Below.refl _ _, rfl⟩
     ·have g62 : u 62 = .bool false := hR ⟨14, .guard⟩ (by simp) rfl; clear hR; simp only [g62]; refine if_yes (by kernel_rfl) ?_; unfold Oper.wp; go_simp; exact ⟨.pointer (some ⟨wr3.heap.size, 6, none⟩), rfl, HC.out, Below.refl _ _, rfl⟩
     ·have g62 : u 62 = .bool false := hR ⟨14, .guard⟩ (by simp) rfl; have h64 : u 64 = .pointer (some ⟨wr3.heap.size, 6, none⟩) := hR ⟨16, .data⟩ (by simp) rfl
      have hc : w'.cell? ⟨wr3.heap.size, 6, none⟩ = some (.int .i64 sc) := HK6.out w' HC.out
      clear hR; simp only [g62, h64]; refine if_yes (by kernel_rfl) ?_; unfold Oper.wp; go_simp; exact ⟨.int .i64 sc, rfl, HC.out, Below.refl _ _, rfl⟩
     ·have g62 : u 62 = .bool false := hR ⟨14, .guard⟩ (by simp) rfl; have h63 : u 63 = .int .i64 sc := hR ⟨15, .data⟩ (by simp) rfl; have h65 : u 65 = .int .i64 sc := hR ⟨17, .data⟩ (by simp) rfl; clear hR; simp only [g62, h63, h65]; refine if_yes (by kernel_rfl) ?_; unfold Oper.wp; go_simp; exact ⟨.bool false, rfl, HC.out, Below.refl _ _, rfl⟩
     ·have h62 : u 62 = .bool false := hR ⟨14, .data⟩ (by simp) rfl; have h66 : u 66 = .bool false := hR ⟨18, .data⟩ (by simp) rfl; clear hR; simp only [h62, h66]; refine if_yes (by kernel_rfl) ?_; unfold Oper.wp; go_simp; exact ⟨.bool false, rfl, HC.out, Below.refl _ _, rfl⟩
     ·have h67 : u 67 = .bool false := hR ⟨19, .data⟩ (by simp) rfl; clear hR; simp only [h67]; refine if_yes (by kernel_rfl) ?_; unfold Oper.wp; go_simp; exact ⟨.bool false, rfl, HC.out, Below.refl _ _, rfl⟩
     ·have g68 : u 68 = .bool false := hR ⟨20, .guard⟩ (by simp) rfl; clear hR; simp only [g68]; refine if_yes (by kernel_rfl) ?_; unfold Oper.wp; go_simp; exact ⟨.int .i64 tc, rfl, HC.out, Below.refl _ _, rfl⟩
     ·have g68 : u 68 = .bool false := hR ⟨20, .guard⟩ (by simp) rfl; clear hR; simp only [g68]; refine if_yes (by kernel_rfl) ?_; unfold Oper.wp; go_simp; exact ⟨.pointer (some ⟨wr3.heap.size, 7, none⟩), rfl, HC.out, Below.refl _ _, rfl⟩
     ·have g68 : u 68 = .bool false := hR ⟨20, .guard⟩ (by simp) rfl; have h70 : u 70 = .pointer (some ⟨wr3.heap.size, 7, none⟩) := hR ⟨22, .data⟩ (by simp) rfl
      have hc : w'.cell? ⟨wr3.heap.size, 7, none⟩ = some (.int .i64 tc) := HK7.out w' HC.out
      clear hR; simp only [g68, h70]; refine if_yes (by kernel_rfl) ?_; unfold Oper.wp; go_simp; exact ⟨.int .i64 tc, rfl, HC.out, Below.refl _ _, rfl⟩
     ·have g68 : u 68 = .bool false := hR ⟨20, .guard⟩ (by simp) rfl; have h69 : u 69 = .int .i64 tc := hR ⟨21, .data⟩ (by simp) rfl; have h71 : u 71 = .int .i64 tc := hR ⟨23, .data⟩ (by simp) rfl; clear hR; simp only [g68, h69, h71]; refine if_yes (by kernel_rfl) ?_; unfold Oper.wp; go_simp; exact ⟨.bool false, rfl, HC.out, Below.refl _ _, rfl⟩
     ·have h68 : u 68 = .bool false := hR ⟨20, .data⟩ (by simp) rfl; have h72 : u 72 = .bool false := hR ⟨24, .data⟩ (by simp) rfl; clear hR; simp only [h68, h72]; refine if_yes (by kernel_rfl) ?_; unfold Oper.wp; go_simp; exact ⟨.bool false, rfl, HC.out, Below.refl _ _, rfl⟩
    ·intro a' w7 hC hB hR
     have h73 := hR 25 (by decide)
     obtain ⟨u, rfl⟩ := hB
     have h73 : u 73 = .bool false := h73
     simp only [h73]
     have HB7 : Hid (Below W.heap.size W w7) := (HB3.out.trans (HB36.out.mono HB3.out.size)).trans (hC.mono (Nat.le_trans HB3.out.size HB36.out.size))
     clear hR h73 hC
     rw [← HA.out]
     clear HA HBT
     go_wp2_with fail
     go_roundw
     case rel =>
      first
       | omega
       | exact ⟨(i : Int) + 1, by omega, by omega, by go_num, HB7⟩
       | exact ⟨by omega, by omega, HB7⟩
     case measure => simp [intOf]; omega
   ·rw [decide_eq_false hx]
    have hs0 : sc = 0 := by rw [← hsc]; unfold slcCh; rw [if_neg hx]
    have ht0 : tc = 0 := by rw [← htc]; unfold tlcCh; rw [if_neg hx]
    have hb0 : badCh c x = false := by unfold badCh; rw [if_neg hx]
    have hm0 : modeCh c x = 0 := by unfold modeCh; rw [if_neg hx]
    subst hs0
    subst ht0
    have HB0 := Lib.hid hb0
    have HM0 := Lib.hid hm0
    clear hsc htc hb0 hm0 hx
    go_wp2_with fail
    refine (ch_bad o F c x wr3 HWC.out HA3.out).mono ?_
    rintro e w4 ⟨rfl, rfl⟩
    rw [HB0.out]
    go_wp2_with fail
    refine (ch_mode o F c x wr3 HWC.out HA3.out).mono ?_
    rintro e w4 ⟨rfl, rfl⟩
    rw [HM0.out]
    go_wp2_with fail
    go_roundw
    case rel => exact ⟨x + 1, by omega, by omega, by go_num, HB3⟩
    case measure => simp [intOf]; omega
  ·go_wp2_with fail
   obtain ⟨⟨g1, g2, g3, g4, g5, g6⟩, hG⟩ : ∃ G : Gm, c.G = G := ⟨_, rfl⟩
   have HGE : Hid (∀ w', Below wr.heap.size wr w' → Calls Tryz.prog 58 #[.pointer (some ⟨o, 0, none⟩)] w' fun e w2 => e = .returned (.agg #[.int .i64 g1, .int .i64 g2, .int .i64 g3, .int .i64 g4, .int .i64 g5, .int .i64 g6]) ∧ Below w'.heap.size w' w2) := fun w' hb => by
    have h1 := ch_geo o F c w' ((H.out.after HBr.out).after hb)
    rw [hG] at h1
    exact h1
   have HGR : Hid (∀ w', Below wr.heap.size wr w' → w'.rangeAt w.heap.size 0 [.int .i64 g1, .int .i64 g2, .int .i64 g3, .int .i64 g4, .int .i64 g5, .int .i64 g6]) := fun w' hb => blk_rng (HCr.out.after hb) 0 _ (fun j u hu => by
    have hj : j < 6 := (List.getElem?_eq_some_iff.1 hu).1
    have h2 : (chv c oc k of m)[0 + j]? = (#[.int .i64 c.G.b, .int .i64 c.G.l, .int .i64 c.G.y, .int .i64 c.G.n, .int .i64 c.G.s, .int .i64 c.G.r] : Array Value)[j]? := by
     obtain rfl | rfl | rfl | rfl | rfl | rfl : j = 0 ∨ j = 1 ∨ j = 2 ∨ j = 3 ∨ j = 4 ∨ j = 5 := by omega
     all_goals rfl
    rw [h2, hG]
    simpa using hu)
   clear hG c6
   rename_i K0 hK0
   refine wp_region_list3 (SV (vsAG o w.heap.size g1 g2 g3 g4 g5 g6) []) (BaseAG o w.heap.size) (fun w' => Below wr.heap.size wr w') (fun w1 w2 => Below w1.heap.size w1 w2) (RV (vsAG o w.heap.size g1 g2 g3 g4 g5 g6) (fun _ _ _ => False)) rfl (by kernel_rfl) (RV.ext no_specialF) ?_ ((Below.refl _ _).drew) (fr_of _ (by kernel_rfl)) ?_ ?_
   ·exact ⟨fr_put 74 fun _ _ => by kernel_rfl, fr_put 75 fun _ _ => by kernel_rfl, fr_put 76 fun _ _ => by kernel_rfl, fr_put 77 fun _ _ => by kernel_rfl, fr_put 78 fun _ _ => by kernel_rfl, fr_put 4 fun _ _ => by kernel_rfl, trivial⟩
   ·refine ⟨?_, ?_, ?_, ?_, ?_, ?_, trivial⟩
    all_goals
     intro a w' hC hB hR
     obtain ⟨u, rfl⟩ := hB
     have HC := Lib.hid hC
     clear hC; clear hK0
    ·clear hR; refine if_yes (by kernel_rfl) ?_; unfold Oper.wp; go_simp; exact ⟨.pointer (some ⟨o, 0, none⟩), rfl, HC.out, Below.refl _ _, rfl⟩
    ·have h74 : u 74 = .pointer (some ⟨o, 0, none⟩) := hR ⟨0, .data⟩ (by simp) rfl; clear hR; simp only [h74]; refine if_yes (by kernel_rfl) ?_; unfold Oper.wp; go_simp
     refine (HGE.out _ HC.out).mono ?_
     rintro e w2' ⟨rfl, hb2⟩
     exact ⟨.agg #[.int .i64 g1, .int .i64 g2, .int .i64 g3, .int .i64 g4, .int .i64 g5, .int .i64 g6], rfl, HC.out.trans (hb2.mono HC.out.size), hb2, rfl⟩
    ·clear hR; refine if_yes (by kernel_rfl) ?_; unfold Oper.wp; go_simp; exact ⟨.pointer (some ⟨w.heap.size, 0, none⟩), rfl, HC.out, Below.refl _ _, rfl⟩
    ·have h76 : u 76 = .pointer (some ⟨w.heap.size, 0, none⟩) := hR ⟨2, .data⟩ (by simp) rfl; clear hR; simp only [h76]; refine if_yes (by kernel_rfl) ?_
     exact wp_load_mid 23 (.tmp 76) rfl w.heap.size 0 rfl [.int .i64 g1, .int .i64 g2, .int .i64 g3, .int .i64 g4, .int .i64 g5, .int .i64 g6] _ (HGR.out _ HC.out) Tryz.underlying23 rfl size_geoC ⟨.agg #[.int .i64 g1, .int .i64 g2, .int .i64 g3, .int .i64 g4, .int .i64 g5, .int .i64 g6], rfl, HC.out, Below.refl _ _, rfl⟩
    ·have h75 : u 75 = .agg #[.int .i64 g1, .int .i64 g2, .int .i64 g3, .int .i64 g4, .int .i64 g5, .int .i64 g6] := hR ⟨1, .data⟩ (by simp) rfl; have h77 : u 77 = .agg #[.int .i64 g1, .int .i64 g2, .int .i64 g3, .int .i64 g4, .int .i64 g5, .int .i64 g6] := hR ⟨3, .data⟩ (by simp) rfl; clear hR; simp only [h75, h77]; refine if_yes (by kernel_rfl) ?_; unfold Oper.wp; go_simp; exact ⟨.bool true, rfl, HC.out, Below.refl _ _, rfl⟩
    ·have h78 : u 78 = .bool true := hR ⟨4, .data⟩ (by simp) rfl; clear hR; simp only [h78]; refine if_yes (by kernel_rfl) ?_; unfold Oper.wp; go_simp; exact ⟨.bool true, rfl, HC.out, Below.refl _ _, rfl⟩
   ·intro a' w7 hC hB hR
    have h4 := hR 5 (by decide)
    obtain ⟨u, rfl⟩ := hB
    have h4 : u 4 = .bool true := h4
    simp only [h4]; clear hR h4
    have HB7 : Hid (Below w.heap.size w w7) := HBr.out.trans (hC.mono HBr.out.size)
    clear hC
    go_wp2_with fail
    go_ret
    exact ⟨rfl, HB7.out⟩
end Go.Proofs.YtalefbmoebobkaaGreatDoor
