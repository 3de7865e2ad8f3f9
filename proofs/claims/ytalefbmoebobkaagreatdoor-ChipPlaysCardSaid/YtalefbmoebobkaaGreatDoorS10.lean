/- Texts of one claim, merged: ChC3, ChC4, ChC5, ChC6, ChC7, ChC8, ChC9, ChF. -/
import Derived.Test.YtalefbmoebobkaaGreatDoorS9
import Derived.Test.YtalefbmoebobkaaGreatDoorS6
import Derived.Test.YtalefbmoebobkaaGreatDoorS4
import Derived.Defers
import Derived.RangeFuncNested
/- Package chip, walked: told, count, due. -/
namespace Go.Proofs.YtalefbmoebobkaaGreatDoor
set_option maxRecDepth 100000
open Go.RowKit Go.Shelf Go.Proofs
def Fo (o : Nat) (k : Nat) : Prop := k = o
theorem ChipAt.chAt {w : World} {o gc kc : Nat} {oa : Option Addr} {R : List Fa} {ka : Nat} {x y : Int} {po : Nat → Nat} {Fc : Nat → Nat → Prop} {c : ChS} (h : ChipAt w o gc kc oa R ka x y po Fc c) : ChAt w o (FC o gc c.cs.length Fc oa R) c := ⟨gc, kc, oa, R, ka, x, y, po, Fc, rfl, h⟩
theorem ChipAt.own {w w' : World} {o gc kc : Nat} {oa : Option Addr} {R : List Fa} {ka : Nat} {x y x' y' : Int} {po : Nat → Nat} {Fc : Nat → Nat → Prop} {c c' : ChS} (h : ChipAt w o gc kc oa R ka x y po Fc c)
  (hb : Blk w' o (cch c' gc kc oa R.length ka x' y') 92) (ho : Only (Fo o) w w') (hc : c'.cs = c.cs) (hfs : c'.fs = c.fs) (hops : c.ops ≤ c'.ops) (hsh : c'.shk = true → x' = c'.a ∧ y' = c'.b) : ChipAt w' o gc kc oa R ka x' y' po Fc c' :=
 h.setBlk hb (fun k hk hn => ho.block k hk hn) hc h.fs h.srt h.len h.cap (fun t op ht => by rw [hfs]; exact h.same t op (by omega)) hsh
theorem Only.mono {F G : Nat → Prop} {w w' : World} (h : Only F w w') (hF : ∀ k, F k → G k) : Only G w w' := ⟨h.os, h.tape, h.output, h.size, fun k hk hn => h.block k hk fun hf => hn (hF k hf)⟩
set_option maxHeartbeats 1000000 in
theorem ch_count0 (o gc kc : Nat) (oa : Option Addr) (R : List Fa) (ka : Nat) (x y : Int) (po : Nat → Nat) (Fc : Nat → Nat → Prop) (c : ChS) (e : Int) (w : World) (h : ChipAt w o gc kc oa R ka x y po Fc c) (h1 : c.rej ≤ 1000000000) (h2 : c.cuts ≤ 1000000000) :
  Calls Tryz.prog 73 #[.pointer (some ⟨o, 0, none⟩), .int .i64 e] w fun r w' => r = .returned (.tuple #[]) ∧ ChipAt w' o gc kc oa R ka x y po Fc (endCh c e) ∧ Only (Fo o) w w' := by
 have c9 : w.cell? ⟨o, 9, none⟩ = some (.int .i64 c.cuts) := h.blk.cell 9
 have c10 : w.cell? ⟨o, 10, none⟩ = some (.int .i64 c.rej) := h.blk.cell 10
 have c11 : w.cell? ⟨o, 11, none⟩ = some (.bool c.off) := h.blk.cell 11
 have f9 := h.blk.free 9
 have f10 := h.blk.free 10
 have f11 := h.blk.free 11
 have H := Lib.hid h
 clear h
 unfold endCh
 by_cases h80 : e = 80
 ·subst h80
  rw [if_pos rfl]
  go_enter Tryz.func73, Tryz.ntmps73
  go_wp2
  go_end0
  have hb : Blk (w.setCell ⟨o, 10, none⟩ (.int .i64 ((c.rej : Int) + 1))) o (cch { c with rej := c.rej + 1 } gc kc oa R.length ka x y) 92 := H.out.blk.set 10 _ rfl
  have ho : Only (Fo o) w (w.setCell ⟨o, 10, none⟩ (.int .i64 ((c.rej : Int) + 1))) := (Only.refl (Fo o) w).setCell ⟨o, 10, none⟩ _ (show Fo o o from rfl)
  exact ⟨rfl, H.out.own hb ho rfl rfl (Nat.le_refl _) H.out.shake, ho⟩
 ·have hb80 : ((e : Int) == 80) = false := by simpa using h80
  rw [if_neg h80]
  by_cases h82 : e = 82
  ·subst h82
   rw [if_pos rfl]
   clear h80
   go_enter Tryz.func73, Tryz.ntmps73
   go_wp2
   go_end0
   have hb : Blk ((w.setCell ⟨o, 9, none⟩ (.int .i64 ((c.cuts : Int) + 1))).setCell ⟨o, 11, none⟩ (.bool true)) o (cch { c with off := true, cuts := c.cuts + 1 } gc kc oa R.length ka x y) 92 := (H.out.blk.set 9 _ rfl).set 11 _ rfl
   have ho : Only (Fo o) w ((w.setCell ⟨o, 9, none⟩ (.int .i64 ((c.cuts : Int) + 1))).setCell ⟨o, 11, none⟩ (.bool true)) := ((Only.refl (Fo o) w).setCell ⟨o, 9, none⟩ _ (show Fo o o from rfl)).setCell ⟨o, 11, none⟩ _ (show Fo o o from rfl)
   exact ⟨rfl, H.out.own hb ho rfl rfl (Nat.le_refl _) H.out.shake, ho⟩
  ·have hb82 : ((e : Int) == 82) = false := by simpa using h82
   rw [if_neg h82]
   go_enter Tryz.func73, Tryz.ntmps73
   go_wp2
   go_end0
   exact ⟨rfl, H.out, Only.refl _ _⟩
def shv (s : Bool) (a b : Int) : List Value := [.bool s, .int .i64 a, .int .i64 b]
theorem shv_one (s : Bool) (a b : Int) : (shv s a b).toArray.all (·.oneCell') = true := by
 rw [Array.all_eq_true_iff_forall_mem]
 intro v hv
 simp [shv] at hv
 rcases hv with rfl | rfl | rfl <;> rfl
theorem size_shake : (Tryz.prog.info? 90).map (·.size) = some 3 := by kernel_rfl
theorem blk_setMid {w : World} {b : Nat} {cs ds : Array Value} {t : TypeId} (h : Blk w b cs t) (i : Nat) (u v x : Value) (he : ((cs.setIfInBounds i u).setIfInBounds (i + 1) v).setIfInBounds (i + 2) x = ds) : Blk (w.setCells b i [u, v, x]) b ds t := by
 have h3 := ((h.set i u rfl).set (i + 1) v rfl).set (i + 1 + 1) x rfl
 rw [← he]
 exact h3
set_option maxHeartbeats 2000000 in
theorem ch_told (o gc kc : Nat) (oa : Option Addr) (R : List Fa) (ka : Nat) (x y : Int) (po : Nat → Nat) (Fc : Nat → Nat → Prop) (c : ChS) (s : ByteArray) (w : World) (h : ChipAt w o gc kc oa R ka x y po Fc c) (hs : s.size ≤ 1000) :
  Calls Tryz.prog 34 #[.pointer (some ⟨o, 0, none⟩), .string s] w fun r w' => r = .returned (.string (shakeCh c s)) ∧ (∃ x' y', ChipAt w' o gc kc oa R ka x' y' po Fc (calmCh c)) ∧ Only (Fo o) w w' := by
 have c12 : w.cell? ⟨o, 12, none⟩ = some (.bool c.shk) := h.blk.cell 12
 have hr : w.rangeAt o 12 (shv c.shk x y) := blk_rng h.blk 12 _ (fun j v hv => by
  have hj : j < 3 := (List.getElem?_eq_some_iff.1 hv).1
  obtain rfl | rfl | rfl : j = 0 ∨ j = 1 ∨ j = 2 := by omega
  all_goals exact hv)
 have hsh := h.shake
 have H := Lib.hid h
 unfold shakeCh
 cases hk : c.shk with
 | false =>
  rw [hk] at c12
  have HK := Lib.hid hk
  rw [if_neg (by simp)]
  clear h hr hsh hk
  go_enter Tryz.func34, Tryz.ntmps34
  go_wp2
  go_ret
  refine ⟨rfl, ⟨x, y, ?_⟩, Only.refl _ _⟩
  have e : calmCh c = c := by
   have h2 := HK.out
   unfold calmCh
   obtain ⟨G, cs, fs, ops, cuts, rej, off, shk, a, b⟩ := c
   simp only at h2
   rw [h2]
  rw [e]; exact H.out
 | true =>
  rw [hk] at c12 hr
  rw [if_pos rfl, ← (hsh hk).1, ← (hsh hk).2]
  obtain ⟨w1, hw1⟩ : ∃ w1, (w.alloc (.cells (shv false 0 0).toArray 90)).setRow w.heap.size (shv true x y).toArray = w1 := ⟨_, rfl⟩
  have hz1 : Blk (w.alloc (.cells (shv false 0 0).toArray 90)) w.heap.size (shv false 0 0).toArray 90 := Blk.new w _ _
  have hk1 : Blk w1 w.heap.size (shv true x y).toArray 90 := by rw [← hw1]; exact hz1.put _
  have hb1 : Below w.heap.size w w1 := by rw [← hw1]; exact below_put (Nat.le_refl _) _ ((Below.refl _ _).alloc (Nat.le_refl _) _)
  have h1 := h.after hb1
  obtain ⟨w2, hw2⟩ : ∃ w2, w1.setCells o 12 (shv false 0 0) = w2 := ⟨_, rfl⟩
  have hlt := h.blk.lt
  have hk2 : Blk w2 w.heap.size (shv true x y).toArray 90 := by
   rw [← hw2]
   unfold Blk at *
   rw [setCells_heap_ne _ _ (by omega)]
   exact hk1
  have hb2 : Blk w2 o (cch (calmCh c) gc kc oa R.length ka 0 0) 92 := by
   rw [← hw2]
   exact blk_setMid h1.blk 12 _ _ _ rfl
  have ho2 : Only (Fo o) w1 w2 := by
   rw [← hw2]
   exact Only.setCells (F := Fo o) o (show Fo o o from rfl) _ _ _ (Only.refl _ _)
  have hT : w1.there o 12 3 := fun j hj => ⟨by
   rw [h1.blk.cell]
   obtain rfl | rfl | rfl : j = 0 ∨ j = 1 ∨ j = 2 := by omega
   all_goals rfl, h1.blk.free _⟩
  have H2 : Hid (ChipAt w2 o gc kc oa R ka 0 0 po Fc (calmCh c)) := h1.own hb2 ho2 rfl rfl (Nat.le_refl _) (fun hh => by cases hh)
  have HO2 : Hid (Only (Fo o) w w2) := (Only.of_below (F := Fo o) hb1).trans ho2 (fun _ hk => Or.inl hk)
  have hr1 : w1.rangeAt o 12 (shv true x y) := fun j v hv => by rw [World.cell?_of_block (w := w) (hb1.block o hlt)]; exact hr j v hv
  have c1 : w2.cell? ⟨w.heap.size, 1, none⟩ = some (.int .i64 x) := hk2.cell 1
  have c2 : w2.cell? ⟨w.heap.size, 2, none⟩ = some (.int .i64 y) := hk2.cell 2
  have HR := Lib.hid hr
  have HZ1 := Lib.hid hz1
  have HW1 := Lib.hid hw1
  have HW2 := Lib.hid hw2
  have HT := Lib.hid hT
  clear h hr hsh hk H hz1 hw1 hk1 hb1 h1 hlt hw2 hk2 hb2 ho2 hT hr1
  go_enter Tryz.func34, Tryz.ntmps34
  go_wp2_with (first
   | (refine wpList_load_mid rfl 90 (.tmp 15) rfl o 12 rfl (shv true x y) _ HR.out Tryz.underlying90 rfl size_shake ?_)
   | (refine wpList_store_row rfl 90 (.tmp 5) (.tmp 16) rfl w.heap.size (shv true x y).toArray rfl rfl 90 (shv false 0 0).toArray HZ1.out size_shake rfl (shv_one _ _ _) ?_; change wpList _ _ _ _ _ ((w.alloc (.cells (shv false 0 0).toArray 90)).setRow w.heap.size (shv true x y).toArray); rw [HW1.out])
   | (refine wpList_store_mid rfl 90 (.tmp 20) (.tmp 18) rfl o 12 (shv false 0 0).toArray rfl rfl HT.out size_shake (shv_one _ _ _) ?_; change wpList _ _ _ _ _ (w1.setCells o 12 (shv false 0 0)); rw [HW2.out]))
  refine (fr_hurt s x y _ hs).mono ?_
  rintro e w3 ⟨rfl, hb3⟩
  have H3 := Lib.hid (H2.out.after hb3)
  have HO3 : Hid (Only (Fo o) w w3) := HO2.out.trans (Only.of_below (F := Fo o) hb3) (fun _ hk => Or.inl hk)
  clear hb3
  go_wp2_with fail
  go_ret
  exact ⟨rfl, ⟨0, 0, H3.out⟩, HO3.out⟩
def CBc (w0 : World) (o : Nat) (cs : Array Value) (w : World) : Prop := Blk w o cs 92 ∧ Below w0.heap.size w0 w
theorem CBc.call {w0 w w' : World} {o : Nat} {cs : Array Value} (h : CBc w0 o cs w) (hb : Below w.heap.size w w') : CBc w0 o cs w' := ⟨h.1.after hb, h.2.trans (hb.mono h.2.size)⟩
def ZDu (w0 : World) (o : Nat) (ds : Array Value) (w : World) : Prop := Blk w o ds 92 ∧ Only (Fo o) w0 w
theorem ZDu.call {w0 w w' : World} {o : Nat} {ds : Array Value} (h : ZDu w0 o ds w) (hb : Below w.heap.size w w') : ZDu w0 o ds w' := ⟨h.1.after hb, h.2.trans (Only.of_below (F := Fo o) hb) (fun _ hk => Or.inl hk)⟩
theorem CBc.store {w0 w : World} {o : Nat} {cs ds : Array Value} (h : CBc w0 o cs w) (v : Value) (hd : cs.setIfInBounds 7 v = ds) : ZDu w0 o ds (w.setCell ⟨o, 7, none⟩ v) :=
 ⟨h.1.set 7 v hd, (Only.of_below (F := Fo o) h.2).setCell ⟨o, 7, none⟩ v (show Fo o o from rfl)⟩
theorem ch_before (oa : Option Addr) (cap : Nat) (R : List Fa) (hl : R.length ≤ 4398046510976) (hs : Srt R) (t : Int) (w : World) (ha : FsAt w oa R) :
  Calls Tryz.prog 123 #[.slice oa R.length cap, .int .i64 t] w fun e w' => e = .returned (.int .i64 (belowN R t : Nat)) ∧ Below w.heap.size w w' := by
 have hcon := ch_search oa cap R hl hs t w ha
 obtain ⟨n, hn⟩ : ∃ n, R.length = n := ⟨_, rfl⟩
 rw [hn] at hcon ⊢
 have HCON := Lib.hid hcon
 clear hcon ha hs hl hn
 go_enter Tryz.func123, Tryz.ntmps123
 go_wp2_with fail
 refine HCON.out.mono ?_
 rintro e w' ⟨⟨b, rfl⟩, hb⟩
 have HB := Lib.hid hb
 clear hb
 go_wp2_with fail
 go_ret
 exact ⟨rfl, HB.out⟩
theorem run_slice_low (a : Option Addr) (len cap n : Nat) (h : n ≤ len) (w : World) : Sem.run Tryz.prog (Instr.slice 24 (.slice a len cap) (some (.int .i64 (n : Int))) none none) w = .ok (.slice (dropA a cap n) (len - n) (cap - n)) w := by
 simp [Instr.slice, Instr.sliceBounds, Instr.sliceBound, asIntOf, run_underlying Tryz.underlying24, Tryz.sizeOf40, dropA]
 exact fun hlt => absurd hlt (by omega)
theorem run_slice_high (a : Option Addr) (len cap n : Nat) (h : n ≤ cap) (w : World) : Sem.run Tryz.prog (Instr.slice 24 (.slice a len cap) none (some (.int .i64 (n : Int))) none) w = .ok (.slice (dropA a cap 0) n cap) w := by
 simp [Instr.slice, Instr.sliceBounds, Instr.sliceBound, asIntOf, run_underlying Tryz.underlying24, Tryz.sizeOf40, dropA]
 exact fun hlt => absurd hlt (by omega)
def vsDU (o : Nat) (oa : Option Addr) (m ka n : Nat) (t : Int) : List (Option (Tmp × Value)) :=
 [some (5, .pointer (some ⟨o, 0, none⟩)), some (6, .pointer (some ⟨o, 0, none⟩)), some (7, .pointer (some ⟨o, 0, none⟩)), some (8, .pointer (some ⟨o, 7, none⟩)), some (9, .slice oa m ka), some (10, .pointer (some ⟨o, 0, none⟩)), some (11, .pointer (some ⟨o, 0, none⟩)), some (12, .pointer (some ⟨o, 7, none⟩)), some (13, .slice oa m ka), some (14, .int .i64 t), some (15, .int .i64 (n : Int)), some (16, .slice (dropA oa ka n) (m - n) (ka - n)), some (17, .pointer (some ⟨o, 0, none⟩)), some (18, .pointer (some ⟨o, 7, none⟩)), none]
def BaseDU (o : Nat) (t : Int) (a : Act) : Prop := ∃ u : Nat → Value, a = ⟨#[.pointer (some ⟨o, 0, none⟩), .int .i64 t, u 2, u 3, .slice none 0 0, u 5, u 6, u 7, u 8, u 9, u 10, u 11, u 12, u 13, u 14, u 15, u 16, u 17, u 18, u 19, u 20, u 21, u 22, u 23, u 24, u 25, u 26, u 27, u 28, u 29, u 30], []⟩
def vsDV (o : Nat) (oa1 : Option Addr) (m1 ka1 n1 : Nat) (t : Int) : List (Option (Tmp × Value)) :=
 [some (19, .pointer (some ⟨o, 0, none⟩)), some (20, .pointer (some ⟨o, 0, none⟩)), some (21, .pointer (some ⟨o, 7, none⟩)), some (22, .slice oa1 m1 ka1), some (23, .pointer (some ⟨o, 0, none⟩)), some (24, .pointer (some ⟨o, 0, none⟩)), some (25, .pointer (some ⟨o, 7, none⟩)), some (26, .slice oa1 m1 ka1), some (27, .int .i64 t), some (28, .int .i64 (t + 1)), some (29, .int .i64 (n1 : Int)), some (30, .slice (dropA oa1 ka1 0) n1 ka1), some (4, .slice (dropA oa1 ka1 0) n1 ka1)]
def BaseDV (o : Nat) (t : Int) (a : Act) : Prop := ∃ u : Nat → Value, a = ⟨#[.pointer (some ⟨o, 0, none⟩), .int .i64 t, u 2, u 3, u 4, u 5, u 6, u 7, u 8, u 9, u 10, u 11, u 12, u 13, u 14, u 15, u 16, u 17, u 18, u 19, u 20, u 21, u 22, u 23, u 24, u 25, u 26, u 27, u 28, u 29, u 30], []⟩
def aheadR (R : List Fa) (t : Int) : List Fa := R.drop (belowN R t)
def dueR (R : List Fa) (t : Int) : List Fa := (aheadR R t).take (belowN (aheadR R t) (t + 1))
set_option maxHeartbeats 4000000 in
theorem ch_due (o gc kc : Nat) (oa : Option Addr) (R : List Fa) (ka : Nat) (x y : Int) (po : Nat → Nat) (Fc : Nat → Nat → Prop) (c : ChS) (t : Int) (ht : t ≤ c.ops ∧ (0 : Int) ≤ t ∧ t ≤ 1000000000) (w : World) (h : ChipAt w o gc kc oa R ka x y po Fc c) :
  Calls Tryz.prog 76 #[.pointer (some ⟨o, 0, none⟩), .int .i64 t] w fun e w' => ∃ oa2 ka2, e = .returned (.slice oa2 (dueR R t).length ka2) ∧ FsApart w' oa2 (dueR R t) (FP o gc c.cs.length Fc) ∧
   (∃ oa' ka', ChipAt w' o gc kc oa' (aheadR R t) ka' x y po Fc c ∧ (aheadR R t ≠ [] → R ≠ [] ∧ ∀ a, oa' = some a → ∃ a0, oa = some a0 ∧ a0.block = a.block)) ∧ Only (Fo o) w w' := by
 obtain ⟨n, hn⟩ : ∃ n, belowN R t = n := ⟨_, rfl⟩
 have hnl : n ≤ R.length := by rw [← hn]; exact belowN_le R t
 obtain ⟨R1, hR1⟩ : ∃ R1, aheadR R t = R1 := ⟨_, rfl⟩
 have hR1' : R.drop n = R1 := by rw [← hR1, ← hn]; rfl
 have hs1 : Srt R1 := by rw [← hR1']; exact h.srt.drop _
 have hl1 : R1.length = R.length - n := by rw [← hR1', List.length_drop]
 have hlen := h.len
 have hcap := h.cap
 have hdue : dueR R t = R1.take (belowN R1 (t + 1)) := by unfold dueR; rw [hR1]
 have hbf : ∀ w', Below w.heap.size w w' → Calls Tryz.prog 123 #[.slice oa R.length ka, .int .i64 t] w' fun e w2 => e = .returned (.int .i64 (n : Int)) ∧ Below w'.heap.size w' w2 := fun w' hb => by
  rw [← hn]
  exact ch_before oa ka R h.len h.srt t w' (h.fs.at.below hb)
 have hsm : ∀ (u : Int) (op : Int), (c.ops : Int) ≤ u → meetF R1 u op = meetF c.fs u op := fun u op hu => by
  rw [← hR1]
  exact (meet_drop h.srt t u op (by omega)).trans (h.same u op hu)
 have hnb : R1 ≠ [] → R ≠ [] ∧ ∀ a, dropA oa ka n = some a → ∃ a0, oa = some a0 ∧ a0.block = a.block := fun hne => by
  refine ⟨fun e => hne (by rw [← hR1', e]; simp), fun a ha => ?_⟩
  unfold dropA at ha
  split at ha
  ·exact ⟨a, ha, rfl⟩
  ·cases oa with
   | none => cases ha
   | some a0 => exact ⟨a0, rfl, by cases ha; unfold Addr.add; split <;> rfl⟩
 have hf1 : FsApart w (dropA oa ka n) R1 (FP o gc c.cs.length Fc) := by rw [← hR1']; exact h.fs.drop n ka h.cap
 obtain ⟨n1, hn1⟩ : ∃ n1, belowN R1 (t + 1) = n1 := ⟨_, rfl⟩
 rw [hdue, hR1, hn1]
 have HN1 := Lib.hid hn1
 obtain ⟨m, hm⟩ : ∃ m, R.length = m := ⟨_, rfl⟩
 rw [hm] at hnl hl1 hlen hcap hbf
 obtain ⟨cs, hcs⟩ : ∃ cs, cch c gc kc oa m ka x y = cs := ⟨_, rfl⟩
 obtain ⟨ds, hds⟩ : ∃ ds, cch c gc kc (dropA oa ka n) (m - n) (ka - n) x y = ds := ⟨_, rfl⟩
 have HC0 : Hid (CBc w o cs w) := ⟨by rw [← hcs, ← hm]; exact h.blk, Below.refl _ _⟩
 have HDS : Hid (cs.setIfInBounds 7 (.slice (dropA oa ka n) (m - n) (ka - n)) = ds) := by
  show _ = _
  rw [← hcs, ← hds]; rfl
 have HCS := Lib.hid hcs
 have HDD := Lib.hid hds
 have HBF := Lib.hid hbf
 have HSL := Lib.hid (run_slice_low oa m ka n hnl)
 have HSM := Lib.hid hsm
 have HNB := Lib.hid hnb
 have HF1 := Lib.hid hf1
 have HS1 := Lib.hid hs1
 have HL1 := Lib.hid hl1
 have HNL := Lib.hid hnl
 have HLC := Lib.hid (⟨hlen, hcap⟩ : m ≤ 4398046510976 ∧ m ≤ ka)
 have H := Lib.hid h
 have HT := Lib.hid ht
 clear hn hn1 hR1 hR1' hdue hm hcs hds hbf hsm hnb hf1 hs1 hl1 hnl hlen hcap h ht
 go_enter Tryz.func76, Tryz.ntmps76
 go_wp2_with fail
 rename_i K0 hK0
 refine wp_region_list5 14 (fun _ => false) (SV2 (vsDU o oa m ka n t) (fun _ => [])) (BaseDU o t) (CBc w o cs) (fun w1 w2 => ZDu w o ds w1 → ZDu w o ds w2) (RV (vsDU o oa m ka n t) (fun j _ w1 => j = 14 → ZDu w o ds w1)) rfl (by decide) (by kernel_rfl) (by kernel_rfl) (RV.ext2 (f := fun _ => []) (fun _ _ _ _ _ h1 _ h2 h3 => h2 (h1 h3))) ?_ (HC0.out.call (Below.refl _ _).drew) (fr_of _ (by kernel_rfl)) ?_ ?_
 ·exact ⟨fr_put 5 fun _ _ => by kernel_rfl, fr_put 6 fun _ _ => by kernel_rfl, fr_put 7 fun _ _ => by kernel_rfl, fr_put 8 fun _ _ => by kernel_rfl, fr_put 9 fun _ _ => by kernel_rfl, fr_put 10 fun _ _ => by kernel_rfl, fr_put 11 fun _ _ => by kernel_rfl, fr_put 12 fun _ _ => by kernel_rfl, fr_put 13 fun _ _ => by kernel_rfl, fr_put 14 fun _ _ => by kernel_rfl, fr_put 15 fun _ _ => by kernel_rfl, fr_put 16 fun _ _ => by kernel_rfl, fr_put 17 fun _ _ => by kernel_rfl, fr_put 18 fun _ _ => by kernel_rfl, fun a v h => h, trivial⟩
 ·refine ⟨?_, ?_, ?_, ?_, ?_, ?_, ?_, ?_, ?_, ?_, ?_, ?_, ?_, ?_, ?_, trivial⟩
  all_goals
   intro a w' hC hB hR
   obtain ⟨u, rfl⟩ := hB
   have hC := hC rfl
   have HC := Lib.hid hC
   clear hC; clear hK0
  ·clear hR; refine if_yes (by kernel_rfl) ?_; unfold Oper.wp; go_simp; exact ⟨.pointer (some ⟨o, 0, none⟩), rfl, (by first | exact HC.out | exact fun _ => HC.out | exact fun _ _ => HC.out), (fun hz => hz), rfl⟩
  ·clear hR; refine if_yes (by kernel_rfl) ?_; unfold Oper.wp; go_simp; exact ⟨.pointer (some ⟨o, 0, none⟩), rfl, (by first | exact HC.out | exact fun _ => HC.out | exact fun _ _ => HC.out), (fun hz => hz), rfl⟩
  ·have h6 : u 6 = .pointer (some ⟨o, 0, none⟩) := hR ⟨1, .data⟩ (by simp) rfl; clear hR; simp only [h6]; refine if_yes (by kernel_rfl) ?_; unfold Oper.wp; go_simp; exact ⟨.pointer (some ⟨o, 0, none⟩), rfl, (by first | exact HC.out | exact fun _ => HC.out | exact fun _ _ => HC.out), (fun hz => hz), rfl⟩
  ·have h7 : u 7 = .pointer (some ⟨o, 0, none⟩) := hR ⟨2, .data⟩ (by simp) rfl; clear hR; simp only [h7]; refine if_yes (by kernel_rfl) ?_; unfold Oper.wp; go_simp; exact ⟨.pointer (some ⟨o, 7, none⟩), rfl, (by first | exact HC.out | exact fun _ => HC.out | exact fun _ _ => HC.out), (fun hz => hz), rfl⟩
  ·have h8 : u 8 = .pointer (some ⟨o, 7, none⟩) := hR ⟨3, .data⟩ (by simp) rfl
   have hc : w'.cell? ⟨o, 7, none⟩ = some (.slice oa m ka) := by rw [HC.out.1.cell 7, ← HCS.out]; rfl
   clear hR; simp only [h8]; refine if_yes (by kernel_rfl) ?_; unfold Oper.wp; go_simp
   exact ⟨.slice oa m ka, rfl, (by first | exact HC.out | exact fun _ => HC.out | exact fun _ _ => HC.out), (fun hz => hz), rfl⟩
  ·clear hR; refine if_yes (by kernel_rfl) ?_; unfold Oper.wp; go_simp; exact ⟨.pointer (some ⟨o, 0, none⟩), rfl, (by first | exact HC.out | exact fun _ => HC.out | exact fun _ _ => HC.out), (fun hz => hz), rfl⟩
  ·have h10 : u 10 = .pointer (some ⟨o, 0, none⟩) := hR ⟨5, .data⟩ (by simp) rfl; clear hR; simp only [h10]; refine if_yes (by kernel_rfl) ?_; unfold Oper.wp; go_simp; exact ⟨.pointer (some ⟨o, 0, none⟩), rfl, (by first | exact HC.out | exact fun _ => HC.out | exact fun _ _ => HC.out), (fun hz => hz), rfl⟩
  ·have h11 : u 11 = .pointer (some ⟨o, 0, none⟩) := hR ⟨6, .data⟩ (by simp) rfl; clear hR; simp only [h11]; refine if_yes (by kernel_rfl) ?_; unfold Oper.wp; go_simp; exact ⟨.pointer (some ⟨o, 7, none⟩), rfl, (by first | exact HC.out | exact fun _ => HC.out | exact fun _ _ => HC.out), (fun hz => hz), rfl⟩
  ·have h12 : u 12 = .pointer (some ⟨o, 7, none⟩) := hR ⟨7, .data⟩ (by simp) rfl
   have hc : w'.cell? ⟨o, 7, none⟩ = some (.slice oa m ka) := by rw [HC.out.1.cell 7, ← HCS.out]; rfl
   clear hR; simp only [h12]; refine if_yes (by kernel_rfl) ?_; unfold Oper.wp; go_simp
   exact ⟨.slice oa m ka, rfl, (by first | exact HC.out | exact fun _ => HC.out | exact fun _ _ => HC.out), (fun hz => hz), rfl⟩
  ·clear hR; refine if_yes (by kernel_rfl) ?_; unfold Oper.wp; go_simp; exact ⟨.int .i64 t, rfl, (by first | exact HC.out | exact fun _ => HC.out | exact fun _ _ => HC.out), (fun hz => hz), rfl⟩
  ·have h13 : u 13 = .slice oa m ka := hR ⟨8, .data⟩ (by simp) rfl; have h14 : u 14 = .int .i64 t := hR ⟨9, .data⟩ (by simp) rfl; clear hR; simp only [h13, h14]; refine if_yes (by kernel_rfl) ?_; unfold Oper.wp; go_simp
   refine (HBF.out _ HC.out.2).mono ?_
   rintro e w2 ⟨rfl, hb2⟩
   exact ⟨.int .i64 (n : Int), rfl, (by first | exact HC.out.call hb2 | exact fun _ => HC.out.call hb2 | exact fun _ _ => HC.out.call hb2), (fun hz => hz.call hb2), rfl⟩
  ·have h9 : u 9 = .slice oa m ka := hR ⟨4, .data⟩ (by simp) rfl; have h15 : u 15 = .int .i64 (n : Int) := hR ⟨10, .data⟩ (by simp) rfl
   have hsl := HSL.out
   clear hR; simp only [h9, h15]; refine if_yes (by kernel_rfl) ?_; unfold Oper.wp; go_simp
   exact ⟨.slice (dropA oa ka n) (m - n) (ka - n), rfl, (by first | exact HC.out | exact fun _ => HC.out | exact fun _ _ => HC.out), (fun hz => hz), rfl⟩
  ·have h5 : u 5 = .pointer (some ⟨o, 0, none⟩) := hR ⟨0, .data⟩ (by simp) rfl; clear hR; simp only [h5]; refine if_yes (by kernel_rfl) ?_; unfold Oper.wp; go_simp; exact ⟨.pointer (some ⟨o, 0, none⟩), rfl, (by first | exact HC.out | exact fun _ => HC.out | exact fun _ _ => HC.out), (fun hz => hz), rfl⟩
  ·have h17 : u 17 = .pointer (some ⟨o, 0, none⟩) := hR ⟨12, .data⟩ (by simp) rfl; clear hR; simp only [h17]; refine if_yes (by kernel_rfl) ?_; unfold Oper.wp; go_simp; exact ⟨.pointer (some ⟨o, 7, none⟩), rfl, (by first | exact HC.out | exact fun _ => HC.out | exact fun _ _ => HC.out), (fun hz => hz), rfl⟩
  ·have h18 : u 18 = .pointer (some ⟨o, 7, none⟩) := hR ⟨13, .data⟩ (by simp) rfl; have h16 : u 16 = .slice (dropA oa ka n) (m - n) (ka - n) := hR ⟨11, .data⟩ (by simp) rfl; clear hR; simp only [h18, h16]; refine if_yes (by kernel_rfl) ?_
   have f7 := HC.out.1.free 7
   have c7 : w'.cell? ⟨o, 7, none⟩ = some (.slice oa m ka) := by rw [HC.out.1.cell 7, ← HCS.out]; rfl
   have hz := HC.out.store (.slice (dropA oa ka n) (m - n) (ka - n)) (HDS.out)
   unfold Oper.wp; go_simp; exact ⟨undef, rfl, (by first | trivial | exact fun h => absurd rfl h), (by first | exact fun _ => hz | exact hz), (by first | exact fun _ => hz | exact hz)⟩
 ·intro a w2 hB hR
  have hz : ZDu w o ds w2 := hR 14 (by decide) rfl
  obtain ⟨u, rfl⟩ := hB
  have hblk : Blk w2 o (cch c gc kc (dropA oa ka n) R1.length (ka - n) x y) 92 := by rw [HL1.out, HDD.out]; exact hz.1
  have hlc := HLC.out
  have hnl := HNL.out
  have H1 : Hid (ChipAt w2 o gc kc (dropA oa ka n) R1 (ka - n) x y po Fc c) := H.out.setBlk hblk (fun k hk hne => hz.2.block k hk hne) rfl HF1.out HS1.out (by rw [HL1.out]; omega) (by rw [HL1.out]; omega) HSM.out H.out.shake
  have HO := Lib.hid hz.2
  have HNBB := HNB
  clear hR hz hblk HC0 HBF HSL HSM HNB HF1 HCS HDD HDS HL1 HNL H hnl hlc HLC
  obtain ⟨oa1, hoa1⟩ : ∃ oa1, dropA oa ka n = oa1 := ⟨_, rfl⟩
  obtain ⟨ka1, hka1⟩ : ∃ ka1, ka - n = ka1 := ⟨_, rfl⟩
  rw [hoa1, hka1] at H1
  rw [hoa1] at HNBB
  clear hoa1 hka1 HS1
  have hn1 := HN1.out
  have hnl : n1 ≤ R1.length := by rw [← hn1]; exact belowN_le R1 (t + 1)
  have hcap := H1.out.cap
  have hbf : ∀ w', Below w2.heap.size w2 w' → Calls Tryz.prog 123 #[.slice oa1 R1.length ka1, .int .i64 (t + 1)] w' fun e w3 => e = .returned (.int .i64 (n1 : Int)) ∧ Below w'.heap.size w' w3 := fun w' hb => by
   rw [← hn1]
   exact ch_before oa1 ka1 R1 H1.out.len H1.out.srt (t + 1) w' (H1.out.fs.at.below hb)
  have hf : FsApart w2 (dropA oa1 ka1 0) (R1.take n1) (FP o gc c.cs.length Fc) := by
   have h1 := (H1.out.fs.drop 0 ka1 hcap).take n1
   rwa [List.drop_zero] at h1
  have HLT : Hid ((R1.take n1).length = n1) := by show _ = _; rw [List.length_take]; omega
  obtain ⟨cs1, hcs1⟩ : ∃ cs1, cch c gc kc oa1 R1.length ka1 x y = cs1 := ⟨_, rfl⟩
  have HC1 : Hid (CBc w2 o cs1 w2) := ⟨by rw [← hcs1]; exact H1.out.blk, Below.refl _ _⟩
  obtain ⟨m1, hm1⟩ : ∃ m1, R1.length = m1 := ⟨_, rfl⟩
  rw [hm1] at hbf hcs1 hnl hcap
  have HCS1 := Lib.hid hcs1
  have HBF1 := Lib.hid hbf
  have HSL1 := Lib.hid (run_slice_high oa1 m1 ka1 n1 (by omega))
  have ht := HT.out
  have HWR : Hid (IntKind.i64.wrap (t + 1) = t + 1) := by show IntKind.i64.wrap (t + 1) = t + 1; rw [IntKind.wrap_i64]; omega
  have HF := Lib.hid hf
  clear hn1 hm1 hcs1 hbf hf hnl hcap ht HT
  go_wp2_with fail
  rename_i K0 hK0
  refine wp_region_list3 (SV (vsDV o oa1 m1 ka1 n1 t) []) (BaseDV o t) (CBc w2 o cs1) (Goes) (RV (vsDV o oa1 m1 ka1 n1 t) (fun _ _ _ => False)) rfl (by kernel_rfl) (RV.ext no_specialC) ?_ (HC1.out.call (Below.refl _ _).drew) (fr_of _ (by kernel_rfl)) ?_ ?_
  ·exact ⟨fr_put 19 fun _ _ => by kernel_rfl, fr_put 20 fun _ _ => by kernel_rfl, fr_put 21 fun _ _ => by kernel_rfl, fr_put 22 fun _ _ => by kernel_rfl, fr_put 23 fun _ _ => by kernel_rfl, fr_put 24 fun _ _ => by kernel_rfl, fr_put 25 fun _ _ => by kernel_rfl, fr_put 26 fun _ _ => by kernel_rfl, fr_put 27 fun _ _ => by kernel_rfl, fr_put 28 fun _ _ => by kernel_rfl, fr_put 29 fun _ _ => by kernel_rfl, fr_put 30 fun _ _ => by kernel_rfl, fr_put 4 fun _ _ => by kernel_rfl, trivial⟩
  ·refine ⟨?_, ?_, ?_, ?_, ?_, ?_, ?_, ?_, ?_, ?_, ?_, ?_, ?_, trivial⟩
   all_goals
    intro a w' hC hB hR
    obtain ⟨u, rfl⟩ := hB
    have HC := Lib.hid hC
    clear hC; clear hK0
   ·clear hR; refine if_yes (by kernel_rfl) ?_; unfold Oper.wp; go_simp; exact ⟨.pointer (some ⟨o, 0, none⟩), rfl, HC.out, Below.refl _ _, rfl⟩
   ·have h19 : u 19 = .pointer (some ⟨o, 0, none⟩) := hR ⟨0, .data⟩ (by simp) rfl; clear hR; simp only [h19]; refine if_yes (by kernel_rfl) ?_; unfold Oper.wp; go_simp; exact ⟨.pointer (some ⟨o, 0, none⟩), rfl, HC.out, Below.refl _ _, rfl⟩
   ·have h20 : u 20 = .pointer (some ⟨o, 0, none⟩) := hR ⟨1, .data⟩ (by simp) rfl; clear hR; simp only [h20]; refine if_yes (by kernel_rfl) ?_; unfold Oper.wp; go_simp; exact ⟨.pointer (some ⟨o, 7, none⟩), rfl, HC.out, Below.refl _ _, rfl⟩
   ·have h21 : u 21 = .pointer (some ⟨o, 7, none⟩) := hR ⟨2, .data⟩ (by simp) rfl
    have hc : w'.cell? ⟨o, 7, none⟩ = some (.slice oa1 m1 ka1) := by rw [HC.out.1.cell 7, ← HCS1.out]; rfl
    clear hR; simp only [h21]; refine if_yes (by kernel_rfl) ?_; unfold Oper.wp; go_simp
    exact ⟨.slice oa1 m1 ka1, rfl, HC.out, Below.refl _ _, rfl⟩
   ·clear hR; refine if_yes (by kernel_rfl) ?_; unfold Oper.wp; go_simp; exact ⟨.pointer (some ⟨o, 0, none⟩), rfl, HC.out, Below.refl _ _, rfl⟩
   ·have h23 : u 23 = .pointer (some ⟨o, 0, none⟩) := hR ⟨4, .data⟩ (by simp) rfl; clear hR; simp only [h23]; refine if_yes (by kernel_rfl) ?_; unfold Oper.wp; go_simp; exact ⟨.pointer (some ⟨o, 0, none⟩), rfl, HC.out, Below.refl _ _, rfl⟩
   ·have h24 : u 24 = .pointer (some ⟨o, 0, none⟩) := hR ⟨5, .data⟩ (by simp) rfl; clear hR; simp only [h24]; refine if_yes (by kernel_rfl) ?_; unfold Oper.wp; go_simp; exact ⟨.pointer (some ⟨o, 7, none⟩), rfl, HC.out, Below.refl _ _, rfl⟩
   ·have h25 : u 25 = .pointer (some ⟨o, 7, none⟩) := hR ⟨6, .data⟩ (by simp) rfl
    have hc : w'.cell? ⟨o, 7, none⟩ = some (.slice oa1 m1 ka1) := by rw [HC.out.1.cell 7, ← HCS1.out]; rfl
    clear hR; simp only [h25]; refine if_yes (by kernel_rfl) ?_; unfold Oper.wp; go_simp
    exact ⟨.slice oa1 m1 ka1, rfl, HC.out, Below.refl _ _, rfl⟩
   ·clear hR; refine if_yes (by kernel_rfl) ?_; unfold Oper.wp; go_simp; exact ⟨.int .i64 t, rfl, HC.out, Below.refl _ _, rfl⟩
   ·have h27 : u 27 = .int .i64 t := hR ⟨8, .data⟩ (by simp) rfl
    have hw := HWR.out
    clear hR; simp only [h27]; refine if_yes (by kernel_rfl) ?_; unfold Oper.wp; go_simp; exact ⟨.int .i64 (t + 1), rfl, HC.out, Below.refl _ _, rfl⟩
   ·have h26 : u 26 = .slice oa1 m1 ka1 := hR ⟨7, .data⟩ (by simp) rfl; have h28 : u 28 = .int .i64 (t + 1) := hR ⟨9, .data⟩ (by simp) rfl; clear hR; simp only [h26, h28]; refine if_yes (by kernel_rfl) ?_; unfold Oper.wp; go_simp
    refine (HBF1.out _ HC.out.2).mono ?_
    rintro e w2 ⟨rfl, hb2⟩
    exact ⟨.int .i64 (n1 : Int), rfl, HC.out.call hb2, hb2, rfl⟩
   ·have h22 : u 22 = .slice oa1 m1 ka1 := hR ⟨3, .data⟩ (by simp) rfl; have h29 : u 29 = .int .i64 (n1 : Int) := hR ⟨10, .data⟩ (by simp) rfl
    have hsl := HSL1.out
    clear hR; simp only [h22, h29]; refine if_yes (by kernel_rfl) ?_; unfold Oper.wp; go_simp
    exact ⟨.slice (dropA oa1 ka1 0) n1 ka1, rfl, HC.out, Below.refl _ _, rfl⟩
   ·have h30 : u 30 = .slice (dropA oa1 ka1 0) n1 ka1 := hR ⟨11, .data⟩ (by simp) rfl; clear hR; simp only [h30]; refine if_yes (by kernel_rfl) ?_; unfold Oper.wp; go_simp
    exact ⟨.slice (dropA oa1 ka1 0) n1 ka1, rfl, HC.out, Below.refl _ _, rfl⟩
  ·intro a w3 hC hB hR
   have h4 := hR 12 (by decide)
   obtain ⟨u2, rfl⟩ := hB
   have h4 : u2 4 = .slice (dropA oa1 ka1 0) n1 ka1 := h4
   simp only [h4]
   have hb3 := hC.2
   have H3 := Lib.hid (H1.out.after hb3)
   have HO3 : Hid (Only (Fo o) w w3) := HO.out.trans (Only.of_below (F := Fo o) hb3) (fun _ hk => Or.inl hk)
   have hf3 : FsApart w3 (dropA oa1 ka1 0) (R1.take n1) (FP o gc c.cs.length Fc) := HF.out.keep fun k hk => by
    obtain ⟨hne, a, ha, rfl⟩ := hk
    obtain ⟨b, off, h1, h2, _⟩ := HF.out hne
    rw [ha] at h1
    obtain rfl := Option.some.inj h1
    exact hb3.block _ h2
   have HF3 := Lib.hid hf3
   clear hR hC hb3 hf3 h4
   go_wp2_with fail
   go_ret
   exact ⟨dropA oa1 ka1 0, ka1, by rw [HLT.out]; rfl, HF3.out, ⟨oa1, ka1, H3.out, HNBB.out⟩, HO3.out⟩
/- Package chip, walked: the closures that are handed to an operation. -/
theorem ce_prog_all (o : Nat) (F : Nat → Prop) (s : St) (line : Int) (p : ByteArray) (x k a b : Int) (w : World) (hw : WfSt s) (hc : CellAt w o F s) :
  Calls Tryz.prog 42 #[.pointer (some ⟨o, 0, none⟩), .int .i64 line, .string p, .agg (fv x k a b)] w (ActT o F (progSt s line p k a b) (.int .i64 (progC s line p k)) w) := by
 by_cases hok : ProgOk s line p
 ·exact ce_prog o F s line p x k a b w hw hc (takes_size hw hok.2.2.2.2.2)
 ·obtain ⟨g, cap, ls, rfl, hc⟩ := hc
  exact (ce_prog_no o g cap s ls line p x k a b w hw hc hok).mono fun _ _ h => h.act
theorem ce_two_all (o : Nat) (F : Nat → Prop) (s : St) (line : Int) (p q r : ByteArray) (x k a b : Int) (w : World) (hw : WfSt s) (hc : CellAt w o F s) :
  Calls Tryz.prog 49 #[.pointer (some ⟨o, 0, none⟩), .int .i64 line, .agg (tv3 p q r), .agg (fv x k a b)] w (ActT o F (twoSt s line p q r false k a b) (.int .i64 (twoC s line p q r false k)) w)
  ∧ Calls Tryz.prog 51 #[.pointer (some ⟨o, 0, none⟩), .int .i64 line, .agg (tv3 p q r), .agg (fv x k a b)] w (ActT o F (twoSt s line p q r true k a b) (.int .i64 (twoC s line p q r true k)) w) := by
 obtain ⟨g, cap, ls, rfl, hc⟩ := hc
 exact ⟨(ce_foggy0 o g cap s ls line p q r x k a b w hw hc).mono fun _ _ h => h.act, (ce_fine0 o g cap s ls line p q r x k a b w hw hc).mono fun _ _ h => h.act⟩
theorem ActT.of_below {o : Nat} {F : Nat → Prop} {s : St} {v : Value} {w w1 : World} {e : Ending} {w' : World} (h : ActT o F s v w1 e w') (hb : Below w.heap.size w w1) : ActT o F s v w e w' := by
 obtain ⟨h1, ⟨F', h2, h3⟩, h4⟩ := h
 exact ⟨h1, ⟨F', h2, fun k hk => (h3 k hk).imp id (fun h => Nat.le_trans hb.size h)⟩, (Only.of_below (F := F) hb).trans h4 (fun k hk => Or.inl hk)⟩
theorem size_fault4 : (Tryz.prog.info? 40).map (·.size) = some 4 := by kernel_rfl
set_option maxHeartbeats 1000000 in
theorem ch_prog1 (o : Nat) (F : Nat → Prop) (s : St) (line : Int) (p : ByteArray) (x k a b : Int) (bl bp : Nat) (w : World) (hw : WfSt s) (hc : CellAt w o F s) (hl : w.cell? ⟨bl, 0, none⟩ = some (.int .i64 line)) (hp : w.cell? ⟨bp, 0, none⟩ = some (.string p)) :
  Calls Tryz.prog 41 #[.pointer (some ⟨o, 0, none⟩), .agg (fv x k a b), .pointer (some ⟨bl, 0, none⟩), .pointer (some ⟨bp, 0, none⟩)] w (ActT o F (progSt s line p k a b) (.int .i64 (progC s line p k)) w) := by
 obtain ⟨w1, hw1⟩ : ∃ w1, w.alloc (.cells (fv x k a b) 40) = w1 := ⟨_, rfl⟩
 have hb1 : Below w.heap.size w w1 := by rw [← hw1]; exact (Below.refl _ _).alloc (Nat.le_refl _) _
 have hk1 : Blk w1 w.heap.size (fv x k a b) 40 := by rw [← hw1]; exact Blk.new w _ _
 have hcon := ce_prog_all o F s line p x k a b w1 hw (hc.keep fun k hk => hb1.block k (hc.lt k hk))
 have HCON := Lib.hid hcon
 have HB1 := Lib.hid hb1
 have HK1 := Lib.hid hk1
 have HW1 := Lib.hid hw1
 have c1 := Lib.cell?_alloc_some (.cells (fv x k a b) 40) hl
 have c2 := Lib.cell?_alloc_some (.cells (fv x k a b) 40) hp
 clear hcon hb1 hk1 hw1 hw hc
 go_enter Tryz.func41, Tryz.ntmps41
 go_wp2_with (refine wpList_load_row rfl 40 (.tmp 5) rfl w.heap.size rfl 40 (fv x k a b) (0, 0) _ (by first | exact HK1.out | (rw [HW1.out]; exact HK1.out)) Tryz.underlying40 rfl size_fault4 ?_)
 change Calls _ _ _ (w.alloc (.cells (fv x k a b) 40)) _
 rw [HW1.out]
 refine HCON.out.mono ?_
 rintro e w2 h
 obtain ⟨rfl, h2⟩ := h.of_below HB1.out
 have H2 := Lib.hid h2
 clear h h2
 go_wp2_with fail
 go_ret
 exact ⟨rfl, H2.out⟩
set_option maxHeartbeats 1000000 in
theorem ch_foggy1 (o : Nat) (F : Nat → Prop) (s : St) (line : Int) (p q r : ByteArray) (x k a b : Int) (bl bp : Nat) (w : World) (hw : WfSt s) (hc : CellAt w o F s) (hl : w.cell? ⟨bl, 0, none⟩ = some (.int .i64 line)) (hp : Blk w bp (tv3 p q r) 38) :
  Calls Tryz.prog 48 #[.pointer (some ⟨o, 0, none⟩), .agg (fv x k a b), .pointer (some ⟨bl, 0, none⟩), .pointer (some ⟨bp, 0, none⟩)] w (ActT o F (twoSt s line p q r false k a b) (.int .i64 (twoC s line p q r false k)) w) := by
 obtain ⟨w1, hw1⟩ : ∃ w1, w.alloc (.cells (fv x k a b) 40) = w1 := ⟨_, rfl⟩
 have hb1 : Below w.heap.size w w1 := by rw [← hw1]; exact (Below.refl _ _).alloc (Nat.le_refl _) _
 have hk1 : Blk w1 w.heap.size (fv x k a b) 40 := by rw [← hw1]; exact Blk.new w _ _
 have hcon := (ce_two_all o F s line p q r x k a b w1 hw (hc.keep fun k hk => hb1.block k (hc.lt k hk))).1
 have HCON := Lib.hid hcon
 have HB1 := Lib.hid hb1
 have HK1 := Lib.hid hk1
 have HW1 := Lib.hid hw1
 have c1 := Lib.cell?_alloc_some (.cells (fv x k a b) 40) hl
 have HP1 : Hid (Blk (w.alloc (.cells (fv x k a b) 40)) bp (tv3 p q r) 38) := hp.alloc _
 clear hcon hb1 hk1 hw1 hw hc hp
 go_enter Tryz.func48, Tryz.ntmps48
 go_wp2_with (first | (refine wpList_load_row rfl 38 (.tmp 3) rfl bp rfl 38 (tv3 p q r) (0, 0) _ HP1.out Tryz.underlying38 rfl size_three ?_) | (refine wpList_load_row rfl 40 (.tmp 5) rfl w.heap.size rfl 40 (fv x k a b) (0, 0) _ (by first | exact HK1.out | (rw [HW1.out]; exact HK1.out)) Tryz.underlying40 rfl size_fault4 ?_))
 change Calls _ _ _ (w.alloc (.cells (fv x k a b) 40)) _
 rw [HW1.out]
 refine HCON.out.mono ?_
 rintro e w2 h
 obtain ⟨rfl, h2⟩ := h.of_below HB1.out
 have H2 := Lib.hid h2
 clear h h2
 go_wp2_with fail
 go_ret
 exact ⟨rfl, H2.out⟩
set_option maxHeartbeats 1000000 in
theorem ch_fine1 (o : Nat) (F : Nat → Prop) (s : St) (line : Int) (p q r : ByteArray) (x k a b : Int) (bl bp : Nat) (w : World) (hw : WfSt s) (hc : CellAt w o F s) (hl : w.cell? ⟨bl, 0, none⟩ = some (.int .i64 line)) (hp : Blk w bp (tv3 p q r) 38) :
  Calls Tryz.prog 50 #[.pointer (some ⟨o, 0, none⟩), .agg (fv x k a b), .pointer (some ⟨bl, 0, none⟩), .pointer (some ⟨bp, 0, none⟩)] w (ActT o F (twoSt s line p q r true k a b) (.int .i64 (twoC s line p q r true k)) w) := by
 obtain ⟨w1, hw1⟩ : ∃ w1, w.alloc (.cells (fv x k a b) 40) = w1 := ⟨_, rfl⟩
 have hb1 : Below w.heap.size w w1 := by rw [← hw1]; exact (Below.refl _ _).alloc (Nat.le_refl _) _
 have hk1 : Blk w1 w.heap.size (fv x k a b) 40 := by rw [← hw1]; exact Blk.new w _ _
 have hcon := (ce_two_all o F s line p q r x k a b w1 hw (hc.keep fun k hk => hb1.block k (hc.lt k hk))).2
 have HCON := Lib.hid hcon
 have HB1 := Lib.hid hb1
 have HK1 := Lib.hid hk1
 have HW1 := Lib.hid hw1
 have c1 := Lib.cell?_alloc_some (.cells (fv x k a b) 40) hl
 have HP1 : Hid (Blk (w.alloc (.cells (fv x k a b) 40)) bp (tv3 p q r) 38) := hp.alloc _
 clear hcon hb1 hk1 hw1 hw hc hp
 go_enter Tryz.func50, Tryz.ntmps50
 go_wp2_with (first | (refine wpList_load_row rfl 38 (.tmp 3) rfl bp rfl 38 (tv3 p q r) (0, 0) _ HP1.out Tryz.underlying38 rfl size_three ?_) | (refine wpList_load_row rfl 40 (.tmp 5) rfl w.heap.size rfl 40 (fv x k a b) (0, 0) _ (by first | exact HK1.out | (rw [HW1.out]; exact HK1.out)) Tryz.underlying40 rfl size_fault4 ?_))
 change Calls _ _ _ (w.alloc (.cells (fv x k a b) 40)) _
 rw [HW1.out]
 refine HCON.out.mono ?_
 rintro e w2 h
 obtain ⟨rfl, h2⟩ := h.of_below HB1.out
 have H2 := Lib.hid h2
 clear h h2
 go_wp2_with fail
 go_ret
 exact ⟨rfl, H2.out⟩
set_option maxHeartbeats 1000000 in
theorem ch_erase1 (o : Nat) (F : Nat → Prop) (s : St) (x k a b : Int) (w : World) (hw : WfSt s) (hc : CellAt w o F s) (h1 : s.slc < 1000000000) (h2 : s.tlc < 1000000000) :
  Calls Tryz.prog 52 #[.pointer (some ⟨o, 0, none⟩), .agg (fv x k a b)] w (ActT o F (eraseSt s k a b) (.int .i64 (eraseC s k)) w) := by
 obtain ⟨w1, hw1⟩ : ∃ w1, w.alloc (.cells (fv x k a b) 40) = w1 := ⟨_, rfl⟩
 have hb1 : Below w.heap.size w w1 := by rw [← hw1]; exact (Below.refl _ _).alloc (Nat.le_refl _) _
 have hk1 : Blk w1 w.heap.size (fv x k a b) 40 := by rw [← hw1]; exact Blk.new w _ _
 have hcon := ce_erase o F s x k a b w1 hw (hc.keep fun k hk => hb1.block k (hc.lt k hk)) h1 h2
 have HCON := Lib.hid hcon
 have HB1 := Lib.hid hb1
 have HK1 := Lib.hid hk1
 have HW1 := Lib.hid hw1
 clear hcon hb1 hk1 hw1 hw hc
 go_enter Tryz.func52, Tryz.ntmps52
 go_wp2_with (refine wpList_load_row rfl 40 (.tmp 3) rfl w.heap.size rfl 40 (fv x k a b) (0, 0) _ (by first | exact HK1.out | (rw [HW1.out]; exact HK1.out)) Tryz.underlying40 rfl size_fault4 ?_)
 change Calls _ _ _ (w.alloc (.cells (fv x k a b) 40)) _
 rw [HW1.out]
 refine HCON.out.mono ?_
 rintro e w2 h
 obtain ⟨rfl, h2⟩ := h.of_below HB1.out
 have H2 := Lib.hid h2
 clear h h2
 go_wp2_with fail
 go_ret
 exact ⟨rfl, H2.out⟩
/- Package chip, walked: what Read hands to an operation; the call that is deferred. -/
theorem flipF_sizeC (s : ByteArray) (x : Fa) : (flipF s x).size = s.size := by
 unfold flipF
 split
 ·rename_i h; rw [h]; rfl
 ·rename_i h
  have h1 : bitF s x / 8 < s.size := by
   have := bitF_lt s x (by omega)
   omega
  rw [flipS_size _ _ _ h1]
theorem read_ok {s : St} {line part : Int} (h : ReadOk s line part) : readT s line part = atT s (3 * line.toNat + part.toNat) ∧ readC s line part = 0 := by
 unfold readT readC
 rw [if_pos h, if_pos h]
 exact ⟨rfl, rfl⟩
def R1T (o gc kc : Nat) (oa : Option Addr) (R : List Fa) (ka : Nat) (po : Nat → Nat) (Fc : Nat → Nat → Prop) (c' : ChS) (v : Int) (bp : Nat) (t : ByteArray) (w : World) (e : Ending) (w' : World) : Prop :=
 e = .returned (.int .i64 v) ∧ (∃ x' y', ChipAt w' o gc kc oa R ka x' y' po Fc c') ∧ Only (fun k => k = o ∨ k = bp) w w' ∧ Blk w' bp #[.string t] 9
set_option maxHeartbeats 2000000 in
theorem ch_read1_no (o gc kc : Nat) (oa : Option Addr) (R : List Fa) (ka : Nat) (x y : Int) (po : Nat → Nat) (Fc : Nat → Nat → Prop) (c : ChS) (i : Nat) (hi : i < c.cs.length) (ln pt : Int) (f1 f2 f3 f4 : Int) (ba bc bp : Nat) (t0 : ByteArray) (w : World) (hw : WfSt (cellOf c i))
  (h : ChipAt w o gc kc oa R ka x y po Fc c) (hb1 : w.cell? ⟨ba, 1, none⟩ = some (.int .i64 ln)) (hb2 : w.cell? ⟨ba, 2, none⟩ = some (.int .i64 pt)) (hbp : Blk w bp #[.string t0] 9) (hno : ¬ ReadOk (cellOf c i) ln pt) :
  Calls Tryz.prog 31 #[.pointer (some ⟨po i, 0, none⟩), .agg (fv f1 f2 f3 f4), .pointer (some ⟨ba, 0, none⟩), .pointer (some ⟨bc, 0, none⟩), .pointer (some ⟨bp, 0, none⟩)] w (R1T o gc kc oa R ka po Fc c 80 bp t0 w) := by
 have hB : Below w.heap.size w (w.alloc (.cells (fv f1 f2 f3 f4) 40)) := (Below.refl _ _).alloc (Nat.le_refl _) _
 have c1 := Lib.cell?_alloc_some (.cells (fv f1 f2 f3 f4) 40) hb1
 have c2 := Lib.cell?_alloc_some (.cells (fv f1 f2 f3 f4) 40) hb2
 have HRD := Lib.hid (ce_read (po i) (Fc i) (cellOf c i) ln pt _ hw ((h.after hB).at i hi).2.2)
 have HEQ : Hid (ReadP (cellOf c i) ln pt (w.alloc (.cells (fv f1 f2 f3 f4) 40)) = fun e w' => e = .returned (.tuple #[.string ByteArray.empty, .int .i64 80]) ∧ Below (w.alloc (.cells (fv f1 f2 f3 f4) 40)).heap.size (w.alloc (.cells (fv f1 f2 f3 f4) 40)) w') := by
  show ReadP _ _ _ _ = _
  unfold ReadP
  rw [(read_no hno).1, (read_no hno).2]
 have H := Lib.hid h
 have HBB := Lib.hid hB
 have HP := Lib.hid hbp
 clear h hB hbp hno hw hb1 hb2
 go_enter Tryz.func31, Tryz.ntmps31
 go_wp2_with fail
 change Calls _ _ _ (w.alloc (.cells (fv f1 f2 f3 f4) 40)) _
 refine (HEQ.out ▸ HRD.out).mono ?_
 rintro e w2 ⟨rfl, hb⟩
 have HB2 := Lib.hid (HBB.out.trans (hb.mono HBB.out.size))
 clear hb HRD HEQ
 go_wp2_with fail
 go_ret
 exact ⟨rfl, ⟨x, y, H.out.after HB2.out⟩, Only.of_below HB2.out, HP.out.after HB2.out⟩
set_option maxHeartbeats 2000000 in
theorem ch_read1_cut (o gc kc : Nat) (oa : Option Addr) (R : List Fa) (ka : Nat) (x y : Int) (po : Nat → Nat) (Fc : Nat → Nat → Prop) (c : ChS) (i : Nat) (hi : i < c.cs.length) (ln pt : Int) (f1 f3 f4 : Int) (ba bc bp : Nat) (t0 : ByteArray) (w : World) (hw : WfSt (cellOf c i))
  (h : ChipAt w o gc kc oa R ka x y po Fc c) (hb1 : w.cell? ⟨ba, 1, none⟩ = some (.int .i64 ln)) (hb2 : w.cell? ⟨ba, 2, none⟩ = some (.int .i64 pt)) (hbp : Blk w bp #[.string t0] 9) (hok : ReadOk (cellOf c i) ln pt) :
  Calls Tryz.prog 31 #[.pointer (some ⟨po i, 0, none⟩), .agg (fv f1 1 f3 f4), .pointer (some ⟨ba, 0, none⟩), .pointer (some ⟨bc, 0, none⟩), .pointer (some ⟨bp, 0, none⟩)] w (R1T o gc kc oa R ka po Fc c 82 bp t0 w) := by
 obtain ⟨w1, hw1⟩ : ∃ w1, w.alloc (.cells (fv f1 1 f3 f4) 40) = w1 := ⟨_, rfl⟩
 have hB : Below w.heap.size w w1 := by rw [← hw1]; exact (Below.refl _ _).alloc (Nat.le_refl _) _
 have hk : Blk w1 w.heap.size (fv f1 1 f3 f4) 40 := by rw [← hw1]; exact Blk.new w _ _
 have c1 := Lib.cell?_alloc_some (.cells (fv f1 1 f3 f4) 40) hb1
 have c2 := Lib.cell?_alloc_some (.cells (fv f1 1 f3 f4) 40) hb2
 obtain ⟨s, hs⟩ : ∃ s, readT (cellOf c i) ln pt = s := ⟨_, rfl⟩
 have HRD := Lib.hid (ce_read (po i) (Fc i) (cellOf c i) ln pt w1 hw ((h.after hB).at i hi).2.2)
 have HEQ : Hid (ReadP (cellOf c i) ln pt w1 = fun e w' => e = .returned (.tuple #[.string s, .int .i64 0]) ∧ Below w1.heap.size w1 w') := by
  show ReadP _ _ _ _ = _
  unfold ReadP
  rw [(read_ok hok).2, hs]
 have H := Lib.hid h
 have HBB := Lib.hid hB
 have HP := Lib.hid hbp
 have HK := Lib.hid hk
 have HW1 := Lib.hid hw1
 clear h hB hbp hok hw hb1 hb2 hs hk hw1
 go_enter Tryz.func31, Tryz.ntmps31
 go_wp2_with fail
 change Calls _ _ _ (w.alloc (.cells (fv f1 1 f3 f4) 40)) _
 rw [HW1.out]
 refine (HEQ.out ▸ HRD.out).mono ?_
 rintro e w2 ⟨rfl, hb⟩
 have HB2 := Lib.hid (HBB.out.trans (hb.mono HBB.out.size))
 have ck : w2.cell? ⟨w.heap.size, 1, none⟩ = some (.int .i64 1) := (HK.out.after hb).cell 1
 clear hb HRD HEQ
 go_wp2_with fail
 go_ret
 exact ⟨rfl, ⟨x, y, H.out.after HB2.out⟩, Only.of_below HB2.out, HP.out.after HB2.out⟩
set_option maxHeartbeats 4000000 in
theorem ch_read1_yes (o gc kc : Nat) (oa : Option Addr) (R : List Fa) (ka : Nat) (x y : Int) (po : Nat → Nat) (Fc : Nat → Nat → Prop) (c : ChS) (i : Nat) (hi : i < c.cs.length) (ln pt : Int) (f1 f2 f3 f4 : Int) (ba bc bp : Nat) (t0 : ByteArray) (w : World) (hw : WfSt (cellOf c i))
  (h : ChipAt w o gc kc oa R ka x y po Fc c) (hb1 : w.cell? ⟨ba, 1, none⟩ = some (.int .i64 ln)) (hb2 : w.cell? ⟨ba, 2, none⟩ = some (.int .i64 pt)) (hbc : w.cell? ⟨bc, 0, none⟩ = some (.pointer (some ⟨o, 0, none⟩))) (hbp : Blk w bp #[.string t0] 9) (hne : bp ≠ o ∧ ∀ k, FC o gc c.cs.length Fc oa R k → k ≠ bp)
  (hok : ReadOk (cellOf c i) ln pt) (hf : f2 ≠ 1) :
  Calls Tryz.prog 31 #[.pointer (some ⟨po i, 0, none⟩), .agg (fv f1 f2 f3 f4), .pointer (some ⟨ba, 0, none⟩), .pointer (some ⟨bc, 0, none⟩), .pointer (some ⟨bp, 0, none⟩)] w
   (R1T o gc kc oa R ka po Fc (calmCh c) 0 bp (shakeCh c (if f2 = 3 then flipF (readT (cellOf c i) ln pt) (f1, f2, f3, f4) else readT (cellOf c i) ln pt)) w) := by
 obtain ⟨w1, hw1⟩ : ∃ w1, w.alloc (.cells (fv f1 f2 f3 f4) 40) = w1 := ⟨_, rfl⟩
 have hB : Below w.heap.size w w1 := by rw [← hw1]; exact (Below.refl _ _).alloc (Nat.le_refl _) _
 have hk : Blk w1 w.heap.size (fv f1 f2 f3 f4) 40 := by rw [← hw1]; exact Blk.new w _ _
 have c1 := Lib.cell?_alloc_some (.cells (fv f1 f2 f3 f4) 40) hb1
 have c2 := Lib.cell?_alloc_some (.cells (fv f1 f2 f3 f4) 40) hb2
 have hsz : (readT (cellOf c i) ln pt).size ≤ 400 := by rw [(read_ok hok).1]; exact atT_size hw _
 obtain ⟨s, hs⟩ : ∃ s, readT (cellOf c i) ln pt = s := ⟨_, rfl⟩
 rw [hs] at hsz ⊢
 have HRD := Lib.hid (ce_read (po i) (Fc i) (cellOf c i) ln pt w1 hw ((h.after hB).at i hi).2.2)
 have HEQ : Hid (ReadP (cellOf c i) ln pt w1 = fun e w' => e = .returned (.tuple #[.string s, .int .i64 0]) ∧ Below w1.heap.size w1 w') := by
  show ReadP _ _ _ _ = _
  unfold ReadP
  rw [(read_ok hok).2, hs]
 have H := Lib.hid h
 have HBB := Lib.hid hB
 have HP := Lib.hid hbp
 have HK := Lib.hid hk
 have HW1 := Lib.hid hw1
 have HNE := Lib.hid hne
 have HBC := Lib.hid hbc
 have HSZ := Lib.hid hsz
 have hf1 : (f2 == 1) = false := by simpa using hf
 have HF := Lib.hid hf
 clear h hB hbp hok hw hb1 hb2 hs hk hw1 hne hbc hsz hf
 by_cases h3 : f2 = 3
 ·subst h3
  rw [if_pos rfl]
  clear hf1
  go_enter Tryz.func31, Tryz.ntmps31
  go_wp2_with fail
  change Calls _ _ _ (w.alloc (.cells (fv f1 3 f3 f4) 40)) _
  rw [HW1.out]
  refine (HEQ.out ▸ HRD.out).mono ?_
  rintro e w2 ⟨rfl, hb⟩
  have HB2 := Lib.hid (HBB.out.trans (hb.mono HBB.out.size))
  have HK2 := Lib.hid (HK.out.after hb)
  have ck : w2.cell? ⟨w.heap.size, 1, none⟩ = some (.int .i64 3) := HK2.out.cell 1
  clear hb HRD HEQ
  go_wp2_with (refine wpList_load_row rfl 40 (.tmp 6) rfl w.heap.size rfl 40 (fv f1 3 f3 f4) (0, 0) _ HK2.out Tryz.underlying40 rfl size_fault4 ?_)
  refine (fa_flipped s (f1, 3, f3, f4) _ (by have := HSZ.out; omega)).mono ?_
  rintro e w3 ⟨rfl, hb⟩
  have HB3 := Lib.hid (HB2.out.trans (hb.mono HB2.out.size))
  have cc3 : w3.cell? ⟨bc, 0, none⟩ = some (.pointer (some ⟨o, 0, none⟩)) := (HB3.out.cell (p := ⟨bc, 0, none⟩) (cell_lt HBC.out)).trans HBC.out
  clear hb ck HB2 HK2
  go_wp2_with fail
  refine (ch_told o gc kc oa R ka x y po Fc c (flipF s (f1, 3, f3, f4)) w3 (H.out.after HB3.out) (by rw [flipF_sizeC]; have := HSZ.out; omega)).mono ?_
  rintro e w4 ⟨rfl, ⟨x', y', h4⟩, ho4⟩
  have HP4 : Hid (Blk w4 bp #[.string t0] 9) := (HP.out.after HB3.out).only ho4 HNE.out.1
  have c4 : w4.cell? ⟨bp, 0, none⟩ = some (.string t0) := HP4.out.cell 0
  have f4' := HP4.out.free 0
  have H4 := Lib.hid h4
  have HO4 : Hid (Only (fun k => k = o ∨ k = bp) w w4) := (Only.of_below (F := fun k => k = o ∨ k = bp) HB3.out).trans ho4 (fun k hk => Or.inl (Or.inl hk))
  clear h4 ho4 cc3
  go_wp2_with fail
  go_ret
  refine ⟨rfl, ⟨x', y', H4.out.keep fun k hk => Below.heap_setCell _ _ _ _ (HNE.out.2 k hk)⟩, HO4.out.setCell ⟨bp, 0, none⟩ _ (Or.inr rfl), HP4.out.set 0 _ rfl⟩
 ·rw [if_neg h3]
  have hf3 : (f2 == 3) = false := by simpa using h3
  go_enter Tryz.func31, Tryz.ntmps31
  go_wp2_with fail
  change Calls _ _ _ (w.alloc (.cells (fv f1 f2 f3 f4) 40)) _
  rw [HW1.out]
  refine (HEQ.out ▸ HRD.out).mono ?_
  rintro e w2 ⟨rfl, hb⟩
  have HB3 := Lib.hid (HBB.out.trans (hb.mono HBB.out.size))
  have ck : w2.cell? ⟨w.heap.size, 1, none⟩ = some (.int .i64 f2) := (HK.out.after hb).cell 1
  have cc3 : w2.cell? ⟨bc, 0, none⟩ = some (.pointer (some ⟨o, 0, none⟩)) := (HB3.out.cell (p := ⟨bc, 0, none⟩) (cell_lt HBC.out)).trans HBC.out
  have hfn := HF.out
  clear hb HRD HEQ
  go_wp2_with fail
  refine (ch_told o gc kc oa R ka x y po Fc c s w2 (H.out.after HB3.out) (by have := HSZ.out; omega)).mono ?_
  rintro e w4 ⟨rfl, ⟨x', y', h4⟩, ho4⟩
  have HP4 : Hid (Blk w4 bp #[.string t0] 9) := (HP.out.after HB3.out).only ho4 HNE.out.1
  have c4 : w4.cell? ⟨bp, 0, none⟩ = some (.string t0) := HP4.out.cell 0
  have f4' := HP4.out.free 0
  have H4 := Lib.hid h4
  have HO4 : Hid (Only (fun k => k = o ∨ k = bp) w w4) := (Only.of_below (F := fun k => k = o ∨ k = bp) HB3.out).trans ho4 (fun k hk => Or.inl (Or.inl hk))
  clear h4 ho4 cc3 ck
  go_wp2_with fail
  go_ret
  refine ⟨rfl, ⟨x', y', H4.out.keep fun k hk => Below.heap_setCell _ _ _ _ (HNE.out.2 k hk)⟩, HO4.out.setCell ⟨bp, 0, none⟩ _ (Or.inr rfl), HP4.out.set 0 _ rfl⟩
theorem ch_defer (b4 b8 o gc kc : Nat) (oa : Option Addr) (R : List Fa) (ka : Nat) (x y : Int) (po : Nat → Nat) (Fc : Nat → Nat → Prop) (c : ChS) (e : Int) (u : FrameMode) (w : World) (h : ChipAt w o gc kc oa R ka x y po Fc c) (h1 : c.rej ≤ 1000000000) (h2 : c.cuts ≤ 1000000000)
  (hb4 : w.cell? ⟨b4, 0, none⟩ = some (.pointer (some ⟨o, 0, none⟩))) (hb8 : w.cell? ⟨b8, 0, none⟩ = some (.int .i64 e)) :
  CallsD Tryz.prog 72 #[.pointer (some ⟨b4, 0, none⟩), .pointer (some ⟨b8, 0, none⟩)] u w fun r u' w' => u' = u ∧ (r = .returned (.tuple #[]) ∧ ChipAt w' o gc kc oa R ka x y po Fc (endCh c e) ∧ Only (Fo o) w w') := by
 have HCON := Lib.hid (ch_count0 o gc kc oa R ka x y po Fc c e w h h1 h2)
 clear h h1 h2
 go_enter_d Tryz.func72, Tryz.ntmps72
 go_wp2_with fail
 refine HCON.out.mono ?_
 rintro r w1 ⟨rfl, h1, h2⟩
 have HX := Lib.hid (⟨h1, h2⟩ : _ ∧ _)
 clear h1 h2
 go_wp2_with fail
 go_end0
 exact ⟨rfl, HX.out⟩
/- Package chip, walked: an operation. -/
def DoT (o gc kc : Nat) (oa : Option Addr) (R : List Fa) (ka : Nat) (po : Nat → Nat) (Fc : Nat → Nat → Prop) (c2 : ChS) (e0 : Int) (X : Nat → Prop) (Ps : World → Prop) (w : World) (e : Ending) (w2 : World) : Prop :=
 e = .returned (.int .i64 e0) ∧ (∃ x2 y2 Fc2, ChipAt w2 o gc kc oa R ka x2 y2 po Fc2 c2 ∧ (∀ j k, Fc2 j k → Fc j k ∨ w.heap.size ≤ k)) ∧ Only (fun k => FP o gc c2.cs.length Fc k ∨ X k) w w2 ∧ Ps w2
def OpX (o : Nat) (F : Nat → Prop) (c' : ChS) (v : Int) (X : Nat → Prop) (Ps : World → Prop) (w : World) (e : Ending) (w' : World) : Prop :=
 e = .returned (.int .i64 v) ∧ (∃ F', ChAt w' o F' c' ∧ Grows F F' w) ∧ Only (fun k => F k ∨ X k) w w' ∧ Ps w'
structure TOp (b8 : Nat) (e0 : Int) (Ph : World → Prop) (w w' : World) : Prop where
 box : w.cell? ⟨b8, 0, none⟩ = some (.int .i64 e0) → w'.cell? ⟨b8, 0, none⟩ = some (.int .i64 e0)
 ph : Ph w → Ph w'
structure SpOP (b8 : Nat) (e0 : Int) (Ph : World → Prop) (j : Nat) (a : Act) (w : World) : Prop where
 f9 : j = 9 → a.tmps.getD 50 undef = .int .i64 e0 ∧ Ph w
 f10 : j = 10 → w.cell? ⟨b8, 0, none⟩ = some (.int .i64 e0)
theorem SpOP.ext (b8 : Nat) (e0 : Int) (Ph : World → Prop) : ∀ (j : Nat) (a a' : Act) (w w' : World), SpOP b8 e0 Ph j a w → (∀ d ∈ (if j = 9 then [50] else []), a'.tmps.getD d undef = a.tmps.getD d undef) → TOp b8 e0 Ph w w' → SpOP b8 e0 Ph j a' w' := by
 rintro j a a' w w' ⟨h9, h10⟩ hx ⟨hb, hp⟩
 exact ⟨fun h => ⟨(hx 50 (by rw [if_pos h]; exact List.mem_singleton_self _)).trans (h9 h).1, hp (h9 h).2⟩, fun h => hb (h10 h)⟩
def vsOPR (o gc n kc i p : Nat) (hv : Array Value) (g : FuncId) (lb : Array Value) : List (Option (Tmp × Value)) :=
 [some (41, .func (.func g) #[] lb), some (42, .pointer (some ⟨o, 0, none⟩)), some (43, .pointer (some ⟨o, 0, none⟩)), some (44, .pointer (some ⟨o, 6, none⟩)), some (45, .slice (some ⟨gc, 0, none⟩) n kc), some (46, .int .i64 (i : Int)), some (47, .pointer (some ⟨gc, i, none⟩)), some (48, .pointer (some ⟨p, 0, none⟩)), some (49, .agg hv), none, none]
def BaseOPR (o i b4 b8 b10 : Nat) (op : Int) (g : FuncId) (lb : Array Value) (a : Act) : Prop := ∃ u : Nat → Value, a = ⟨#[.pointer (some ⟨o, 0, none⟩), .int .i64 op, .int .i64 (i : Int), .func (.func g) #[] lb, .pointer (some ⟨b4, 0, none⟩), u 5, u 6, u 7, .pointer (some ⟨b8, 0, none⟩), u 9, .pointer (some ⟨b10, 0, none⟩), u 11, u 12, u 13, u 14, u 15, u 16, u 17, u 18, u 19, u 20, u 21, u 22, u 23, u 24, u 25, u 26, u 27, u 28, u 29, u 30, u 31, u 32, u 33, u 34, u 35, u 36, u 37, u 38, u 39, u 40, u 41, u 42, u 43, u 44, u 45, u 46, u 47, u 48, u 49, u 50], [{ target := .fn (.func 72) #[.pointer (some ⟨b4, 0, none⟩), .pointer (some ⟨b8, 0, none⟩)], args := #[] }]⟩
set_option maxHeartbeats 4000000 in
theorem ch_operate_on (o gc kc : Nat) (oa : Option Addr) (R : List Fa) (ka : Nat) (x y : Int) (po : Nat → Nat) (Fc : Nat → Nat → Prop) (c : ChS) (op : Int) (i : Nat) (hi : i < c.cs.length) (hoff : c.off = false) (hops : c.ops ≤ 100000000)
  (g : FuncId) (lb : Array Value) (eg : ∀ args w, (callFunc g args).run Tryz.prog w = .ok (.enter g args) w) (e0 : Int) (c2 : ChS) (X : Nat → Prop) (Ps : World → Prop) (w : World) (h : ChipAt w o gc kc oa R ka x y po Fc c)
  (hcr : c2.rej ≤ 1000000000) (hcc : c2.cuts ≤ 1000000000) (hcl : c2.cs.length = c.cs.length) (hX : ∀ k, X k → k < w.heap.size)
  (hdo : ∀ W oa' R' ka', ChipAt W o gc kc oa' R' ka' x y po Fc (opsCh c) → Only (Fo o) w W → (∀ k, FC o gc c.cs.length Fc oa' R' k → FC o gc c.cs.length Fc oa R k) →
   Calls Tryz.prog g (#[.pointer (some ⟨po i, 0, none⟩), .agg (encF (howF c op)).toArray] ++ lb) W (DoT o gc kc oa' R' ka' po Fc c2 e0 X Ps W))
  (hps : ∀ w1 w2, Ps w1 → w.heap.size ≤ w1.heap.size → Only (fun k => k = o ∨ w.heap.size ≤ k) w1 w2 → Ps w2) :
  Calls Tryz.prog 30 #[.pointer (some ⟨o, 0, none⟩), .int .i64 op, .int .i64 (i : Nat), .func (.func g) #[] lb] w (OpX o (FC o gc c.cs.length Fc oa R) (endCh c2 e0) e0 X Ps w) := by
 have hmf : ∀ (fn : Fn) (first cap : Array Value) (w : World), (Instr.makeFunc fn first cap).run Tryz.prog w = .ok (.func fn first cap) w := fun _ _ _ _ => rfl
 obtain ⟨W0, hW0⟩ : ∃ W0, (w.alloc (.cells #[.pointer (some ⟨o, 0, none⟩)] 26)).alloc (.cells #[.int .i64 0] 27) = W0 := ⟨_, rfl⟩
 have hb0 : Below w.heap.size w W0 := by rw [← hW0]; exact ((Below.refl _ _).alloc (Nat.le_refl _) _).alloc (by simp) _
 have h0 := h.after hb0
 have c11 : ((w.alloc (.cells #[.pointer (some ⟨o, 0, none⟩)] 26)).alloc (.cells #[.int .i64 0] 27)).cell? ⟨o, 11, none⟩ = some (.bool false) := by rw [hW0, ← hoff]; exact h0.blk.cell 11
 have c8 : ((w.alloc (.cells #[.pointer (some ⟨o, 0, none⟩)] 26)).alloc (.cells #[.int .i64 0] 27)).cell? ⟨o, 8, none⟩ = some (.int .i64 c.ops) := by rw [hW0]; exact h0.blk.cell 8
 have f8 : ((w.alloc (.cells #[.pointer (some ⟨o, 0, none⟩)] 26)).alloc (.cells #[.int .i64 0] 27)).frozen? ⟨o, 8, none⟩ = false := by rw [hW0]; exact h0.blk.free 8
 have H := Lib.hid h
 have HDO := Lib.hid hdo
 have HPS := Lib.hid hps
 have HW0 := Lib.hid hW0
 clear h hdo hps h0 hb0 hW0
 go_enter_defers Tryz.func30, Tryz.ntmps30
 go_wp2_with fail
 change Calls _ _ _ (((w.alloc (.cells #[.pointer (some ⟨o, 0, none⟩)] 26)).alloc (.cells #[.int .i64 0] 27)).setCell ⟨o, 8, none⟩ (.int .i64 ((c.ops : Int) + 1))) _
 rw [HW0.out]
 clear c11 c8 f8
 have hb0 : Below w.heap.size w W0 := by rw [← HW0.out]; exact ((Below.refl _ _).alloc (Nat.le_refl _) _).alloc (by simp) _
 have hk4 : Blk W0 w.heap.size #[.pointer (some ⟨o, 0, none⟩)] 26 := by rw [← HW0.out]; exact (Blk.new w _ _).alloc _
 have hk8 : Blk W0 (w.heap.size + 1) #[.int .i64 0] 27 := by
  rw [← HW0.out]
  have h := Blk.new (w.alloc (.cells #[.pointer (some ⟨o, 0, none⟩)] 26)) #[.int .i64 0] 27
  rwa [World.size_alloc] at h
 have hol : o < w.heap.size := H.out.blk.lt
 have hs0 : w.heap.size + 2 ≤ W0.heap.size := hk8.lt
 obtain ⟨b4, hb4⟩ : ∃ b, w.heap.size = b := ⟨_, rfl⟩
 obtain ⟨b8, hb8⟩ : ∃ b, w.heap.size + 1 = b := ⟨_, rfl⟩
 obtain ⟨W1, hW1⟩ : ∃ W1, W0.setCell ⟨o, 8, none⟩ (.int .i64 ((c.ops : Int) + 1)) = W1 := ⟨_, rfl⟩
 have ho1 : Only (Fo o) W0 W1 := by rw [← hW1]; exact (Only.refl (Fo o) W0).setCell ⟨o, 8, none⟩ _ (show Fo o o from rfl)
 have h1 : ChipAt W1 o gc kc oa R ka x y po Fc (opsCh c) := (H.out.after hb0).own (by rw [← hW1]; exact (H.out.after hb0).blk.set 8 _ rfl) ho1 rfl rfl (Nat.le_succ _) H.out.shake
 have n4 : b4 ≠ o := by omega
 have n8 : b8 ≠ o := by omega
 have hk4 : Blk W1 b4 #[.pointer (some ⟨o, 0, none⟩)] 26 := by rw [← hb4]; exact hk4.only ho1 (by show ¬ _ = o; omega)
 have hk8 : Blk W1 b8 #[.int .i64 0] 27 := by rw [← hb8]; exact hk8.only ho1 (by show ¬ _ = o; omega)
 have hown1 : Only (Fo o) w W1 := (Only.of_below (F := Fo o) hb0).trans ho1 (fun _ hk => Or.inl hk)
 have HB48 : Hid (b4 = w.heap.size ∧ b8 = w.heap.size + 1 ∧ o < w.heap.size) := ⟨hb4.symm, hb8.symm, hol⟩
 rw [hb8, hb4, hW1]
 have hhas := ch_has o _ (opsCh c) (i : Nat) W1 h1.chAt
 rw [show decide (chHas (opsCh c) (i : Nat)) = true from decide_eq_true (⟨by omega, by show ((i : Nat) : Int) < ((c.cs.length : Nat) : Int); omega⟩ : chHas (opsCh c) (i : Nat))] at hhas
 have hdue := ch_due o gc kc oa R ka x y po Fc (opsCh c) (c.ops : Nat) (⟨by show ((c.ops : Nat) : Int) ≤ ((c.ops + 1 : Nat) : Int); omega, by omega, by omega⟩) W1 h1
 have hmt : meetF (dueR R (c.ops : Nat)) (c.ops : Nat) op = meetF c.fs (c.ops : Nat) op := by
  unfold dueR
  rw [meet_take (R := aheadR R (c.ops : Nat)) (H.out.srt.drop _)]
  unfold aheadR
  rw [meet_drop H.out.srt _ _ _ (Int.le_refl _)]
  exact H.out.same _ op (Int.le_refl _)
 have hdl : (dueR R (c.ops : Nat)).length ≤ maxLen := by
  have h2 := H.out.len
  have h3 : (dueR R (c.ops : Nat)).length ≤ R.length := by unfold dueR aheadR; rw [List.length_take, List.length_drop]; omega
  unfold maxLen; omega
 obtain ⟨hv, hhv⟩ : ∃ hv, (encF (howF c op)).toArray = hv := ⟨_, rfl⟩
 obtain ⟨mb, hmb⟩ : ∃ mb, (meetF c.fs (c.ops : Nat) op).isSome = mb := ⟨_, rfl⟩
 have hmeet : ∀ oa2 ka2 w2, FsAt w2 oa2 (dueR R (c.ops : Nat)) → Calls Tryz.prog 75 #[.slice oa2 (dueR R (c.ops : Nat)).length ka2, .int .i64 (c.ops : Nat), .int .i64 op] w2 fun e w3 => e = .returned (.tuple #[.agg hv, .bool mb]) ∧ Below w2.heap.size w2 w3 := fun oa2 ka2 w2 hf => by
  have h2 := fa_meets oa2 ka2 (dueR R (c.ops : Nat)) hdl (c.ops : Nat) op w2 hf
  rw [hmt] at h2
  rw [← hhv, ← hmb]
  exact h2
 have hvs : hv.size = 4 := by rw [← hhv]; simp [encF]
 have hv1 : hv.all (·.oneCell') = true := by rw [← hhv]; exact encF_all _
 rw [hhv] at HDO
 have HHAS := Lib.hid hhas
 have HDUE := Lib.hid hdue
 have HMEET := Lib.hid hmeet
 have HK4 := Lib.hid hk4
 have HK8 := Lib.hid hk8
 have HO1 := Lib.hid hown1
 have HN48 := Lib.hid (⟨n4, n8⟩ : b4 ≠ o ∧ b8 ≠ o)
 have HSZ : Hid ((Tryz.prog.info? 40).map (·.size) = some hv.size) := by show _ = some hv.size; rw [hvs]; exact size_fault4
 have HVS := Lib.hid hvs
 have HV1 := Lib.hid hv1
 have HOPS := Lib.hid hops
 have HI := Lib.hid hi
 have HCL2 := Lib.hid (⟨hcr, hcc, hcl⟩ : c2.rej ≤ 1000000000 ∧ c2.cuts ≤ 1000000000 ∧ c2.cs.length = c.cs.length)
 have HX := Lib.hid hX
 obtain ⟨dR, hdR⟩ : ∃ dR, dueR R (c.ops : Nat) = dR := ⟨_, rfl⟩
 rw [hdR] at HDUE HMEET
 clear hhas hdue hmeet hk4 hk8 hown1 n4 n8 hvs hv1 hmt hdl hhv hmb hW1 ho1 h1 hb0 hs0 hb4 hb8 hol hi hcr hcc hcl hX HW0 hoff hdR
 refine HHAS.out.mono ?_
 rintro r w2 ⟨rfl, rfl⟩
 clear HHAS
 have c41 : W1.cell? ⟨b4, 0, none⟩ = some (.pointer (some ⟨o, 0, none⟩)) := HK4.out.cell 0
 go_wp2_with fail
 refine HDUE.out.mono ?_
 rintro r w2 ⟨oa2, ka2, rfl, hf2, ⟨oa', ka', h2, hnb⟩, ho2⟩
 have HME := Lib.hid (HMEET.out oa2 ka2 w2 hf2.at)
 have H2 := Lib.hid h2
 have HNB := Lib.hid hnb
 have HO2 := Lib.hid (HO1.out.trans ho2 (fun _ hk => Or.inl hk))
 have HJ4 : Hid (Blk w2 b4 #[.pointer (some ⟨o, 0, none⟩)] 26) := HK4.out.only ho2 HN48.out.1
 have HJ8 : Hid (Blk w2 b8 #[.int .i64 0] 27) := HK8.out.only ho2 HN48.out.2
 have c42 : w2.cell? ⟨b4, 0, none⟩ = some (.pointer (some ⟨o, 0, none⟩)) := HJ4.out.cell 0
 clear c41 hf2 h2 hnb ho2 HDUE HMEET HK4 HK8 HO1
 go_wp2_with fail
 refine HME.out.mono ?_
 rintro r w3 ⟨rfl, hb3⟩
 obtain ⟨Wd, hWd⟩ : ∃ Wd, (w3.alloc (.cells (encF f0).toArray 40)).setRow w3.heap.size hv = Wd := ⟨_, rfl⟩
 have hz3 : Blk (w3.alloc (.cells (encF f0).toArray 40)) w3.heap.size (encF f0).toArray 40 := Blk.new w3 _ _
 have hxh : Blk Wd w3.heap.size hv 40 := by rw [← hWd]; exact hz3.put _
 have hbd : Below w2.heap.size w2 Wd := by rw [← hWd]; exact below_put hb3.size _ (hb3.alloc hb3.size _)
 have hd := H2.out.after hbd
 have HOD : Hid (Only (Fo o) w Wd) := HO2.out.trans (Only.of_below (F := Fo o) hbd) (fun _ hk => Or.inl hk)
 have hj4 := HJ4.out.after hbd
 have hj8 := HJ8.out.after hbd
 have HZ3 := Lib.hid hz3
 have HXH := Lib.hid hxh
 have HWD0 := Lib.hid hWd
 have HD := Lib.hid hd
 have HJ48 := Lib.hid (⟨hj4, hj8⟩ : Blk Wd b4 #[.pointer (some ⟨o, 0, none⟩)] 26 ∧ Blk Wd b8 #[.int .i64 0] 27)
 clear hb3 hWd hz3 hxh hbd hd hj4 hj8 H2 HJ4 HJ8 HO2 HME c42
 go_wp2_with (refine wpList_store_row rfl 40 (.tmp 10) (.tmp 39) rfl w3.heap.size hv rfl rfl 40 (encF f0).toArray HZ3.out HSZ.out HVS.out.symm HV1.out ?_; change wpList _ _ _ _ _ ((w3.alloc (.cells (encF f0).toArray 40)).setRow w3.heap.size hv); rw [HWD0.out])
 obtain ⟨b10, hb10⟩ : ∃ b, w3.heap.size = b := ⟨_, rfl⟩
 rw [hb10] at HXH ⊢
 clear hb10 HZ3 HWD0 HVS HV1
 obtain ⟨Wr, hWr⟩ : ∃ Wr, Wd.drew = Wr := ⟨_, rfl⟩
 obtain ⟨n, hn⟩ : ∃ n, c.cs.length = n := ⟨_, rfl⟩
 obtain ⟨p, hp⟩ : ∃ p, po i = p := ⟨_, rfl⟩
 have hdr : ChipAt Wr o gc kc oa' (aheadR R (c.ops : Nat)) ka' x y po Fc (opsCh c) := by rw [← hWr]; exact HD.out.keep fun _ _ => rfl
 have hor : Only (Fo o) w Wr := by rw [← hWr]; exact HOD.out.drew
 have hfc : ∀ k, FC o gc c.cs.length Fc oa' (aheadR R (c.ops : Nat)) k → FC o gc c.cs.length Fc oa R k := by
  rintro k (h1 | ⟨hr, a, ha, rfl⟩)
  ·exact Or.inl h1
  ·obtain ⟨hr2, h2⟩ := HNB.out hr
   obtain ⟨a0, h3, h4⟩ := h2 a ha
   exact Or.inr ⟨hr2, a0, h3, h4.symm⟩
 have hcall := HDO.out Wr oa' (aheadR R (c.ops : Nat)) ka' hdr hor hfc
 have hFX : ∀ k, FP o gc c2.cs.length Fc k ∨ X k → k < w.heap.size := by
  rintro k (h1 | h1)
  ·rw [HCL2.out.2.2] at h1; exact H.out.lt k (Or.inl h1)
  ·exact HX.out k h1
 obtain ⟨Dp, hDp⟩ : ∃ Dp : World → Prop, (fun w5 => (∃ x2 y2 Fc2, ChipAt w5 o gc kc oa' (aheadR R (c.ops : Nat)) ka' x2 y2 po Fc2 c2 ∧ (∀ j k, Fc2 j k → Fc j k ∨ Wr.heap.size ≤ k)) ∧ Only (fun k => FP o gc c2.cs.length Fc k ∨ X k) Wr w5 ∧ Ps w5) = Dp := ⟨_, rfl⟩
 obtain ⟨Ph, hPh⟩ : ∃ Ph : World → Prop, (fun w' => ∃ w5, Dp w5 ∧ Only (fun k => k = b8) w5 w' ∧ ∃ v, Blk w' b8 #[v] 27) = Ph := ⟨_, rfl⟩
 have hj8 : Blk Wr b8 #[.int .i64 0] 27 := by rw [← hWr]; exact HJ48.out.2.drew
 have hj4 : Blk Wr b4 #[.pointer (some ⟨o, 0, none⟩)] 26 := by rw [← hWr]; exact HJ48.out.1.drew
 have hb8w5 : ∀ w5, Dp w5 → w5.heap[b8]? = Wr.heap[b8]? ∧ w5.heap[b4]? = Wr.heap[b4]? := fun w5 hd => by
  rw [← hDp] at hd
  have h48 := HB48.out
  exact ⟨hd.2.1.block b8 hj8.lt (fun hf => by have := hFX _ hf; omega), hd.2.1.block b4 hj4.lt (fun hf => by have := hFX _ hf; omega)⟩
 have HX4 : Hid (Wr.cell? ⟨b4, 0, none⟩ = some (.pointer (some ⟨o, 0, none⟩))) := hj4.cell 0
 have HX6 : Hid (Wr.cell? ⟨o, 6, none⟩ = some (.slice (some ⟨gc, 0, none⟩) n kc)) := by rw [← hn]; exact hdr.blk.cell 6
 have HXI : Hid (Wr.cell? ⟨gc, i, none⟩ = some (.pointer (some ⟨p, 0, none⟩))) := by rw [← hp]; exact hdr.row i HI.out
 have HXHR : Hid (Blk Wr b10 hv 40) := by show Blk Wr b10 hv _; rw [← hWr]; exact HXH.out.drew
 have HIN : Hid ((i : Int) < (n : Int)) := by have := HI.out; show (i : Int) < (n : Int); omega
 have HCL : Hid (∀ w', w' = Wr → Calls Tryz.prog g (#[.pointer (some ⟨p, 0, none⟩), .agg hv] ++ lb) w' fun e w5 => e = .returned (.int .i64 e0) ∧ Dp w5) := by
  rintro _ rfl
  rw [← hDp, ← hp]
  exact hcall
 have HB8 : Hid (∀ w5, Dp w5 → Wr.cell? ⟨b8, 0, none⟩ = some (.int .i64 e0) → w5.cell? ⟨b8, 0, none⟩ = some (.int .i64 e0)) := fun w5 hd h => by rw [cell_of_heap (hb8w5 w5 hd).1]; exact h
 have HPH : Hid (∀ w5, Dp w5 → Ph w5) := fun w5 hd => by
  rw [← hPh]
  refine ⟨w5, hd, Only.refl _ _, .int .i64 0, ?_⟩
  unfold Blk at *
  rw [(hb8w5 w5 hd).1]; exact hj8
 have HBX : Hid (∀ w', Ph w' → ∃ v, w'.cell? ⟨b8, 0, none⟩ = some v ∧ w'.frozen? ⟨b8, 0, none⟩ = false) := fun w' hph => by
  rw [← hPh] at hph
  obtain ⟨w5, _, _, v, hv⟩ := hph
  exact ⟨v, hv.cell 0, hv.free 0⟩
 have HST : Hid (∀ w', Ph w' → Ph (w'.setCell ⟨b8, 0, none⟩ (.int .i64 e0)) ∧ (w'.setCell ⟨b8, 0, none⟩ (.int .i64 e0)).cell? ⟨b8, 0, none⟩ = some (.int .i64 e0)) := fun w' hph => by
  rw [← hPh] at hph ⊢
  obtain ⟨w5, h1, h2, v, hv⟩ := hph
  have hb := hv.set 0 (.int .i64 e0) (ds := #[.int .i64 e0]) rfl
  exact ⟨⟨w5, h1, h2.setCell ⟨b8, 0, none⟩ _ (show b8 = b8 from rfl), _, hb⟩, hb.cell 0⟩
 have HWD := Lib.hid hWr
 have HP5 : Hid (∀ w', Ph w' → w'.cell? ⟨b8, 0, none⟩ = some (.int .i64 e0) → ∃ x2 y2 Fc2, ChipAt w' o gc kc oa' (aheadR R (c.ops : Nat)) ka' x2 y2 po Fc2 c2 ∧ Grows (FC o gc c.cs.length Fc oa R) (FC o gc c2.cs.length Fc2 oa' (aheadR R (c.ops : Nat))) w ∧
   Only (fun k => FC o gc c.cs.length Fc oa R k ∨ X k) w w' ∧ Ps w' ∧ Blk w' b4 #[.pointer (some ⟨o, 0, none⟩)] 26 ∧ b8 < w'.heap.size ∧ w.heap.size ≤ w'.heap.size) := fun w' hph hc => by
  rw [← hPh] at hph
  obtain ⟨w5, h1, h2, v, hv⟩ := hph
  have hb5 := hb8w5 w5 h1
  have h48 := HB48.out
  rw [← hDp] at h1
  obtain ⟨⟨x2, y2, Fc2, h3, h4⟩, h5, h6⟩ := h1
  have hcl := HCL2.out.2.2
  have hsr : w.heap.size ≤ Wr.heap.size := hor.size
  have h8l : b8 < Wr.heap.size := hj8.lt
  have hgr : Grows (FC o gc c.cs.length Fc oa R) (FC o gc c2.cs.length Fc2 oa' (aheadR R (c.ops : Nat))) Wr := by
   rintro k ((rfl | rfl | ⟨j, hj, hk⟩) | hk)
   ·exact Or.inl (Or.inl (Or.inl rfl))
   ·exact Or.inl (Or.inl (Or.inr (Or.inl rfl)))
   ·exact (h4 j k hk).imp (fun h => Or.inl (Or.inr (Or.inr ⟨j, by omega, h⟩))) id
   ·exact Or.inl (hfc k (Or.inr hk))
  have hnb8 : ∀ k, FC o gc c2.cs.length Fc2 oa' (aheadR R (c.ops : Nat)) k → k ≠ b8 := fun k hk => by
   rcases hgr k hk with h | h
   ·have := H.out.lt k h; omega
   ·omega
  have hpw : Only (fun k => FC o gc c.cs.length Fc oa R k ∨ X k) w w5 := by
   refine (hor.mono (fun k hk => Or.inl (Or.inl (Or.inl hk)))).trans h5 (fun k hk => Or.inl ?_)
   rcases hk with hk | hk
   ·rw [hcl] at hk; exact Or.inl (Or.inl hk)
   ·exact Or.inr hk
  refine ⟨x2, y2, Fc2, h3.keep fun k hk => h2.block k (h3.lt k hk) (hnb8 k hk), fun k hk => (hgr k hk).imp id (fun h => by omega), hpw.trans h2 (fun k hk => Or.inr (by omega)), HPS.out w5 w' h6 hpw.size (h2.mono fun k hk => Or.inr (by omega)), ?_, hv.lt, Nat.le_trans hpw.size h2.size⟩
  have h4l : b4 < w5.heap.size := by have := h5.size; omega
  unfold Blk at *
  rw [h2.block b4 h4l (by omega), hb5.2]; exact hj4
 have HXH := HXHR
 clear hWr hn hp hdr hor hfc hcall hFX hDp hPh hj8 hj4 hb8w5 HXHR HD HOD HNB HJ48 HDO HX
 rename_i K0 hK0
 refine wp_region_list6 9 (fun i => i == 10) (SV2 (vsOPR o gc n kc i p hv g lb) (fun j => if j = 9 then [50] else [])) (BaseOPR o i b4 b8 b10 op g lb) (fun w' => w' = Wr) (TOp b8 e0 Ph) (RV (vsOPR o gc n kc i p hv g lb) (SpOP b8 e0 Ph)) rfl (by decide) (by kernel_rfl) (by kernel_rfl) (RV.ext2 (SpOP.ext b8 e0 Ph)) ?_ (HWD.out) (fr_of _ (by kernel_rfl)) ?_ ?_
 ·exact ⟨fr_put 41 fun _ _ => by kernel_rfl, fr_put 42 fun _ _ => by kernel_rfl, fr_put 43 fun _ _ => by kernel_rfl, fr_put 44 fun _ _ => by kernel_rfl, fr_put 45 fun _ _ => by kernel_rfl, fr_put 46 fun _ _ => by kernel_rfl, fr_put 47 fun _ _ => by kernel_rfl, fr_put 48 fun _ _ => by kernel_rfl, fr_put 49 fun _ _ => by kernel_rfl, fr_put 50 fun _ _ => by kernel_rfl, fun a v h => h, trivial⟩
 ·refine ⟨?_, ?_, ?_, ?_, ?_, ?_, ?_, ?_, ?_, ?_, ?_, trivial⟩
  all_goals
   intro a w' hC hB hR
   obtain ⟨u, rfl⟩ := hB
   have HC := Lib.hid hC
   clear hC; clear hK0
  ·clear hR; refine if_yes (by kernel_rfl) ?_; unfold Oper.wp; go_simp
   exact ⟨.func (.func g) #[] lb, rfl, (by first | exact fun _ _ => HC.out rfl | exact HC.out rfl | trivial | exact fun _ h => absurd h (by decide)), ⟨fun h => h, fun h => h⟩, rfl⟩
  ·have hc : w'.cell? ⟨b4, 0, none⟩ = some (.pointer (some ⟨o, 0, none⟩)) := by rw [HC.out rfl]; exact HX4.out
   clear hR; refine if_yes (by kernel_rfl) ?_; unfold Oper.wp; go_simp; exact ⟨.pointer (some ⟨o, 0, none⟩), rfl, (by first | exact fun _ _ => HC.out rfl | exact HC.out rfl | trivial | exact fun _ h => absurd h (by decide)), ⟨fun h => h, fun h => h⟩, rfl⟩
  ·have h42 : u 42 = .pointer (some ⟨o, 0, none⟩) := hR ⟨1, .data⟩ (by simp) rfl; clear hR; simp only [h42]; refine if_yes (by kernel_rfl) ?_; unfold Oper.wp; go_simp; exact ⟨.pointer (some ⟨o, 0, none⟩), rfl, (by first | exact fun _ _ => HC.out rfl | exact HC.out rfl | trivial | exact fun _ h => absurd h (by decide)), ⟨fun h => h, fun h => h⟩, rfl⟩
  ·have h43 : u 43 = .pointer (some ⟨o, 0, none⟩) := hR ⟨2, .data⟩ (by simp) rfl; clear hR; simp only [h43]; refine if_yes (by kernel_rfl) ?_; unfold Oper.wp; go_simp; exact ⟨.pointer (some ⟨o, 6, none⟩), rfl, (by first | exact fun _ _ => HC.out rfl | exact HC.out rfl | trivial | exact fun _ h => absurd h (by decide)), ⟨fun h => h, fun h => h⟩, rfl⟩
  ·have h44 : u 44 = .pointer (some ⟨o, 6, none⟩) := hR ⟨3, .data⟩ (by simp) rfl
   have hc : w'.cell? ⟨o, 6, none⟩ = some (.slice (some ⟨gc, 0, none⟩) n kc) := by rw [HC.out rfl]; exact HX6.out
   clear hR; simp only [h44]; refine if_yes (by kernel_rfl) ?_; unfold Oper.wp; go_simp
   exact ⟨.slice (some ⟨gc, 0, none⟩) n kc, rfl, (by first | exact fun _ _ => HC.out rfl | exact HC.out rfl | trivial | exact fun _ h => absurd h (by decide)), ⟨fun h => h, fun h => h⟩, rfl⟩
  ·clear hR; refine if_yes (by kernel_rfl) ?_; unfold Oper.wp; go_simp; exact ⟨.int .i64 (i : Int), rfl, (by first | exact fun _ _ => HC.out rfl | exact HC.out rfl | trivial | exact fun _ h => absurd h (by decide)), ⟨fun h => h, fun h => h⟩, rfl⟩
  ·have h45 : u 45 = .slice (some ⟨gc, 0, none⟩) n kc := hR ⟨4, .data⟩ (by simp) rfl; have h46 : u 46 = .int .i64 (i : Int) := hR ⟨5, .data⟩ (by simp) rfl
   have hin := HIN.out
   clear hR; simp only [h45, h46]; refine if_yes (by kernel_rfl) ?_; unfold Oper.wp; go_simp; exact ⟨.pointer (some ⟨gc, i, none⟩), rfl, (by first | exact fun _ _ => HC.out rfl | exact HC.out rfl | trivial | exact fun _ h => absurd h (by decide)), ⟨fun h => h, fun h => h⟩, rfl⟩
  ·have h47 : u 47 = .pointer (some ⟨gc, i, none⟩) := hR ⟨6, .data⟩ (by simp) rfl
   have hc : w'.cell? ⟨gc, i, none⟩ = some (.pointer (some ⟨p, 0, none⟩)) := by rw [HC.out rfl]; exact HXI.out
   clear hR; simp only [h47]; refine if_yes (by kernel_rfl) ?_; unfold Oper.wp; go_simp; exact ⟨.pointer (some ⟨p, 0, none⟩), rfl, (by first | exact fun _ _ => HC.out rfl | exact HC.out rfl | trivial | exact fun _ h => absurd h (by decide)), ⟨fun h => h, fun h => h⟩, rfl⟩
  ·clear hR; refine if_yes (by kernel_rfl) ?_
   exact wp_load_row 40 (.tmp 10) rfl b10 rfl 40 hv (0, 0) _ (by rw [HC.out rfl]; exact HXH.out) Tryz.underlying40 rfl HSZ.out ⟨.agg hv, rfl, (by first | exact fun _ _ => HC.out rfl | exact HC.out rfl | trivial | exact fun _ h => absurd h (by decide)), ⟨fun h => h, fun h => h⟩, rfl⟩
  ·have h41 : u 41 = .func (.func g) #[] lb := hR ⟨0, .data⟩ (by simp) rfl; have h48 : u 48 = .pointer (some ⟨p, 0, none⟩) := hR ⟨7, .data⟩ (by simp) rfl; have h49 : u 49 = .agg hv := hR ⟨8, .data⟩ (by simp) rfl; clear hR; simp only [h41, h48, h49]; refine if_yes (by kernel_rfl) ?_; unfold Oper.wp; go_simp
   refine (HCL.out _ (HC.out rfl)).mono ?_
   rintro e w5 ⟨rfl, hd⟩
   exact ⟨.int .i64 e0, rfl, (by first | trivial | exact fun h => absurd rfl h), ⟨fun hz => HB8.out w5 hd (by rw [← HC.out rfl]; exact hz), fun _ => HPH.out w5 hd⟩, ⟨fun _ => ⟨rfl, HPH.out w5 hd⟩, fun h => absurd h (by decide)⟩⟩
  ·have h9 := (hR ⟨9, .data⟩ (by simp) rfl).f9 rfl
   have hv : u 50 = .int .i64 e0 := h9.1
   obtain ⟨v0, hc8, hf8⟩ := HBX.out w' h9.2
   have hst := HST.out w' h9.2
   simp only [hv]; clear hR; refine if_yes (by kernel_rfl) ?_; unfold Oper.wp; go_simp; exact ⟨undef, rfl, (by first | trivial | exact fun _ h => absurd h (by decide)), ⟨fun _ => hst.2, fun _ => hst.1⟩, ⟨fun h => absurd h (by decide), fun _ => hst.2⟩⟩
 ·intro a' w' hB hR
  have h9 := (hR 9 (by decide)).f9 rfl
  have h10 := (hR 10 (by decide)).f10 rfl
  obtain ⟨u, rfl⟩ := hB
  obtain ⟨x2, y2, Fc2, g1, g2, g3, g4, g5, g6, g7⟩ := HP5.out w' h9.2 h10
  have g8 := g5.cell 0
  have h48 := HB48.out
  have G := Lib.hid (⟨g1, g2, g3, g4, g6⟩ : _ ∧ _ ∧ _ ∧ _ ∧ _)
  have G7 := Lib.hid g7
  clear hR h9 HX4 HX6 HXI HIN HCL HB8 HPH HBX HST HWD HP5 HXH g1 g2 g3 g4 g5 g6 g7
  go_wp2_with fail
  refine leaves_cons (f := 72) (args := #[.pointer (some ⟨b4, 0, none⟩), .pointer (some ⟨b8, 0, none⟩)]) (by simp) (by simp [go_sem]) ?_
  refine (ch_defer b4 b8 o gc kc oa' (aheadR R (c.ops : Nat)) ka' x2 y2 po Fc2 c2 e0 .returning w' G.out.1 HCL2.out.1 HCL2.out.2.1 g8 h10).mono ?_
  rintro r u' w'' ⟨rfl, rfl, h6, h7⟩
  have h8 : w''.cell? ⟨b8, 0, none⟩ = some (.int .i64 e0) := by rw [cell_of_heap (h7.block b8 G.out.2.2.2.2 (by show ¬ b8 = o; omega))]; exact h10
  have hcs : (endCh c2 e0).cs.length = c2.cs.length := by
   unfold endCh
   split
   ·rfl
   ·split <;> rfl
  refine ⟨.int .i64 e0, ?_, rfl, ⟨_, h6.chAt, fun k hk => ?_⟩, G.out.2.2.1.trans h7 (fun k hk => Or.inl (Or.inl (Or.inl (Or.inl hk)))), HPS.out w' w'' G.out.2.2.2.1 G7.out (h7.mono fun k hk => Or.inl hk)⟩
  ·simp [results, Tryz.results30, go_sem, h8]
  ·rw [hcs] at hk
   exact G.out.2.1 k hk
/- Package chip, walked: an operation without power, one of no block. -/
set_option maxHeartbeats 1000000 in
theorem ch_operate_off (o : Nat) (F : Nat → Prop) (c : ChS) (op bl : Int) (hoff : c.off = true) (dv : Value) (w : World) (h : ChAt w o F c) :
  Calls Tryz.prog 30 #[.pointer (some ⟨o, 0, none⟩), .int .i64 op, .int .i64 bl, dv] w fun e w' => e = .returned (.int .i64 82) ∧ Below w.heap.size w w' := by
 obtain ⟨gc, kc, oa, R, ka, x, y, po, Fc, rfl, h⟩ := h
 obtain ⟨W0, hW0⟩ : ∃ W0, (w.alloc (.cells #[.pointer (some ⟨o, 0, none⟩)] 26)).alloc (.cells #[.int .i64 0] 27) = W0 := ⟨_, rfl⟩
 have hb0 : Below w.heap.size w W0 := by rw [← hW0]; exact ((Below.refl _ _).alloc (Nat.le_refl _) _).alloc (by simp) _
 have h0 := h.after hb0
 have c11 : ((w.alloc (.cells #[.pointer (some ⟨o, 0, none⟩)] 26)).alloc (.cells #[.int .i64 0] 27)).cell? ⟨o, 11, none⟩ = some (.bool true) := by rw [hW0, ← hoff]; exact h0.blk.cell 11
 have HB : Hid (Below w.heap.size w ((w.alloc (.cells #[.pointer (some ⟨o, 0, none⟩)] 26)).alloc (.cells #[.int .i64 82] 27))) := ((Below.refl _ _).alloc (Nat.le_refl _) _).alloc (by simp) _
 clear h hb0 h0 hW0 hoff
 go_enter_defers Tryz.func30, Tryz.ntmps30
 go_wp2_with fail
 refine ⟨.int .i64 82, ?_, rfl, HB.out⟩
 simp [results, Tryz.results30, go_sem]
set_option maxHeartbeats 2000000 in
theorem ch_operate_no (o : Nat) (F : Nat → Prop) (c : ChS) (op bl : Int) (hoff : c.off = false) (hno : ¬ chHas c bl) (hops : c.ops ≤ 100000000) (hcr : c.rej ≤ 1000000000) (hcc : c.cuts ≤ 1000000000) (dv : Value) (w : World) (h : ChAt w o F c) :
  Calls Tryz.prog 30 #[.pointer (some ⟨o, 0, none⟩), .int .i64 op, .int .i64 bl, dv] w (OpT o F (endCh (opsCh c) 80) (.int .i64 80) w) := by
 obtain ⟨gc, kc, oa, R, ka, x, y, po, Fc, rfl, h⟩ := h
 have hmf : ∀ (fn : Fn) (first cap : Array Value) (w : World), (Instr.makeFunc fn first cap).run Tryz.prog w = .ok (.func fn first cap) w := fun _ _ _ _ => rfl
 obtain ⟨W0, hW0⟩ : ∃ W0, (w.alloc (.cells #[.pointer (some ⟨o, 0, none⟩)] 26)).alloc (.cells #[.int .i64 0] 27) = W0 := ⟨_, rfl⟩
 have hb0 : Below w.heap.size w W0 := by rw [← hW0]; exact ((Below.refl _ _).alloc (Nat.le_refl _) _).alloc (by simp) _
 have h0 := h.after hb0
 have c11 : ((w.alloc (.cells #[.pointer (some ⟨o, 0, none⟩)] 26)).alloc (.cells #[.int .i64 0] 27)).cell? ⟨o, 11, none⟩ = some (.bool false) := by rw [hW0, ← hoff]; exact h0.blk.cell 11
 have c8 : ((w.alloc (.cells #[.pointer (some ⟨o, 0, none⟩)] 26)).alloc (.cells #[.int .i64 0] 27)).cell? ⟨o, 8, none⟩ = some (.int .i64 c.ops) := by rw [hW0]; exact h0.blk.cell 8
 have f8 : ((w.alloc (.cells #[.pointer (some ⟨o, 0, none⟩)] 26)).alloc (.cells #[.int .i64 0] 27)).frozen? ⟨o, 8, none⟩ = false := by rw [hW0]; exact h0.blk.free 8
 have H := Lib.hid h
 have HNO := Lib.hid hno
 have HW0 := Lib.hid hW0
 clear h h0 hb0 hW0 hno
 go_enter_defers Tryz.func30, Tryz.ntmps30
 go_wp2_with fail
 change Calls _ _ _ (((w.alloc (.cells #[.pointer (some ⟨o, 0, none⟩)] 26)).alloc (.cells #[.int .i64 0] 27)).setCell ⟨o, 8, none⟩ (.int .i64 ((c.ops : Int) + 1))) _
 rw [HW0.out]
 clear c11 c8 f8
 have hb0 : Below w.heap.size w W0 := by rw [← HW0.out]; exact ((Below.refl _ _).alloc (Nat.le_refl _) _).alloc (by simp) _
 have hk4 : Blk W0 w.heap.size #[.pointer (some ⟨o, 0, none⟩)] 26 := by rw [← HW0.out]; exact (Blk.new w _ _).alloc _
 have hk8 : Blk W0 (w.heap.size + 1) #[.int .i64 0] 27 := by
  rw [← HW0.out]
  have h := Blk.new (w.alloc (.cells #[.pointer (some ⟨o, 0, none⟩)] 26)) #[.int .i64 0] 27
  rwa [World.size_alloc] at h
 have hol : o < w.heap.size := H.out.blk.lt
 have hs0 : w.heap.size + 2 ≤ W0.heap.size := hk8.lt
 obtain ⟨b4, hb4⟩ : ∃ b, w.heap.size = b := ⟨_, rfl⟩
 obtain ⟨b8, hb8⟩ : ∃ b, w.heap.size + 1 = b := ⟨_, rfl⟩
 obtain ⟨W1, hW1⟩ : ∃ W1, W0.setCell ⟨o, 8, none⟩ (.int .i64 ((c.ops : Int) + 1)) = W1 := ⟨_, rfl⟩
 have ho1 : Only (Fo o) W0 W1 := by rw [← hW1]; exact (Only.refl (Fo o) W0).setCell ⟨o, 8, none⟩ _ (show Fo o o from rfl)
 have h1 : ChipAt W1 o gc kc oa R ka x y po Fc (opsCh c) := (H.out.after hb0).own (by rw [← hW1]; exact (H.out.after hb0).blk.set 8 _ rfl) ho1 rfl rfl (Nat.le_succ _) H.out.shake
 have hk4 : Blk W1 b4 #[.pointer (some ⟨o, 0, none⟩)] 26 := by rw [← hb4]; exact hk4.only ho1 (by show ¬ _ = o; omega)
 have hk8 : Blk W1 b8 #[.int .i64 0] 27 := by rw [← hb8]; exact hk8.only ho1 (by show ¬ _ = o; omega)
 have hown1 : Only (Fo o) w W1 := (Only.of_below (F := Fo o) hb0).trans ho1 (fun _ hk => Or.inl hk)
 have HB48 : Hid (b4 = w.heap.size ∧ b8 = w.heap.size + 1 ∧ o < w.heap.size) := ⟨hb4.symm, hb8.symm, hol⟩
 rw [hb8, hb4, hW1]
 have hhas := ch_has o _ (opsCh c) bl W1 h1.chAt
 rw [show decide (chHas (opsCh c) bl) = false from decide_eq_false (fun hh => HNO.out ⟨hh.1, hh.2⟩)] at hhas
 have c8 := hk8.cell 0
 have f8 := hk8.free 0
 have H1 := Lib.hid h1
 have HO1 := Lib.hid hown1
 have HK4 := Lib.hid hk4
 have HK8 := Lib.hid hk8
 have HHAS := Lib.hid hhas
 clear hk4 hk8 ho1 hW1 hol hs0 hb0 hb4 hb8 h1 hown1 hhas
 refine HHAS.out.mono ?_
 rintro r w2 ⟨rfl, rfl⟩
 clear HHAS
 go_wp2_with fail
 have h48 := HB48.out
 have hb8' : Blk (W1.setCell ⟨b8, 0, none⟩ (.int .i64 80)) b8 #[.int .i64 80] 27 := HK8.out.set 0 _ rfl
 have hb4' : Blk (W1.setCell ⟨b8, 0, none⟩ (.int .i64 80)) b4 #[.pointer (some ⟨o, 0, none⟩)] 26 := HK4.out.set_other (by omega) _ _
 have h2 : ChipAt (W1.setCell ⟨b8, 0, none⟩ (.int .i64 80)) o gc kc oa R ka x y po Fc (opsCh c) := H1.out.keep fun k hk => Below.heap_setCell _ _ _ _ (fun e => by
  have h3 := H.out.lt k hk
  have e2 : k = b8 := e
  omega)
 refine leaves_cons (f := 72) (args := #[.pointer (some ⟨b4, 0, none⟩), .pointer (some ⟨b8, 0, none⟩)]) (by simp) (by simp [go_sem]) ?_
 refine (ch_defer b4 b8 o gc kc oa R ka x y po Fc (opsCh c) 80 .returning _ h2 hcr hcc (hb4'.cell 0) (hb8'.cell 0)).mono ?_
 rintro r u' w'' ⟨rfl, rfl, h6, h7⟩
 have h8 : w''.cell? ⟨b8, 0, none⟩ = some (.int .i64 80) := by rw [cell_of_heap (h7.block b8 hb8'.lt (by show ¬ b8 = o; omega))]; exact hb8'.cell 0
 have hon : Only (FC o gc c.cs.length Fc oa R) w (W1.setCell ⟨b8, 0, none⟩ (.int .i64 80)) := by
  have h3 : Only (fun k => k = o ∨ k = b8) w (W1.setCell ⟨b8, 0, none⟩ (.int .i64 80)) := (HO1.out.mono (fun k hk => Or.inl hk)).setCell ⟨b8, 0, none⟩ _ (Or.inr rfl)
  exact ⟨h3.os, h3.tape, h3.output, h3.size, fun k hk hn => h3.block k hk (fun hf => hf.elim (fun e => hn (Or.inl (Or.inl e))) (fun e => by omega))⟩
 refine ⟨.int .i64 80, ?_, rfl, ⟨_, h6.chAt, fun k hk => Or.inl hk⟩, hon.trans h7 (fun k hk => Or.inl (Or.inl (Or.inl hk)))⟩
 simp [results, Tryz.results30, go_sem, h8]
/- Package chip, walked: Program, Foggy, Fine, Erase. -/
theorem OpT.of_below {o : Nat} {F : Nat → Prop} {c : ChS} {v : Value} {w w1 : World} {e : Ending} {w' : World} (h : OpT o F c v w1 e w') (hb : Below w.heap.size w w1) : OpT o F c v w e w' := by
 obtain ⟨h1, ⟨F', h2, h3⟩, h4⟩ := h
 exact ⟨h1, ⟨F', h2, fun k hk => (h3 k hk).imp id (fun h => Nat.le_trans hb.size h)⟩, (Only.of_below (F := F) hb).trans h4 (fun k hk => Or.inl hk)⟩
structure SmallCh (c : ChS) : Prop where
 ops : c.ops ≤ 100000000
 rej : c.rej ≤ 1000000000
 cuts : c.cuts ≤ 1000000000
theorem cellOf_ops (c : ChS) (x : Int) : cellOf (opsCh c) x = cellOf c x := rfl
set_option maxHeartbeats 1000000 in
theorem ch_do (o : Nat) (F : Nat → Prop) (c : ChS) (op block line : Int) (p q r : ByteArray) (hs : SmallCh c) (g : FuncId) (lb : Array Value) (eg : ∀ args w, (callFunc g args).run Tryz.prog w = .ok (.enter g args) w) (w : World) (h : ChAt w o F c)
  (hcl : ∀ (i b : Nat) (G : Nat → Prop) (W : World), block = (i : Nat) → i < c.cs.length → Only (Fo o) w W → CellAt W b G (cellOf c block) →
   Calls Tryz.prog g (#[.pointer (some ⟨b, 0, none⟩), .agg (encF (howF c op)).toArray] ++ lb) W (ActT b G (opSt (cellOf c block) op line p q r (howF c op)) (.int .i64 (opC (cellOf c block) op line p q r (howF c op))) W)) :
  Calls Tryz.prog 30 #[.pointer (some ⟨o, 0, none⟩), .int .i64 op, .int .i64 block, .func (.func g) #[] lb] w (OpT o F (doSt c op block line p q r) (.int .i64 (doC c op block line p q r)) w) := by
 unfold doSt doC
 cases hoff : c.off with
 | true =>
  rw [if_pos rfl, if_pos rfl]
  refine (ch_operate_off o F c op block hoff _ w h).mono ?_
  rintro e w' ⟨rfl, hb⟩
  exact ⟨rfl, ⟨F, h.after hb, fun k hk => Or.inl hk⟩, Only.of_below hb⟩
 | false =>
  rw [if_neg (show ¬ (false = true) by simp), if_neg (show ¬ (false = true) by simp)]
  by_cases hx : chHas c block
  ·rw [if_pos hx, if_pos hx]
   obtain ⟨i, rfl⟩ : ∃ i : Nat, block = i := ⟨block.toNat, by have := hx.1; omega⟩
   have hi : i < c.cs.length := by have := hx.2; omega
   obtain ⟨gc, kc, oa, R, ka, x, y, po, Fc, rfl, h⟩ := h
   rw [Int.toNat_natCast]
   refine (ch_operate_on o gc kc oa R ka x y po Fc c op i hi hoff hs.ops g lb eg (opC (cellOf c (i : Nat)) op line p q r (howF c op)) (setCh (opsCh c) i (opSt (cellOf c (i : Nat)) op line p q r (howF c op))) (fun _ => False) (fun _ => True) w h hs.rej hs.cuts (by simp [setCh, opsCh]) (fun _ hf => hf.elim) ?_ (fun _ _ _ _ _ => trivial)).mono ?_
   ·intro W oa' R' ka' hW ho hfc
    have hat := (hW.at i hi).2.2
    rw [cellOf_ops] at hat
    refine (hcl i (po i) (Fc i) W rfl hi ho hat).mono ?_
    rintro e w5 ⟨rfl, ⟨F', h1, h2⟩, h3⟩
    refine ⟨rfl, ⟨x, y, _, hW.setCell i hi _ F' h1 h2 h3, fun j k hk => ?_⟩, h3.mono fun k hk => Or.inl (Or.inr (Or.inr ⟨i, by simpa [setCh, opsCh] using hi, hk⟩)), trivial⟩
    by_cases e : j = i
    ·subst e
     simp only [if_true] at hk
     exact h2 k hk
    ·simp only [e, if_false] at hk
     exact Or.inl hk
   ·rintro e w' ⟨rfl, h1, h2, _⟩
    exact ⟨rfl, h1, h2.mono fun k hk => hk.elim id (fun hf => hf.elim)⟩
  ·rw [if_neg hx, if_neg hx]
   exact ch_operate_no o F c op block hoff hx hs.ops hs.rej hs.cuts _ w h
theorem howv (f : Fa) : (encF f).toArray = fv f.1 f.2.1 f.2.2.1 f.2.2.2 := rfl
set_option maxHeartbeats 1000000 in
theorem ch_program (o : Nat) (F : Nat → Prop) (c : ChS) (block line : Int) (p q r : ByteArray) (hw : WfCs c) (hs : SmallCh c) (w : World) (h : ChAt w o F c) :
  Calls Tryz.prog 9 #[.pointer (some ⟨o, 0, none⟩), .int .i64 block, .int .i64 line, .string p] w (OpT o F (doSt c 2 block line p q r) (.int .i64 (doC c 2 block line p q r)) w) := by
 have eg : ∀ args w, (callFunc 41 args).run Tryz.prog w = .ok (.enter 41 args) w := enters_of Tryz.func41 (by kernel_rfl) rfl
 have hmf : ∀ (fn : Fn) (first cap : Array Value) (w : World), (Instr.makeFunc fn first cap).run Tryz.prog w = .ok (.func fn first cap) w := fun _ _ _ _ => rfl
 obtain ⟨W, hW⟩ : ∃ W, (w.alloc (.cells #[.int .i64 line] 3)).alloc (.cells #[.string p] 9) = W := ⟨_, rfl⟩
 have hb : Below w.heap.size w W := by rw [← hW]; exact ((Below.refl _ _).alloc (Nat.le_refl _) _).alloc (by simp) _
 have k1 : Blk W w.heap.size #[.int .i64 line] 3 := by rw [← hW]; exact (Blk.new w _ _).alloc _
 have k2 : Blk W (w.heap.size + 1) #[.string p] 9 := by
  rw [← hW]
  have h1 := Blk.new (w.alloc (.cells #[.int .i64 line] 3)) #[.string p] 9
  rwa [World.size_alloc] at h1
 have hol : o < w.heap.size := h.lt o (by obtain ⟨gc, kc, oa, R, ka, x, y, po, Fc, rfl, _⟩ := h; exact Or.inl (Or.inl rfl))
 have hdo := ch_do o F c 2 block line p q r hs 41 #[.pointer (some ⟨w.heap.size, 0, none⟩), .pointer (some ⟨w.heap.size + 1, 0, none⟩)] eg W (h.after hb) (fun i b G W' hi0 hi ho hc => by
  have hwf : WfSt (cellOf c block) := by rw [hi0]; exact hw.of hi
  have j1 := k1.only ho (by show ¬ _ = o; omega)
  have j2 := k2.only ho (by show ¬ _ = o; omega)
  have h1 := ch_prog1 b G (cellOf c block) line p (howF c 2).1 (howF c 2).2.1 (howF c 2).2.2.1 (howF c 2).2.2.2 w.heap.size (w.heap.size + 1) W' hwf hc (j1.cell 0) (j2.cell 0)
  exact h1)
 have HDO := Lib.hid hdo
 have HB := Lib.hid hb
 have HW := Lib.hid hW
 clear hdo hb hW k1 k2 h hw hs hol eg
 go_enter Tryz.func9, Tryz.ntmps9
 go_wp2_with fail
 change Calls _ _ _ ((w.alloc (.cells #[.int .i64 line] 3)).alloc (.cells #[.string p] 9)) _
 rw [HW.out]
 refine HDO.out.mono ?_
 rintro e w2 h2
 obtain ⟨rfl, h3⟩ := h2.of_below HB.out
 have H3 := Lib.hid h3
 clear h2 h3
 go_wp2_with fail
 go_ret
 exact ⟨rfl, H3.out⟩
set_option maxHeartbeats 1000000 in
theorem ch_foggy (o : Nat) (F : Nat → Prop) (c : ChS) (block line : Int) (p q r : ByteArray) (hw : WfCs c) (hs : SmallCh c) (w : World) (h : ChAt w o F c) :
  Calls Tryz.prog 11 #[.pointer (some ⟨o, 0, none⟩), .int .i64 block, .int .i64 line, .agg (tv3 p q r)] w (OpT o F (doSt c 3 block line p q r) (.int .i64 (doC c 3 block line p q r)) w) := by
 have eg : ∀ args w, (callFunc 48 args).run Tryz.prog w = .ok (.enter 48 args) w := enters_of Tryz.func48 (by kernel_rfl) rfl
 have hmf : ∀ (fn : Fn) (first cap : Array Value) (w : World), (Instr.makeFunc fn first cap).run Tryz.prog w = .ok (.func fn first cap) w := fun _ _ _ _ => rfl
 obtain ⟨W, hW⟩ : ∃ W, (w.alloc (.cells #[.int .i64 line] 3)).alloc (.cells (tv3 p q r) 38) = W := ⟨_, rfl⟩
 have hb : Below w.heap.size w W := by rw [← hW]; exact ((Below.refl _ _).alloc (Nat.le_refl _) _).alloc (by simp) _
 have k1 : Blk W w.heap.size #[.int .i64 line] 3 := by rw [← hW]; exact (Blk.new w _ _).alloc _
 have k2 : Blk W (w.heap.size + 1) (tv3 p q r) 38 := by
  rw [← hW]
  have h1 := Blk.new (w.alloc (.cells #[.int .i64 line] 3)) (tv3 p q r) 38
  rwa [World.size_alloc] at h1
 have hol : o < w.heap.size := h.lt o (by obtain ⟨gc, kc, oa, R, ka, x, y, po, Fc, rfl, _⟩ := h; exact Or.inl (Or.inl rfl))
 have hdo := ch_do o F c 3 block line p q r hs 48 #[.pointer (some ⟨w.heap.size, 0, none⟩), .pointer (some ⟨w.heap.size + 1, 0, none⟩)] eg W (h.after hb) (fun i b G W' hi0 hi ho hc => by
  have hwf : WfSt (cellOf c block) := by rw [hi0]; exact hw.of hi
  have j1 := k1.only ho (by show ¬ _ = o; omega)
  have j2 := k2.only ho (by show ¬ _ = o; omega)
  have h1 := ch_foggy1 b G (cellOf c block) line p q r (howF c 3).1 (howF c 3).2.1 (howF c 3).2.2.1 (howF c 3).2.2.2 w.heap.size (w.heap.size + 1) W' hwf hc (j1.cell 0) j2
  exact h1)
 have HDO := Lib.hid hdo
 have HB := Lib.hid hb
 have HW := Lib.hid hW
 clear hdo hb hW k1 k2 h hw hs hol eg
 go_enter Tryz.func11, Tryz.ntmps11
 go_wp2_with fail
 change Calls _ _ _ ((w.alloc (.cells #[.int .i64 line] 3)).alloc (.cells (tv3 p q r) 38)) _
 rw [HW.out]
 refine HDO.out.mono ?_
 rintro e w2 h2
 obtain ⟨rfl, h3⟩ := h2.of_below HB.out
 have H3 := Lib.hid h3
 clear h2 h3
 go_wp2_with fail
 go_ret
 exact ⟨rfl, H3.out⟩
set_option maxHeartbeats 1000000 in
theorem ch_fine (o : Nat) (F : Nat → Prop) (c : ChS) (block line : Int) (p q r : ByteArray) (hw : WfCs c) (hs : SmallCh c) (w : World) (h : ChAt w o F c) :
  Calls Tryz.prog 12 #[.pointer (some ⟨o, 0, none⟩), .int .i64 block, .int .i64 line, .agg (tv3 p q r)] w (OpT o F (doSt c 4 block line p q r) (.int .i64 (doC c 4 block line p q r)) w) := by
 have eg : ∀ args w, (callFunc 50 args).run Tryz.prog w = .ok (.enter 50 args) w := enters_of Tryz.func50 (by kernel_rfl) rfl
 have hmf : ∀ (fn : Fn) (first cap : Array Value) (w : World), (Instr.makeFunc fn first cap).run Tryz.prog w = .ok (.func fn first cap) w := fun _ _ _ _ => rfl
 obtain ⟨W, hW⟩ : ∃ W, (w.alloc (.cells #[.int .i64 line] 3)).alloc (.cells (tv3 p q r) 38) = W := ⟨_, rfl⟩
 have hb : Below w.heap.size w W := by rw [← hW]; exact ((Below.refl _ _).alloc (Nat.le_refl _) _).alloc (by simp) _
 have k1 : Blk W w.heap.size #[.int .i64 line] 3 := by rw [← hW]; exact (Blk.new w _ _).alloc _
 have k2 : Blk W (w.heap.size + 1) (tv3 p q r) 38 := by
  rw [← hW]
  have h1 := Blk.new (w.alloc (.cells #[.int .i64 line] 3)) (tv3 p q r) 38
  rwa [World.size_alloc] at h1
 have hol : o < w.heap.size := h.lt o (by obtain ⟨gc, kc, oa, R, ka, x, y, po, Fc, rfl, _⟩ := h; exact Or.inl (Or.inl rfl))
 have hdo := ch_do o F c 4 block line p q r hs 50 #[.pointer (some ⟨w.heap.size, 0, none⟩), .pointer (some ⟨w.heap.size + 1, 0, none⟩)] eg W (h.after hb) (fun i b G W' hi0 hi ho hc => by
  have hwf : WfSt (cellOf c block) := by rw [hi0]; exact hw.of hi
  have j1 := k1.only ho (by show ¬ _ = o; omega)
  have j2 := k2.only ho (by show ¬ _ = o; omega)
  have h1 := ch_fine1 b G (cellOf c block) line p q r (howF c 4).1 (howF c 4).2.1 (howF c 4).2.2.1 (howF c 4).2.2.2 w.heap.size (w.heap.size + 1) W' hwf hc (j1.cell 0) j2
  exact h1)
 have HDO := Lib.hid hdo
 have HB := Lib.hid hb
 have HW := Lib.hid hW
 clear hdo hb hW k1 k2 h hw hs hol eg
 go_enter Tryz.func12, Tryz.ntmps12
 go_wp2_with fail
 change Calls _ _ _ ((w.alloc (.cells #[.int .i64 line] 3)).alloc (.cells (tv3 p q r) 38)) _
 rw [HW.out]
 refine HDO.out.mono ?_
 rintro e w2 h2
 obtain ⟨rfl, h3⟩ := h2.of_below HB.out
 have H3 := Lib.hid h3
 clear h2 h3
 go_wp2_with fail
 go_ret
 exact ⟨rfl, H3.out⟩
set_option maxHeartbeats 1000000 in
theorem ch_erase (o : Nat) (F : Nat → Prop) (c : ChS) (block line : Int) (p q r : ByteArray) (hw : WfCs c) (hs : SmallCh c) (hm : ∀ s ∈ c.cs, s.slc < 1000000000 ∧ s.tlc < 1000000000) (w : World) (h : ChAt w o F c) :
  Calls Tryz.prog 13 #[.pointer (some ⟨o, 0, none⟩), .int .i64 block] w (OpT o F (doSt c 5 block line p q r) (.int .i64 (doC c 5 block line p q r)) w) := by
 have eg : ∀ args w, (callFunc 52 args).run Tryz.prog w = .ok (.enter 52 args) w := enters_of Tryz.func52 (by kernel_rfl) rfl
 have hdo := ch_do o F c 5 block line p q r hs 52 #[] eg w h (fun i b G W' hi0 hi _ hc => by
  have hwf : WfSt (cellOf c block) := by rw [hi0]; exact hw.of hi
  have hmm : (cellOf c block).slc < 1000000000 ∧ (cellOf c block).tlc < 1000000000 := by
   subst hi0
   have e : cellOf c (i : Nat) = c.cs[i] := by unfold cellOf; rw [List.getD_eq_getElem?_getD, Int.toNat_natCast, List.getElem?_eq_getElem hi]; rfl
   rw [e]; exact hm _ (List.getElem_mem hi)
  have h1 := ch_erase1 b G (cellOf c block) (howF c 5).1 (howF c 5).2.1 (howF c 5).2.2.1 (howF c 5).2.2.2 W' hwf hc hmm.1 hmm.2
  exact h1)
 have HDO := Lib.hid hdo
 clear hdo h hw hs hm eg
 go_enter Tryz.func13, Tryz.ntmps13
 go_wp2_with fail
 refine HDO.out.mono ?_
 rintro e w2 ⟨rfl, h3⟩
 have H3 := Lib.hid h3
 clear h3
 go_wp2_with fail
 go_ret
 exact ⟨rfl, H3.out⟩
/- Package chip, walked: Read, Power, Shake. -/
def adv (b l p : Int) : Array Value := #[.int .i64 b, .int .i64 l, .int .i64 p]
def RdT (o : Nat) (F : Nat → Prop) (c : ChS) (bl ln pt : Int) (b6 : Nat) (w : World) (e : Ending) (w' : World) : Prop :=
 e = .returned (.int .i64 (rdC c bl ln pt)) ∧ (∃ F', ChAt w' o F' (rdSt c bl ln pt) ∧ Grows F F' w) ∧ Only (fun k => F k ∨ k = b6) w w' ∧ Blk w' b6 #[.string (rdT c bl ln pt)] 9
theorem endCh_zero (c : ChS) : endCh c 0 = c := rfl
set_option maxHeartbeats 1000000 in
theorem ch_rd (o : Nat) (F : Nat → Prop) (c : ChS) (bl ln pt : Int) (hw : WfCs c) (hs : SmallCh c) (b2 b3 b6 : Nat) (w : World) (h : ChAt w o F c) (n2 : b2 ≠ o) (n3 : b3 ≠ o) (n6 : b6 ≠ o) (nF : ¬ F b6)
  (h2 : w.cell? ⟨b2, 0, none⟩ = some (.pointer (some ⟨o, 0, none⟩))) (h3 : w.cell? ⟨b3, 1, none⟩ = some (.int .i64 ln)) (h4 : w.cell? ⟨b3, 2, none⟩ = some (.int .i64 pt)) (h6 : Blk w b6 #[.string ByteArray.empty] 9) :
  Calls Tryz.prog 30 #[.pointer (some ⟨o, 0, none⟩), .int .i64 1, .int .i64 bl, .func (.func 31) #[] #[.pointer (some ⟨b3, 0, none⟩), .pointer (some ⟨b2, 0, none⟩), .pointer (some ⟨b6, 0, none⟩)]] w (RdT o F c bl ln pt b6 w) := by
 have eg : ∀ args w, (callFunc 31 args).run Tryz.prog w = .ok (.enter 31 args) w := enters_of Tryz.func31 (by kernel_rfl) rfl
 unfold RdT rdC rdSt rdT
 cases hoff : c.off with
 | true =>
  have hno : ¬ ReadsCh c bl ln pt := fun hh => by rw [hh.1] at hoff; cases hoff
  rw [if_pos rfl, if_pos rfl, if_neg (fun hh => hno hh.1)]
  refine (ch_operate_off o F c 1 bl hoff _ w h).mono ?_
  rintro e w' ⟨rfl, hb⟩
  exact ⟨rfl, ⟨F, h.after hb, fun k hk => Or.inl hk⟩, Only.of_below hb, h6.after hb⟩
 | false =>
  rw [if_neg (show ¬ (false = true) by simp), if_neg (show ¬ (false = true) by simp)]
  by_cases hx : chHas c bl
  ·obtain ⟨i, rfl⟩ : ∃ i : Nat, bl = i := ⟨bl.toNat, by have := hx.1; omega⟩
   have hi : i < c.cs.length := by have := hx.2; omega
   have hwf := hw.of hi
   obtain ⟨gc, kc, oa, R, ka, x, y, po, Fc, rfl, h⟩ := h
   have hkeep : ∀ W, Only (Fo o) w W → W.cell? ⟨b2, 0, none⟩ = some (.pointer (some ⟨o, 0, none⟩)) ∧ W.cell? ⟨b3, 1, none⟩ = some (.int .i64 ln) ∧ W.cell? ⟨b3, 2, none⟩ = some (.int .i64 pt) ∧ Blk W b6 #[.string ByteArray.empty] 9 := fun W ho => by
    have e2 := ho.block b2 (cell_lt h2) (by show ¬ _ = o; exact n2)
    have e3 := ho.block b3 (cell_lt h3) (by show ¬ _ = o; exact n3)
    refine ⟨by rw [cell_of_heap e2]; exact h2, by rw [cell_of_heap e3]; exact h3, by rw [cell_of_heap e3]; exact h4, h6.only ho (by show ¬ _ = o; exact n6)⟩
   have hps : ∀ t, ∀ w1 w2, Blk w1 b6 #[.string t] 9 → w.heap.size ≤ w1.heap.size → Only (fun k => k = o ∨ w.heap.size ≤ k) w1 w2 → Blk w2 b6 #[.string t] 9 := fun t w1 w2 hb _ ho => by
    have := h6.lt
    exact hb.only ho (by rintro (e | e); exact n6 e; omega)
   by_cases hok : ReadOk (cellOf c (i : Nat)) ln pt
   ·have hrd : ReadsCh c (i : Nat) ln pt := ⟨hoff, hx, hok⟩
    rw [if_pos hrd, if_pos hrd]
    by_cases hk : (howF c 1).2.1 = 1
    ·rw [if_pos hk, if_pos hk, if_neg (fun hh => hh.2 hk)]
     refine (ch_operate_on o gc kc oa R ka x y po Fc c 1 i hi hoff hs.ops _ _ eg 82 (opsCh c) (fun k => k = b6) (fun W => Blk W b6 #[.string ByteArray.empty] 9) w h hs.rej hs.cuts rfl (fun k hk => by rw [hk]; exact h6.lt) ?_ (hps _)).mono ?_
     ·intro W oa' R' ka' hW ho hfc
      obtain ⟨e2, e3, e4, e6⟩ := hkeep W ho
      have hcon := ch_read1_cut o gc kc oa' R' ka' x y po Fc (opsCh c) i hi ln pt (howF c 1).1 (howF c 1).2.2.1 (howF c 1).2.2.2 b3 b2 b6 ByteArray.empty W hwf hW e3 e4 e6 hok
      have hv : (encF (howF c 1)).toArray = fv (howF c 1).1 1 (howF c 1).2.2.1 (howF c 1).2.2.2 := by rw [howv, hk]
      rw [hv]
      refine hcon.mono ?_
      rintro e w5 ⟨rfl, ⟨x', y', h1⟩, h5, h7⟩
      exact ⟨rfl, ⟨x', y', Fc, h1, fun j k hk => Or.inl hk⟩, h5.mono fun k hk => hk.imp Or.inl id, h7⟩
     ·rintro e w' ⟨rfl, h1, h5, h7⟩
      exact ⟨rfl, h1, h5, h7⟩
    ·rw [if_neg hk, if_neg hk, if_pos ⟨hrd, hk⟩]
     refine (ch_operate_on o gc kc oa R ka x y po Fc c 1 i hi hoff hs.ops _ _ eg 0 (calmCh (opsCh c)) (fun k => k = b6) (fun W => Blk W b6 #[.string (shakeCh c (flipCh c (atT (cellOf c (i : Nat)) (3 * ln.toNat + pt.toNat))))] 9) w h hs.rej hs.cuts rfl (fun k hk => by rw [hk]; exact h6.lt) ?_ (hps _)).mono ?_
     ·intro W oa' R' ka' hW ho hfc
      obtain ⟨e2, e3, e4, e6⟩ := hkeep W ho
      have hcon := ch_read1_yes o gc kc oa' R' ka' x y po Fc (opsCh c) i hi ln pt (howF c 1).1 (howF c 1).2.1 (howF c 1).2.2.1 (howF c 1).2.2.2 b3 b2 b6 ByteArray.empty W hwf hW e3 e4 e2 e6 ⟨n6, fun k hk e => nF (by rw [← e]; exact hfc k hk)⟩ hok hk
      refine hcon.mono ?_
      rintro e w5 ⟨rfl, ⟨x', y', h1⟩, h5, h7⟩
      refine ⟨rfl, ⟨x', y', Fc, h1, fun j k hk => Or.inl hk⟩, h5.mono fun k hk => hk.imp Or.inl id, ?_⟩
      simp only [cellOf_ops] at h7
      rw [(read_ok hok).1] at h7
      exact h7
     ·rintro e w' ⟨rfl, h1, h5, h7⟩
      rw [endCh_zero] at h1
      exact ⟨rfl, h1, h5, h7⟩
   ·have hno : ¬ ReadsCh c (i : Nat) ln pt := fun hh => hok hh.2.2
    rw [if_neg hno, if_neg hno, if_neg (fun hh => hno hh.1)]
    refine (ch_operate_on o gc kc oa R ka x y po Fc c 1 i hi hoff hs.ops _ _ eg 80 (opsCh c) (fun k => k = b6) (fun W => Blk W b6 #[.string ByteArray.empty] 9) w h hs.rej hs.cuts rfl (fun k hk => by rw [hk]; exact h6.lt) ?_ (hps _)).mono ?_
    ·intro W oa' R' ka' hW ho hfc
     obtain ⟨e2, e3, e4, e6⟩ := hkeep W ho
     have hcon := ch_read1_no o gc kc oa' R' ka' x y po Fc (opsCh c) i hi ln pt (howF c 1).1 (howF c 1).2.1 (howF c 1).2.2.1 (howF c 1).2.2.2 b3 b2 b6 ByteArray.empty W hwf hW e3 e4 e6 hok
     refine hcon.mono ?_
     rintro e w5 ⟨rfl, ⟨x', y', h1⟩, h5, h7⟩
     exact ⟨rfl, ⟨x', y', Fc, h1, fun j k hk => Or.inl hk⟩, h5.mono fun k hk => hk.imp Or.inl id, h7⟩
    ·rintro e w' ⟨rfl, h1, h5, h7⟩
     exact ⟨rfl, h1, h5, h7⟩
  ·have hno : ¬ ReadsCh c bl ln pt := fun hh => hx hh.2.1
   rw [if_neg hno, if_neg hno, if_neg (fun hh => hno hh.1)]
   refine (ch_operate_no o F c 1 bl hoff hx hs.ops hs.rej hs.cuts _ w h).mono ?_
   rintro e w' ⟨rfl, h1, h5⟩
   exact ⟨rfl, h1, h5.mono fun k hk => Or.inl hk, h6.only h5 nF⟩
theorem size_addrC : (Tryz.prog.info? 37).map (·.size) = some 3 := by kernel_rfl
set_option maxHeartbeats 1000000 in
theorem ch_read (o : Nat) (F : Nat → Prop) (c : ChS) (bl ln pt : Int) (hw : WfCs c) (hs : SmallCh c) (w : World) (h : ChAt w o F c) :
  Calls Tryz.prog 7 #[.pointer (some ⟨o, 0, none⟩), .agg (adv bl ln pt)] w (OpT o F (rdSt c bl ln pt) (.tuple #[.string (rdT c bl ln pt), .int .i64 (rdC c bl ln pt)]) w) := by
 have hmf : ∀ (fn : Fn) (first cap : Array Value) (w : World), (Instr.makeFunc fn first cap).run Tryz.prog w = .ok (.func fn first cap) w := fun _ _ _ _ => rfl
 obtain ⟨W, hW⟩ : ∃ W, ((w.alloc (.cells #[.pointer (some ⟨o, 0, none⟩)] 26)).alloc (.cells (adv bl ln pt) 37)).alloc (.cells #[.string ByteArray.empty] 9) = W := ⟨_, rfl⟩
 have hb : Below w.heap.size w W := by rw [← hW]; exact (((Below.refl _ _).alloc (Nat.le_refl _) _).alloc (by simp) _).alloc (by simp; omega) _
 have k2 : Blk W w.heap.size #[.pointer (some ⟨o, 0, none⟩)] 26 := by rw [← hW]; exact ((Blk.new w _ _).alloc _).alloc _
 have k3 : Blk W (w.heap.size + 1) (adv bl ln pt) 37 := by
  rw [← hW]
  have h1 := (Blk.new (w.alloc (.cells #[.pointer (some ⟨o, 0, none⟩)] 26)) (adv bl ln pt) 37).alloc (.cells #[.string ByteArray.empty] 9)
  rwa [World.size_alloc] at h1
 have k6 : Blk W (w.heap.size + 1 + 1) #[.string ByteArray.empty] 9 := by
  rw [← hW]
  have h1 := Blk.new ((w.alloc (.cells #[.pointer (some ⟨o, 0, none⟩)] 26)).alloc (.cells (adv bl ln pt) 37)) #[.string ByteArray.empty] 9
  rwa [World.size_alloc, World.size_alloc] at h1
 have hol : o < w.heap.size := h.lt o (by obtain ⟨gc, kc, oa, R, ka, x, y, po, Fc, rfl, _⟩ := h; exact Or.inl (Or.inl rfl))
 have hrd := ch_rd o F c bl ln pt hw hs w.heap.size (w.heap.size + 1) (w.heap.size + 1 + 1) W (h.after hb) (by omega) (by omega) (by omega) (fun hf => by have := h.lt _ hf; omega) (k2.cell 0) (k3.cell 1) (k3.cell 2) k6
 have HRD := Lib.hid hrd
 have HB := Lib.hid hb
 have HW := Lib.hid hW
 have HL : Hid (∀ k, F k → k < w.heap.size) := h.lt
 clear hrd hb hW k2 k3 k6 h hw hs hol
 go_enter Tryz.func7, Tryz.ntmps7
 unfold adv
 go_wp2_with fail
 change Calls _ _ _ (((w.alloc (.cells #[.pointer (some ⟨o, 0, none⟩)] 26)).alloc (.cells (adv bl ln pt) 37)).alloc (.cells #[.string ByteArray.empty] 9)) _
 rw [HW.out]
 refine HRD.out.mono ?_
 rintro e w2 ⟨rfl, ⟨F', h1, h2⟩, h3, h4⟩
 have c0 := h4.cell 0
 have HX : Hid ((∃ F', ChAt w2 o F' (rdSt c bl ln pt) ∧ Grows F F' w) ∧ Only F w w2) := by
  refine ⟨⟨F', h1, fun k hk => (h2 k hk).imp id (fun h => Nat.le_trans HB.out.size h)⟩, ?_⟩
  have h5 := (Only.of_below (F := fun k => F k ∨ k = w.heap.size + 1 + 1) HB.out).trans h3 (fun k hk => Or.inl hk)
  exact ⟨h5.os, h5.tape, h5.output, h5.size, fun k hk hn => h5.block k hk (fun hf => hf.elim hn (fun e => by omega))⟩
 generalize rdC c bl ln pt = rc at *
 generalize rdT c bl ln pt = rt at *
 clear h1 h2 h3 h4 HRD
 go_wp2_with fail
 go_ret2
 exact ⟨rfl, HX.out⟩
def onCh (c : ChS) : ChS := { c with off := false }
def shkCh (c : ChS) (a b : Int) : ChS := { c with shk := true, a := a, b := b }
theorem ch_power (o : Nat) (F : Nat → Prop) (c : ChS) (w : World) (h : ChAt w o F c) : Calls Tryz.prog 14 #[.pointer (some ⟨o, 0, none⟩)] w (OpT o F (onCh c) (.tuple #[]) w) := by
 obtain ⟨gc, kc, oa, R, ka, x, y, po, Fc, rfl, h⟩ := h
 have c11 : w.cell? ⟨o, 11, none⟩ = some (.bool c.off) := h.blk.cell 11
 have f11 := h.blk.free 11
 have ho : Only (Fo o) w (w.setCell ⟨o, 11, none⟩ (.bool false)) := (Only.refl (Fo o) w).setCell ⟨o, 11, none⟩ _ (show Fo o o from rfl)
 have HR : Hid (OpT o (FC o gc c.cs.length Fc oa R) (onCh c) (.tuple #[]) w (.returned (.tuple #[])) (w.setCell ⟨o, 11, none⟩ (.bool false))) :=
  ⟨rfl, ⟨_, (h.own (c' := onCh c) (h.blk.set 11 _ rfl) ho rfl rfl (Nat.le_refl _) h.shake).chAt, fun k hk => Or.inl hk⟩, ho.mono fun k hk => Or.inl (Or.inl hk)⟩
 clear h ho
 go_enter Tryz.func14, Tryz.ntmps14
 go_wp2
 go_end0
 exact HR.out
theorem ch_shake (o : Nat) (F : Nat → Prop) (c : ChS) (a b : Int) (w : World) (h : ChAt w o F c) : Calls Tryz.prog 15 #[.pointer (some ⟨o, 0, none⟩), .int .i64 a, .int .i64 b] w (OpT o F (shkCh c a b) (.tuple #[]) w) := by
 obtain ⟨gc, kc, oa, R, ka, x, y, po, Fc, rfl, h⟩ := h
 have hT : w.there o 12 3 := fun j hj => ⟨by
  rw [h.blk.cell]
  obtain rfl | rfl | rfl : j = 0 ∨ j = 1 ∨ j = 2 := by omega
  all_goals rfl, h.blk.free _⟩
 have ho : Only (Fo o) w (w.setCells o 12 (shv true a b)) := Only.setCells (F := Fo o) o (show Fo o o from rfl) _ _ _ (Only.refl _ _)
 have HR : Hid (OpT o (FC o gc c.cs.length Fc oa R) (shkCh c a b) (.tuple #[]) w (.returned (.tuple #[])) (w.setCells o 12 (shv true a b))) :=
  ⟨rfl, ⟨_, (h.own (c' := shkCh c a b) (x' := a) (y' := b) (blk_setMid h.blk 12 _ _ _ rfl) ho rfl rfl (Nat.le_refl _) (fun _ => ⟨rfl, rfl⟩)).chAt, fun k hk => Or.inl hk⟩, ho.mono fun k hk => Or.inl (Or.inl hk)⟩
 have HT := Lib.hid hT
 clear h ho hT
 go_enter Tryz.func15, Tryz.ntmps15
 go_wp2_with (refine wpList_store_mid rfl 90 _ _ rfl o 12 (shv true a b).toArray rfl rfl HT.out size_shake (shv_one _ _ _) ?_; change wpList _ _ _ _ _ (w.setCells o 12 (shv true a b)))
 refine bodyPost_end (results_none rfl _ _ _) rfl HR.out
/- Package slices, walked: Collect of faults that an iterator tells. -/
attribute [local go_sem] Oper.semAt_some
structure CollK (w2 : World) (b8 : Nat) (xs : List Fa) (W : World) : Prop where
 some : ∃ u, Boxed W b8 24 u ∧ W.ownsRow w2.heap.size 40 4 u xs.length (flatF xs) ∧ True
 low : OG b8 w2 W
theorem ownsRow_afterK {W W' : World} {B : Nat} {e : TypeId} {size : Nat} {v : Value} {n : Nat} {xs : List Value} (h : W.ownsRow B e size v n xs) (hb : Below W.heap.size W W') : W'.ownsRow B e size v n xs := by
 refine ⟨h.1, ?_⟩
 rcases h.2 with ⟨rfl, h0⟩ | ⟨g, cap, cur, rfl, hbg, hg, h1⟩
 ·exact .inl ⟨rfl, h0⟩
 ·exact .inr ⟨g, cap, cur, rfl, hbg, (hb.block g (Array.getElem?_eq_some_iff.1 hg).1).trans hg, h1⟩
theorem boxed_afterK {W W' : World} {B : Nat} {t : TypeId} {v : Value} (h : Boxed W B t v) (hb : Below W.heap.size W W') : Boxed W' B t v := (hb.block B h.lt).trans h
theorem CollK.after {w2 W W' : World} {b8 : Nat} {xs : List Fa} (h : CollK w2 b8 xs W) (hb : Below W.heap.size W W') : CollK w2 b8 xs W' := by
 obtain ⟨u, h1, h2, _⟩ := h.some
 exact ⟨⟨u, boxed_afterK h1 hb, ownsRow_afterK h2 hb, trivial⟩, h.low.trans (OG.of_below hb)⟩
theorem collK_from {w2 : World} {b8 : Nat} : OwnFrom w2.heap.size (fun xs W => CollK w2 b8 xs W) := by
 intro xs X Y row h hg hr
 refine ⟨holdsRow_own w2.heap.size b8 _ _ 4 List.length flatF (fun _ _ => True) xs X Y row h.some hg (fun r e => (hr r e).2), ?_⟩
 have hl := h.low
 refine ⟨hg.os.trans hl.os, hg.tape.trans hl.tape, hg.output.trans hl.output, Nat.le_trans hl.size hg.size, fun p hp hn => (hg.block p (Nat.lt_of_lt_of_le hp hl.size) (fun e => ?_)).trans (hl.block p hp hn)⟩
 have := (hr p e.symm).1
 omega
theorem ownsRow_monoK {W : World} {B B' : Nat} {e : TypeId} {size : Nat} {v : Value} {n : Nat} {xs : List Value} (h : W.ownsRow B e size v n xs) (hb : B' ≤ B) : W.ownsRow B' e size v n xs := by
 refine ⟨h.1, ?_⟩
 rcases h.2 with ⟨rfl, h0⟩ | ⟨g, cap, cur, rfl, hbg, hg, h1⟩
 ·exact .inl ⟨rfl, h0⟩
 ·exact .inr ⟨g, cap, cur, rfl, by omega, hg, h1⟩
theorem cells_newK (w : World) (l : List Value) (t : TypeId) : ∀ j u, l[j]? = some u → (w.alloc (.cells l.toArray t)).cell? ((⟨w.heap.size, 0, none⟩ : Addr).add j) = some u := by
 intro j u h
 cases j with
 | zero => simp [Addr.add, h]
 | succ j => simp [Addr.add, h]
def CollT (L : List Fa) (w : World) (e : Ending) (w' : World) : Prop := (∃ u, e = .returned u ∧ w'.ownsRow w.heap.size 40 4 u L.length (flatF L)) ∧ Below w.heap.size w w'
set_option maxHeartbeats 4000000 in
theorem ch_appendseq (gf : Nat) (lb : Array Value) (L : List Fa) (hL : L.length ≤ 4398046510976) (heg : ∀ args W, (callFunc gf args).run Tryz.prog W = .ok (.enter gf args) W) (w0 w : World) (hb0 : Below w0.heap.size w0 w)
  (hsq : SeqStopsK Fence.wide 8 Tryz.prog gf lb (fun x : Fa => #[.agg (encF x).toArray]) (fun A B => Below w0.heap.size A B) (fun xs => xs = L) (fun pre => ∃ j, j ≤ L.length ∧ pre = L.take j) L.length w0) :
  Calls Tryz.prog 104 #[.slice none 0 0, .func (.func gf) #[] lb] w (CollT L w) := by
 refine calls_of_marks Tryz.func104 rfl ?_
 simp only [Tryz.ntmps104, List.size_toArray, List.length_cons, List.length_nil, Nat.reduceAdd, Nat.reduceSub, Array.replicate_succ, Array.replicate_zero, List.push_toArray, List.append_toArray, List.nil_append, List.cons_append]
 obtain ⟨w2, hw2⟩ : ∃ w2, w.alloc (.cells #[.slice none 0 0] 24) = w2 := ⟨_, rfl⟩
 have h8 : Boxed w2 w.heap.size 24 (.slice none 0 0) := by rw [← hw2]; exact Boxed.new w _ _
 have hb2 : Below w.heap.size w w2 := by rw [← hw2]; exact (Below.refl _ _).alloc (Nat.le_refl _) _
 obtain ⟨b8, hb8⟩ : ∃ b, w.heap.size = b := ⟨_, rfl⟩
 rw [hb8] at h8
 have hlt8 : b8 < w2.heap.size := h8.lt
 have hc0 : CollK w2 b8 [] w2 := ⟨⟨_, h8, World.ownsRow_nil _ _ _ _, trivial⟩, OG.of_below (Below.refl _ _)⟩
 have HB2 := Lib.hid hb2
 have HB8 := Lib.hid hb8
 go_wp2_with fail
 have hw2z : w.heap.size ≤ w2.heap.size := hb2.size
 have hw0z : w0.heap.size ≤ w.heap.size := hb0.size
 clear hw2
 refine wpIn_wide.1 (wpIn_rangeFunc_ownH (F := Fence.wide) (n := 9) rfl (by decide) (gf := gf) (lb := lb) rfl trivial heg hsq (fun h k => h.trans k) (belowK_b (by omega)) (hb0.trans (hb2.mono hb0.size)) (fun _ => rfl)
  (fun xs W => CollK w2 b8 xs W) (fun _ _ _ => False) ?hI ?hIx hc0
  (fun x a' W => ∃ g, a' = { tmps := #[Value.slice none 0 0, Value.func (Fn.func gf) #[] lb, Value.pointer (some { block := b8, off := 0 }), undef, Value.slice none 0 0, Value.pointer (some { block := g, off := 0 }), Value.func (Fn.func gf) #[] lb, Value.agg (encF x).toArray, undef, undef, undef, undef, undef], defers := [] } ∧ Blk W g (encF x).toArray 40) ?hAx ?assign ?body ?done ?stop)
 case hI => exact collK_from
 case hIx => exact fun _ _ _ _ _ h _ _ => h
 case hAx =>
  rintro x a' _ X Y row ⟨g, h1, h2⟩ hg hr
  exact ⟨g, h1, blk_kept h2 hg (fun r e => (hr r e).2)⟩
 case assign =>
  rintro l' pre x W K hC hK
  have HC := Lib.hid hC
  clear hC
  gi_wp2_with (refine wpListIn_store_rowF rfl 40 (.tmp 5) (.tmp 7) rfl W.heap.size (encF x).toArray rfl rfl 40 (encF f0).toArray (Blk.new W (encF f0).toArray 40) size_faF rfl (encF_all _) ?_)
  have hb : Below W.heap.size W ((W.alloc (.cells (encF f0).toArray 40)).setRow W.heap.size (encF x).toArray) := below_put (Nat.le_refl _) _ ((Below.refl _ _).alloc (Nat.le_refl _) _)
  have hlw := HC.out.low.size
  exact hK _ _ (keeps_of_below _ hb) (hb.mono (by omega)) (HC.out.after hb) ⟨W.heap.size, rfl, (Blk.new W (encF f0).toArray 40).put _⟩
 case body =>
  rintro l' pre x a' W _ _ hC ⟨g, rfl, hblk⟩ hlen
  obtain ⟨u, hbu, hown, _⟩ := hC.some
  obtain ⟨x1, x2, x3, x4⟩ := x
  have c8 := hbu.cell
  have f8 := hbu.frozen
  have HC := Lib.hid hC
  have HBU := Lib.hid hbu
  have HO := Lib.hid hown
  have HBK : Hid (Blk W g #[.int .i64 x1, .int .i64 x2, .int .i64 x3, .int .i64 x4] 40) := hblk
  have hpl : pre.length ≤ 4398046510976 := by omega
  obtain ⟨ad, cap', hu⟩ : ∃ ad cap, u = .slice ad pre.length cap := by
   rcases hown.2 with ⟨h, h0⟩ | ⟨g, cap, cur, h, _⟩
   ·exact ⟨none, 0, by rw [h, h0]⟩
   ·exact ⟨_, cap, h⟩
  subst hu
  clear hC hown hblk
  obtain ⟨i0, hi, hz0, hz1', hz2'⟩ := info_partsF infoFault
  have hwW : w2.heap.size ≤ W.heap.size := HC.out.low.size
  gi_wp2_with (first
   | (refine wpListIn_load_rowF rfl 40 (.tmp 5) rfl g rfl 40 #[.int .i64 x1, .int .i64 x2, .int .i64 x3, .int .i64 x4] (0, 0) _ HBK.out Tryz.underlying40 rfl size_faF ?_)
   | (gi_at_builtin; refine wpListIn_append_own _ rfl _ _ 24 rfl w2.heap.size 40 i0 (.agg (encF f0).toArray) 4 32 Tryz.underlying24 hi hz0 hz1' hz2' rfl (by decide) _ _ _ rfl (HO.out.alloc _) ⟨W.heap.size, 0, none⟩ 1 1 [.int .i64 x1, .int .i64 x2, .int .i64 x3, .int .i64 x4] rfl rfl ?c1 ?c2 ?c3 ?c4 ?c5 ?_))
  case c1 => exact cells_newK W [.int .i64 x1, .int .i64 x2, .int .i64 x3, .int .i64 x4] _
  case c2 => intro u hu; simp at hu; rcases hu with rfl | rfl | rfl | rfl <;> rfl
  case c3 => unfold maxLen; omega
  case c4 => omega
  case c5 => simp; omega
  intro v' w3 hown1 hgrow _
  obtain ⟨g', cap'', rfl⟩ : ∃ g' cap'', v' = .slice (some ⟨g', 0, none⟩) (pre.length + 1) cap'' := by
   rcases hown1.2 with ⟨_, h0⟩ | ⟨g', cap'', cur, h, _⟩
   ·omega
   ·exact ⟨g', cap'', h⟩
  have hte : (24 : TypeId) ≠ 40 := by decide
  have hbW : b8 < W.heap.size := HBU.out.lt
  obtain ⟨hx1, hx2, hx0, hx4, hx5⟩ := Boxed.appended (n₀ := b8) HBU.out hte (ownsRow_monoK HO.out (by omega)) (by omega) (Nat.le_refl _) (ownsRow_monoK hown1 (by omega)) hgrow
  have hx3 := hown1.kept (grownBy_setCell' w3 b8 (.slice (some ⟨g', 0, none⟩) (pre.length + 1) cap'')) (.inr (hx1.not_row hte hown1).symm)
  have c8' := hx1.cell
  have f8' := hx1.frozen
  have e1 : (pre ++ [(x1, x2, x3, x4)]).length = pre.length + 1 := by simp
  have e2 : flatF (pre ++ [(x1, x2, x3, x4)]) = flatF pre ++ [.int .i64 x1, .int .i64 x2, .int .i64 x3, .int .i64 x4] := flatF_app pre _
  have hlow : OG b8 w2 (w3.setCell ⟨b8, 0, none⟩ (.slice (some ⟨g', 0, none⟩) (pre.length + 1) cap'')) :=
   ⟨hx5.os.trans HC.out.low.os, hx5.tape.trans HC.out.low.tape, hx5.output.trans HC.out.low.output, Nat.le_trans HC.out.low.size hx5.size, fun p hp hn => by
    have hpb : p ≠ b8 := fun e => hn (by rw [e])
    exact (Below.heap_setCell w3 ⟨b8, 0, none⟩ _ p (by show p ≠ b8; exact hpb)).trans ((hgrow.block p (by simp; omega) (fun e => by have := (HO.out.lt p e.symm).1; omega)).trans ((Below.heap_alloc _ _ _ (by omega)).trans (HC.out.low.block p hp hn)))⟩
  have hCn : CollK w2 b8 (pre ++ [(x1, x2, x3, x4)]) (w3.setCell ⟨b8, 0, none⟩ (.slice (some ⟨g', 0, none⟩) (pre.length + 1) cap'')) :=
   ⟨⟨_, hx2, by rw [e1, e2]; exact hx3, trivial⟩, hlow⟩
  have HCN := Lib.hid hCn
  have HX4 := Lib.hid hx4
  have HX5 := Lib.hid hx5
  clear hCn hlow hx0 hx1 hx2 hx3 hx4 hx5 hgrow
  gi_wp2_with fail
  refine ⟨HX4.out.from _, ?_, HCN.out⟩
  exact HX5.out.mono (by omega)
 case done =>
  rintro D xs W hD hS hC hdef
  obtain rfl : xs = L := hS
  obtain ⟨u, hbu, hown, _⟩ := hC.some
  have c8 := hbu.cell
  have HLOW := Lib.hid hC.low
  have HDEF := Lib.hid hdef
  have HBU := Lib.hid hbu
  have hD0 : w2.heap.size ≤ D := hD
  have hdc := Array.getElem?_eq_some_iff.1 hdef
  have hbw : Below w.heap.size w W := ⟨hC.low.os.trans hb2.os, hC.low.tape.trans hb2.tape, hC.low.output.trans hb2.output, by have := hC.low.size; omega, fun k hk => (hC.low.block k (by omega) (fun e => by have := Option.some.inj e; omega)).trans (hb2.block k hk)⟩
  have HM : Hid (Below w.heap.size w (W.putObj D (.deferred none))) := below_mark hbw (by omega) hdef
  have HO : Hid ((W.putObj D (.deferred none)).ownsRow w.heap.size 40 4 u xs.length (flatF xs)) := by
   refine ⟨hown.1, ?_⟩
   rcases hown.2 with ⟨h, h0⟩ | ⟨g, cap, cur, h, hbg, hg, h1⟩
   ·exact .inl ⟨h, h0⟩
   ·refine .inr ⟨g, cap, cur, h, by omega, ?_, h1⟩
    rw [World.putObj_heap_other (fun e => ?_)]
    ·exact hg
    ·subst e; rw [hdef] at hg; cases hg
  clear hC hown hdc hdef hbu hbw
  go_wp2_with fail
  exact leave_one rfl HDEF.out (results_tmp rfl _ _ _) ⟨⟨u, rfl, HO.out⟩, HM.out⟩
 case stop =>
  rintro D c pre W _ _ h _
  exact h.elim
theorem ch_collect (gf : Nat) (lb : Array Value) (L : List Fa) (hL : L.length ≤ 4398046510976) (heg : ∀ args W, (callFunc gf args).run Tryz.prog W = .ok (.enter gf args) W) (w0 w : World) (hb0 : Below w0.heap.size w0 w)
  (hsq : SeqStopsK Fence.wide 8 Tryz.prog gf lb (fun x : Fa => #[.agg (encF x).toArray]) (fun A B => Below w0.heap.size A B) (fun xs => xs = L) (fun pre => ∃ j, j ≤ L.length ∧ pre = L.take j) L.length w0) :
  Calls Tryz.prog 65 #[.func (.func gf) #[] lb] w (CollT L w) := by
 have hcon := ch_appendseq gf lb L hL heg w0 w hb0 hsq
 have HCON := Lib.hid hcon
 clear hcon hsq heg hb0
 go_enter Tryz.func65, Tryz.ntmps65
 go_wp2_with fail
 refine HCON.out.mono ?_
 rintro e w1 ⟨⟨u, rfl, hu⟩, hb⟩
 have HX : Hid (CollT L w (.returned u) w1) := ⟨⟨u, rfl, hu⟩, hb⟩
 clear hu hb
 go_wp2_with fail
 go_ret
 exact HX.out
end Go.Proofs.YtalefbmoebobkaaGreatDoor
