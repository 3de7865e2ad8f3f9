/- Texts of one claim, merged: ChCA, ChCB, ChCC, Bld, FrQ, FrD2, FrD1, FrD3, FrC1, ChL1, ChX, ChL2, ChL3, ChR1, ChR2, ChR3. -/
import Derived.Test.YtalefbmoebobkaaGreatDoorS10
import Derived.Test.YtalefbmoebobkaaGreatDoorS4
import Derived.Laws.MakeOwn
import Derived.Test.YtalefbmoebobkaaGreatDoorS6
import Derived.Test.YtalefbmoebobkaaGreatDoorS3
import Derived.Test.YtalefbmoebobkaaGreatDoorS5
import Derived.Test.YtalefbmoebobkaaGreatDoorS1
import Derived.Test.YtalefbmoebobkaaGreatDoorS8
/- Package chip, walked: of. -/
namespace Go.Proofs.YtalefbmoebobkaaGreatDoor
set_option maxRecDepth 100000
open Go.RowKit Go.Shelf Go.Proofs
def SeqI (l : List Fa) (v : Value) (w : World) : Prop := ∃ (gf : Nat) (lb : Array Value) (L : List Fa) (w0 : World), v = .func (.func gf) #[] lb ∧ (∀ args W, (callFunc gf args).run Tryz.prog W = .ok (.enter gf args) W) ∧ Srt L ∧ StbF l L ∧ L.length = l.length ∧ Below w0.heap.size w0 w ∧
 SeqStopsK Fence.wide 8 Tryz.prog gf lb (fun x : Fa => #[.agg (encF x).toArray]) (fun A B => Below w0.heap.size A B) (fun xs => xs = L) (fun pre => ∃ j, j ≤ L.length ∧ pre = L.take j) L.length w0
theorem SeqI.goes {l : List Fa} {v : Value} {w w' : World} (h : SeqI l v w) (hb : Below w.heap.size w w') : SeqI l v w' := by
 obtain ⟨gf, lb, L, w0, h1, h2, h3, h4, h5, h6, h7⟩ := h
 exact ⟨gf, lb, L, w0, h1, h2, h3, h4, h5, h6.trans (hb.mono h6.size), h7⟩
def RowI (l : List Fa) (B0 : Nat) (v : Value) (w : World) : Prop := ∃ L, w.ownsRow B0 40 4 v L.length (flatF L) ∧ Srt L ∧ StbF l L ∧ L.length = l.length
theorem RowI.goes {l : List Fa} {B0 : Nat} {v : Value} {w w' : World} (h : RowI l B0 v w) (hb : Below w.heap.size w w') : RowI l B0 v w' := by
 obtain ⟨L, h1, h2, h3, h4⟩ := h
 exact ⟨L, ownsRow_afterK h1 hb, h2, h3, h4⟩
theorem RowI.slice {l : List Fa} {B0 : Nat} {v : Value} {w : World} (h : RowI l B0 v w) : ∃ ua un uc, v = .slice ua un uc := by
 obtain ⟨L, h1, _⟩ := h
 rcases h1.2 with ⟨h2, _⟩ | ⟨g, cap, cur, h2, _⟩
 ·exact ⟨_, _, _, h2⟩
 ·exact ⟨_, _, _, h2⟩
def ofv (G : Gm) (gc n kc : Nat) (u : Value) : Array Value := #[.int .i64 G.b, .int .i64 G.l, .int .i64 G.y, .int .i64 G.n, .int .i64 G.s, .int .i64 G.r, .slice (some ⟨gc, 0, none⟩) n kc, u, .int .i64 0, .int .i64 0, .int .i64 0, .bool false, .bool false, .int .i64 0, .int .i64 0]
def BoxI (l : List Fa) (B0 : Nat) (G : Gm) (gc n kc : Nat) (v : Value) (w : World) : Prop := ∃ b u, v = .pointer (some ⟨b, 0, none⟩) ∧ B0 ≤ b ∧ Blk w b (ofv G gc n kc u) 92 ∧ RowI l B0 u w
theorem BoxI.goes {l : List Fa} {B0 : Nat} {G : Gm} {gc n kc : Nat} {v : Value} {w w' : World} (h : BoxI l B0 G gc n kc v w) (hb : Below w.heap.size w w') : BoxI l B0 G gc n kc v w' := by
 obtain ⟨b, u, h1, h2, h3, h4⟩ := h
 exact ⟨b, u, h1, h2, h3.after hb, h4.goes hb⟩
structure SpOF (l : List Fa) (B0 : Nat) (G : Gm) (gc n kc : Nat) (j : Nat) (a : Act) (w : World) : Prop where
 f3 : j = 3 → SeqI l (a.tmps.getD 10 undef) w
 f4 : j = 4 → RowI l B0 (a.tmps.getD 11 undef) w
 f5 : j = 5 → ∃ u, a.tmps.getD 12 undef = .agg (ofv G gc n kc u) ∧ RowI l B0 u w
 f6 : j = 6 → BoxI l B0 G gc n kc (a.tmps.getD 13 undef) w
 f7 : j = 7 → BoxI l B0 G gc n kc (a.tmps.getD 6 undef) w
theorem SpOF.ext (l : List Fa) (B0 : Nat) (G : Gm) (gc n kc : Nat) : ∀ (j : Nat) (a a' : Act) (w w' : World), SpOF l B0 G gc n kc j a w → (∀ d ∈ (if j = 3 then [10] else if j = 4 then [11] else if j = 5 then [12] else if j = 6 then [13] else if j = 7 then [6] else []), a'.tmps.getD d undef = a.tmps.getD d undef) → Goes w w' → SpOF l B0 G gc n kc j a' w' := by
 rintro j a a' w w' ⟨h3, h4, h5, h6, h7⟩ hx hT
 refine ⟨fun e => ?_, fun e => ?_, fun e => ?_, fun e => ?_, fun e => ?_⟩
 ·subst e; rw [hx 10 (by simp)]; exact (h3 rfl).goes hT
 ·subst e; rw [hx 11 (by simp)]; exact (h4 rfl).goes hT
 ·subst e; rw [hx 12 (by simp)]; obtain ⟨u, a1, a2⟩ := h5 rfl; exact ⟨u, a1, a2.goes hT⟩
 ·subst e; rw [hx 13 (by simp)]; exact (h6 rfl).goes hT
 ·subst e; rw [hx 6 (by simp)]; exact (h7 rfl).goes hT
def COf (w0 : World) (b3 : Nat) (G : Gm) (w : World) : Prop := Blk w b3 (gmL G).toArray 23 ∧ Below w0.heap.size w0 w
theorem COf.call {w0 w w' : World} {b3 : Nat} {G : Gm} (h : COf w0 b3 G w) (hb : Below w.heap.size w w') : COf w0 b3 G w' := ⟨h.1.after hb, h.2.trans (hb.mono h.2.size)⟩
def vsOF (G : Gm) (gc n kc : Nat) (oa : Option Addr) (m ka : Nat) : List (Option (Tmp × Value)) :=
 [some (7, .agg #[.int .i64 G.b, .int .i64 G.l, .int .i64 G.y, .int .i64 G.n, .int .i64 G.s, .int .i64 G.r]), some (8, .slice (some ⟨gc, 0, none⟩) n kc), some (9, .slice oa m ka), none, none, none, none, none]
def BaseOF (G : Gm) (gc n kc : Nat) (oa : Option Addr) (m ka b3 : Nat) (a : Act) : Prop := ∃ u : Nat → Value, a = ⟨#[.agg #[.int .i64 G.b, .int .i64 G.l, .int .i64 G.y, .int .i64 G.n, .int .i64 G.s, .int .i64 G.r], .slice (some ⟨gc, 0, none⟩) n kc, .slice oa m ka, .pointer (some ⟨b3, 0, none⟩), u 4, u 5, u 6, u 7, u 8, u 9, u 10, u 11, u 12, u 13], []⟩
def OfT (l : List Fa) (G : Gm) (gc n kc : Nat) (w : World) (e : Ending) (w' : World) : Prop := ∃ v, e = .returned v ∧ BoxI l w.heap.size G gc n kc v w' ∧ Below w.heap.size w w'
set_option maxHeartbeats 4000000 in
theorem ch_of0 (G : Gm) (gc n kc : Nat) (oa : Option Addr) (l : List Fa) (ka : Nat) (hl : l.length ≤ 4398046510976) (w : World) (ha : FsAt w oa l) :
  Calls Tryz.prog 25 #[.agg (gmL G).toArray, .slice (some ⟨gc, 0, none⟩) n kc, .slice oa l.length ka] w (OfT l G gc n kc w) := by
 obtain ⟨B0, hB0⟩ : ∃ B0, w.heap.size = B0 := ⟨_, rfl⟩
 obtain ⟨W0, hW0⟩ : ∃ W0, w.alloc (.cells (gmL G).toArray 23) = W0 := ⟨_, rfl⟩
 have hb0 : Below w.heap.size w W0 := by rw [← hW0]; exact (Below.refl _ _).alloc (Nat.le_refl _) _
 have hk : Blk W0 w.heap.size (gmL G).toArray 23 := by rw [← hW0]; exact Blk.new w _ _
 have hah : ∀ w', Below W0.heap.size W0 w' → Calls Tryz.prog 66 #[.slice oa l.length ka] w' fun e w2 => ∃ (gf : Nat) (lb : Array Value) (L : List Fa), e = .returned (.func (.func gf) #[] lb) ∧ Below w'.heap.size w' w2 ∧
   (∀ args W, (callFunc gf args).run Tryz.prog W = .ok (.enter gf args) W) ∧ Srt L ∧ StbF l L ∧ L.length = l.length ∧
   SeqStopsK Fence.wide 8 Tryz.prog gf lb (fun x : Fa => #[.agg (encF x).toArray]) (fun A B => Below w2.heap.size A B) (fun xs => xs = L) (fun pre => ∃ j, j ≤ L.length ∧ pre = L.take j) L.length w2 := fun w' hb =>
  fa_ahead_it oa ka l hl w' ((ha.below hb0).below hb)
 obtain ⟨m, hm⟩ : ∃ m, l.length = m := ⟨_, rfl⟩
 obtain ⟨b3, hb3⟩ : ∃ b3, w.heap.size = b3 := ⟨_, rfl⟩
 have HC0 : Hid (COf W0 b3 G W0) := ⟨by rw [← hb3]; exact hk, Below.refl _ _⟩
 have HLM : Hid (l.length ≤ 4398046510976) := hl
 have HBW := Lib.hid hb0
 have HB0 : Hid (B0 ≤ W0.heap.size) := by show B0 ≤ _; rw [← hB0]; exact hb0.size
 have HOF : Hid (∀ e w', (∃ v, e = .returned v ∧ BoxI l B0 G gc n kc v w' ∧ Below w.heap.size w w') → OfT l G gc n kc w e w') := fun e w' h => by unfold OfT; rw [hB0]; rw [hB0] at h; exact h
 have HM := Lib.hid hm
 rw [hm] at hah ⊢
 have HAH := Lib.hid hah
 clear hah hk hb0 hm hl ha
 go_enter Tryz.func25, Tryz.ntmps25
 clear hB0
 unfold gmL at hW0 ⊢
 go_wp2_with fail
 try rw [hW0]
 clear hW0 hb3
 rename_i K0 hK0
 refine wp_region_list3 (SV2 (vsOF G gc n kc oa m ka) (fun j => if j = 3 then [10] else if j = 4 then [11] else if j = 5 then [12] else if j = 6 then [13] else if j = 7 then [6] else [])) (BaseOF G gc n kc oa m ka b3) (COf W0 b3 G) (Goes) (RV (vsOF G gc n kc oa m ka) (SpOF l B0 G gc n kc)) rfl (by kernel_rfl) (RV.ext2 (SpOF.ext l B0 G gc n kc)) ?_ (HC0.out.call (Below.refl _ _).drew) (fr_of _ (by kernel_rfl)) ?_ ?_
 ·exact ⟨fr_put 7 fun _ _ => by kernel_rfl, fr_put 8 fun _ _ => by kernel_rfl, fr_put 9 fun _ _ => by kernel_rfl, fr_put 10 fun _ _ => by kernel_rfl, fr_put 11 fun _ _ => by kernel_rfl, fr_put 12 fun _ _ => by kernel_rfl, fr_put 13 fun _ _ => by kernel_rfl, fr_put 6 fun _ _ => by kernel_rfl, trivial⟩
 ·refine ⟨?_, ?_, ?_, ?_, ?_, ?_, ?_, ?_, trivial⟩
  all_goals
   intro a w' hC hB hR
   obtain ⟨u, rfl⟩ := hB
   have HC := Lib.hid hC
   clear hC; clear hK0
  ·clear hR; refine if_yes (by kernel_rfl) ?_
   exact wp_load_row 23 (.tmp 3) rfl b3 rfl 23 #[.int .i64 G.b, .int .i64 G.l, .int .i64 G.y, .int .i64 G.n, .int .i64 G.s, .int .i64 G.r] (0, 0) _ HC.out.1 Tryz.underlying23 rfl size_geoC ⟨.agg #[.int .i64 G.b, .int .i64 G.l, .int .i64 G.y, .int .i64 G.n, .int .i64 G.s, .int .i64 G.r], rfl, HC.out, Below.refl _ _, rfl⟩
  ·clear hR; refine if_yes (by kernel_rfl) ?_; unfold Oper.wp; go_simp
   exact ⟨.slice (some ⟨gc, 0, none⟩) n kc, rfl, HC.out, Below.refl _ _, rfl⟩
  ·clear hR; refine if_yes (by kernel_rfl) ?_; unfold Oper.wp; go_simp
   exact ⟨.slice oa m ka, rfl, HC.out, Below.refl _ _, rfl⟩
  ·have h9 : u 9 = .slice oa m ka := hR ⟨2, .data⟩ (by simp) rfl; clear hR; simp only [h9]; refine if_yes (by kernel_rfl) ?_; unfold Oper.wp; go_simp
   refine (HAH.out _ HC.out.2).mono ?_
   rintro e w2 ⟨gf, lb, L, rfl, hb2, heg, hs, hst, hlen, hsq⟩
   exact ⟨.func (.func gf) #[] lb, rfl, HC.out.call hb2, hb2, ⟨fun _ => ⟨gf, lb, L, w2, rfl, heg, hs, hst, hlen.trans HM.out.symm, Below.refl _ _, hsq⟩, fun h => absurd h (by decide), fun h => absurd h (by decide), fun h => absurd h (by decide), fun h => absurd h (by decide)⟩⟩
  ·obtain ⟨gf, lb, L, w1, hv, heg, hs, hst, hlen, hbw, hsq⟩ := (hR ⟨3, .data⟩ (by simp) rfl).f3 rfl
   have hv : u 10 = .func (.func gf) #[] lb := hv
   simp only [hv]; clear hR; refine if_yes (by kernel_rfl) ?_; unfold Oper.wp; go_simp
   refine (ch_collect gf lb L (by have := HLM.out; omega) heg w1 w' hbw hsq).mono ?_
   rintro e w2 ⟨⟨uu, rfl, hown⟩, hb2⟩
   exact ⟨uu, rfl, HC.out.call hb2, hb2, ⟨fun h => absurd h (by decide), fun _ => ⟨L, ownsRow_monoK hown (Nat.le_trans HB0.out HC.out.2.size), hs, hst, hlen⟩, fun h => absurd h (by decide), fun h => absurd h (by decide), fun h => absurd h (by decide)⟩⟩
  ·have h7 : u 7 = .agg #[.int .i64 G.b, .int .i64 G.l, .int .i64 G.y, .int .i64 G.n, .int .i64 G.s, .int .i64 G.r] := hR ⟨0, .data⟩ (by simp) rfl; have h8 : u 8 = .slice (some ⟨gc, 0, none⟩) n kc := hR ⟨1, .data⟩ (by simp) rfl
   have hrow := (hR ⟨4, .data⟩ (by simp) rfl).f4 rfl
   have hrow : RowI l B0 (u 11) w' := hrow
   obtain ⟨ua, un, uc, huu⟩ := hrow.slice
   rw [huu] at hrow
   simp only [huu]; clear hR; simp only [h7, h8]; refine if_yes (by kernel_rfl) ?_; unfold Oper.wp; go_simp
   exact ⟨.agg (ofv G gc n kc (.slice ua un uc)), rfl, HC.out, Below.refl _ _, ⟨fun h => absurd h (by decide), fun h => absurd h (by decide), fun _ => ⟨_, rfl, hrow⟩, fun h => absurd h (by decide), fun h => absurd h (by decide)⟩⟩
  ·obtain ⟨uu, hv, hrow⟩ := (hR ⟨5, .data⟩ (by simp) rfl).f5 rfl
   have hv : u 12 = .agg (ofv G gc n kc uu) := hv
   simp only [hv]; clear hR; refine if_yes (by kernel_rfl) ?_
   have hbx := Blk.new w' (ofv G gc n kc uu) 92
   have hbb : Below w'.heap.size w' (w'.alloc (.cells (ofv G gc n kc uu) 92)) := (Below.refl _ _).alloc (Nat.le_refl _) _
   have hbi : BoxI l B0 G gc n kc (.pointer (some ⟨w'.heap.size, 0, none⟩)) (w'.alloc (.cells (ofv G gc n kc uu) 92)) := ⟨_, uu, rfl, Nat.le_trans HB0.out HC.out.2.size, hbx, hrow.goes hbb⟩
   unfold Oper.wp; go_simp; exact ⟨.pointer (some ⟨w'.heap.size, 0, none⟩), rfl, HC.out.call hbb, hbb, ⟨fun h => absurd h (by decide), fun h => absurd h (by decide), fun h => absurd h (by decide), fun _ => hbi, fun h => absurd h (by decide)⟩⟩
  ·have hbi := (hR ⟨6, .data⟩ (by simp) rfl).f6 rfl
   have hbi : BoxI l B0 G gc n kc (u 13) w' := hbi
   obtain ⟨vv, hvv⟩ : ∃ vv, u 13 = vv := ⟨_, rfl⟩
   rw [hvv] at hbi
   simp only [hvv]; clear hR; refine if_yes (by kernel_rfl) ?_; unfold Oper.wp; go_simp
   exact ⟨vv, rfl, HC.out, Below.refl _ _, ⟨fun h => absurd h (by decide), fun h => absurd h (by decide), fun h => absurd h (by decide), fun h => absurd h (by decide), fun _ => hbi⟩⟩
 ·intro a w' hC hB hR
  have h7 := (hR 7 (by decide)).f7 rfl
  obtain ⟨u, rfl⟩ := hB
  have h7 : BoxI l B0 G gc n kc (u 6) w' := h7
  obtain ⟨vv, hvv⟩ : ∃ vv, u 6 = vv := ⟨_, rfl⟩
  rw [hvv] at h7
  have H7 := Lib.hid h7
  have HB := Lib.hid (HBW.out.trans (hC.2.mono HBW.out.size))
  simp only [hvv]; clear hR hC h7 hvv
  go_wp2_with fail
  go_ret
  exact HOF.out _ _ ⟨vv, rfl, H7.out, HB.out⟩
/- Package chip, walked: New, Copy. -/
def newCh (G : Gm) (cs : List St) (fs : List Fa) : ChS := ⟨G, cs, fs, 0, 0, 0, false, false, 0, 0⟩
theorem rowI_fs {l : List Fa} {B0 : Nat} {v : Value} {w : World} (h : RowI l B0 v w) (N : Nat → Prop) (hN : ∀ k, B0 ≤ k → N k → ∃ cs, w.heap[k]? = some (.cells cs 92 (0, 0))) :
  ∃ oa L ka, v = .slice oa L.length ka ∧ FsApart w oa L N ∧ Srt L ∧ StbF l L ∧ L.length = l.length ∧ L.length ≤ ka ∧ (∀ a, oa = some a → B0 ≤ a.block) := by
 obtain ⟨L, h1, h2, h3, h4⟩ := h
 rcases h1.2 with ⟨rfl, h0⟩ | ⟨g, cap, cur, rfl, hbg, hg, hnc, _, _, ht⟩
 ·have hL : L = [] := List.eq_nil_of_length_eq_zero h0
  subst hL
  exact ⟨none, [], 0, rfl, fun h => absurd rfl h, h2, h3, h4, Nat.le_refl _, fun a e => by cases e⟩
 ·refine ⟨_, L, cap, rfl, fun _ => ⟨g, 0, rfl, (Array.getElem?_eq_some_iff.1 hg).1, fun hn => ?_, fun i hi j v hv => ?_⟩, h2, h3, h4, hnc, fun a e => by cases e; exact hbg⟩
  ·obtain ⟨cs, hcs⟩ := hN g hbg hn
   rw [hg] at hcs
   have h5 := (Obj.cells.inj (Option.some.inj hcs)).2.1
   exact absurd h5 (by decide)
  ·have hb : Blk w g cur 40 := hg
   have hj : j < 4 := by have h5 := (List.getElem?_eq_some_iff.1 hv).1; rw [encF_len] at h5; exact h5
   rw [hb.cell, Nat.zero_add]
   have e1 : (flatF L)[i * 4 + j]? = some v := by rw [flatF_get L i j hi hj]; exact hv
   rw [← ht, List.getElem?_take_of_lt (by omega)] at e1
   simpa using e1
structure CellsK (w : World) (gc : Nat) (k : Nat) (s : Nat → St) (po : Nat → Nat) (Fc : Nat → Nat → Prop) : Prop where
 cell : ∀ i, i < k → CellAt w (po i) (Fc i) (s i)
 new : ∀ i b, i < k → Fc i b → gc < b
 apart : ∀ i j b, i < k → j < k → i ≠ j → Fc i b → ¬ Fc j b
theorem CellsK.keep {w w' : World} {gc k : Nat} {s : Nat → St} {po : Nat → Nat} {Fc : Nat → Nat → Prop} (h : CellsK w gc k s po Fc) (hk : ∀ b, gc < b → b < w.heap.size → w'.heap[b]? = w.heap[b]?) : CellsK w' gc k s po Fc :=
 ⟨fun i hi => (h.cell i hi).keep fun b hb => hk b (h.new i b hi hb) ((h.cell i hi).lt b hb), h.new, h.apart⟩
theorem CellsK.add {w w' : World} {gc k : Nat} {s : Nat → St} {po : Nat → Nat} {Fc : Nat → Nat → Prop} (h : CellsK w gc k s po Fc) (hgc : gc < w.heap.size) (hb : Below w.heap.size w w') (o : Nat) (F : Nat → Prop) (hc : CellAt w' o F (s k)) (hF : ∀ b, F b → w.heap.size ≤ b) :
  CellsK w' gc (k + 1) s (fun i => if i = k then o else po i) (fun i => if i = k then F else Fc i) := by
 have h1 := h.keep fun b _ hl => hb.block b hl
 refine ⟨fun i hi => ?_, fun i b hi hf => ?_, fun i j b hi hj hne hf => ?_⟩
 ·by_cases e : i = k
  ·subst e; simp only [if_true]; exact hc
  ·simp only [e, if_false]; exact h1.cell i (by omega)
 ·by_cases e : i = k
  ·subst e; simp only [if_true] at hf; have := hF b hf; omega
  ·simp only [e, if_false] at hf; exact h1.new i b (by omega) hf
 ·by_cases e : i = k
  ·have e2 : j ≠ k := fun e2 => hne (e.trans e2.symm)
   subst e
   simp only [if_true] at hf
   simp only [e2, if_false]
   intro hg
   have := hF b hf
   have := (h.cell j (by omega)).lt b hg
   omega
  ·simp only [e, if_false] at hf
   by_cases e2 : j = k
   ·subst e2
    simp only [if_true]
    intro hg
    have := hF b hg
    have := (h.cell i (by omega)).lt b hf
    omega
   ·simp only [e2, if_false]; exact h.apart i j b (by omega) (by omega) hne hf
def MadeT (G : Gm) (cs : List St) (fs : List Fa) (w0 w : World) (e : Ending) (w' : World) : Prop :=
 ∃ o F, e = .returned (.pointer (some ⟨o, 0, none⟩)) ∧ ChAt w' o F (newCh G cs fs) ∧ (∀ k, F k → w0.heap.size ≤ k) ∧ Below w.heap.size w w'
set_option maxHeartbeats 1000000 in
theorem ch_of (G : Gm) (gc kc : Nat) (cs : List St) (oa : Option Addr) (l : List Fa) (ka : Nat) (hl : l.length ≤ 4398046510976) (po : Nat → Nat) (Fc : Nat → Nat → Prop) (w0 w : World) (ha : FsAt w oa l) (hgc : gc < w.heap.size) (hg0 : w0.heap.size ≤ gc)
  (hrow : ∀ i, i < cs.length → w.cell? ⟨gc, i, none⟩ = some (.pointer (some ⟨po i, 0, none⟩))) (hc : CellsK w gc cs.length (fun i => cs.getD i (newSt 0 0)) po Fc) :
  Calls Tryz.prog 25 #[.agg (gmL G).toArray, .slice (some ⟨gc, 0, none⟩) cs.length kc, .slice oa l.length ka] w (MadeT G cs l w0 w) := by
 refine (ch_of0 G gc cs.length kc oa l ka hl w ha).mono ?_
 rintro e w' ⟨v, rfl, ⟨b, u, rfl, hb1, hb2, hrw⟩, hbw⟩
 have hgb : gc ≠ b := by omega
 have hFb : ∀ i, i < cs.length → ∀ k, Fc i k → k < w.heap.size := fun i hi k hk => (hc.cell i hi).lt k hk
 obtain ⟨oa', L, ka', rfl, hfs, hs, hst, hlen, hcap, hab⟩ := rowI_fs hrw (FP b gc cs.length Fc) (fun k hk hn => by
  rcases hn with rfl | rfl | ⟨i, hi, hf⟩
  ·exact ⟨_, hb2⟩
  ·omega
  ·have := hFb i hi k hf; omega)
 have hch : ChipAt w' b gc kc oa' L ka' 0 0 po Fc (newCh G cs l) := by
  refine ⟨hb2, fun i hi => ?_, Nat.lt_of_lt_of_le hgc hbw.size, fun i hi => ?_, Ne.symm hgb, fun i hi => ⟨fun hf => by have := hFb i hi _ hf; omega, fun hf => by have := hc.new i _ hi hf; omega⟩, fun i j k hi hj hne hk => hc.apart i j k hi hj hne hk, hfs, hs, by omega, hcap, fun t op _ => meet_stable hst t op, fun h => by cases h⟩
  ·rw [cell_of_heap (hbw.block gc hgc)]; exact hrow i hi
  ·have h1 := (hc.keep (w' := w') fun k _ hk => hbw.block k hk).cell i hi
   have hi' : i < cs.length := hi
   have e : cs.getD i (newSt 0 0) = cs[i]'hi' := by rw [List.getD_eq_getElem?_getD, List.getElem?_eq_getElem hi']; rfl
   rw [e] at h1
   exact h1
 refine ⟨b, _, rfl, hch.chAt, fun k hk => ?_, hbw⟩
 rcases hk with (rfl | rfl | ⟨i, hi, hf⟩) | ⟨hne, a, ha, rfl⟩
 ·omega
 ·exact hg0
 ·have := hc.new i k hi hf; omega
 ·have := hab a ha; omega
def NewChT (G : Gm) (fs : List Fa) (w : World) (e : Ending) (w' : World) : Prop :=
 (OkG G.b G.l G.y G.n G.s G.r → ∃ o F, e = .returned (.tuple #[.pointer (some ⟨o, 0, none⟩), .int .i64 0]) ∧ ChAt w' o F (newCh G (List.replicate G.b.toNat (newSt G.l.toNat G.y.toNat)) fs) ∧ (∀ k, F k → w.heap.size ≤ k))
 ∧ (¬ OkG G.b G.l G.y G.n G.s G.r → e = .returned (.tuple #[.pointer none, .int .i64 60])) ∧ Below w.heap.size w w'
theorem infoPtr : (Tryz.prog.info? 59).map (fun i => (i.zero, i.size, i.bytes)) = some (some (.pointer none), 1, 8) := by kernel_rfl
theorem info_partsP {P : Program} {t : TypeId} {z : Option Value} {a b : Nat} (h : (P.info? t).map (fun i => (i.zero, i.size, i.bytes)) = some (z, a, b)) : ∃ i, P.info? t = some i ∧ i.zero = z ∧ i.size = a ∧ i.bytes = b := by
 cases hi : P.info? t with
 | none => rw [hi] at h; cases h
 | some i =>
  rw [hi] at h
  simp only [Option.map_some, Option.some.injEq, Prod.mk.injEq] at h
  exact ⟨i, rfl, h.1, h.2.1, h.2.2⟩
theorem run_makeP (n : Nat) (hn : n ≤ 64) (w : World) : Sem.run Tryz.prog (Instr.makeSlice 58 (.int .i64 (n : Int)) (.int .i64 (n : Int))) w = .ok (.slice (some ⟨w.heap.size, 0, none⟩) n n) (w.alloc (.cells (madeCells #[.pointer none] n) 59)) := by
 obtain ⟨i0, hi, hz0, hz1, hz2⟩ := info_partsP infoPtr
 have h := run_make (P := Tryz.prog) w 58 59 i0 _ Tryz.underlying58 hi hz0 .i64 .i64 (n : Int) (n : Int) (by omega) (Int.le_refl _) (by rw [hz2]; omega) (by omega)
 rw [hz1] at h
 simp only [Nat.mul_one, Int.toNat_natCast] at h
 exact h
structure PtrsK (w : World) (gc n k : Nat) (s : Nat → St) (po : Nat → Nat) (Fc : Nat → Nat → Prop) : Prop where
 blk : ∃ arr : Array Value, Blk w gc arr 59 ∧ arr.size = n ∧ ∀ i, i < k → arr[i]? = some (.pointer (some ⟨po i, 0, none⟩))
 cells : CellsK w gc k s po Fc
theorem PtrsK.start (w : World) (n : Nat) (s : Nat → St) : PtrsK (w.alloc (.cells (madeCells #[.pointer none] n) 59)) w.heap.size n 0 s (fun _ => 0) (fun _ _ => False) :=
 ⟨⟨_, Blk.new w _ _, size_madeCells _ _, fun i hi => absurd hi (Nat.not_lt_zero i)⟩, fun i hi => absurd hi (Nat.not_lt_zero i), fun i _ hi => absurd hi (Nat.not_lt_zero i), fun i _ _ hi => absurd hi (Nat.not_lt_zero i)⟩
theorem PtrsK.add {w w' : World} {gc n k : Nat} {s : Nat → St} {po : Nat → Nat} {Fc : Nat → Nat → Prop} (h : PtrsK w gc n k s po Fc) (hk : k < n) (hb : Below w.heap.size w w') (o : Nat) (F : Nat → Prop) (hc : CellAt w' o F (s k)) (hF : ∀ b, F b → w.heap.size ≤ b) :
  PtrsK (w'.setCell ⟨gc, k, none⟩ (.pointer (some ⟨o, 0, none⟩))) gc n (k + 1) s (fun i => if i = k then o else po i) (fun i => if i = k then F else Fc i) := by
 obtain ⟨⟨arr, h1, h2, h3⟩, h4⟩ := h
 have hl := h1.lt
 refine ⟨⟨_, (h1.after hb).set k _ rfl, by simp [h2], fun i hi => ?_⟩, (h4.add hl hb o F hc hF).keep fun b h5 _ => Below.heap_setCell _ _ _ _ (by show b ≠ gc; omega)⟩
 by_cases e : i = k
 ·subst e
  simp only [if_true]
  rw [Array.getElem?_setIfInBounds_self_of_lt (by omega)]
 ·simp only [e, if_false]
  rw [Array.getElem?_setIfInBounds_ne (Ne.symm e)]
  exact h3 i (by omega)
set_option maxHeartbeats 4000000 in
theorem ch_new (G : Gm) (oa : Option Addr) (l : List Fa) (ka : Nat) (hl : l.length ≤ 4398046510976) (w : World) (ha : FsAt w oa l) :
  Calls Tryz.prog 4 #[.agg (gmL G).toArray, .slice oa l.length ka] w (NewChT G l w) := by
 obtain ⟨W0, hW0⟩ : ∃ W0, w.alloc (.cells (gmL G).toArray 23) = W0 := ⟨_, rfl⟩
 have hb0 : Below w.heap.size w W0 := by rw [← hW0]; exact (Below.refl _ _).alloc (Nat.le_refl _) _
 have hk : Blk W0 w.heap.size (gmL G).toArray 23 := by rw [← hW0]; exact Blk.new w _ _
 have hck : Calls Tryz.prog 23 #[.agg (gmL G).toArray] W0 (ChkT G.b G.l G.y G.n G.s G.r W0) := ge_check G.b G.l G.y G.n G.s G.r W0
 have HCK := Lib.hid hck
 have HK := Lib.hid hk
 have HB0 := Lib.hid hb0
 have HW0 := Lib.hid hW0
 have HA := Lib.hid ha
 have HL := Lib.hid hl
 obtain ⟨m, hm⟩ : ∃ m, l.length = m := ⟨_, rfl⟩
 have HM := Lib.hid hm
 rw [hm]
 clear hck hk hb0 hW0 ha hl hm
 by_cases hok : OkG G.b G.l G.y G.n G.s G.r
 ·have HOK := Lib.hid hok
  have HEQ : Hid (ChkT G.b G.l G.y G.n G.s G.r W0 = fun e w' => e = .returned (.int .i64 0) ∧ Below W0.heap.size W0 w') := by
   show ChkT _ _ _ _ _ _ _ = _
   unfold ChkT
   rw [chk_ok hok]
  obtain ⟨⟨p1, p2, p3, p4, p5, p6, p7, _⟩, _⟩ := hok
  obtain ⟨nb, hnb⟩ : ∃ nb : Nat, G.b = nb := ⟨G.b.toNat, by omega⟩
  have hn64 : nb ≤ 64 := by omega
  have hnew : NewOk G.l G.y := ⟨⟨by omega, by omega⟩, by omega, ⟨by omega, by omega, by omega⟩⟩
  have HNEW := Lib.hid hnew
  have HNB := Lib.hid hnb
  have hmk := run_makeP nb hn64
  have hgm : (gmL G).toArray = #[.int .i64 (nb : Int), .int .i64 G.l, .int .i64 G.y, .int .i64 G.n, .int .i64 G.s, .int .i64 G.r] := by unfold gmL; rw [hnb]
  have HGM := Lib.hid hgm
  clear hnew hnb p1 p2 p3 p4 p5 p6 p7 hgm
  go_enter Tryz.func4, Tryz.ntmps4
  go_wp2_with (refine wpList_load_row rfl 23 (.tmp 2) rfl w.heap.size rfl 23 (gmL G).toArray (0, 0) _ (by first | exact HK.out | (rw [HW0.out]; exact HK.out)) Tryz.underlying23 rfl size_geoC ?_)
  rw [HW0.out]
  refine (HEQ.out ▸ HCK.out).mono ?_
  rintro e w1 ⟨rfl, hb1⟩
  have hk1 := HK.out.after hb1
  rw [HGM.out] at hk1
  have c0 : w1.cell? ⟨w.heap.size, 0, none⟩ = some (.int .i64 (nb : Int)) := hk1.cell 0
  have HB1 := Lib.hid (HB0.out.trans (hb1.mono HB0.out.size))
  have HK1 := Lib.hid hk1
  clear hb1 hk1
  go_wp2_with fail
  obtain ⟨gc, hgc⟩ : ∃ gc, w1.heap.size = gc := ⟨_, rfl⟩
  have P0 : Hid (PtrsK (w1.alloc (.cells (madeCells #[.pointer none] nb) 59)) gc nb 0 (fun _ => newSt G.l.toNat G.y.toNat) (fun _ => 0) (fun _ _ => False)) := by
   show PtrsK _ gc nb 0 _ _ _
   rw [← hgc]; exact PtrsK.start w1 nb _
  have HBA : Hid (Below w.heap.size w (w1.alloc (.cells (madeCells #[.pointer none] nb) 59))) := HB1.out.alloc HB1.out.size _
  have HKA : Hid (Blk (w1.alloc (.cells (madeCells #[.pointer none] nb) 59)) w.heap.size #[.int .i64 (nb : Int), .int .i64 G.l, .int .i64 G.y, .int .i64 G.n, .int .i64 G.s, .int .i64 G.r] 23) := HK1.out.alloc _
  have hgw : w.heap.size < gc := by rw [← hgc]; exact HK1.out.lt
  have HGW := Lib.hid hgw
  rw [hgc]
  clear hgc hgw HB1 HK1 c0
  go_loopw [19] (fun iv wr => ∃ (k : Nat) (po : Nat → Nat) (Fc : Nat → Nat → Prop), k ≤ nb ∧ iv = .int .i64 k ∧ Hid (PtrsK wr gc nb k (fun _ => newSt G.l.toNat G.y.toNat) po Fc) ∧ Hid (Below w.heap.size w wr) ∧ Hid (Blk wr w.heap.size #[.int .i64 (nb : Int), .int .i64 G.l, .int .i64 G.y, .int .i64 G.n, .int .i64 G.s, .int .i64 G.r] 23)) (fun iv _ => nb - (intOf iv).toNat)
  case atStart => exact ⟨0, _, _, Nat.zero_le _, rfl, P0, HBA, HKA⟩
  case round =>
   clear P0 HBA HKA
   obtain ⟨k, po, Fc, hk, rfl, HP, HB, HKG⟩ := hrel
   by_cases hlt : k < nb
   ·have hltz : (k : Int) < (nb : Int) := by omega
    have c1 : wr.cell? ⟨w.heap.size, 1, none⟩ = some (.int .i64 G.l) := HKG.out.cell 1
    have c2 : wr.cell? ⟨w.heap.size, 2, none⟩ = some (.int .i64 G.y) := HKG.out.cell 2
    go_wp2_with fail
    refine (ce_new G.l G.y _).mono ?_
    rintro e w2 ⟨hy, _, hb2⟩
    obtain ⟨o, F, rfl, hc, hF⟩ := hy HNEW.out
    obtain ⟨arr, h1, h2, h3⟩ := HP.out.blk
    have hcg : w2.cell? ⟨gc, k, none⟩ = some arr[k] := by rw [(h1.after hb2).cell k, Array.getElem?_eq_getElem (by omega)]
    have hfg := (h1.after hb2).free k
    have HP2 := Lib.hid (HP.out.add hlt hb2 o F hc hF)
    have HB2 : Hid (Below w.heap.size w (w2.setCell ⟨gc, k, none⟩ (.pointer (some ⟨o, 0, none⟩)))) := (HB.out.trans (hb2.mono HB.out.size)).setCell (p := ⟨gc, k, none⟩) (by have := HGW.out; show w.heap.size ≤ gc; omega) _
    have HK2 : Hid (Blk (w2.setCell ⟨gc, k, none⟩ (.pointer (some ⟨o, 0, none⟩))) w.heap.size #[.int .i64 (nb : Int), .int .i64 G.l, .int .i64 G.y, .int .i64 G.n, .int .i64 G.s, .int .i64 G.r] 23) := (HKG.out.after hb2).set_other (by have := HGW.out; omega) _ _
    generalize arr[k] = av at hcg
    clear hy hc hF hb2 h1 h2 h3 c1 c2 HP HB HKG
    go_wp2_with fail
    go_roundw
    case rel => exact ⟨k + 1, _, _, by omega, by go_num, HP2, HB2, HK2⟩
    case measure => simp [intOf]; omega
   ·obtain rfl : k = nb := by omega
    have hltz : ¬ (k : Int) < (k : Int) := by omega
    obtain ⟨arr, h1, h2, h3⟩ := HP.out.blk
    have hcs : (List.replicate k (newSt G.l.toNat G.y.toNat)).length = k := by simp
    have hget : ∀ i, i < k → (List.replicate k (newSt G.l.toNat G.y.toNat)).getD i (newSt 0 0) = newSt G.l.toNat G.y.toNat := fun i hi => by rw [List.getD_eq_getElem?_getD, List.getElem?_replicate, if_pos hi]; rfl
    have hof := ch_of G gc k (List.replicate k (newSt G.l.toNat G.y.toNat)) oa l ka HL.out po Fc w wr (HA.out.below HB.out) h1.lt (by have := HGW.out; omega) (fun i hi => by rw [h1.cell i]; exact h3 i (by rw [← hcs]; exact hi))
     ⟨fun i hi => by rw [hcs] at hi; show CellAt wr (po i) (Fc i) ((List.replicate k (newSt G.l.toNat G.y.toNat)).getD i (newSt 0 0)); rw [hget i hi]; exact HP.out.cells.cell i hi, fun i b hi hf => HP.out.cells.new i b (by rw [← hcs]; exact hi) hf, fun i j b hi hj hne hf => HP.out.cells.apart i j b (by rw [← hcs]; exact hi) (by rw [← hcs]; exact hj) hne hf⟩
    rw [hcs, HM.out] at hof
    have HOF := Lib.hid hof
    clear hof h1 h2 h3 hcs hget HP
    go_wp2_with (refine wpList_load_row rfl 23 (.tmp 2) rfl w.heap.size rfl 23 #[.int .i64 (k : Int), .int .i64 G.l, .int .i64 G.y, .int .i64 G.n, .int .i64 G.s, .int .i64 G.r] (0, 0) _ HKG.out Tryz.underlying23 rfl size_geoC ?_)
    rw [← HGM.out]
    refine HOF.out.mono ?_
    rintro e w3 ⟨o, F, rfl, h1, h2, h3⟩
    have HR : Hid (NewChT G l w (.returned (.tuple #[.pointer (some ⟨o, 0, none⟩), .int .i64 0])) w3) := by
     refine ⟨fun _ => ⟨o, F, rfl, ?_, h2⟩, fun hno => absurd HOK.out hno, HB.out.trans (h3.mono HB.out.size)⟩
     rw [HNB.out, Int.toNat_natCast]; exact h1
    clear h1 h2 h3 HOF
    go_wp2_with fail
    go_ret2
    exact HR.out
 ·have HEQ : Hid (ChkT G.b G.l G.y G.n G.s G.r W0 = fun e w' => e = .returned (.int .i64 60) ∧ Below W0.heap.size W0 w') := by
   show ChkT _ _ _ _ _ _ _ = _
   unfold ChkT
   rw [chk_no hok]
  have HNO := Lib.hid hok
  clear hok
  go_enter Tryz.func4, Tryz.ntmps4
  go_wp2_with (refine wpList_load_row rfl 23 (.tmp 2) rfl w.heap.size rfl 23 (gmL G).toArray (0, 0) _ (by first | exact HK.out | (rw [HW0.out]; exact HK.out)) Tryz.underlying23 rfl size_geoC ?_)
  rw [HW0.out]
  refine (HEQ.out ▸ HCK.out).mono ?_
  rintro e w1 ⟨rfl, hb1⟩
  have HR : Hid (NewChT G l w (.returned (.tuple #[.pointer none, .int .i64 60])) w1) := ⟨fun h => absurd h HNO.out, fun _ => rfl, HB0.out.trans (hb1.mono HB0.out.size)⟩
  clear hb1
  go_wp2_with fail
  go_ret2
  exact HR.out
/- Package chip, walked: Copy. -/
set_option maxHeartbeats 4000000 in
theorem ch_copy (o : Nat) (F : Nat → Prop) (c : ChS) (hw : WfCs c) (hn : c.cs.length ≤ 64) (oa : Option Addr) (l : List Fa) (ka : Nat) (hl : l.length ≤ 4398046510976) (w : World) (ha : FsAt w oa l) (h : ChAt w o F c) :
  Calls Tryz.prog 16 #[.pointer (some ⟨o, 0, none⟩), .slice oa l.length ka] w (MadeT c.G c.cs l w w) := by
 obtain ⟨g0, kc, o0, R, k0, sx, sy, p0, F0, rfl, h⟩ := h
 have c6 : w.cell? ⟨o, 6, none⟩ = some (.slice (some ⟨g0, 0, none⟩) c.cs.length kc) := h.blk.cell 6
 have HA := Lib.hid ha
 have HL := Lib.hid hl
 have HW := Lib.hid hw
 have H := Lib.hid h
 obtain ⟨m, hm⟩ : ∃ m, l.length = m := ⟨_, rfl⟩
 have HM := Lib.hid hm
 obtain ⟨n, hnn⟩ : ∃ n, c.cs.length = n := ⟨_, rfl⟩
 have HN := Lib.hid hnn
 rw [hm]
 rw [hnn] at hn c6
 have hmk := run_makeP n hn
 obtain ⟨gc, hgc⟩ : ∃ gc, w.heap.size = gc := ⟨_, rfl⟩
 have P0 : Hid (PtrsK (w.alloc (.cells (madeCells #[.pointer none] n) 59)) gc n 0 (fun i => c.cs.getD i (newSt 0 0)) (fun _ => 0) (fun _ _ => False)) := by
  show PtrsK _ gc n 0 _ _ _
  rw [← hgc]; exact PtrsK.start w n _
 have hb1 : Below w.heap.size w (w.alloc (.cells (madeCells #[.pointer none] n) 59)) := (Below.refl _ _).alloc (Nat.le_refl _) _
 have HBA := Lib.hid hb1
 have c6' : (w.alloc (.cells (madeCells #[.pointer none] n) 59)).cell? ⟨o, 6, none⟩ = some (.slice (some ⟨g0, 0, none⟩) n kc) := by
  have h6 : _ = some (Value.slice (some ⟨g0, 0, none⟩) c.cs.length kc) := (h.after hb1).blk.cell 6
  rw [hnn] at h6
  exact h6
 have HGC := Lib.hid hgc
 clear ha hl hw h hm hnn hb1
 go_enter Tryz.func16, Tryz.ntmps16
 go_wp2_with fail
 try rw [hgc]
 clear c6 c6' hmk hgc
 go_loopw [19] (fun iv wr => ∃ (k : Nat) (po : Nat → Nat) (Fc : Nat → Nat → Prop), k ≤ n ∧ iv = .int .i64 k ∧ Hid (PtrsK wr gc n k (fun i => c.cs.getD i (newSt 0 0)) po Fc) ∧ Hid (Below w.heap.size w wr)) (fun iv _ => n - (intOf iv).toNat)
 case atStart => exact ⟨0, _, _, Nat.zero_le _, rfl, P0, HBA⟩
 case round =>
  clear P0 HBA
  obtain ⟨k, po, Fc, hk, rfl, HP, HB⟩ := hrel
  have H2 := Lib.hid (H.out.after HB.out)
  by_cases hlt : k < n
  ·have hltz : (k : Int) < (n : Int) := by omega
   obtain ⟨_, c2, hc⟩ := H2.out.at k (by rw [HN.out]; exact hlt)
   have hcp := ce_copy (p0 k) (F0 k) (cellOf c k) wr (HW.out.of (by rw [HN.out]; exact hlt)) hc
   have ec : cellOf c k = c.cs.getD k (newSt 0 0) := by unfold cellOf; rw [Int.toNat_natCast]
   rw [ec] at hcp
   have HCP := Lib.hid hcp
   clear hc hcp ec
   go_wp2_with fail
   refine HCP.out.mono ?_
   rintro e w2 ⟨o2, F2, rfl, hc2, hF, hb2⟩
   obtain ⟨arr, h1, h2, h3⟩ := HP.out.blk
   have hcg : w2.cell? ⟨gc, k, none⟩ = some arr[k] := by rw [(h1.after hb2).cell k, Array.getElem?_eq_getElem (by omega)]
   have hfg := (h1.after hb2).free k
   have HP2 := Lib.hid (HP.out.add hlt hb2 o2 F2 hc2 hF)
   have HB2 : Hid (Below w.heap.size w (w2.setCell ⟨gc, k, none⟩ (.pointer (some ⟨o2, 0, none⟩)))) := (HB.out.trans (hb2.mono HB.out.size)).setCell (p := ⟨gc, k, none⟩) (by have := HGC.out; show w.heap.size ≤ gc; omega) _
   generalize arr[k] = av at hcg
   clear hc2 hF hb2 h1 h2 h3 c2 HP HB H2 HCP
   go_wp2_with fail
   go_roundw
   case rel => exact ⟨k + 1, _, _, by omega, by go_num, HP2, HB2⟩
   case measure => simp [intOf]; omega
  ·obtain rfl : k = n := by omega
   have hltz : ¬ (k : Int) < (k : Int) := by omega
   obtain ⟨arr, h1, h2, h3⟩ := HP.out.blk
   have hcs := HN.out
   have hof := ch_of c.G gc k c.cs oa l ka HL.out po Fc w wr (HA.out.below HB.out) h1.lt (by have := HGC.out; omega) (fun i hi => by rw [h1.cell i]; exact h3 i (by omega)) (by rw [hcs]; exact HP.out.cells)
   rw [hcs, HM.out] at hof
   have HOF := Lib.hid hof
   have hr : wr.rangeAt o 0 (gmL c.G) := blk_rng H2.out.blk 0 _ (fun j v hv => by
    have hj : j < 6 := (List.getElem?_eq_some_iff.1 hv).1
    obtain rfl | rfl | rfl | rfl | rfl | rfl : j = 0 ∨ j = 1 ∨ j = 2 ∨ j = 3 ∨ j = 4 ∨ j = 5 := by omega
    all_goals exact hv)
   have HR := Lib.hid hr
   clear hof h1 h2 h3 hcs HP hr
   go_wp2_with (refine wpList_load_mid rfl 23 (.tmp 32) rfl o 0 rfl (gmL c.G) _ HR.out Tryz.underlying23 rfl size_geoC ?_)
   refine HOF.out.mono ?_
   rintro e w3 ⟨o3, F3, rfl, h1, h2, h3⟩
   have HX : Hid (MadeT c.G c.cs l w w (.returned (.pointer (some ⟨o3, 0, none⟩))) w3) := ⟨o3, F3, rfl, h1, h2, HB.out.trans (h3.mono HB.out.size)⟩
   clear h1 h2 h3 HOF
   go_wp2_with fail
   go_ret
   exact HX.out
end Go.Proofs.YtalefbmoebobkaaGreatDoor
/- A strings.Builder that a call has made itself, in a walk: the shelf's contracts at this program, over texts. -/
namespace Go.Proofs.YtalefbmoebobkaaGreatDoor
set_option maxRecDepth 100000
open Go.RowKit
def Bld (B b : Nat) (s : ByteArray) (w : World) : Prop := Lib.IsBuilderF 145 5 B b (Lib.strCells s) w
theorem strCells_append (s t : ByteArray) : Lib.strCells s ++ Lib.strCells t = Lib.strCells (s ++ t) := by
 simp [Lib.strCells, ByteArray.data_append]
theorem Bld.le {B b : Nat} {s : ByteArray} {w : World} (h : Bld B b s w) : B ≤ b := by rcases h with h | h <;> exact h.1
theorem Bld.lt {B b : Nat} {s : ByteArray} {w : World} (h : Bld B b s w) : b < w.heap.size := by rcases h with h | h <;> exact h.lt
theorem Bld.drew {B b : Nat} {s : ByteArray} {w : World} (h : Bld B b s w) : Bld B b s w.drew := h
theorem Bld.alloc {B b : Nat} {s : ByteArray} {w : World} (h : Bld B b s w) (o : Obj) : Bld B b s (w.alloc o) := Lib.IsBuilderF.alloc h o
theorem builderAt_kept {T e : TypeId} {B b : Nat} {p : Value} {bs : List Value} {W W' : World} {row : Option Nat} (h : Lib.BuilderAtF T e B b p bs W) (hg : W.grownBy W' row)
  (hr : ∀ r, row = some r → ∃ o : Obj, W.heap[r]? = some o ∧ o.isCells = false) : Lib.BuilderAtF T e B b p bs W' := by
 have hlt := h.lt
 obtain ⟨hB, v, hb, hown, hne⟩ := h
 refine ⟨hB, v, (hg.block b hlt fun hx => ?_).trans hb, hown.kept hg ?_, hne⟩
 ·obtain ⟨o, ho, hc⟩ := hr b hx.symm
  rw [hb] at ho
  cases ho
  cases hc
 ·cases hv : v.ownBlock with
  | none => exact Or.inl rfl
  | some g =>
   refine Or.inr fun hx => ?_
   obtain ⟨o, ho, hc⟩ := hr g hx.symm
   obtain ⟨c, fz, hcs⟩ := Lib.ownsRowF_kind hown g hv
   rw [hcs] at ho
   cases ho
   cases hc
theorem Bld.kept {B b : Nat} {s : ByteArray} {W W' : World} {row : Option Nat} (h : Bld B b s W) (hg : W.grownBy W' row) (hr : ∀ r, row = some r → ∃ o : Obj, W.heap[r]? = some o ∧ o.isCells = false) : Bld B b s W' :=
 h.imp (fun h => builderAt_kept h hg hr) (fun h => builderAt_kept h hg hr)
theorem builderAt_after {T e : TypeId} {B b : Nat} {p : Value} {bs : List Value} {W W' : World} (h : Lib.BuilderAtF T e B b p bs W) (hb : Below W.heap.size W W') : Lib.BuilderAtF T e B b p bs W' := by
 have hlt := h.lt
 obtain ⟨hB, v, hk, hown, hne⟩ := h
 refine ⟨hB, v, (hb.block b hlt).trans hk, ?_, hne⟩
 refine ⟨hown.1, hown.2.imp id ?_⟩
 rintro ⟨g, cap, cur, fz, hv, hg, hc, hr⟩
 exact ⟨g, cap, cur, fz, hv, hg, (hb.block g (Array.getElem?_eq_some_iff.1 hc).1).trans hc, hr⟩
theorem Bld.after {B b : Nat} {s : ByteArray} {W W' : World} (h : Bld B b s W) (hb : Below W.heap.size W W') : Bld B b s W' :=
 h.imp (fun h => builderAt_after h hb) (fun h => builderAt_after h hb)
theorem builderAt_set {T e : TypeId} {B b : Nat} {p : Value} {bs : List Value} {W : World} {x i : Nat} {cs : Array Value} {t : TypeId} (h : Lib.BuilderAtF T e B b p bs W) (hk : Blk W x cs t) (hx : x ≠ b) (ht : t ≠ e) (v : Value) : Lib.BuilderAtF T e B b p bs (W.setCell ⟨x, i, none⟩ v) := by
 obtain ⟨hB, u, hb, hown, hne⟩ := h
 refine ⟨hB, u, (Below.heap_setCell _ _ _ _ (fun hc => hx hc.symm)).trans hb, ?_, hne⟩
 refine ⟨hown.1, hown.2.imp id ?_⟩
 rintro ⟨g, cap, cur, fz, hv, hg, hc, hr⟩
 refine ⟨g, cap, cur, fz, hv, hg, (Below.heap_setCell _ _ _ _ (fun he => ?_)).trans hc, hr⟩
 have he2 : g = x := he
 rw [he2, show W.heap[x]? = _ from hk] at hc
 injection hc with hc
 injection hc with _ h2 _
 exact ht h2
theorem Bld.set {B b : Nat} {s : ByteArray} {W : World} {x i : Nat} {cs : Array Value} {t : TypeId} (h : Bld B b s W) (hk : Blk W x cs t) (hx : x ≠ b) (ht : t ≠ 5) (v : Value) : Bld B b s (W.setCell ⟨x, i, none⟩ v) :=
 h.imp (fun h => builderAt_set h hk hx ht v) (fun h => builderAt_set h hk hx ht v)
theorem keepsFrom_others {b : Nat} {W W' : World} (B : Nat) (h : Lib.OthersKept 5 (some b) W W') (hz : W.heap.size ≤ W'.heap.size) (hbc : ∀ o : Obj, W.heap[b]? = some o → o.isCells = true) : KeepsFrom B W W' :=
 ⟨hz, fun k o _ hk hc => h k o hk (fun e => by cases e; rw [hbc o hk] at hc; cases hc) (fun c fz e => by rw [e] at hc; cases hc)⟩
theorem Bld.cells {B b : Nat} {s : ByteArray} {w : World} (h : Bld B b s w) : ∀ o : Obj, w.heap[b]? = some o → o.isCells = true := by
 intro o ho
 rcases h with ⟨_, v, hb, _⟩ | ⟨_, v, hb, _⟩
 all_goals
  rw [hb] at ho
  cases ho
  rfl
theorem keepB_others {b : Nat} {W W' : World} {bs : List Nat} (h : Lib.OthersKept 5 (some b) W W') (hbs : ∀ x ∈ bs, x ≠ b ∧ ∃ c t fz, W.heap[x]? = some (.cells c t fz) ∧ t ≠ 5) : KeepB bs W W' := by
 intro x hx
 obtain ⟨hne, c, t, fz, hc, ht⟩ := hbs x hx
 rw [h x _ hc (fun e => hne (by cases e; rfl)) (fun c' fz' e => ht (by cases e; rfl)), hc]
theorem blk_others {b x : Nat} {cs : Array Value} {t : TypeId} {W W' : World} (h : Lib.OthersKept 5 (some b) W W') (hk : Blk W x cs t) (hx : x ≠ b) (ht : t ≠ 5) : Blk W' x cs t :=
 h x _ hk (fun e => hx (by cases e; rfl)) (fun c fz e => ht (by cases e; rfl))
theorem keepB_two {b x y : Nat} {cx cy : Array Value} {tx ty : TypeId} {W W' : World} (h : Lib.OthersKept 5 (some b) W W') (hx : Blk W x cx tx) (hy : Blk W y cy ty) (hxb : x ≠ b) (hyb : y ≠ b) (htx : tx ≠ 5) (hty : ty ≠ 5) :
  KeepB [x, y] W W' := keepB_others h (fun z hz => by
 rcases List.mem_cons.1 hz with rfl | hz
 ·exact ⟨hxb, _, _, _, hx, htx⟩
 ·rw [List.mem_singleton.1 hz]; exact ⟨hyb, _, _, _, hy, hty⟩)
theorem deferred_others {b D : Nat} {d : Option (List Deferred)} {W W' : World} (h : Lib.OthersKept 5 (some b) W W') (hk : W.heap[D]? = some (.deferred d)) (hx : D ≠ b) : W'.heap[D]? = some (.deferred d) :=
 h D _ hk (fun e => hx (by cases e; rfl)) (fun c fz e => by cases e)
theorem bld_grow (B b n : Nat) (w : World) (hB : B ≤ b) (hbk : w.heap[b]? = some (.cells #[.pointer none, .slice none 0 0] 145 (0, 0))) (hBw : B ≤ w.heap.size) (hn : n ≤ 1000000) :
  Calls Tryz.prog 111 #[.pointer (some ⟨b, 0, none⟩), .int .i64 n] w fun e w' => e = .returned (.tuple #[]) ∧ Bld B b ByteArray.empty w' ∧ Below B w w' :=
 (Any.Builder_Grow_fresh { Tryz.lays105 with } Tryz.Builder_Extra_105 B b n w hB hbk hBw (by omega)).mono fun _ _ ⟨he, hb, hw⟩ => ⟨he, Lib.IsBuilderF.of (Or.inr hb), hw⟩
theorem bld_write (B b : Nat) (s t : ByteArray) (w : World) (h : Bld B b s w) (hn : s.size + t.size ≤ 1000000) :
  Calls Tryz.prog 115 #[.pointer (some ⟨b, 0, none⟩), .string t] w fun e w' =>
   e = .returned (.tuple #[.int .i64 t.size, .nilIface]) ∧ Bld B b (s ++ t) w' ∧ Below B w w' ∧ Lib.OthersKept 5 (some b) w w' :=
 (Any.Builder_WriteString_k { Tryz.lays105 with } Tryz.Builder_Extra_105 B b _ t w h (by rw [Lib.strCells_length]; omega) (Nat.le_of_lt (Nat.lt_of_le_of_lt h.le h.lt))).mono fun _ _ ⟨he, hb, hw, hk⟩ => ⟨he, Or.inr (by rw [← strCells_append]; exact hb), hw, hk⟩
theorem bld_string (B b : Nat) (s : ByteArray) (w : World) (h : Bld B b s w) :
  Calls Tryz.prog 116 #[.pointer (some ⟨b, 0, none⟩)] w fun e w' => e = .returned (.string s) ∧ Bld B b s w' ∧ Below B w w' ∧ Lib.OthersKept 5 (some b) w w' :=
 (Any.Builder_String_any_k { Tryz.lays105 with } Tryz.Builder_Extra_105 B b s.data.toList w h (Nat.le_of_lt (Nat.lt_of_le_of_lt h.le h.lt))).mono fun _ _ ⟨he, hb, hw, hk⟩ => ⟨he, hb, hw, hk⟩
/- Package frame, walked: Encode. -/
attribute [local go_sem] Oper.semAt_some
def encLs (l : List ByteArray) : ByteArray := l.foldl (fun a x => a ++ encS x) ByteArray.empty
theorem encLs_snoc (l : List ByteArray) (x : ByteArray) : encLs (l ++ [x]) = encLs l ++ encS x := by simp [encLs]
theorem encLs_pcs (s : ByteArray) : ∀ k, encLs (pcs s 8 k) = chunks s k
 | 0 => rfl
 | k + 1 => by rw [pcs_succ, encLs_snoc, encLs_pcs s k]; rfl
theorem foldE_size : ∀ (l : List (Str 8)) (a : ByteArray), ((l.map (·.1)).foldl (fun a x => a ++ encS x) a).size = a.size + 9 * l.length
 | [], a => rfl
 | x :: l, a => by
  rw [List.map_cons, List.foldl_cons, foldE_size l, ByteArray.size_append, encS_size, x.2, List.length_cons]; omega
theorem encLs_size (l : List (Str 8)) : (encLs (l.map (·.1))).size = 9 * l.length := by
 have h := foldE_size l ByteArray.empty
 rw [show ByteArray.empty.size = 0 from rfl, Nat.zero_add] at h
 exact h
theorem Tabs.kept {W W' : World} {row : Option Nat} (h : Tabs W) (hg : W.grownBy W' row) (hr : ∀ r, row = some r → ∃ o : Obj, W.heap[r]? = some o ∧ o.isCells = false) : Tabs W' :=
 ⟨fun i hi => cell_kept (h.1 i hi) hg hr, fun i hi => cell_kept (h.2 i hi) hg hr⟩
theorem fr_enc_long (k l q e : Int) (data : ByteArray) (w : World) (h : ¬ LenOk data.size) :
  Calls Tryz.prog 70 #[.agg (ta k l q e), .string data] w (FrEnc k l q e data w) := by
 unfold FrEnc frT frE
 rw [if_neg (fun hh => h hh.1), if_neg h]
 have HD : Hid (decide (8 ≤ (data.size : Int) ∧ (data.size : Int) ≤ 256 ∧ (data.size : Int) % 8 = 0) = false) := decide_eq_false (fun hh => h ⟨by omega, by omega, by omega⟩)
 clear h
 refine calls_of_marks Tryz.func70 rfl ?_
 simp only [Tryz.ntmps70, List.size_toArray, List.length_cons, List.length_nil, Nat.reduceAdd, Nat.reduceSub, Array.replicate_succ, Array.replicate_zero, List.push_toArray, List.append_toArray, List.nil_append, List.cons_append]
 go_wp2_with fail
 refine (fr_data (data.size : Int) _).mono ?_
 rintro r w1 ⟨rfl, rfl⟩
 rw [HD.out]
 go_wp2_with fail
 exact leave_none rfl (results_tmp2 rfl _ _ _) ⟨rfl, (Below.refl _ _).alloc (Nat.le_refl _) _⟩
theorem fr_enc_range (k l q e : Int) (data : ByteArray) (w : World) (hl : LenOk data.size) (h : ¬ MayT k l q e) :
  Calls Tryz.prog 70 #[.agg (ta k l q e), .string data] w (FrEnc k l q e data w) := by
 unfold FrEnc frT frE
 rw [if_neg (fun hh => h hh.2), if_pos hl, if_neg h]
 have HD : Hid (decide (8 ≤ (data.size : Int) ∧ (data.size : Int) ≤ 256 ∧ (data.size : Int) % 8 = 0) = true) := by
  obtain ⟨h1, h2, h3⟩ := hl
  exact decide_eq_true (by omega)
 have HE : Hid (encT k l q e = ByteArray.empty ∧ encE k l q e = 1) := ⟨if_neg h, if_neg h⟩
 have hds : data.size ≤ 256 := hl.2.1
 clear h hl
 refine calls_of_marks Tryz.func70 rfl ?_
 simp only [Tryz.ntmps70, List.size_toArray, List.length_cons, List.length_nil, Nat.reduceAdd, Nat.reduceSub, Array.replicate_succ, Array.replicate_zero, List.push_toArray, List.append_toArray, List.nil_append, List.cons_append]
 go_wp2_with fail
 refine (fr_data (data.size : Int) _).mono ?_
 rintro r w1 ⟨rfl, rfl⟩
 rw [HD.out]
 go_wp2_with (refine wpList_load_row rfl 110 (.tmp 2) rfl w.heap.size rfl 110 (ta k l q e) (0, 0) _ (Blk.new w (ta k l q e) 110) Tryz.underlying110 rfl size_tag ?_)
 refine (tag_enc k l q e _).mono ?_
 rintro r w2 ⟨rfl, hb2⟩
 rw [HE.out.1, HE.out.2]
 have HB2 : Hid (Below w.heap.size w w2) := ((Below.refl _ _).alloc (Nat.le_refl _) _).trans (hb2.mono (by simp))
 clear hb2
 go_wp2_with fail
 exact leave_none rfl (results_tmp2 rfl _ _ _) ⟨rfl, HB2.out⟩
set_option maxHeartbeats 2000000 in
theorem fr_enc_yes (k l q e : Int) (data : ByteArray) (w : World) (hl : LenOk data.size) (hm : MayT k l q e) (hT : Tabs w) :
  Calls Tryz.prog 70 #[.agg (ta k l q e), .string data] w (FrEnc k l q e data w) := by
 unfold FrEnc frT frE
 rw [if_pos ⟨hl, hm⟩, if_pos hl, if_pos hm]
 have hd1 : decide (8 ≤ (data.size : Int) ∧ (data.size : Int) ≤ 256 ∧ (data.size : Int) % 8 = 0) = true := by
  obtain ⟨h1, h2, h3⟩ := hl
  rw [decide_eq_true_eq]; omega
 have HD1 := Lib.hid hd1
 have he : encT k l q e = tagS k l q e ∧ encE k l q e = 0 := ⟨if_pos hm, if_pos hm⟩
 have HE := Lib.hid he
 have HT := Lib.hid hT
 obtain ⟨x, hx⟩ : ∃ x, tagS k l q e ++ data = x := ⟨_, rfl⟩
 have hxz : x.size = 16 + data.size := by rw [← hx, ByteArray.size_append, tagS_size]
 obtain ⟨z, hz⟩ : ∃ z, sealS x ++ (⟨#[0, 0, 0, 0]⟩ : ByteArray) = z := ⟨_, rfl⟩
 have hzz : z.size = data.size + 24 := by rw [← hz, ByteArray.size_append, sealS_size, hxz, show (⟨#[0, 0, 0, 0]⟩ : ByteArray).size = 4 from rfl]; omega
 have hpg : chunks z ((data.size + 24) / 8) = pageS k l q e data := by rw [← hz, ← hx]; rfl
 have ht16 : (tagS k l q e).size = 16 := tagS_size _ _ _ _
 have hsx : (sealS x).size = x.size + 4 := sealS_size x
 obtain ⟨sx, hsxe⟩ : ∃ t, sealS x = t := ⟨_, rfl⟩
 obtain ⟨tg, htg⟩ : ∃ t, tagS k l q e = t := ⟨_, rfl⟩
 rw [hsxe] at hz hsx
 rw [htg] at hx ht16 he HE
 have h8 := hl.1
 have h256 := hl.2.1
 have hz8 : 8 * (z.size / 8) = z.size := by have := hl.2.2; omega
 obtain ⟨oc, hoc⟩ : ∃ oc : Nat, (data.size + 24) / 8 * 9 = oc := ⟨_, rfl⟩
 have hoci : ((data.size : Int) + 24) / 8 * 9 = (oc : Int) := by omega
 have hocz : oc ≤ 1000 := by omega
 have HX := Lib.hid hx
 have HZ := Lib.hid hz
 have HSX := Lib.hid hsxe
 have HPG := Lib.hid hpg
 have HOC := Lib.hid hoci
 have hx276 : x.size ≤ 272 := by omega
 clear hd1 he hT hl hm hx hz hpg hsxe htg hoc hoci
 refine calls_of_marks Tryz.func70 rfl ?_
 simp only [Tryz.ntmps70, List.size_toArray, List.length_cons, List.length_nil, Nat.reduceAdd, Nat.reduceSub, Array.replicate_succ, Array.replicate_zero, List.push_toArray, List.append_toArray, List.nil_append, List.cons_append]
 go_wp2_with fail
 refine (fr_data (data.size : Int) _).mono ?_
 rintro r w1 ⟨rfl, rfl⟩
 rw [HD1.out]
 go_wp2_with (refine wpList_load_row rfl 110 (.tmp 2) rfl w.heap.size rfl 110 (ta k l q e) (0, 0) _ (Blk.new w (ta k l q e) 110) Tryz.underlying110 rfl size_tag ?_)
 refine (tag_enc k l q e _).mono ?_
 rintro r w2 ⟨rfl, hb2⟩
 rw [HE.out.1, HE.out.2]
 have HB2 : Hid (Below w.heap.size w w2) := ((Below.refl _ _).alloc (Nat.le_refl _) _).trans (hb2.mono (by simp))
 clear hb2
 go_wp2_with fail
 refine (fr_onChip (data.size : Int) _ (by omega) (by omega)).mono ?_
 rintro r w1 ⟨rfl, hw1⟩
 rw [← hw1, HOC.out]
 clear hw1
 go_wp2_with fail
 have hb8w : w.heap.size ≤ w2.heap.size := HB2.out.size
 have HB3 : Hid (Below w.heap.size w (w2.alloc (.cells #[.pointer none, .slice none 0 0] 145))) := HB2.out.alloc HB2.out.size _
 have hN := heap_alloc_new w2 (.cells #[.pointer none, .slice none 0 0] 145)
 have hb8x : w2.heap.size < (w2.alloc (.cells #[.pointer none, .slice none 0 0] 145)).heap.size := by simp
 generalize w2.alloc (.cells #[.pointer none, .slice none 0 0] 145) = w3 at HB3 hN hb8x ⊢
 generalize w2.heap.size = b8 at hN hb8w hb8x ⊢
 refine (bld_grow w.heap.size b8 oc w3 hb8w hN HB3.out.size (by omega)).mono ?_
 rintro r w4 ⟨rfl, hbd, hb4⟩
 have HB4 : Hid (Below w.heap.size w w4) := HB3.out.trans hb4
 have HK4 := Lib.hid hbd
 clear hb4 hbd hN HB3
 go_wp2_with fail
 rw [HX.out]
 have HT4 := Lib.hid (HT.out.after HB4.out)
 refine (seal_any x _ (by omega) HT4.out.2).mono ?_
 rintro r w5 ⟨rfl, hb5⟩
 rw [HSX.out]
 have HB5 := Lib.hid (HB4.out.trans (hb5.mono HB4.out.size))
 have HK5 := Lib.hid (HK4.out.after hb5)
 clear hb5 HT4 HB4 HK4 HB2 HE HD1 HSX HX
 go_wp2_with fail
 rw [HZ.out]
 refine (pieces_any z 8 _).mono ?_
 rintro r w6 ⟨rfl, rfl⟩
 go_wp2_with fail
 obtain ⟨w6, hw6⟩ : ∃ w6, (w5.alloc (.cells #[.string z] 9)).alloc (.cells #[.int .i64 8] 3) = w6 := ⟨_, rfl⟩
 have hb6 : Below w5.heap.size w5 w6 := by rw [← hw6]; exact ((Below.refl _ _).alloc (Nat.le_refl _) _).alloc (by simp) _
 have hz6 : w6.heap.size = w5.heap.size + 2 := by rw [← hw6]; simp
 have g1 : Blk w6 w5.heap.size #[.string z] 9 := by rw [← hw6]; exact (Blk.new w5 #[.string z] 9).alloc _
 have g2 : Blk w6 (w5.heap.size + 1) #[.int .i64 8] 3 := by
  rw [← hw6]
  have h := Blk.new (w5.alloc (.cells #[.string z] 9)) #[.int .i64 8] 3
  rwa [World.size_alloc] at h
 have HB6 := Lib.hid (HB5.out.trans (hb6.mono HB5.out.size))
 have HK6 := Lib.hid (HK5.out.after hb6)
 have hb85 : b8 < w5.heap.size := HK5.out.lt
 have hws : w.heap.size ≤ w5.heap.size := HB5.out.size
 have hc1 := g1.cell 0
 have hc2 := g2.cell 0
 rw [hw6]
 generalize w5.heap.size = b5 at hb6 hz6 g1 g2 hc1 hc2 hb85 hws ⊢
 clear hw6 hb6 HB5 HK5
 refine wpIn_wide.1 (wpIn_rangeFunc_ownG (F := Fence.wide) (n := 9) rfl (by decide) (gf := 143) (lb := #[.pointer (some ⟨b5, 0, none⟩), .pointer (some ⟨b5 + 1, 0, none⟩)]) rfl trivial (enters_of Tryz.func143 (by kernel_rfl) rfl)
  (pieces_stops 8 (by decide) b5 (b5 + 1) 8 z (by decide) (by decide) (by omega) hz8 w6 (by omega) (by omega) hc1 hc2) KeepB.trans (KeepB.mark (by simp; omega)) (Below.refl _ _) (fun _ => rfl)
  (fun pre W => (Bld w.heap.size b8 (encLs (pre.map (·.1))) W ∧ Blk W b5 #[.string z] 9 ∧ Blk W (b5 + 1) #[.int .i64 8] 3) ∧ Below w.heap.size w W) (fun _ _ _ => False)
  (OwnFrom.and (Own.from (fun s A B row hs hg hr => ⟨hs.1.kept hg hr, blk_kept hs.2.1 hg hr, blk_kept hs.2.2 hg hr⟩) _) (ownFrom_below (Nat.le_refl _) (by omega)))
  (fun _ _ _ _ _ hs _ _ => hs)
  ⟨⟨HK6.out, g1, g2⟩, HB6.out⟩
  (fun x8 => { tmps := #[Value.agg (ta k l q e), Value.string data, Value.pointer (some { block := w.heap.size, off := 0 }), undef,
     Value.string { data := #[] }, Value.int IntKind.i64 0, Value.string tg, Value.int IntKind.i64 0,
     Value.pointer (some { block := b8, off := 0 }), Value.string x8.1, undef, undef, Value.string data,
     Value.int IntKind.i64 ↑data.size, Value.bool true, Value.bool false,
     Value.tuple #[Value.string tg, Value.int IntKind.i64 0], Value.agg (ta k l q e),
     Value.tuple #[Value.string tg, Value.int IntKind.i64 0], Value.string tg, Value.int IntKind.i64 0,
     Value.int IntKind.i64 0, Value.bool false, undef, Value.string data, Value.int IntKind.i64 ↑data.size,
     Value.int IntKind.i64 ↑oc, Value.tuple #[], Value.string tg, Value.string data, Value.string x,
     Value.string sx, Value.string z,
     Value.func (Fn.func 143) #[]
      #[Value.pointer (some { block := b5, off := 0 }), Value.pointer (some { block := b5 + 1, off := 0 })],
     Value.string x8.1, undef, undef, undef, undef, undef, undef, undef, undef], defers := [] }) ?assign ?body ?done ?stop)
 case assign =>
  intro l' x8 W K hK
  gi_wp2
  exact hK
 case body =>
  rintro l' pre x8 W ⟨⟨hbd, hk1, hk2⟩, hBW⟩ hlen
  have HTW := Lib.hid (HT.out.after hBW)
  have HBW := Lib.hid hBW
  have HBD := Lib.hid hbd
  have HK1 := Lib.hid hk1
  have HK2 := Lib.hid hk2
  obtain ⟨acc, hacc⟩ : ∃ acc, encLs (pre.map (·.1)) = acc := ⟨_, rfl⟩
  have hsn : encLs ((pre ++ [x8]).map (·.1)) = acc ++ encS x8.1 := by rw [List.map_append, ← hacc]; exact encLs_snoc _ _
  have HSN := Lib.hid hsn
  rw [hacc] at HBD
  have hez : (encS x8.1).size = 9 := by rw [encS_size, x8.2]
  have haz : acc.size ≤ 1000 := by
   rw [← hacc, encLs_size]
   omega
  clear hBW hbd hacc hsn hk1 hk2
  gi_wp2_with fail
  refine ⟨trivial, CallsIn.inRound l' (callsIn_wide.2 ((ham_enc_yes x8.1 _ x8.2 HTW.out.1).mono ?_))⟩
  rintro r w7 ⟨rfl, hb7⟩
  obtain ⟨e8, he8⟩ : ∃ t, encS x8.1 = t := ⟨_, rfl⟩
  rw [he8] at HSN hez ⊢
  have HB7 := Lib.hid hb7
  clear hb7 he8
  gi_wp2_with fail
  refine ⟨trivial, CallsIn.inRound l' (callsIn_wide.2 ((bld_write w.heap.size b8 acc e8 _ (HBD.out.after HB7.out) (by omega)).mono ?_))⟩
  rintro r w8 ⟨rfl, hbd8, hb8, hk8⟩
  have HBD8 := Lib.hid hbd8
  have HB8 := Lib.hid hb8
  have HK8 := Lib.hid hk8
  clear hbd8 hb8 hk8
  gi_wp2_with fail
  exact ⟨(keeps_of_below _ HB7.out).trans (keepsFrom_others _ HK8.out HB8.out.size (HBD.out.after HB7.out).cells),
   (KeepB.of_below HB7.out (by have := HK1.out.lt; have := HK2.out.lt; simp; omega)).trans (keepB_two HK8.out (HK1.out.after HB7.out) (HK2.out.after HB7.out) (by omega) (by omega) (by decide) (by decide)),
   ⟨by rw [HSN.out]; exact HBD8.out, blk_others HK8.out (HK1.out.after HB7.out) (by omega) (by decide), blk_others HK8.out (HK2.out.after HB7.out) (by omega) (by decide)⟩, (HBW.out.trans (HB7.out.mono HBW.out.size)).trans HB8.out⟩
 case done =>
  rintro D ys W hD hys ⟨⟨hbd, _, _⟩, hBW⟩ hK
  have hres : encLs (ys.map (·.1)) = pageS k l q e data := by rw [hys, encLs_pcs, hzz]; exact HPG.out
  rw [hres] at hbd
  obtain ⟨ps, hps⟩ : ∃ t, pageS k l q e data = t := ⟨_, rfl⟩
  rw [hps] at hbd
  have HPS := Lib.hid hps
  have HBW := Lib.hid hBW
  have HBD := Lib.hid hbd
  have HK := Lib.hid hK
  have HD := Lib.hid hD
  clear hBW hys hres hps hK hbd hD
  go_wp2_with fail
  refine (bld_string w.heap.size b8 ps W HBD.out).mono ?_
  rintro r w9 ⟨rfl, _, hb9, hk9⟩
  have HK9 : Hid (w9.heap[D]? = some (.deferred (some []))) := deferred_others hk9 HK.out (by have := HD.out; omega)
  have HM : Hid (Below w.heap.size w (w9.putObj D (.deferred none))) := below_mark (HBW.out.trans hb9) (by have := HD.out; omega) HK9.out
  clear hb9 hk9
  go_wp2_with fail
  exact leave_one rfl HK9.out (results_tmp2 rfl _ _ _) ⟨by rw [HPS.out]; rfl, HM.out⟩
 case stop =>
  rintro D c pre W _ _ h _
  exact h.elim
theorem fr_enc (k l q e : Int) (data : ByteArray) (w : World) (_ : data.size ≤ maxLen) (hT : Tabs w) : Calls Tryz.prog 70 #[.agg (ta k l q e), .string data] w (FrEnc k l q e data w) := by
 by_cases hl : LenOk data.size
 ·by_cases hm : MayT k l q e
  ·exact fr_enc_yes k l q e data w hl hm hT
  ·exact fr_enc_range k l q e data w hl hm
 ·exact fr_enc_long k l q e data w hl
/- Package frame, walked: unpacked. -/
attribute [local go_sem] Oper.semAt_some
def BaseUN (b3 bw D : Nat) (a : Act) : Prop := ∃ u : Nat → Value, a = ⟨#[u 0, u 1, u 2, u 3, .pointer (some ⟨b3, 0, none⟩), .pointer (some ⟨bw, 0, none⟩), u 6, u 7, u 8, u 9, u 10, u 11, u 12, u 13, u 14, u 15, u 16, u 17, u 18, u 19, u 20, u 21, u 22, u 23, u 24, u 25, u 26, u 27], [{ target := Target.collected D, args := #[] }]⟩
def CU (w0 : World) (b3 bw D : Nat) (t : ByteArray) (v : Int) (w : World) : Prop := Bld b3 b3 t w ∧ Blk w bw #[.int .i64 v] 3 ∧ w.heap[D]? = some (.deferred (some [])) ∧ Below b3 w0 w ∧ bw ≠ b3 ∧ D ≠ b3
theorem CU.call {w0 : World} {b3 bw D : Nat} {t : ByteArray} {v : Int} {w w' : World} (h : CU w0 b3 bw D t v w) (hb : Bld b3 b3 t w') (hw : Below b3 w w') (hk : Lib.OthersKept 5 (some b3) w w') : CU w0 b3 bw D t v w' :=
 ⟨hb, blk_others hk h.2.1 h.2.2.2.2.1 (by decide), deferred_others hk h.2.2.1 h.2.2.2.2.2, h.2.2.2.1.trans hw, h.2.2.2.2⟩
theorem CU.drew {w0 : World} {b3 bw D : Nat} {t : ByteArray} {v : Int} {w : World} (h : CU w0 b3 bw D t v w) : CU w0 b3 bw D t v w.drew := ⟨h.1.drew, h.2.1.drew, h.2.2.1, h.2.2.2.1.drew, h.2.2.2.2⟩
/- Package frame, walked: isBlank. -/
attribute [local go_sem] Oper.semAt_some
/- Package frame, walked: opened. -/
def BaseOP (g : Nat) (bd : ByteArray) (e : Int) (a : Act) : Prop := ∃ u : Nat → Value, a = ⟨#[u 0, u 1, .pointer (some ⟨g, 0, none⟩), u 3, u 4, .string bd, .int .i64 e, u 7, u 8, u 9, u 10, u 11, u 12, u 13, u 14, u 15, u 16, u 17, u 18, u 19, u 20, u 21, u 22, u 23, u 24, u 25, u 26, u 27, u 28, u 29, u 30, u 31, u 32, u 33, u 34, u 35, u 36], []⟩
def CO (w0 : World) (cs : Array Value) (w : World) : Prop := Blk w w0.heap.size cs 110 ∧ Below w0.heap.size w0 w
theorem CO.drew {w0 w : World} {cs : Array Value} (h : CO w0 cs w) : CO w0 cs w.drew := ⟨h.1.drew, h.2.drew⟩
theorem CO.put {w0 w : World} {cs ds : Array Value} (h : CO w0 cs w) : CO w0 ds (w.setRow w0.heap.size ds) := ⟨h.1.put _, below_put (Nat.le_refl _) _ h.2⟩
/- Package frame, walked: Decode; with Encode, Blank, Hurt all that the laws of layer 5 ask of it. -/
end Go.Proofs.YtalefbmoebobkaaGreatDoor
/- Layer 10, the laws: the geometry, pages of a number. -/
namespace Go.Proofs.YtalefbmoebobkaaGreatDoor
set_option maxRecDepth 100000
open Go.RowKit Go.Shelf Go.Proofs
def G0 : Gm := ⟨8, 6, 64, 4, 0, 4⟩
theorem G0_ok : OkG G0.b G0.l G0.y G0.n G0.s G0.r := by decide
theorem ch_geo0 (w : World) : Calls Tryz.prog 28 #[] w fun e w' => e = .returned (.agg (gmL G0).toArray) ∧ Below w.heap.size w w' := by
 have HK := Lib.hid (Blk.new w #[.int .i64 0, .int .i64 0, .int .i64 0, .int .i64 0, .int .i64 0, .int .i64 0] 23)
 have HB := Lib.hid ((Below.refl w.heap.size w).alloc (Nat.le_refl _) (.cells #[.int .i64 0, .int .i64 0, .int .i64 0, .int .i64 0, .int .i64 0, .int .i64 0] 23))
 go_enter Tryz.func28, Tryz.ntmps28
 go_wp2_with (refine wpList_store_row rfl 23 _ _ rfl w.heap.size (gmL G0).toArray rfl rfl 23 _ HK.out size_geoC rfl (gmL_one _) ?_)
 exact bodyPost_ret (results_cell_ch (P := Tryz.prog) rfl _ _ w.heap.size 23 (gmL G0).toArray _ rfl (HK.out.put _) Tryz.underlying23 rfl size_geoC) rfl ⟨rfl, below_put (Nat.le_refl _) _ HB.out⟩
def byteB (n : Int) : Nat := (n % 256).toNat
def byte64 (n : Int) : ByteArray := ⟨(List.replicate 64 (UInt8.ofNat (byteB n))).toArray⟩
def pgQ (n : Int) : ByteArray := frT 1 (bits .and .i64 n 4095) 0 0 (byte64 n)
theorem byte64_size (n : Int) : (byte64 n).size = 64 := rfl
theorem rep_64 (n : Int) : (⟨(Lib.repeatL (⟨#[UInt8.ofNat (byteB n)]⟩ : ByteArray).data.toList 64).toArray⟩ : ByteArray) = byte64 n := rfl
theorem conv_byte (n : Nat) (w : World) : Sem.run Tryz.prog (convert 112 9 (.slice (some ⟨w.heap.size, 0, none⟩) 1 1)) (w.alloc (.cells #[.int .u8 (n : Nat)] 5)) = .ok (.string ⟨#[UInt8.ofNat n]⟩) (w.alloc (.cells #[.int .u8 (n : Nat)] 5)) := by
 have h : BytesAt (w.alloc (.cells #[.int .u8 (n : Nat)] 5)) w.heap.size [(n : Int)] := by
  intro i hi
  obtain rfl : i = 0 := by simpa using hi
  exact (Blk.new w #[.int .u8 (n : Nat)] 5).cell 0
 have h2 := h.conv (P := Tryz.prog) (src := 112) (e := 5) (dst := 9) Tryz.underlying112 Tryz.underlying5 Tryz.underlying9 1 1 rfl
 rw [h2]
 rfl
set_option maxHeartbeats 1000000 in
theorem ch_pageOf (n : Int) (w : World) (hT : Tabs w) : Calls Tryz.prog 29 #[.int .i64 n] w fun e w' => e = .returned (.string (pgQ n)) ∧ Below w.heap.size w w' := by
 have HT := Lib.hid hT
 have hcv := conv_byte (byteB n) w
 have hbb : n % 256 = (byteB n : Int) := by unfold byteB; omega
 obtain ⟨pp, hpp⟩ : ∃ pp, pgQ n = pp := ⟨_, rfl⟩
 have HPP : Hid (frT 1 (bits .and .i64 n 4095) 0 0 (byte64 n) = pp) := hpp
 rw [hpp]
 clear hT hpp
 go_enter Tryz.func29, Tryz.ntmps29
 go_wp2_with fail
 refine (Any.strings_Repeat Tryz.lays105 Tryz.Builder_Extra_105 _ 64 _ (by omega) (by show 1 * 64 ≤ _; omega)).mono ?_
 rintro r w1 ⟨rfl, hb1⟩
 rw [rep_64]
 have HB1 : Hid (Below w.heap.size w w1) := ((Below.refl _ _).alloc (Nat.le_refl _) _).trans (hb1.mono (by simp))
 clear hb1 hcv
 go_wp2_with fail
 refine (fr_enc 1 (bits .and .i64 n 4095) 0 0 (byte64 n) _ (by rw [byte64_size]; decide) (HT.out.after HB1.out)).mono ?_
 rintro r w2 ⟨rfl, hb2⟩
 have HB2 := Lib.hid (HB1.out.trans (hb2.mono HB1.out.size))
 clear hb2
 rw [HPP.out]
 generalize frE 1 (bits .and .i64 n 4095) 0 0 (byte64 n) = pe
 go_wp2_with fail
 go_ret
 exact ⟨rfl, HB2.out⟩
theorem and_100 : ∀ n : Fin 101, bits .and .i64 ((n.val : Nat) : Int) 4095 = ((n.val : Nat) : Int) := by decide
theorem pgQ_is (n : Nat) (hn : n ≤ 100) : pgQ (n : Int) = pageS 1 n 0 0 (byte64 n) := by
 unfold pgQ
 have h := and_100 ⟨n, by omega⟩
 simp only at h
 rw [h]
 exact if_pos ⟨⟨by rw [byte64_size]; omega, by rw [byte64_size]; omega, by rw [byte64_size]⟩, ⟨by omega, by omega, by omega, by omega, by omega, by omega, by omega, by omega⟩⟩
theorem pgQ_size (n : Nat) (hn : n ≤ 100) : (pgQ (n : Int)).size = 99 := by rw [pgQ_is n hn, pageS_size, byte64_size]
theorem Tabs.low {w w' : World} (h : Tabs w) (hb : Below w.heap.size w w') : Tabs w' := h.after hb
end Go.Proofs.YtalefbmoebobkaaGreatDoor
/- Layer 10, the laws: a block programmed line by line; chips of one cut. -/
namespace Go.Proofs.YtalefbmoebobkaaGreatDoor
set_option maxRecDepth 100000
open Go.RowKit
structure KP (f : Nat → ByteArray) (i : Nat) (s : St) : Prop where
 wf : WfSt s
 l : s.L = 6
 y : s.Y = 64
 bad : s.bad = false
 torn : s.torn = false
 mode : s.mode = 0 ∧ i = 0 ∨ s.mode = 1
 done : s.done = i
 page : ∀ j, j < i → pageAt s (3 * j) = f j
 mark : ∀ j, s.hs.getD (3 * j) false = false
 cnt : s.slc = 0 ∧ s.tlc = 0
def sA : St := newSt 6 64
theorem sA_wf : WfSt sA := newSt_ok (by decide) (by decide) ⟨by decide, by decide, by decide⟩
theorem sA_mark (j : Nat) : sA.hs.getD j false = false := by
 unfold sA newSt
 simp only [List.getD_eq_getElem?_getD, List.getElem?_replicate]
 split <;> rfl
theorem KP.zero (f : Nat → ByteArray) : KP f 0 sA := ⟨sA_wf, rfl, rfl, rfl, rfl, Or.inl ⟨rfl, rfl⟩, rfl, fun j hj => absurd hj (Nat.not_lt_zero j), fun _ => sA_mark _, rfl, rfl⟩
theorem KP.ok {f : Nat → ByteArray} {i : Nat} {s : St} (h : KP f i s) (hi : i < 6) (hf : (f i).size = 99) : ProgOk s (i : Nat) (f i) :=
 ⟨h.bad, h.torn, by rcases h.mode with h1 | h1 <;> omega, by rw [h.done], by rw [h.l]; omega, by unfold takesB rawOf; rw [h.y, hf]; rfl⟩
theorem KP.next {f : Nat → ByteArray} {i : Nat} {s : St} (h : KP f i s) (hi : i < 6) (hf : (f i).size = 99) : KP f (i + 1) (progSt s (i : Nat) (f i) 0 0 0) ∧ progC s (i : Nat) (f i) 0 = 0 := by
 have hok := h.ok hi hf
 have hp := pr_yes (k := 0) (a := 0) (b := 0) hok
 have hw := progSt_wf h.wf (i : Nat) (f i) 0 0 0
 refine ⟨?_, hp.2⟩
 rw [hp.1] at hw ⊢
 have e : endSt (putSt (stepSt s 1) (3 * (i : Int).toNat) (pageT (f i) 0 0 0) (hurtsB 0)) 0 = putSt (stepSt s 1) (3 * i) (f i) false := by simp [endSt, pageT, hurtsB]
 rw [e] at hw ⊢
 refine ⟨hw, h.l, h.y, h.bad, h.torn, Or.inr rfl, by show s.done + 1 = i + 1; rw [h.done], fun j hj => ?_, fun j => ?_, h.cnt⟩
 ·rw [put_page _ _ _ _ _ (by show 3 * i < s.ps.length; rw [h.wf.psl, h.l]; omega)]
  by_cases e : j = i
  ·subst e; rw [if_pos rfl]
  ·rw [if_neg (by omega)]
   exact h.page j (by omega)
 ·rw [put_mark _ _ _ _ _ (by show 3 * i < s.hs.length; rw [h.wf.hsl, h.l]; omega)]
  split
  ·rfl
  ·exact h.mark j
theorem KP.read {f : Nat → ByteArray} {i : Nat} {s : St} (h : KP f i s) (j : Nat) (hj : j < i) (hi : i ≤ 6) (hf : (f j).size = 99) : ReadOk s (j : Nat) 0 ∧ atT s (3 * (j : Int).toNat + (0 : Int).toNat) = f j := by
 refine ⟨⟨by omega, by rw [h.l]; omega, by omega, by omega, fun hc => hc.2 rfl⟩, ?_⟩
 have hm : s.mode = 1 := by rcases h.mode with h1 | h1; omega; exact h1
 have hfog : isFog s (3 * j) = false := by unfold isFog; rw [hm]; rfl
 have hp := h.page j hj
 have hne : ¬ f j = ByteArray.empty := fun e => by rw [e] at hf; exact absurd hf (by decide)
 simp only [Int.toNat_natCast, Int.toNat_zero, Nat.add_zero]
 unfold atT
 rw [hp, if_neg hne, h.mark j, hfog]
 rfl
def chA (cs : List St) (fs : List Fa) (ops : Nat) : ChS := ⟨G0, cs, fs, ops, 0, 0, false, false, 0, 0⟩
def cs0 : List St := List.replicate 8 sA
theorem cs0_wf (s : St) (h : s ∈ cs0) : WfSt s ∧ s.slc = 0 ∧ s.tlc = 0 := by
 obtain ⟨_, rfl⟩ := List.mem_replicate.1 h
 exact ⟨sA_wf, rfl, rfl⟩
theorem chA_wf (fs : List Fa) (hf : fs.length ≤ maxLen) : WfCh 0 (chA cs0 fs 0) :=
 ⟨fun s hs => ⟨(cs0_wf s hs).1, Nat.le_of_eq (cs0_wf s hs).2.1, Nat.le_of_eq (cs0_wf s hs).2.2⟩, Nat.le_refl _, Nat.le_refl _, Nat.le_refl _, by simp [chA, cs0], hf⟩
theorem WfCh.cs' {n : Nat} {c : ChS} (h : WfCh n c) : WfCs c := fun s hs => (h.cells s hs).1
theorem WfCh.small {n : Nat} {c : ChS} (h : WfCh n c) (hn : n ≤ 100000000) : SmallCh c := ⟨by have := h.ops; omega, by have := h.rej; omega, by have := h.cuts; omega⟩
theorem WfCh.count {n : Nat} {c : ChS} (h : WfCh n c) (hn : n ≤ 100000000) : ∀ s ∈ c.cs, s.slc < 1000000000 ∧ s.tlc < 1000000000 := fun s hs => ⟨by have := (h.cells s hs).2.1; omega, by have := (h.cells s hs).2.2; omega⟩
theorem chA_prog (cs : List St) (fs : List Fa) (ops : Nat) (b : Nat) (f : Nat → ByteArray) (i : Nat) (s : St) (hb : b < cs.length) (hs : cs[b]? = some s) (h : KP f i s) (hi : i < 6) (hf : (f i).size = 99) (hm : meetF fs ops 2 = none) (q r : ByteArray) :
  doC (chA cs fs ops) 2 (b : Nat) (i : Nat) (f i) q r = 0 ∧ ∃ s', KP f (i + 1) s' ∧ doSt (chA cs fs ops) 2 (b : Nat) (i : Nat) (f i) q r = chA (cs.set b s') fs (ops + 1) := by
 have hc : cellOf (chA cs fs ops) (b : Nat) = s := by
  unfold cellOf
  show (cs.getD (b : Int).toNat (newSt 0 0)) = s
  rw [Int.toNat_natCast, List.getD_eq_getElem?_getD, hs]; rfl
 have hh : howF (chA cs fs ops) 2 = f0 := by
  unfold howF
  show (meetF fs ops 2).getD f0 = f0
  rw [hm]; rfl
 have hx : chHas (chA cs fs ops) (b : Nat) := ⟨by omega, by show ((b : Nat) : Int) < ((cs.length : Nat) : Int); omega⟩
 have hn := h.next hi hf
 unfold doC doSt
 rw [if_neg (show ¬ (chA cs fs ops).off = true by simp [chA]), if_neg (show ¬ (chA cs fs ops).off = true by simp [chA]), if_pos hx, if_pos hx, hc, hh]
 have e1 : opC s 2 (i : Nat) (f i) q r f0 = 0 := hn.2
 refine ⟨e1, progSt s (i : Nat) (f i) 0 0 0, hn.1, ?_⟩
 rw [e1, Int.toNat_natCast]
 rfl
theorem set_get {cs : List St} {b : Nat} {s : St} (hb : b < cs.length) : (cs.set b s)[b]? = some s := by rw [List.getElem?_set, if_pos rfl, if_pos hb]
theorem chA_cut (cs : List St) (fs : List Fa) (ops : Nat) (b : Nat) (f : Nat → ByteArray) (i : Nat) (s : St) (hb : b < cs.length) (hs : cs[b]? = some s) (h : KP f i s) (hi : i < 6) (hf : (f i).size = 99) (a1 a2 a3 : Int) (hm : meetF fs ops 2 = some (a1, 1, a2, a3)) (q r : ByteArray) :
  doC (chA cs fs ops) 2 (b : Nat) (i : Nat) (f i) q r = 82 ∧ (doSt (chA cs fs ops) 2 (b : Nat) (i : Nat) (f i) q r).off = true ∧ (doSt (chA cs fs ops) 2 (b : Nat) (i : Nat) (f i) q r).ops = ops + 1 ∧ (doSt (chA cs fs ops) 2 (b : Nat) (i : Nat) (f i) q r).cuts = 1 := by
 have hc : cellOf (chA cs fs ops) (b : Nat) = s := by
  unfold cellOf
  show (cs.getD (b : Int).toNat (newSt 0 0)) = s
  rw [Int.toNat_natCast, List.getD_eq_getElem?_getD, hs]; rfl
 have hh : howF (chA cs fs ops) 2 = (a1, 1, a2, a3) := by
  unfold howF
  show (meetF fs ops 2).getD f0 = _
  rw [hm]; rfl
 have hx : chHas (chA cs fs ops) (b : Nat) := ⟨by omega, by show ((b : Nat) : Int) < ((cs.length : Nat) : Int); omega⟩
 have hok := h.ok hi hf
 have hp := pr_yes (k := 1) (a := a2) (b := a3) hok
 unfold doC doSt
 rw [if_neg (show ¬ (chA cs fs ops).off = true by simp [chA]), if_neg (show ¬ (chA cs fs ops).off = true by simp [chA]), if_pos hx, if_pos hx, hc, hh]
 have e1 : opC s 2 (i : Nat) (f i) q r (a1, 1, a2, a3) = 82 := hp.2
 rw [e1]
 exact ⟨rfl, rfl, rfl, rfl⟩
theorem off_do {c : ChS} (h : c.off = true) (op b l : Int) (p q r : ByteArray) : doC c op b l p q r = 82 ∧ doSt c op b l p q r = c := by
 unfold doC doSt
 rw [if_pos h, if_pos h]
 exact ⟨rfl, rfl⟩
def fN (i : Nat) : ByteArray := pgQ ((i + 1 : Nat) : Int)
theorem fN_size (i : Nat) (h : i < 6) : (fN i).size = 99 := pgQ_size (i + 1) (by omega)
end Go.Proofs.YtalefbmoebobkaaGreatDoor
/- Layer 10, the laws: the chapter's example. -/
namespace Go.Proofs.YtalefbmoebobkaaGreatDoor
set_option maxRecDepth 100000
open Go.RowKit Go.Shelf Go.Proofs
structure EC (w0 : World) (o : Nat) (F : Nat → Prop) (c : ChS) (w : World) : Prop where
 ch : ChAt w o F c
 new : ∀ k, F k → w0.heap.size ≤ k
 low : Below w0.heap.size w0 w
theorem EC.after {w0 w w' : World} {o : Nat} {F : Nat → Prop} {c : ChS} (h : EC w0 o F c w) (hb : Below w.heap.size w w') : EC w0 o F c w' :=
 ⟨h.ch.after hb, h.new, h.low.trans (hb.mono h.low.size)⟩
theorem EC.act {w0 w w' : World} {o : Nat} {F F' : Nat → Prop} {c c' : ChS} (h : EC w0 o F c w) (hc : ChAt w' o F' c') (hg : Grows F F' w) (ho : Only F w w') : EC w0 o F' c' w' :=
 ⟨hc, fun k hk => (hg k hk).elim (h.new k) (fun h1 => Nat.le_trans h.low.size h1), h.low.trans (ho.below h.low.size h.new)⟩
theorem fs_one (w : World) (x : Fa) : FsAt (w.alloc (.cells (encF x).toArray 40)) (some ⟨w.heap.size, 0, none⟩) [x] := fun _ => by
 refine ⟨w.heap.size, 0, rfl, by simp, fun i hi => ?_⟩
 obtain rfl : i = 0 := by simpa using hi
 intro j v hv
 have h := (Blk.new w (encF x).toArray 40).cell j
 simp only [Nat.zero_mul, Nat.zero_add]
 rw [h]
 simpa using hv
set_option maxHeartbeats 4000000 in
theorem ch_works (w : World) (hT : Tabs w) : Calls Tryz.prog 6 #[] w fun e w' => e = .returned (.bool true) ∧ Below w.heap.size w w' := by
 have HTB : Hid (∀ w', Below w.heap.size w w' → Tabs w') := fun w' hb => hT.after hb
 clear hT
 go_enter Tryz.func6, Tryz.ntmps6
 go_wp2_with fail
 refine (ch_geo0 _).mono ?_
 rintro e w1 ⟨rfl, hb1⟩
 have HB1 := Lib.hid hb1
 clear hb1
 go_wp2_with fail
 have HN := Lib.hid (ch_new G0 (some ⟨w1.heap.size, 0, none⟩) [(1, 1, 0, 0)] 1 (by decide) _ (fs_one w1 (1, 1, 0, 0)))
 refine HN.out.mono ?_
 rintro e w2 ⟨hy, _, hb2⟩
 obtain ⟨o, F, rfl, hc, hF⟩ := hy G0_ok
 have hb12 : Below w.heap.size w (w1.alloc (.cells (encF (1, 1, 0, 0)).toArray 40)) := HB1.out.alloc HB1.out.size _
 have E1 : Hid (EC w o F (chA cs0 [(1, 1, 0, 0)] 0) w2) := ⟨hc, fun k hk => Nat.le_trans hb12.size (hF k hk), hb12.trans (hb2.mono hb12.size)⟩
 have W0 : Hid (WfCh 0 (chA cs0 [(1, 1, 0, 0)] 0)) := chA_wf _ (by decide)
 obtain ⟨hd1, s1, hk1, hs1⟩ := chA_prog cs0 [(1, 1, 0, 0)] 0 0 fN 0 sA (by decide) rfl (KP.zero fN) (by decide) (fN_size 0 (by decide)) (by rfl) ByteArray.empty ByteArray.empty
 have hW1 := doSt_wf W0.out (by decide) 2 ((0 : Nat) : Int) ((0 : Nat) : Int) (fN 0) ByteArray.empty ByteArray.empty
 rw [hs1] at hW1
 obtain ⟨hd2, ho2, hp2, hc2⟩ := chA_cut (cs0.set 0 s1) [(1, 1, 0, 0)] 1 0 fN 1 s1 (by simp [cs0]) (set_get (by decide)) hk1 (by decide) (fN_size 1 (by decide)) 1 0 0 (by rfl) ByteArray.empty ByteArray.empty
 have hW2 := doSt_wf hW1 (by decide) 2 ((0 : Nat) : Int) ((1 : Nat) : Int) (fN 1) ByteArray.empty ByteArray.empty
 obtain ⟨c2, hc2'⟩ : ∃ c2, doSt (chA (cs0.set 0 s1) [(1, 1, 0, 0)] 1) 2 ((0 : Nat) : Int) ((1 : Nat) : Int) (fN 1) ByteArray.empty ByteArray.empty = c2 := ⟨_, rfl⟩
 rw [hc2'] at ho2 hp2 hc2 hW2
 have hoff := off_do ho2 2 0 2 (pgQ 3) ByteArray.empty ByteArray.empty
 have H1 := Lib.hid (⟨hd1, hs1, hd2, hc2'⟩ : _ ∧ _ ∧ _ ∧ _)
 have H2 := Lib.hid (⟨ho2, hp2, hc2, hoff⟩ : _ ∧ _ ∧ _ ∧ _)
 have HW1 := Lib.hid hW1
 have HW2 := Lib.hid hW2
 clear hy hc hF hb2 hb12 HB1 HN hd1 hk1 hs1 hW1 hd2 ho2 hp2 hc2 hW2 hc2' hoff
 go_wp2_with fail
 refine (ch_pageOf 1 _ (HTB.out _ E1.out.low)).mono ?_
 rintro e w3 ⟨rfl, hb⟩
 have E2 := Lib.hid (E1.out.after hb)
 clear hb E1
 go_wp2_with fail
 refine (ch_program o F (chA cs0 [(1, 1, 0, 0)] 0) 0 0 (pgQ 1) ByteArray.empty ByteArray.empty W0.out.cs' (W0.out.small (by decide)) _ E2.out.ch).mono ?_
 rintro e w4 ⟨rfl, ⟨F2, hc, hg⟩, ho⟩
 have hds : doSt (chA cs0 [(1, 1, 0, 0)] 0) 2 0 0 (pgQ 1) ByteArray.empty ByteArray.empty = chA (cs0.set 0 s1) [(1, 1, 0, 0)] 1 := H1.out.2.1
 have hdc : doC (chA cs0 [(1, 1, 0, 0)] 0) 2 0 0 (pgQ 1) ByteArray.empty ByteArray.empty = 0 := H1.out.1
 rw [hds] at hc
 rw [hdc]
 have E3 := Lib.hid (E2.out.act hc hg ho)
 clear hc hg ho E2 hds hdc
 go_wp2_with fail
 refine (ch_pageOf 2 _ (HTB.out _ E3.out.low)).mono ?_
 rintro e w5 ⟨rfl, hb⟩
 have E4 := Lib.hid (E3.out.after hb)
 clear hb E3
 go_wp2_with fail
 refine (ch_program o F2 (chA (cs0.set 0 s1) [(1, 1, 0, 0)] 1) 0 1 (pgQ 2) ByteArray.empty ByteArray.empty HW1.out.cs' (HW1.out.small (by decide)) _ E4.out.ch).mono ?_
 rintro e w6 ⟨rfl, ⟨F3, hc, hg⟩, ho⟩
 have hds : doSt (chA (cs0.set 0 s1) [(1, 1, 0, 0)] 1) 2 0 1 (pgQ 2) ByteArray.empty ByteArray.empty = c2 := H1.out.2.2.2
 have hdc : doC (chA (cs0.set 0 s1) [(1, 1, 0, 0)] 1) 2 0 1 (pgQ 2) ByteArray.empty ByteArray.empty = 82 := H1.out.2.2.1
 rw [hds] at hc
 rw [hdc]
 have E5 := Lib.hid (E4.out.act hc hg ho)
 clear hc hg ho E4 hds hdc
 go_wp2_with fail
 refine (ch_pageOf 3 _ (HTB.out _ E5.out.low)).mono ?_
 rintro e w7 ⟨rfl, hb⟩
 have E6 := Lib.hid (E5.out.after hb)
 clear hb E5
 go_wp2_with fail
 refine (ch_program o F3 c2 0 2 (pgQ 3) ByteArray.empty ByteArray.empty HW2.out.cs' (HW2.out.small (by decide)) _ E6.out.ch).mono ?_
 rintro e w8 ⟨rfl, ⟨F4, hc, hg⟩, ho⟩
 rw [H2.out.2.2.2.2] at hc
 rw [H2.out.2.2.2.1]
 have E7 := Lib.hid (E6.out.act hc hg ho)
 clear hc hg ho E6
 go_wp2_with fail
 refine (ch_ops o F4 c2 _ E7.out.ch).mono ?_
 rintro e w9 ⟨rfl, rfl⟩
 rw [H2.out.2.1]
 go_wp2_with fail
 refine (ch_cuts o F4 c2 _ E7.out.ch).mono ?_
 rintro e w9 ⟨rfl, rfl⟩
 rw [H2.out.2.2.1]
 go_wp2_with fail
 refine (ch_off o F4 c2 _ E7.out.ch).mono ?_
 rintro e w9 ⟨rfl, rfl⟩
 rw [H2.out.1]
 go_wp2_with fail
 go_ret
 exact ⟨rfl, E7.out.low⟩
/- Layer 10, the laws: acts; numbers below others; an erasure that is cut; what is read. -/
structure ActQ where
 op : Int
 ab : Int
 al : Int
 ap : Int
 p : ByteArray
 q : ByteArray
 r : ByteArray
 x : Int
 k : Int
 a : Int
 b : Int
def actq (A : ActQ) : Array Value := #[.int .i64 A.op, .int .i64 A.ab, .int .i64 A.al, .int .i64 A.ap, .string A.p, .string A.q, .string A.r, .int .i64 A.x, .int .i64 A.k, .int .i64 A.a, .int .i64 A.b]
def ActsQ (w : World) (oa : Option Addr) (l : List ActQ) : Prop := ∀ i (hi : i < l.length), ∃ a, oa = some a ∧ a.block < w.heap.size ∧ ∀ t, t < 11 → w.cell? ((a.add (i * 11)).add t) = (actq (l[i]'hi))[t]?
end Go.Proofs.YtalefbmoebobkaaGreatDoor
/- The reference of layer 10, walked: Has, counts. -/
namespace Go.Proofs.YtalefbmoebobkaaGreatDoor
set_option maxRecDepth 100000
open Go.RowKit
theorem rch_has (c : ChS) (oc of : Option Addr) (k m : Nat) (x : Int) (w : World) :
  Calls Tryz.prog 36 #[.agg (chv c oc k of m), .int .i64 x] w fun e w' => e = .returned (.bool (decide (chHas c x))) ∧ Below w.heap.size w w' := by
 have HB := Lib.hid ((Below.refl w.heap.size w).alloc (Nat.le_refl _) (.cells (chv c oc k of m) 32))
 unfold chHas
 by_cases h0 : 0 ≤ x
 ·have e0 : decide (0 ≤ x ∧ x < (c.cs.length : Int)) = decide (x < (c.cs.length : Int)) := by rw [Bool.eq_iff_iff]; simp [h0]
  rw [e0]
  clear e0
  unfold chv
  go_enter Tryz.func36, Tryz.ntmps36
  go_wp2
  all_goals go_ret
  all_goals exact ⟨rfl, HB.out⟩
 ·have e0 : decide (0 ≤ x ∧ x < (c.cs.length : Int)) = false := decide_eq_false (by omega)
  rw [e0]
  clear e0
  unfold chv
  go_enter Tryz.func36, Tryz.ntmps36
  go_wp2
  all_goals go_ret
  all_goals exact ⟨rfl, HB.out⟩
theorem below_two (w : World) (A B : Obj) : Below w.heap.size w ((w.alloc A).alloc B) := ((Below.refl w.heap.size w).alloc (Nat.le_refl _) _).alloc (by simp) _
theorem blk_snd2 (w : World) (A : Obj) (cs : Array Value) (t : TypeId) : Blk ((w.alloc A).alloc (.cells cs t)) (w.heap.size + 1) cs t := by
 have h := Blk.new (w.alloc A) cs t
 rwa [World.size_alloc] at h
theorem rch_counts (c : ChS) (oc of : Option Addr) (k m : Nat) (x : Int) (w : World) (h1 : c.rej ≤ 1000000000) (h2 : c.cuts ≤ 1000000000) :
  Calls Tryz.prog 37 #[.agg (chv c oc k of m), .int .i64 x] w fun e w' => e = .returned (.tuple #[.agg (chv (endCh c x) oc k of m), .int .i64 x]) ∧ Below w.heap.size w w' := by
 obtain ⟨G, cs, fs, ops, cuts, rej, off, shk, a, b⟩ := c
 unfold endCh
 simp only at h1 h2
 by_cases h80 : x = 80
 ·subst h80
  rw [if_pos rfl]
  unfold chv
  go_enter Tryz.func37, Tryz.ntmps37
  go_wp2_with fail
  exact bodyPost_ret (results_cell_tmp rfl _ _ (w.heap.size + 1) 32 _ _ rfl (blk_snd2 w _ _ _) Tryz.underlying32 rfl size_chip) rfl ⟨rfl, below_two w _ _⟩
 ·by_cases h82 : x = 82
  ·subst h82
   rw [if_neg h80, if_pos rfl]
   unfold chv
   go_enter Tryz.func37, Tryz.ntmps37
   go_wp2_with fail
   exact bodyPost_ret (results_cell_tmp rfl _ _ (w.heap.size + 1) 32 _ _ rfl (blk_snd2 w _ _ _) Tryz.underlying32 rfl size_chip) rfl ⟨rfl, below_two w _ _⟩
  ·rw [if_neg h80, if_neg h82]
   unfold chv
   go_enter Tryz.func37, Tryz.ntmps37
   go_wp2_with fail
   exact bodyPost_ret (results_cell_tmp rfl _ _ (w.heap.size + 1) 32 _ _ rfl (blk_snd2 w _ _ _) Tryz.underlying32 rfl size_chip) rfl ⟨rfl, below_two w _ _⟩
/- The reference of layer 10, walked: with. -/
theorem flatR_step (l : List RC) (i : Nat) (x : RC) (k : Nat) (hk : k < l.length) : flatR ((l.set i x).take (k + 1)) = flatR ((l.set i x).take k) ++ encR (if k = i then x else l[k]) := by
 have h1 : k < (l.set i x).length := by simp [hk]
 rw [List.take_add_one, List.getElem?_eq_getElem h1, Option.toList_some, flatR_app, List.getElem_set]
 congr 2
 split
 ·rw [if_pos (by omega)]
 ·rw [if_neg (by omega)]
def WithT (c : ChS) (of : Option Addr) (m : Nat) (l : List RC) (i : Nat) (x : RC) (w : World) (e : Ending) (w' : World) : Prop :=
 (∃ oc k, e = .returned (.agg (chv (setCh c i x.s) oc k of m)) ∧ CsAt w' oc (l.set i x) ∧ ∀ a, oc = some a → w.heap.size ≤ a.block) ∧ Below w.heap.size w w'
theorem own_below10 {wr w1 : World} {B n : Nat} {v : Value} {xs : List Value} {E : TypeId} {o : Obj} (hown : wr.ownsRow B E 10 v n xs) (hB : B ≤ wr.heap.size) (hgrow : (wr.alloc o).grownBy w1 v.ownBlock) : Below B wr w1 := by
 refine Below.grown (row := v.ownBlock) ((Below.refl _ _).alloc hB _) hgrow (by simp; omega) ?_
 intro g hg
 exact (hown.lt g hg).1
theorem cells_newQ (w : World) (cs : Array Value) (t : TypeId) : ∀ (j : Nat) (u : Value), cs.toList[j]? = some u → (w.alloc (.cells cs t)).cell? ((⟨w.heap.size, 0, none⟩ : Addr).add j) = some u := by
 intro j u hu
 have h := (Blk.new w cs t).cell j
 have e : ((⟨w.heap.size, 0, none⟩ : Addr).add j) = ⟨w.heap.size, j, none⟩ := by cases j <;> simp [Addr.add]
 rw [e, h]
 simpa using hu
theorem CsAt.keep {w w' : World} {oa : Option Addr} {l : List RC} (h : CsAt w oa l) (hk : ∀ b off, oa = some ⟨b, off, none⟩ → w'.heap[b]? = w.heap[b]?) : CsAt w' oa l := by
 intro hl
 obtain ⟨b, off, ho, hlt, hc⟩ := h hl
 have e := hk b off ho
 refine ⟨b, off, ho, ?_, fun i hi j v hj => by rw [World.cell?_of_block (w := w) e]; exact hc i hi j v hj⟩
 have h1 := Array.getElem?_eq_getElem hlt
 rw [h1] at e
 exact (Array.getElem?_eq_some_iff.1 e).1
theorem own_cs2 {W : World} {B n : Nat} {v : Value} {l : List RC} (h : W.ownsRow B 66 10 v n (flatR l)) (hn : l.length = n) : ∃ oa cap, v = .slice oa n cap ∧ CsAt W oa l ∧ ∀ a, oa = some a → B ≤ a.block := by
 subst hn
 have h0 := h
 rcases h.2 with ⟨rfl, h2⟩ | ⟨g, cap, cur, rfl, hge, hg, _, _, _, ht⟩
 ·have hl : l = [] := List.eq_nil_of_length_eq_zero h2
  subst hl
  exact ⟨none, 0, rfl, CsAt.nil _ _, fun a e => by cases e⟩
 ·obtain ⟨oa, cap', e, hc⟩ := own_cs h0
  obtain ⟨rfl, _, rfl⟩ : some ⟨g, 0, none⟩ = oa ∧ l.length = l.length ∧ cap = cap' := by simpa using e
  exact ⟨_, _, rfl, hc, fun a e => by cases e; exact hge⟩
set_option maxHeartbeats 1000000 in
theorem rch_with (c : ChS) (oc of : Option Addr) (kc m : Nat) (l : List RC) (hl : l.length ≤ 1000) (hlc : l.length = c.cs.length) (i : Nat) (hi : i < l.length) (x : RC) (w : World) (ha : CsAt w oc l) :
  Calls Tryz.prog 47 #[.agg (chv c oc kc of m), .int .i64 (i : Nat), .agg (cv x.s x.g x.c x.h x.d)] w (WithT c of m l i x w) := by
 have hne : l ≠ [] := by intro h; subst h; simp at hi
 obtain ⟨B, off, rfl, hB, hc⟩ := ha hne
 obtain ⟨w2, hw2⟩ : ∃ w2, ((w.alloc (.cells (chv c (some ⟨B, off, none⟩) kc of m) 32)).alloc (.cells (cv x.s x.g x.c x.h x.d) 66)).alloc (.cells chz 32) = w2 := ⟨_, rfl⟩
 have hs2 : w2.heap.size = w.heap.size + 3 := by rw [← hw2, World.size_alloc, World.size_alloc, World.size_alloc]
 have hcb : Blk w2 w.heap.size (chv c (some ⟨B, off, none⟩) kc of m) 32 := by rw [← hw2]; exact ((Blk.new w _ _).alloc _).alloc _
 have hxb : Blk w2 (w.heap.size + 1) (cv x.s x.g x.c x.h x.d) 66 := by rw [← hw2]; exact (blk_snd2 w _ _ _).alloc _
 have hzb : Blk w2 (w.heap.size + 2) chz 32 := by
  rw [← hw2]
  have h := Blk.new ((w.alloc (.cells (chv c (some ⟨B, off, none⟩) kc of m) 32)).alloc (.cells (cv x.s x.g x.c x.h x.d) 66)) chz 32
  rwa [World.size_alloc, World.size_alloc] at h
 have hbw : Below w.heap.size w w2 := by rw [← hw2]; exact (below_two w _ _).alloc (by simp; omega) _
 obtain ⟨n, hn⟩ : ∃ n, l.length = n := ⟨_, rfl⟩
 have HS : Hid (∀ k (hk : k < l.length), flatR ((l.set i x).take (k + 1)) = flatR ((l.set i x).take k) ++ encR (if k = i then x else l[k])) := fun k hk => flatR_step l i x k hk
 have HP : Hid (∀ k (hk : k < l.length), ∀ wr, Below (w.heap.size + 3) w2 wr → wr.rangeAt B (off + k * 10) (encR l[k])) := fun k hk wr hb t v hv => by
  rw [World.cell?_of_block (w := w) ((hb.block B (by omega)).trans (hbw.block B hB))]; exact hc k hk t v hv
 have HK : Hid (∀ wr, Below (w.heap.size + 3) w2 wr → Blk wr w.heap.size (chv c (some ⟨B, off, none⟩) kc of m) 32 ∧ Blk wr (w.heap.size + 1) (cv x.s x.g x.c x.h x.d) 66 ∧ Blk wr (w.heap.size + 2) chz 32) := fun wr hb => ⟨hcb.below hb (by omega), hxb.below hb (by omega), hzb.below hb (by omega)⟩
 have HN := Lib.hid hn
 have HBW := Lib.hid hbw
 have HW := Lib.hid hw2
 have HS2' := Lib.hid hs2
 have HLC := Lib.hid hlc
 have hn1 : n ≤ 1000 := by omega
 have hin : i < n := by omega
 have HLN : Hid (∀ k, k ≤ n → ((l.set i x).take k).length = k) := fun k hk => by rw [List.length_take, List.length_set]; omega
 obtain ⟨i0, hi0, hz0, hz1, hz2⟩ := info_parts infoCell
 clear hcb hxb hzb hbw hw2 hs2 hc ha hne hB hl hlc hi hn
 go_enter Tryz.func47, Tryz.ntmps47
 go_wp2_with fail
 go_loopw [7, 8] (fun vp iv wr => ∃ k : Nat, k ≤ n ∧ iv = .int .i64 k ∧ wr.ownsRow (w.heap.size + 3) 66 10 vp k (flatR ((l.set i x).take k)) ∧ Below (w.heap.size + 3) w2 wr) (fun _ iv _ => n - (intOf iv).toNat)
 case atStart =>
  refine ⟨0, Nat.zero_le _, rfl, World.ownsRow_nil _ _ _ _, ?_⟩
  rw [← HW.out]
  exact Below.refl _ _
 case round =>
  obtain ⟨k, hk, rfl, hop, hb⟩ := hrel
  have hkb := HK.out wr hb
  have hc6 : wr.cell? ⟨w.heap.size, 6, none⟩ = some (.slice (some ⟨B, off, none⟩) n kc) := by rw [hkb.1.cell 6, ← HN.out, HLC.out]; rfl
  have HB := Lib.hid hb
  have hsz : w.heap.size + 3 ≤ wr.heap.size := by have h1 := hb.size; have h2 := HS2'.out; omega
  have HX := Lib.hid hkb.2.1
  have HZ := Lib.hid hkb.2.2
  have HC := Lib.hid hkb.1
  clear hb hkb
  by_cases hlt : k < n
  ·have hkl : k < l.length := by rw [HN.out]; exact hlt
   have hrd := HP.out k hkl wr HB.out
   have hst := HS.out k hkl
   by_cases he : k = i
   ·subst he
    rw [if_pos rfl] at hst
    have HST := Lib.hid hst
    clear hst hrd hkl
    go_wp2_with (first
     | (refine wpList_load_row rfl 66 (.tmp 5) rfl (w.heap.size + 1) rfl 66 #[.int .i64 (x.s.L : Nat), .int .i64 (x.s.Y : Nat), .int .i64 x.s.mode, .int .i64 (x.s.done : Nat), .bool x.s.bad, .bool x.s.torn, .int .i64 (x.s.slc : Nat), .int .i64 (x.s.tlc : Nat), .slice (some ⟨x.g, 0, none⟩) (3 * x.s.L) x.c, .slice (some ⟨x.h, 0, none⟩) (3 * x.s.L) x.d] (0, 0) _ HX.out Tryz.underlying66 rfl size_cell ?_)
     | (at_builtin; refine wpList_append_own _ rfl _ _ 30 rfl (w.heap.size + 3) 66 i0 (.agg zv) 10 104 Tryz.underlying30 hi0 hz0 hz1 hz2 rfl (by decide) _ _ _ rfl (hop.alloc _) ⟨wr.heap.size, 0, none⟩ 1 1 [.int .i64 (x.s.L : Nat), .int .i64 (x.s.Y : Nat), .int .i64 x.s.mode, .int .i64 (x.s.done : Nat), .bool x.s.bad, .bool x.s.torn, .int .i64 (x.s.slc : Nat), .int .i64 (x.s.tlc : Nat), .slice (some ⟨x.g, 0, none⟩) (3 * x.s.L) x.c, .slice (some ⟨x.h, 0, none⟩) (3 * x.s.L) x.d] rfl rfl ?c1 ?c2 ?c3 ?c4 ?c5 ?_))
    case c1 => exact cells_newQ wr #[.int .i64 (x.s.L : Nat), .int .i64 (x.s.Y : Nat), .int .i64 x.s.mode, .int .i64 (x.s.done : Nat), .bool x.s.bad, .bool x.s.torn, .int .i64 (x.s.slc : Nat), .int .i64 (x.s.tlc : Nat), .slice (some ⟨x.g, 0, none⟩) (3 * x.s.L) x.c, .slice (some ⟨x.h, 0, none⟩) (3 * x.s.L) x.d] _
    case c2 => intro u hu; simp at hu; rcases hu with rfl | rfl | rfl | rfl | rfl | rfl | rfl | rfl | rfl | rfl <;> rfl
    case c3 => unfold maxLen; omega
    case c4 => omega
    case c5 => simp; omega
    intro v1 w3 hown1 hgrow1 _
    have HB1 := Lib.hid (HB.out.trans (own_below10 hop hsz hgrow1))
    have HO1 := Lib.hid hown1
    clear hop hown1 hgrow1 HB hc6 hsz
    go_wp2_with fail
    go_roundw
    case rel => exact ⟨k + 1, by omega, by go_num, by rw [HST.out]; exact HO1.out, HB1.out⟩
    case measure => simp [intOf]; omega
   ·have hei : ¬ (k : Int) = (i : Int) := by omega
    rw [if_neg he] at hst
    obtain ⟨y, hy⟩ : ∃ y, l[k] = y := ⟨_, rfl⟩
    rw [hy] at hst hrd
    have HST := Lib.hid hst
    have HRD := Lib.hid hrd
    clear hst hrd hkl hy
    go_wp2_with (first
     | (refine wpList_load_mid rfl 66 (.tmp 27) rfl B (off + k * 10) rfl [.int .i64 (y.s.L : Nat), .int .i64 (y.s.Y : Nat), .int .i64 y.s.mode, .int .i64 (y.s.done : Nat), .bool y.s.bad, .bool y.s.torn, .int .i64 (y.s.slc : Nat), .int .i64 (y.s.tlc : Nat), .slice (some ⟨y.g, 0, none⟩) (3 * y.s.L) y.c, .slice (some ⟨y.h, 0, none⟩) (3 * y.s.L) y.d] _ HRD.out Tryz.underlying66 rfl size_cell ?_)
     | (at_builtin; refine wpList_append_own _ rfl _ _ 30 rfl (w.heap.size + 3) 66 i0 (.agg zv) 10 104 Tryz.underlying30 hi0 hz0 hz1 hz2 rfl (by decide) _ _ _ rfl (hop.alloc _) ⟨wr.heap.size, 0, none⟩ 1 1 [.int .i64 (y.s.L : Nat), .int .i64 (y.s.Y : Nat), .int .i64 y.s.mode, .int .i64 (y.s.done : Nat), .bool y.s.bad, .bool y.s.torn, .int .i64 (y.s.slc : Nat), .int .i64 (y.s.tlc : Nat), .slice (some ⟨y.g, 0, none⟩) (3 * y.s.L) y.c, .slice (some ⟨y.h, 0, none⟩) (3 * y.s.L) y.d] rfl rfl ?c1 ?c2 ?c3 ?c4 ?c5 ?_))
    case c1 => exact cells_newQ wr #[.int .i64 (y.s.L : Nat), .int .i64 (y.s.Y : Nat), .int .i64 y.s.mode, .int .i64 (y.s.done : Nat), .bool y.s.bad, .bool y.s.torn, .int .i64 (y.s.slc : Nat), .int .i64 (y.s.tlc : Nat), .slice (some ⟨y.g, 0, none⟩) (3 * y.s.L) y.c, .slice (some ⟨y.h, 0, none⟩) (3 * y.s.L) y.d] _
    case c2 => intro u hu; simp at hu; rcases hu with rfl | rfl | rfl | rfl | rfl | rfl | rfl | rfl | rfl | rfl <;> rfl
    case c3 => unfold maxLen; omega
    case c4 => omega
    case c5 => simp; omega
    intro v1 w3 hown1 hgrow1 _
    have HB1 := Lib.hid (HB.out.trans (own_below10 hop hsz hgrow1))
    have HO1 := Lib.hid hown1
    clear hop hown1 hgrow1 HB hc6 hsz
    go_wp2_with fail
    go_roundw
    case rel => exact ⟨k + 1, by omega, by go_num, by rw [HST.out]; exact HO1.out, HB1.out⟩
    case measure => simp [intOf]; omega
  ·obtain rfl : k = n := by omega
   have hall : (l.set i x).take k = l.set i x := by
    refine List.take_of_length_le ?_
    rw [List.length_set, HN.out]; exact Nat.le_refl _
   have hlen : (l.set i x).length = k := by rw [List.length_set]; exact HN.out
   rw [hall] at hop
   obtain ⟨oa, cap, rfl, hcs, hba⟩ := own_cs2 hop hlen
   have hsl : (setCh c i x.s).cs.length = k := by show (c.cs.set i x.s).length = k; rw [List.length_set, ← HLC.out]; exact HN.out
   have h1 : Blk (wr.setCell ⟨w.heap.size, 6, none⟩ (.slice oa k cap)) w.heap.size (chv (setCh c i x.s) oa cap of m) 32 := HC.out.set 6 _ (by unfold chv; rw [hsl]; rfl)
   have h3 : Blk (wr.setCell ⟨w.heap.size, 6, none⟩ (.slice oa k cap)) (w.heap.size + 2) chz 32 := HZ.out.set_other (by omega) _ _
   have hf6 := HC.out.free 6
   have HC2 := Lib.hid h1
   have HC3 := Lib.hid h3
   have HCS := Lib.hid hcs
   have HBA := Lib.hid hba
   clear hop hall hlen hsl h1 h3 hcs hba hi0 hz0 hz1 hz2
   go_wp2_with (first
    | (refine wpList_load_row rfl 32 (.tmp 3) rfl w.heap.size rfl 32 (chv (setCh c i x.s) oa cap of m) (0, 0) _ HC2.out Tryz.underlying32 rfl size_chip ?_)
    | (refine wpList_store_row rfl 32 (.tmp 6) (.tmp 33) rfl (w.heap.size + 2) (chv (setCh c i x.s) oa cap of m) rfl rfl 32 chz HC3.out size_chip rfl (chv_one _ _ _ _ _) ?_))
   refine bodyPost_ret (results_cell_row (P := Tryz.prog) rfl _ _ (w.heap.size + 2) 32 (chv (setCh c i x.s) oa cap of m) (0, 0) _ rfl (HC3.out.put _) Tryz.underlying32 rfl size_chip) rfl ⟨⟨oa, cap, rfl, ?_, fun a ha => by have h1 := HBA.out a ha; omega⟩, ?_⟩
   ·exact HCS.out.keep fun b off h => by
     have h2 : w.heap.size + 3 ≤ b := HBA.out _ h
     exact (setRow_heap_ne _ _ _ _ (by omega)).trans (Below.heap_setCell _ _ _ _ (by simp; omega))
   ·exact below_put (by omega) _ ((HBW.out.trans (HB.out.mono (by omega))).setCell (Nat.le_refl _) _)
/- The reference of layer 10, walked: Do. -/
def ChP (c : ChS) (of : Option Addr) (m : Nat) (v : List Value) (oc0 : Option Addr) (l0 : List RC) (w : World) (e : Ending) (w' : World) : Prop :=
 (∃ oc k l, e = .returned (.tuple (([Value.agg (chv c oc k of m)] ++ v).toArray)) ∧ RCh w' c oc of l ∧ ∀ q, Foot oc l q → Foot oc0 l0 q ∨ w.heap.size ≤ q) ∧ Below w.heap.size w w'
theorem meetV_how (c : ChS) (op : Int) : meetV (meetF c.fs c.ops op) = #[.agg (encF (howF c op)).toArray, .bool (meetF c.fs c.ops op).isSome] := by
 unfold howF
 cases meetF c.fs c.ops op <;> rfl
theorem endCh_cs (c : ChS) (e : Int) : (endCh c e).cs = c.cs ∧ (endCh c e).fs = c.fs := ⟨(endCh_same c e).1, (endCh_same c e).2.1⟩
theorem RCh.ends {w : World} {c : ChS} {oc of : Option Addr} {l : List RC} (h : RCh w c oc of l) (e : Int) : RCh w (endCh c e) oc of l :=
 ⟨h.same.trans (endCh_cs c e).1.symm, h.row, h.all, by rw [(endCh_cs c e).2]; exact h.fs⟩
theorem RCh.ops' {w : World} {c : ChS} {oc of : Option Addr} {l : List RC} (h : RCh w c oc of l) : RCh w (opsCh c) oc of l := ⟨h.same, h.row, h.all, h.fs⟩
theorem RCh.put {w : World} {c : ChS} {oc of : Option Addr} {l : List RC} (h : RCh w c oc of l) (Z : Nat) (cs : Array Value) (hz : ∀ x ∈ l, x.g ≠ Z ∧ x.h ≠ Z) (ho : ∀ a, oc = some a → a.block ≠ Z) (hf : FsAt (w.setRow Z cs) of c.fs) : RCh (w.setRow Z cs) c oc of l :=
 ⟨h.same, h.row.keep fun _ _ e => setRow_heap_ne _ _ _ _ (Ne.symm (ho _ e)), fun x hx => ⟨(h.all x hx).1, (h.all x hx).2.keep (setRow_heap_ne _ _ _ _ (Ne.symm (hz x hx).1)) (setRow_heap_ne _ _ _ _ (Ne.symm (hz x hx).2))⟩, hf⟩
set_option maxHeartbeats 8000000 in
theorem rch_do (c : ChS) (oc of : Option Addr) (k m : Nat) (l : List RC) (n : Nat) (hn : n ≤ 100000000) (hwf : WfCh n c) (op : Int) (hop : op = 2 ∨ op = 3 ∨ op = 4 ∨ op = 5) (block line : Int) (p q r : ByteArray) (w : World) (h : RCh w c oc of l) :
  Calls Tryz.prog 10 #[.agg (chv c oc k of m), .int .i64 op, .int .i64 block, .int .i64 line, .agg (tv3 p q r)] w (ChP (doSt c op block line p q r) of m [.int .i64 (doC c op block line p q r)] oc l w) := by
 obtain ⟨W, hW⟩ : ∃ W, ((w.alloc (.cells (chv c oc k of m) 32)).alloc (.cells (tv3 p q r) 38)).alloc (.cells #[.int .i64 0, .int .i64 0, .int .i64 0, .int .i64 0, .int .i64 0, .int .i64 0, .slice none 0 0, .slice none 0 0, .int .i64 0, .int .i64 0, .int .i64 0, .bool false, .bool false, .int .i64 0, .int .i64 0] 32) = W := ⟨_, rfl⟩
 have hs2 : W.heap.size = w.heap.size + 3 := by rw [← hW, World.size_alloc, World.size_alloc, World.size_alloc]
 have hcb : Blk (((w.alloc (.cells (chv c oc k of m) 32)).alloc (.cells (tv3 p q r) 38)).alloc (.cells #[.int .i64 0, .int .i64 0, .int .i64 0, .int .i64 0, .int .i64 0, .int .i64 0, .slice none 0 0, .slice none 0 0, .int .i64 0, .int .i64 0, .int .i64 0, .bool false, .bool false, .int .i64 0, .int .i64 0] 32)) w.heap.size (chv c oc k of m) 32 := ((Blk.new w _ _).alloc _).alloc _
 have hpb : Blk W (w.heap.size + 1) (tv3 p q r) 38 := by rw [← hW]; exact (blk_snd2 w _ _ _).alloc _
 have hzb : Blk (((w.alloc (.cells (chv c oc k of m) 32)).alloc (.cells (tv3 p q r) 38)).alloc (.cells #[.int .i64 0, .int .i64 0, .int .i64 0, .int .i64 0, .int .i64 0, .int .i64 0, .slice none 0 0, .slice none 0 0, .int .i64 0, .int .i64 0, .int .i64 0, .bool false, .bool false, .int .i64 0, .int .i64 0] 32)) (w.heap.size + 2) chz 32 := by
  have h := Blk.new ((w.alloc (.cells (chv c oc k of m) 32)).alloc (.cells (tv3 p q r) 38)) #[.int .i64 0, .int .i64 0, .int .i64 0, .int .i64 0, .int .i64 0, .int .i64 0, .slice none 0 0, .slice none 0 0, .int .i64 0, .int .i64 0, .int .i64 0, .bool false, .bool false, .int .i64 0, .int .i64 0] 32
  rwa [World.size_alloc, World.size_alloc] at h
 have hbw : Below w.heap.size w W := by rw [← hW]; exact (below_two w _ _).alloc (by simp; omega) _
 have c11 : (((w.alloc (.cells (chv c oc k of m) 32)).alloc (.cells (tv3 p q r) 38)).alloc (.cells #[.int .i64 0, .int .i64 0, .int .i64 0, .int .i64 0, .int .i64 0, .int .i64 0, .slice none 0 0, .slice none 0 0, .int .i64 0, .int .i64 0, .int .i64 0, .bool false, .bool false, .int .i64 0, .int .i64 0] 32)).cell? ⟨w.heap.size, 11, none⟩ = some (.bool c.off) := hcb.cell 11
 have c7 : (((w.alloc (.cells (chv c oc k of m) 32)).alloc (.cells (tv3 p q r) 38)).alloc (.cells #[.int .i64 0, .int .i64 0, .int .i64 0, .int .i64 0, .int .i64 0, .int .i64 0, .slice none 0 0, .slice none 0 0, .int .i64 0, .int .i64 0, .int .i64 0, .bool false, .bool false, .int .i64 0, .int .i64 0] 32)).cell? ⟨w.heap.size, 7, none⟩ = some (.slice of c.fs.length m) := hcb.cell 7
 have c8 : (((w.alloc (.cells (chv c oc k of m) 32)).alloc (.cells (tv3 p q r) 38)).alloc (.cells #[.int .i64 0, .int .i64 0, .int .i64 0, .int .i64 0, .int .i64 0, .int .i64 0, .slice none 0 0, .slice none 0 0, .int .i64 0, .int .i64 0, .int .i64 0, .bool false, .bool false, .int .i64 0, .int .i64 0] 32)).cell? ⟨w.heap.size, 8, none⟩ = some (.int .i64 c.ops) := hcb.cell 8
 have HC := Lib.hid hcb
 have HP := Lib.hid hpb
 have HZ := Lib.hid hzb
 have HBW := Lib.hid hbw
 have HW := Lib.hid hW
 have HS := Lib.hid hs2
 have H := Lib.hid h
 have HWF := Lib.hid hwf
 have HNN := Lib.hid hn
 clear hcb hpb hzb hbw hW hs2 h hwf hn
 by_cases hoff : c.off = true
 ·rw [hoff] at c11
  rw [(show doSt c op block line p q r = c from by unfold doSt; rw [if_pos hoff]), (show doC c op block line p q r = 82 from by unfold doC; rw [if_pos hoff])]
  clear hoff
  go_enter Tryz.func10, Tryz.ntmps10
  go_wp2_with (first
   | (refine wpList_load_row rfl 32 (.tmp 5) rfl w.heap.size rfl 32 (chv c oc k of m) (0, 0) _ HC.out Tryz.underlying32 rfl size_chip ?_)
   | (refine wpList_store_row rfl 32 (.tmp 10) (.tmp 18) rfl (w.heap.size + 2) (chv c oc k of m) rfl rfl 32 chz HZ.out size_chip rfl (chv_one _ _ _ _ _) ?_))
  have HBL : Hid (Below w.heap.size w (((w.alloc (.cells (chv c oc k of m) 32)).alloc (.cells (tv3 p q r) 38)).alloc (.cells #[.int .i64 0, .int .i64 0, .int .i64 0, .int .i64 0, .int .i64 0, .int .i64 0, .slice none 0 0, .slice none 0 0, .int .i64 0, .int .i64 0, .int .i64 0, .bool false, .bool false, .int .i64 0, .int .i64 0] 32))) := by rw [HW.out]; exact HBW.out
  refine bodyPost_ret (results_cell_tmp rfl _ _ (w.heap.size + 2) 32 _ _ rfl (HZ.out.put _) Tryz.underlying32 rfl size_chip) rfl ⟨⟨oc, k, l, rfl, ?_, fun _ h => Or.inl h⟩, ?_⟩
  ·exact H.out.after (below_put (by omega) _ HBL.out)
  ·exact below_put (by omega) _ HBL.out
 ·have hoff' : c.off = false := by cases h : c.off <;> simp_all
  rw [hoff'] at c11
  have hmt := rfa_meets of m c.fs HWF.out.fs c.ops op W (H.out.after HBW.out).fs
  rw [meetV_how] at hmt
  obtain ⟨mb, hmb⟩ : ∃ mb, (meetF c.fs c.ops op).isSome = mb := ⟨_, rfl⟩
  rcases hh : howF c op with ⟨f1, f2, f3, f4⟩
  rw [hh, hmb] at hmt
  have HMT : Hid (Calls Tryz.prog 35 #[.slice of c.fs.length m, .int .i64 c.ops, .int .i64 op] W fun e w' => e = .returned (.tuple #[.agg #[.int .i64 f1, .int .i64 f2, .int .i64 f3, .int .i64 f4], .bool mb]) ∧ Below W.heap.size W w') := hmt
  have HHV := Lib.hid hh
  have HOF := Lib.hid hoff'
  clear hmt hh hmb hoff hoff'
  have hops : (c.ops : Int) ≤ 100000000 := by have h1 := HWF.out.ops; have h2 := HNN.out; omega
  go_enter Tryz.func10, Tryz.ntmps10
  go_wp2_with fail
  change Calls _ _ _ (((w.alloc (.cells (chv c oc k of m) 32)).alloc (.cells (tv3 p q r) 38)).alloc (.cells #[.int .i64 0, .int .i64 0, .int .i64 0, .int .i64 0, .int .i64 0, .int .i64 0, .slice none 0 0, .slice none 0 0, .int .i64 0, .int .i64 0, .int .i64 0, .bool false, .bool false, .int .i64 0, .int .i64 0] 32)) _
  rw [HW.out]
  rw [HW.out] at HC HZ
  clear c11 c7 c8 HW
  refine HMT.out.mono ?_
  rintro e w2 ⟨rfl, hb2⟩
  clear HMT
  obtain ⟨w3, hw3⟩ : ∃ w3, w2.alloc (.cells #[.int .i64 f1, .int .i64 f2, .int .i64 f3, .int .i64 f4] 40) = w3 := ⟨_, rfl⟩
  have hb3 : Below W.heap.size W w3 := by rw [← hw3]; exact hb2.alloc hb2.size _
  have hfb : Blk w3 w2.heap.size (fv f1 f2 f3 f4) 40 := by rw [← hw3]; exact Blk.new _ _ _
  have c8 : (w2.alloc (.cells #[.int .i64 f1, .int .i64 f2, .int .i64 f3, .int .i64 f4] 40)).cell? ⟨w.heap.size, 8, none⟩ = some (.int .i64 c.ops) := by rw [hw3, (HC.out.after hb3).cell 8]; rfl
  have r8 : (w2.alloc (.cells #[.int .i64 f1, .int .i64 f2, .int .i64 f3, .int .i64 f4] 40)).frozen? ⟨w.heap.size, 8, none⟩ = false := by rw [hw3]; exact (HC.out.after hb3).free 8
  have HW3 := Lib.hid hw3
  have HB3 := Lib.hid hb3
  have HFB := Lib.hid hfb
  have hwl : W.heap.size ≤ w2.heap.size := hb2.size
  have HWL := Lib.hid hwl
  clear hw3 hb3 hfb hwl hb2
  obtain ⟨w4, hw4⟩ : ∃ w4, (w2.alloc (.cells #[.int .i64 f1, .int .i64 f2, .int .i64 f3, .int .i64 f4] 40)).setCell ⟨w.heap.size, 8, none⟩ (.int .i64 ((c.ops : Int) + 1)) = w4 := ⟨_, rfl⟩
  have h4 : Blk ((w2.alloc (.cells #[.int .i64 f1, .int .i64 f2, .int .i64 f3, .int .i64 f4] 40)).setCell ⟨w.heap.size, 8, none⟩ (.int .i64 ((c.ops : Int) + 1))) w.heap.size (chv (opsCh c) oc k of m) 32 := by
   rw [HW3.out]; exact (HC.out.after HB3.out).set 8 _ rfl
  have hx4 : Blk w4 (w.heap.size + 1) (tv3 p q r) 38 ∧ Blk w4 (w.heap.size + 2) chz 32 ∧ Blk w4 w2.heap.size (fv f1 f2 f3 f4) 40 := by
   rw [← hw4, HW3.out]
   have h1 := HS.out
   have h2 := HWL.out
   exact ⟨(HP.out.after HB3.out).set_other (by omega) _ _, (HZ.out.after HB3.out).set_other (by omega) _ _, HFB.out.set_other (by omega) _ _⟩
  have hb4 : Below w.heap.size w w4 := by
   rw [← hw4, HW3.out]
   exact (HBW.out.trans (HB3.out.mono HBW.out.size)).setCell (Nat.le_refl _) _
  have HW4 := Lib.hid hw4
  have HC4 := Lib.hid h4
  have HX4 := Lib.hid hx4
  have HB4 := Lib.hid hb4
  clear h4 hx4 hb4 hw4
  go_wp2_with (refine wpList_load_row rfl 32 (.tmp 5) rfl w.heap.size rfl 32 (chv (opsCh c) oc k of m) (0, 0) _ HC4.out Tryz.underlying32 rfl size_chip ?_)
  rw [HW4.out]
  rw [HW4.out] at HC4
  clear c8 r8 HW4 HW3 HC HP HZ HFB
  refine (rch_has (opsCh c) oc of k m block w4).mono ?_
  rintro e w5 ⟨rfl, hb5⟩
  have HC5 := Lib.hid (HC4.out.after hb5)
  have HP5 := Lib.hid (HX4.out.1.after hb5)
  have HZ5 := Lib.hid (HX4.out.2.1.after hb5)
  have HF5 := Lib.hid (HX4.out.2.2.after hb5)
  have HB5 := Lib.hid (HB4.out.trans (hb5.mono HB4.out.size))
  clear HC4 HX4 HB4 hb5
  by_cases hx : chHas (opsCh c) block
  ·rw [decide_eq_true hx]
   obtain ⟨i, hi⟩ : ∃ i : Nat, block = i := ⟨block.toNat, by have h1 := hx.1; omega⟩
   subst hi
   have hil : i < l.length := by rw [H.out.len]; have h1 := hx.2; exact Int.ofNat_lt.1 h1
   have hic : i < c.cs.length := by rw [← H.out.len]; exact hil
   obtain ⟨B, off, hoc, hBl, hrow⟩ := H.out.row (by intro h0; rw [h0] at hil; exact absurd hil (Nat.not_lt_zero _))
   subst hoc
   obtain ⟨y, hy⟩ : ∃ y, l[i] = y := ⟨_, rfl⟩
   have hry := hrow i hil
   rw [hy] at hry
   have hym : y ∈ l := by rw [← hy]; exact List.getElem_mem hil
   have hyw := H.out.all y hym
   have hcell : cellOf c (i : Nat) = y.s := by
    unfold cellOf
    rw [Int.toNat_natCast, List.getD_eq_getElem?_getD, ← H.out.same, List.getElem?_map, List.getElem?_eq_getElem hil, hy]; rfl
   have hry5 : w5.rangeAt B (off + i * 10) [.int .i64 (y.s.L : Nat), .int .i64 (y.s.Y : Nat), .int .i64 y.s.mode, .int .i64 (y.s.done : Nat), .bool y.s.bad, .bool y.s.torn, .int .i64 (y.s.slc : Nat), .int .i64 (y.s.tlc : Nat), .slice (some ⟨y.g, 0, none⟩) (3 * y.s.L) y.c, .slice (some ⟨y.h, 0, none⟩) (3 * y.s.L) y.d] := fun j v hj => by
    rw [World.cell?_of_block (w := w) (HB5.out.block B hBl)]; exact hry j v hj
   have c6 : w5.cell? ⟨w.heap.size, 6, none⟩ = some (.slice (some ⟨B, off, none⟩) c.cs.length k) := HC5.out.cell 6
   have hd : doSt c op (i : Nat) line p q r = endCh (setCh (opsCh c) i (opSt y.s op line p q r (f1, f2, f3, f4))) (opC y.s op line p q r (f1, f2, f3, f4)) ∧ doC c op (i : Nat) line p q r = opC y.s op line p q r (f1, f2, f3, f4) := by
    have h0 : ¬ c.off = true := by rw [HOF.out]; simp
    have h1 : chHas c (i : Nat) := hx
    unfold doSt doC
    rw [if_neg h0, if_neg h0, if_pos h1, if_pos h1, hcell, HHV.out, Int.toNat_natCast]
    exact ⟨rfl, rfl⟩
   obtain ⟨w6, hw6⟩ : ∃ w6, w5.alloc (.cells #[.int .i64 (y.s.L : Nat), .int .i64 (y.s.Y : Nat), .int .i64 y.s.mode, .int .i64 (y.s.done : Nat), .bool y.s.bad, .bool y.s.torn, .int .i64 (y.s.slc : Nat), .int .i64 (y.s.tlc : Nat), .slice (some ⟨y.g, 0, none⟩) (3 * y.s.L) y.c, .slice (some ⟨y.h, 0, none⟩) (3 * y.s.L) y.d] 66) = w6 := ⟨_, rfl⟩
   have hb56 : Below w5.heap.size w5 w6 := by rw [← hw6]; exact (Below.refl _ _).alloc (Nat.le_refl _) _
   have hxb : Blk w6 w5.heap.size (cv y.s y.g y.c y.h y.d) 66 := by rw [← hw6]; exact Blk.new _ _ _
   have hw65 : w6.heap.size = w5.heap.size + 1 := by rw [← hw6, World.size_alloc]
   have hA5 : w.heap.size + 3 ≤ w5.heap.size := by have h1 := HS.out; have h2 := HWL.out; have h3 := HF5.out.lt; omega
   have HD := Lib.hid hd
   have HY := Lib.hid hyw
   have HYM := Lib.hid hym
   have HIL := Lib.hid hil
   have HRY := Lib.hid hry5
   have HX6 := Lib.hid hxb
   have HC6 := Lib.hid (HC5.out.after hb56)
   have HP6 := Lib.hid (HP5.out.after hb56)
   have HZ6 := Lib.hid (HZ5.out.after hb56)
   have HF6 := Lib.hid (HF5.out.after hb56)
   have HB6 := Lib.hid (HB5.out.trans (hb56.mono HB5.out.size))
   have HW6 := Lib.hid hw6
   have HW65 := Lib.hid hw65
   have HA5 := Lib.hid hA5
   have HF2 : Hid (W.heap.size ≤ w2.heap.size ∧ W.heap.size = w.heap.size + 3 ∧ w2.heap.size < w5.heap.size) := ⟨HWL.out, HS.out, HF5.out.lt⟩
   have hil2 : (i : Int) < (c.cs.length : Int) := Int.ofNat_lt.2 hic
   clear hd hyw hym hil hrow hry hry5 hxb hb56 hw6 hw65 hA5 hcell hy hic hBl HC5 HP5 HZ5 HF5 HB5; clear hx
   have p0 : (w5.alloc (.cells #[.int .i64 (y.s.L : Nat), .int .i64 (y.s.Y : Nat), .int .i64 y.s.mode, .int .i64 (y.s.done : Nat), .bool y.s.bad, .bool y.s.torn, .int .i64 (y.s.slc : Nat), .int .i64 (y.s.tlc : Nat), .slice (some ⟨y.g, 0, none⟩) (3 * y.s.L) y.c, .slice (some ⟨y.h, 0, none⟩) (3 * y.s.L) y.d] 66)).cell? ⟨w.heap.size + 1, 0, none⟩ = some (.string p) := by rw [HW6.out]; exact HP6.out.cell 0
   have hf6 : Blk (w5.alloc (.cells #[.int .i64 (y.s.L : Nat), .int .i64 (y.s.Y : Nat), .int .i64 y.s.mode, .int .i64 (y.s.done : Nat), .bool y.s.bad, .bool y.s.torn, .int .i64 (y.s.slc : Nat), .int .i64 (y.s.tlc : Nat), .slice (some ⟨y.g, 0, none⟩) (3 * y.s.L) y.c, .slice (some ⟨y.h, 0, none⟩) (3 * y.s.L) y.d] 66)) w2.heap.size (fv f1 f2 f3 f4) 40 := by rw [HW6.out]; exact HF6.out
   have hp6 : Blk (w5.alloc (.cells #[.int .i64 (y.s.L : Nat), .int .i64 (y.s.Y : Nat), .int .i64 y.s.mode, .int .i64 (y.s.done : Nat), .bool y.s.bad, .bool y.s.torn, .int .i64 (y.s.slc : Nat), .int .i64 (y.s.tlc : Nat), .slice (some ⟨y.g, 0, none⟩) (3 * y.s.L) y.c, .slice (some ⟨y.h, 0, none⟩) (3 * y.s.L) y.d] 66)) (w.heap.size + 1) (tv3 p q r) 38 := by rw [HW6.out]; exact HP6.out
   have HFL := Lib.hid hf6
   have HPL := Lib.hid hp6
   clear hf6 hp6
   rcases hop with rfl | rfl | rfl | rfl
   ·
    go_wp2_with (first
     | (refine wpList_load_mid rfl 66 (.tmp 43) rfl B (off + i * 10) rfl [.int .i64 (y.s.L : Nat), .int .i64 (y.s.Y : Nat), .int .i64 y.s.mode, .int .i64 (y.s.done : Nat), .bool y.s.bad, .bool y.s.torn, .int .i64 (y.s.slc : Nat), .int .i64 (y.s.tlc : Nat), .slice (some ⟨y.g, 0, none⟩) (3 * y.s.L) y.c, .slice (some ⟨y.h, 0, none⟩) (3 * y.s.L) y.d] _ HRY.out Tryz.underlying66 rfl size_cell ?_)
     | (refine wpList_load_row rfl 40 (.tmp 12) rfl w2.heap.size rfl 40 (fv f1 f2 f3 f4) (0, 0) _ HFL.out Tryz.underlying40 rfl size_fault ?_))
    rw [HW6.out]
    have hra : RAt w6 y.s y.g y.c y.h y.d := HY.out.2.after HY.out.1 HB6.out
    obtain ⟨s', hs'⟩ : ∃ s', opSt y.s 2 line p q r (f1, f2, f3, f4) = s' := ⟨_, rfl⟩
    obtain ⟨ec, hec⟩ : ∃ ec, opC y.s 2 line p q r (f1, f2, f3, f4) = ec := ⟨_, rfl⟩
    have hws : WfSt s' := by
     rw [← hs']
     exact opSt_wf HY.out.1 _ _ _ _ _ _ (by have h1 := (HWF.out.cells y.s (by rw [← H.out.same]; exact List.mem_map_of_mem HYM.out)).2.1; have h2 := HNN.out; omega) (by have h1 := (HWF.out.cells y.s (by rw [← H.out.same]; exact List.mem_map_of_mem HYM.out)).2.2; have h2 := HNN.out; omega)
    have e1 : progSt y.s line p f2 f3 f4 = s' := hs'
    have e2 : progC y.s line p f2 = ec := hec
    rw [hs', hec] at HD
    have hcall := rce_prog y.s y.g y.c y.h y.d line p f1 f2 f3 f4 w6 HY.out.1 hra
    rw [e1, e2] at hcall
    have HCALL := Lib.hid hcall
    have HWS := Lib.hid hws
    clear hcall hra hs' hec e1 e2 hws p0 c6
    refine HCALL.out.mono ?_
    rintro e w7 ⟨⟨g', c', h', d', rfl, hr7, hgh⟩, hb7⟩
    obtain ⟨w8, hw8⟩ : ∃ w8, w7.setRow w5.heap.size (cv s' g' c' h' d') = w8 := ⟨_, rfl⟩
    have HX7 := Lib.hid (HX6.out.after hb7)
    have hg7 : g' ≠ w5.heap.size ∧ h' ≠ w5.heap.size ∧ g' ≠ w.heap.size + 2 ∧ h' ≠ w.heap.size + 2 := by
     have h1 := HY.out.2.lt HY.out.1
     have h2 := HW65.out
     have h3 := HA5.out
     rcases hgh with ⟨rfl, rfl⟩ | ⟨h4, h5⟩
     ·omega
     ·omega
    have hb8 : Below w.heap.size w w8 := by rw [← hw8]; exact below_put (by have h1 := HA5.out; omega) _ (HB6.out.trans (hb7.mono HB6.out.size))
    have hr8 : RAt w8 s' g' c' h' d' := by rw [← hw8]; exact hr7.keep (setRow_heap_ne _ _ _ _ (Ne.symm hg7.1)) (setRow_heap_ne _ _ _ _ (Ne.symm hg7.2.1))
    have hc8 : Blk w8 w.heap.size (chv (opsCh c) (some ⟨B, off, none⟩) k of m) 32 := by rw [← hw8]; exact (HC6.out.after hb7).put_other (by have h1 := HA5.out; omega) _
    have hz8 : Blk w8 (w.heap.size + 2) chz 32 := by rw [← hw8]; exact (HZ6.out.after hb7).put_other (by have h1 := HA5.out; omega) _
    have hx8 : Blk w8 w5.heap.size (cv s' g' c' h' d') 66 := by rw [← hw8]; exact HX7.out.put _
    have hs8 : w.heap.size + 3 ≤ w8.heap.size := by have h1 := hx8.lt; have h2 := HA5.out; omega
    have HW8 := Lib.hid hw8
    have HG7 := Lib.hid hg7
    have HB8 := Lib.hid hb8
    have HR8 := Lib.hid hr8
    have HC8 : Hid (Blk (w7.setRow w5.heap.size (cv s' g' c' h' d')) w.heap.size (chv (opsCh c) (some ⟨B, off, none⟩) k of m) 32) := by rw [hw8]; exact hc8
    have HX8 : Hid (Blk (w7.setRow w5.heap.size (cv s' g' c' h' d')) w5.heap.size (cv s' g' c' h' d') 66) := by rw [hw8]; exact hx8
    have HZ8 := Lib.hid hz8
    have HS8 := Lib.hid hs8
    have HFT : Hid (∀ q, q = g' ∨ q = h' → (q = y.g ∨ q = y.h) ∨ w.heap.size ≤ q) := fun q hq => by
     have h2 := HW65.out
     have h3 := HA5.out
     rcases hgh with ⟨rfl, rfl⟩ | ⟨h4, h5⟩
     ·exact Or.inl hq
     ·right
      rcases hq with rfl | rfl <;> omega
    clear hw8 hg7 hb8 hr8 hc8 hz8 hx8 hs8 hgh hr7 hb7 HC6 HP6 HZ6 HF6 HX6 HFL HPL HRY HCALL
    go_wp2_with (first
     | (refine wpList_store_row rfl 66 (.tmp 14) (.tmp 61) rfl w5.heap.size (cv s' g' c' h' d') rfl rfl 66 (cv y.s y.g y.c y.h y.d) HX7.out size_cell rfl (cv_one _ _ _ _ _) ?_)
     | (refine wpList_load_row rfl 32 (.tmp 5) rfl w.heap.size rfl 32 (chv (opsCh c) (some ⟨B, off, none⟩) k of m) (0, 0) _ HC8.out Tryz.underlying32 rfl size_chip ?_)
     | (refine wpList_load_row rfl 66 (.tmp 14) rfl w5.heap.size rfl 66 (cv s' g' c' h' d') (0, 0) _ HX8.out Tryz.underlying66 rfl size_cell ?_))
    rw [HW8.out]
    clear HC8 HX8 HW8 HX7
    refine (rch_with (opsCh c) (some ⟨B, off, none⟩) of k m l (by rw [H.out.len]; exact HWF.out.many) H.out.len i HIL.out ⟨s', g', c', h', d'⟩ w8 (H.out.row.below HB8.out)).mono ?_
    rintro e w9 ⟨⟨oc', k', rfl, hcs9, hob9⟩, hb9⟩
    have HCS9 := Lib.hid hcs9
    have HOB9 := Lib.hid hob9
    have HB9 := Lib.hid hb9
    clear hcs9 hob9 hb9
    go_wp2_with fail
    refine (rch_counts (setCh (opsCh c) i s') oc' of k' m ec w9 (by have h1 := HWF.out.rej; have h2 := HNN.out; show c.rej ≤ _; omega) (by have h1 := HWF.out.cuts; have h2 := HNN.out; show c.cuts ≤ _; omega)).mono ?_
    rintro e wa ⟨rfl, hba⟩
    have HZA := Lib.hid ((HZ8.out.after HB9.out).after hba)
    have HBA := Lib.hid ((HB8.out.trans (HB9.out.mono HB8.out.size)).trans (hba.mono (Nat.le_trans HB8.out.size HB9.out.size)))
    have HH : Hid (RCh wa (setCh (opsCh c) i s') oc' of (l.set i ⟨s', g', c', h', d'⟩)) := by
     refine ⟨?_, HCS9.out.below hba, fun z hz => ?_, H.out.fs.below HBA.out⟩
     ·rw [List.map_set, H.out.same]; rfl
     ·rcases List.mem_or_eq_of_mem_set hz with hz | rfl
      ·exact ⟨(H.out.all z hz).1, (H.out.all z hz).2.after (H.out.all z hz).1 HBA.out⟩
      ·exact ⟨HWS.out, (HR8.out.after HWS.out HB9.out).after HWS.out hba⟩
    have HNZ : Hid (∀ z ∈ l.set i ⟨s', g', c', h', d'⟩, z.g ≠ w.heap.size + 2 ∧ z.h ≠ w.heap.size + 2) := by
     intro z hz
     rcases List.mem_or_eq_of_mem_set hz with hz | rfl
     ·have h1 := (H.out.all z hz).2.lt (H.out.all z hz).1
      omega
     ·exact ⟨HG7.out.2.2.1, HG7.out.2.2.2⟩
    clear hba HZ8 HR8 HWS HG7 HCS9
    go_wp2_with (refine wpList_store_row rfl 32 (.tmp 10) (.tmp 89) rfl (w.heap.size + 2) (chv (endCh (setCh (opsCh c) i s') ec) oc' k' of m) rfl rfl 32 chz HZA.out size_chip rfl (chv_one _ _ _ _ _) ?_)
    refine bodyPost_ret (results_cell_tmp rfl _ _ (w.heap.size + 2) 32 _ _ rfl (HZA.out.put _) Tryz.underlying32 rfl size_chip) rfl ?_
    rw [HD.out.1, HD.out.2]
    refine ⟨⟨oc', k', _, rfl, (HH.out.put (w.heap.size + 2) _ HNZ.out (fun a ha => by have h1 := HOB9.out a ha; have h2 := HS8.out; omega) (H.out.fs.below (below_put (by omega) _ HBA.out))).ends ec, foot_set HYM.out HFT.out (fun a ha => by have h1 := HOB9.out a ha; have h2 := HS8.out; omega)⟩, below_put (by omega) _ HBA.out⟩
   ·
    go_wp2_with (first
     | (refine wpList_load_mid rfl 66 (.tmp 43) rfl B (off + i * 10) rfl [.int .i64 (y.s.L : Nat), .int .i64 (y.s.Y : Nat), .int .i64 y.s.mode, .int .i64 (y.s.done : Nat), .bool y.s.bad, .bool y.s.torn, .int .i64 (y.s.slc : Nat), .int .i64 (y.s.tlc : Nat), .slice (some ⟨y.g, 0, none⟩) (3 * y.s.L) y.c, .slice (some ⟨y.h, 0, none⟩) (3 * y.s.L) y.d] _ HRY.out Tryz.underlying66 rfl size_cell ?_)
     | (refine wpList_load_row rfl 38 (.tmp 9) rfl (w.heap.size + 1) rfl 38 (tv3 p q r) (0, 0) _ HPL.out Tryz.underlying38 rfl size_three ?_)
     | (refine wpList_load_row rfl 40 (.tmp 12) rfl w2.heap.size rfl 40 (fv f1 f2 f3 f4) (0, 0) _ HFL.out Tryz.underlying40 rfl size_fault ?_))
    rw [HW6.out]
    have hra : RAt w6 y.s y.g y.c y.h y.d := HY.out.2.after HY.out.1 HB6.out
    obtain ⟨s', hs'⟩ : ∃ s', opSt y.s 3 line p q r (f1, f2, f3, f4) = s' := ⟨_, rfl⟩
    obtain ⟨ec, hec⟩ : ∃ ec, opC y.s 3 line p q r (f1, f2, f3, f4) = ec := ⟨_, rfl⟩
    have hws : WfSt s' := by
     rw [← hs']
     exact opSt_wf HY.out.1 _ _ _ _ _ _ (by have h1 := (HWF.out.cells y.s (by rw [← H.out.same]; exact List.mem_map_of_mem HYM.out)).2.1; have h2 := HNN.out; omega) (by have h1 := (HWF.out.cells y.s (by rw [← H.out.same]; exact List.mem_map_of_mem HYM.out)).2.2; have h2 := HNN.out; omega)
    have e1 : twoSt y.s line p q r false f2 f3 f4 = s' := hs'
    have e2 : twoC y.s line p q r false f2 = ec := hec
    rw [hs', hec] at HD
    have hcall := rce_foggy y.s y.g y.c y.h y.d line p q r f1 f2 f3 f4 w6 HY.out.1 hra (by rw [show twoSt y.s line p q r false f2 f3 f4 = s' from hs']; exact hws)
    rw [e1, e2] at hcall
    have HCALL := Lib.hid hcall
    have HWS := Lib.hid hws
    clear hcall hra hs' hec e1 e2 hws p0 c6
    refine HCALL.out.mono ?_
    rintro e w7 ⟨⟨g', c', h', d', rfl, hr7, hgh⟩, hb7⟩
    obtain ⟨w8, hw8⟩ : ∃ w8, w7.setRow w5.heap.size (cv s' g' c' h' d') = w8 := ⟨_, rfl⟩
    have HX7 := Lib.hid (HX6.out.after hb7)
    have hg7 : g' ≠ w5.heap.size ∧ h' ≠ w5.heap.size ∧ g' ≠ w.heap.size + 2 ∧ h' ≠ w.heap.size + 2 := by
     have h1 := HY.out.2.lt HY.out.1
     have h2 := HW65.out
     have h3 := HA5.out
     rcases hgh with ⟨rfl, rfl⟩ | ⟨h4, h5⟩
     ·omega
     ·omega
    have hb8 : Below w.heap.size w w8 := by rw [← hw8]; exact below_put (by have h1 := HA5.out; omega) _ (HB6.out.trans (hb7.mono HB6.out.size))
    have hr8 : RAt w8 s' g' c' h' d' := by rw [← hw8]; exact hr7.keep (setRow_heap_ne _ _ _ _ (Ne.symm hg7.1)) (setRow_heap_ne _ _ _ _ (Ne.symm hg7.2.1))
    have hc8 : Blk w8 w.heap.size (chv (opsCh c) (some ⟨B, off, none⟩) k of m) 32 := by rw [← hw8]; exact (HC6.out.after hb7).put_other (by have h1 := HA5.out; omega) _
    have hz8 : Blk w8 (w.heap.size + 2) chz 32 := by rw [← hw8]; exact (HZ6.out.after hb7).put_other (by have h1 := HA5.out; omega) _
    have hx8 : Blk w8 w5.heap.size (cv s' g' c' h' d') 66 := by rw [← hw8]; exact HX7.out.put _
    have hs8 : w.heap.size + 3 ≤ w8.heap.size := by have h1 := hx8.lt; have h2 := HA5.out; omega
    have HW8 := Lib.hid hw8
    have HG7 := Lib.hid hg7
    have HB8 := Lib.hid hb8
    have HR8 := Lib.hid hr8
    have HC8 : Hid (Blk (w7.setRow w5.heap.size (cv s' g' c' h' d')) w.heap.size (chv (opsCh c) (some ⟨B, off, none⟩) k of m) 32) := by rw [hw8]; exact hc8
    have HX8 : Hid (Blk (w7.setRow w5.heap.size (cv s' g' c' h' d')) w5.heap.size (cv s' g' c' h' d') 66) := by rw [hw8]; exact hx8
    have HZ8 := Lib.hid hz8
    have HS8 := Lib.hid hs8
    have HFT : Hid (∀ q, q = g' ∨ q = h' → (q = y.g ∨ q = y.h) ∨ w.heap.size ≤ q) := fun q hq => by
     have h2 := HW65.out
     have h3 := HA5.out
     rcases hgh with ⟨rfl, rfl⟩ | ⟨h4, h5⟩
     ·exact Or.inl hq
     ·right
      rcases hq with rfl | rfl <;> omega
    clear hw8 hg7 hb8 hr8 hc8 hz8 hx8 hs8 hgh hr7 hb7 HC6 HP6 HZ6 HF6 HX6 HFL HPL HRY HCALL
    go_wp2_with (first
     | (refine wpList_store_row rfl 66 (.tmp 14) (.tmp 71) rfl w5.heap.size (cv s' g' c' h' d') rfl rfl 66 (cv y.s y.g y.c y.h y.d) HX7.out size_cell rfl (cv_one _ _ _ _ _) ?_)
     | (refine wpList_load_row rfl 32 (.tmp 5) rfl w.heap.size rfl 32 (chv (opsCh c) (some ⟨B, off, none⟩) k of m) (0, 0) _ HC8.out Tryz.underlying32 rfl size_chip ?_)
     | (refine wpList_load_row rfl 66 (.tmp 14) rfl w5.heap.size rfl 66 (cv s' g' c' h' d') (0, 0) _ HX8.out Tryz.underlying66 rfl size_cell ?_))
    rw [HW8.out]
    clear HC8 HX8 HW8 HX7
    refine (rch_with (opsCh c) (some ⟨B, off, none⟩) of k m l (by rw [H.out.len]; exact HWF.out.many) H.out.len i HIL.out ⟨s', g', c', h', d'⟩ w8 (H.out.row.below HB8.out)).mono ?_
    rintro e w9 ⟨⟨oc', k', rfl, hcs9, hob9⟩, hb9⟩
    have HCS9 := Lib.hid hcs9
    have HOB9 := Lib.hid hob9
    have HB9 := Lib.hid hb9
    clear hcs9 hob9 hb9
    go_wp2_with fail
    refine (rch_counts (setCh (opsCh c) i s') oc' of k' m ec w9 (by have h1 := HWF.out.rej; have h2 := HNN.out; show c.rej ≤ _; omega) (by have h1 := HWF.out.cuts; have h2 := HNN.out; show c.cuts ≤ _; omega)).mono ?_
    rintro e wa ⟨rfl, hba⟩
    have HZA := Lib.hid ((HZ8.out.after HB9.out).after hba)
    have HBA := Lib.hid ((HB8.out.trans (HB9.out.mono HB8.out.size)).trans (hba.mono (Nat.le_trans HB8.out.size HB9.out.size)))
    have HH : Hid (RCh wa (setCh (opsCh c) i s') oc' of (l.set i ⟨s', g', c', h', d'⟩)) := by
     refine ⟨?_, HCS9.out.below hba, fun z hz => ?_, H.out.fs.below HBA.out⟩
     ·rw [List.map_set, H.out.same]; rfl
     ·rcases List.mem_or_eq_of_mem_set hz with hz | rfl
      ·exact ⟨(H.out.all z hz).1, (H.out.all z hz).2.after (H.out.all z hz).1 HBA.out⟩
      ·exact ⟨HWS.out, (HR8.out.after HWS.out HB9.out).after HWS.out hba⟩
    have HNZ : Hid (∀ z ∈ l.set i ⟨s', g', c', h', d'⟩, z.g ≠ w.heap.size + 2 ∧ z.h ≠ w.heap.size + 2) := by
     intro z hz
     rcases List.mem_or_eq_of_mem_set hz with hz | rfl
     ·have h1 := (H.out.all z hz).2.lt (H.out.all z hz).1
      omega
     ·exact ⟨HG7.out.2.2.1, HG7.out.2.2.2⟩
    clear hba HZ8 HR8 HWS HG7 HCS9
    go_wp2_with (refine wpList_store_row rfl 32 (.tmp 10) (.tmp 89) rfl (w.heap.size + 2) (chv (endCh (setCh (opsCh c) i s') ec) oc' k' of m) rfl rfl 32 chz HZA.out size_chip rfl (chv_one _ _ _ _ _) ?_)
    refine bodyPost_ret (results_cell_tmp rfl _ _ (w.heap.size + 2) 32 _ _ rfl (HZA.out.put _) Tryz.underlying32 rfl size_chip) rfl ?_
    rw [HD.out.1, HD.out.2]
    refine ⟨⟨oc', k', _, rfl, (HH.out.put (w.heap.size + 2) _ HNZ.out (fun a ha => by have h1 := HOB9.out a ha; have h2 := HS8.out; omega) (H.out.fs.below (below_put (by omega) _ HBA.out))).ends ec, foot_set HYM.out HFT.out (fun a ha => by have h1 := HOB9.out a ha; have h2 := HS8.out; omega)⟩, below_put (by omega) _ HBA.out⟩
   ·
    go_wp2_with (first
     | (refine wpList_load_mid rfl 66 (.tmp 43) rfl B (off + i * 10) rfl [.int .i64 (y.s.L : Nat), .int .i64 (y.s.Y : Nat), .int .i64 y.s.mode, .int .i64 (y.s.done : Nat), .bool y.s.bad, .bool y.s.torn, .int .i64 (y.s.slc : Nat), .int .i64 (y.s.tlc : Nat), .slice (some ⟨y.g, 0, none⟩) (3 * y.s.L) y.c, .slice (some ⟨y.h, 0, none⟩) (3 * y.s.L) y.d] _ HRY.out Tryz.underlying66 rfl size_cell ?_)
     | (refine wpList_load_row rfl 38 (.tmp 9) rfl (w.heap.size + 1) rfl 38 (tv3 p q r) (0, 0) _ HPL.out Tryz.underlying38 rfl size_three ?_)
     | (refine wpList_load_row rfl 40 (.tmp 12) rfl w2.heap.size rfl 40 (fv f1 f2 f3 f4) (0, 0) _ HFL.out Tryz.underlying40 rfl size_fault ?_))
    rw [HW6.out]
    have hra : RAt w6 y.s y.g y.c y.h y.d := HY.out.2.after HY.out.1 HB6.out
    obtain ⟨s', hs'⟩ : ∃ s', opSt y.s 4 line p q r (f1, f2, f3, f4) = s' := ⟨_, rfl⟩
    obtain ⟨ec, hec⟩ : ∃ ec, opC y.s 4 line p q r (f1, f2, f3, f4) = ec := ⟨_, rfl⟩
    have hws : WfSt s' := by
     rw [← hs']
     exact opSt_wf HY.out.1 _ _ _ _ _ _ (by have h1 := (HWF.out.cells y.s (by rw [← H.out.same]; exact List.mem_map_of_mem HYM.out)).2.1; have h2 := HNN.out; omega) (by have h1 := (HWF.out.cells y.s (by rw [← H.out.same]; exact List.mem_map_of_mem HYM.out)).2.2; have h2 := HNN.out; omega)
    have e1 : twoSt y.s line p q r true f2 f3 f4 = s' := hs'
    have e2 : twoC y.s line p q r true f2 = ec := hec
    rw [hs', hec] at HD
    have hcall := rce_fine y.s y.g y.c y.h y.d line p q r f1 f2 f3 f4 w6 HY.out.1 hra (by rw [show twoSt y.s line p q r true f2 f3 f4 = s' from hs']; exact hws)
    rw [e1, e2] at hcall
    have HCALL := Lib.hid hcall
    have HWS := Lib.hid hws
    clear hcall hra hs' hec e1 e2 hws p0 c6
    refine HCALL.out.mono ?_
    rintro e w7 ⟨⟨g', c', h', d', rfl, hr7, hgh⟩, hb7⟩
    obtain ⟨w8, hw8⟩ : ∃ w8, w7.setRow w5.heap.size (cv s' g' c' h' d') = w8 := ⟨_, rfl⟩
    have HX7 := Lib.hid (HX6.out.after hb7)
    have hg7 : g' ≠ w5.heap.size ∧ h' ≠ w5.heap.size ∧ g' ≠ w.heap.size + 2 ∧ h' ≠ w.heap.size + 2 := by
     have h1 := HY.out.2.lt HY.out.1
     have h2 := HW65.out
     have h3 := HA5.out
     rcases hgh with ⟨rfl, rfl⟩ | ⟨h4, h5⟩
     ·omega
     ·omega
    have hb8 : Below w.heap.size w w8 := by rw [← hw8]; exact below_put (by have h1 := HA5.out; omega) _ (HB6.out.trans (hb7.mono HB6.out.size))
    have hr8 : RAt w8 s' g' c' h' d' := by rw [← hw8]; exact hr7.keep (setRow_heap_ne _ _ _ _ (Ne.symm hg7.1)) (setRow_heap_ne _ _ _ _ (Ne.symm hg7.2.1))
    have hc8 : Blk w8 w.heap.size (chv (opsCh c) (some ⟨B, off, none⟩) k of m) 32 := by rw [← hw8]; exact (HC6.out.after hb7).put_other (by have h1 := HA5.out; omega) _
    have hz8 : Blk w8 (w.heap.size + 2) chz 32 := by rw [← hw8]; exact (HZ6.out.after hb7).put_other (by have h1 := HA5.out; omega) _
    have hx8 : Blk w8 w5.heap.size (cv s' g' c' h' d') 66 := by rw [← hw8]; exact HX7.out.put _
    have hs8 : w.heap.size + 3 ≤ w8.heap.size := by have h1 := hx8.lt; have h2 := HA5.out; omega
    have HW8 := Lib.hid hw8
    have HG7 := Lib.hid hg7
    have HB8 := Lib.hid hb8
    have HR8 := Lib.hid hr8
    have HC8 : Hid (Blk (w7.setRow w5.heap.size (cv s' g' c' h' d')) w.heap.size (chv (opsCh c) (some ⟨B, off, none⟩) k of m) 32) := by rw [hw8]; exact hc8
    have HX8 : Hid (Blk (w7.setRow w5.heap.size (cv s' g' c' h' d')) w5.heap.size (cv s' g' c' h' d') 66) := by rw [hw8]; exact hx8
    have HZ8 := Lib.hid hz8
    have HS8 := Lib.hid hs8
    have HFT : Hid (∀ q, q = g' ∨ q = h' → (q = y.g ∨ q = y.h) ∨ w.heap.size ≤ q) := fun q hq => by
     have h2 := HW65.out
     have h3 := HA5.out
     rcases hgh with ⟨rfl, rfl⟩ | ⟨h4, h5⟩
     ·exact Or.inl hq
     ·right
      rcases hq with rfl | rfl <;> omega
    clear hw8 hg7 hb8 hr8 hc8 hz8 hx8 hs8 hgh hr7 hb7 HC6 HP6 HZ6 HF6 HX6 HFL HPL HRY HCALL
    go_wp2_with (first
     | (refine wpList_store_row rfl 66 (.tmp 14) (.tmp 81) rfl w5.heap.size (cv s' g' c' h' d') rfl rfl 66 (cv y.s y.g y.c y.h y.d) HX7.out size_cell rfl (cv_one _ _ _ _ _) ?_)
     | (refine wpList_load_row rfl 32 (.tmp 5) rfl w.heap.size rfl 32 (chv (opsCh c) (some ⟨B, off, none⟩) k of m) (0, 0) _ HC8.out Tryz.underlying32 rfl size_chip ?_)
     | (refine wpList_load_row rfl 66 (.tmp 14) rfl w5.heap.size rfl 66 (cv s' g' c' h' d') (0, 0) _ HX8.out Tryz.underlying66 rfl size_cell ?_))
    rw [HW8.out]
    clear HC8 HX8 HW8 HX7
    refine (rch_with (opsCh c) (some ⟨B, off, none⟩) of k m l (by rw [H.out.len]; exact HWF.out.many) H.out.len i HIL.out ⟨s', g', c', h', d'⟩ w8 (H.out.row.below HB8.out)).mono ?_
    rintro e w9 ⟨⟨oc', k', rfl, hcs9, hob9⟩, hb9⟩
    have HCS9 := Lib.hid hcs9
    have HOB9 := Lib.hid hob9
    have HB9 := Lib.hid hb9
    clear hcs9 hob9 hb9
    go_wp2_with fail
    refine (rch_counts (setCh (opsCh c) i s') oc' of k' m ec w9 (by have h1 := HWF.out.rej; have h2 := HNN.out; show c.rej ≤ _; omega) (by have h1 := HWF.out.cuts; have h2 := HNN.out; show c.cuts ≤ _; omega)).mono ?_
    rintro e wa ⟨rfl, hba⟩
    have HZA := Lib.hid ((HZ8.out.after HB9.out).after hba)
    have HBA := Lib.hid ((HB8.out.trans (HB9.out.mono HB8.out.size)).trans (hba.mono (Nat.le_trans HB8.out.size HB9.out.size)))
    have HH : Hid (RCh wa (setCh (opsCh c) i s') oc' of (l.set i ⟨s', g', c', h', d'⟩)) := by
     refine ⟨?_, HCS9.out.below hba, fun z hz => ?_, H.out.fs.below HBA.out⟩
     ·rw [List.map_set, H.out.same]; rfl
     ·rcases List.mem_or_eq_of_mem_set hz with hz | rfl
      ·exact ⟨(H.out.all z hz).1, (H.out.all z hz).2.after (H.out.all z hz).1 HBA.out⟩
      ·exact ⟨HWS.out, (HR8.out.after HWS.out HB9.out).after HWS.out hba⟩
    have HNZ : Hid (∀ z ∈ l.set i ⟨s', g', c', h', d'⟩, z.g ≠ w.heap.size + 2 ∧ z.h ≠ w.heap.size + 2) := by
     intro z hz
     rcases List.mem_or_eq_of_mem_set hz with hz | rfl
     ·have h1 := (H.out.all z hz).2.lt (H.out.all z hz).1
      omega
     ·exact ⟨HG7.out.2.2.1, HG7.out.2.2.2⟩
    clear hba HZ8 HR8 HWS HG7 HCS9
    go_wp2_with (refine wpList_store_row rfl 32 (.tmp 10) (.tmp 89) rfl (w.heap.size + 2) (chv (endCh (setCh (opsCh c) i s') ec) oc' k' of m) rfl rfl 32 chz HZA.out size_chip rfl (chv_one _ _ _ _ _) ?_)
    refine bodyPost_ret (results_cell_tmp rfl _ _ (w.heap.size + 2) 32 _ _ rfl (HZA.out.put _) Tryz.underlying32 rfl size_chip) rfl ?_
    rw [HD.out.1, HD.out.2]
    refine ⟨⟨oc', k', _, rfl, (HH.out.put (w.heap.size + 2) _ HNZ.out (fun a ha => by have h1 := HOB9.out a ha; have h2 := HS8.out; omega) (H.out.fs.below (below_put (by omega) _ HBA.out))).ends ec, foot_set HYM.out HFT.out (fun a ha => by have h1 := HOB9.out a ha; have h2 := HS8.out; omega)⟩, below_put (by omega) _ HBA.out⟩
   ·
    go_wp2_with (first
     | (refine wpList_load_mid rfl 66 (.tmp 43) rfl B (off + i * 10) rfl [.int .i64 (y.s.L : Nat), .int .i64 (y.s.Y : Nat), .int .i64 y.s.mode, .int .i64 (y.s.done : Nat), .bool y.s.bad, .bool y.s.torn, .int .i64 (y.s.slc : Nat), .int .i64 (y.s.tlc : Nat), .slice (some ⟨y.g, 0, none⟩) (3 * y.s.L) y.c, .slice (some ⟨y.h, 0, none⟩) (3 * y.s.L) y.d] _ HRY.out Tryz.underlying66 rfl size_cell ?_)
     | (refine wpList_load_row rfl 40 (.tmp 12) rfl w2.heap.size rfl 40 (fv f1 f2 f3 f4) (0, 0) _ HFL.out Tryz.underlying40 rfl size_fault ?_))
    rw [HW6.out]
    have hra : RAt w6 y.s y.g y.c y.h y.d := HY.out.2.after HY.out.1 HB6.out
    obtain ⟨s', hs'⟩ : ∃ s', opSt y.s 5 line p q r (f1, f2, f3, f4) = s' := ⟨_, rfl⟩
    obtain ⟨ec, hec⟩ : ∃ ec, opC y.s 5 line p q r (f1, f2, f3, f4) = ec := ⟨_, rfl⟩
    have hws : WfSt s' := by
     rw [← hs']
     exact opSt_wf HY.out.1 _ _ _ _ _ _ (by have h1 := (HWF.out.cells y.s (by rw [← H.out.same]; exact List.mem_map_of_mem HYM.out)).2.1; have h2 := HNN.out; omega) (by have h1 := (HWF.out.cells y.s (by rw [← H.out.same]; exact List.mem_map_of_mem HYM.out)).2.2; have h2 := HNN.out; omega)
    have e1 : eraseSt y.s f2 f3 f4 = s' := hs'
    have e2 : eraseC y.s f2 = ec := hec
    rw [hs', hec] at HD
    have hcall := rce_erase y.s y.g y.c y.h y.d f1 f2 f3 f4 w6 HY.out.1 hra (by have h1 := (HWF.out.cells y.s (by rw [← H.out.same]; exact List.mem_map_of_mem HYM.out)).2.1; have h2 := HNN.out; omega) (by have h1 := (HWF.out.cells y.s (by rw [← H.out.same]; exact List.mem_map_of_mem HYM.out)).2.2; have h2 := HNN.out; omega)
    rw [e1, e2] at hcall
    have HCALL := Lib.hid hcall
    have HWS := Lib.hid hws
    clear hcall hra hs' hec e1 e2 hws p0 c6
    refine HCALL.out.mono ?_
    rintro e w7 ⟨⟨g', c', h', d', rfl, hr7, hgh⟩, hb7⟩
    obtain ⟨w8, hw8⟩ : ∃ w8, w7.setRow w5.heap.size (cv s' g' c' h' d') = w8 := ⟨_, rfl⟩
    have HX7 := Lib.hid (HX6.out.after hb7)
    have hg7 : g' ≠ w5.heap.size ∧ h' ≠ w5.heap.size ∧ g' ≠ w.heap.size + 2 ∧ h' ≠ w.heap.size + 2 := by
     have h1 := HY.out.2.lt HY.out.1
     have h2 := HW65.out
     have h3 := HA5.out
     rcases hgh with ⟨rfl, rfl⟩ | ⟨h4, h5⟩
     ·omega
     ·omega
    have hb8 : Below w.heap.size w w8 := by rw [← hw8]; exact below_put (by have h1 := HA5.out; omega) _ (HB6.out.trans (hb7.mono HB6.out.size))
    have hr8 : RAt w8 s' g' c' h' d' := by rw [← hw8]; exact hr7.keep (setRow_heap_ne _ _ _ _ (Ne.symm hg7.1)) (setRow_heap_ne _ _ _ _ (Ne.symm hg7.2.1))
    have hc8 : Blk w8 w.heap.size (chv (opsCh c) (some ⟨B, off, none⟩) k of m) 32 := by rw [← hw8]; exact (HC6.out.after hb7).put_other (by have h1 := HA5.out; omega) _
    have hz8 : Blk w8 (w.heap.size + 2) chz 32 := by rw [← hw8]; exact (HZ6.out.after hb7).put_other (by have h1 := HA5.out; omega) _
    have hx8 : Blk w8 w5.heap.size (cv s' g' c' h' d') 66 := by rw [← hw8]; exact HX7.out.put _
    have hs8 : w.heap.size + 3 ≤ w8.heap.size := by have h1 := hx8.lt; have h2 := HA5.out; omega
    have HW8 := Lib.hid hw8
    have HG7 := Lib.hid hg7
    have HB8 := Lib.hid hb8
    have HR8 := Lib.hid hr8
    have HC8 : Hid (Blk (w7.setRow w5.heap.size (cv s' g' c' h' d')) w.heap.size (chv (opsCh c) (some ⟨B, off, none⟩) k of m) 32) := by rw [hw8]; exact hc8
    have HX8 : Hid (Blk (w7.setRow w5.heap.size (cv s' g' c' h' d')) w5.heap.size (cv s' g' c' h' d') 66) := by rw [hw8]; exact hx8
    have HZ8 := Lib.hid hz8
    have HS8 := Lib.hid hs8
    have HFT : Hid (∀ q, q = g' ∨ q = h' → (q = y.g ∨ q = y.h) ∨ w.heap.size ≤ q) := fun q hq => by
     have h2 := HW65.out
     have h3 := HA5.out
     rcases hgh with ⟨rfl, rfl⟩ | ⟨h4, h5⟩
     ·exact Or.inl hq
     ·right
      rcases hq with rfl | rfl <;> omega
    clear hw8 hg7 hb8 hr8 hc8 hz8 hx8 hs8 hgh hr7 hb7 HC6 HP6 HZ6 HF6 HX6 HFL HPL HRY HCALL
    go_wp2_with (first
     | (refine wpList_store_row rfl 66 (.tmp 14) (.tmp 50) rfl w5.heap.size (cv s' g' c' h' d') rfl rfl 66 (cv y.s y.g y.c y.h y.d) HX7.out size_cell rfl (cv_one _ _ _ _ _) ?_)
     | (refine wpList_load_row rfl 32 (.tmp 5) rfl w.heap.size rfl 32 (chv (opsCh c) (some ⟨B, off, none⟩) k of m) (0, 0) _ HC8.out Tryz.underlying32 rfl size_chip ?_)
     | (refine wpList_load_row rfl 66 (.tmp 14) rfl w5.heap.size rfl 66 (cv s' g' c' h' d') (0, 0) _ HX8.out Tryz.underlying66 rfl size_cell ?_))
    rw [HW8.out]
    clear HC8 HX8 HW8 HX7
    refine (rch_with (opsCh c) (some ⟨B, off, none⟩) of k m l (by rw [H.out.len]; exact HWF.out.many) H.out.len i HIL.out ⟨s', g', c', h', d'⟩ w8 (H.out.row.below HB8.out)).mono ?_
    rintro e w9 ⟨⟨oc', k', rfl, hcs9, hob9⟩, hb9⟩
    have HCS9 := Lib.hid hcs9
    have HOB9 := Lib.hid hob9
    have HB9 := Lib.hid hb9
    clear hcs9 hob9 hb9
    go_wp2_with fail
    refine (rch_counts (setCh (opsCh c) i s') oc' of k' m ec w9 (by have h1 := HWF.out.rej; have h2 := HNN.out; show c.rej ≤ _; omega) (by have h1 := HWF.out.cuts; have h2 := HNN.out; show c.cuts ≤ _; omega)).mono ?_
    rintro e wa ⟨rfl, hba⟩
    have HZA := Lib.hid ((HZ8.out.after HB9.out).after hba)
    have HBA := Lib.hid ((HB8.out.trans (HB9.out.mono HB8.out.size)).trans (hba.mono (Nat.le_trans HB8.out.size HB9.out.size)))
    have HH : Hid (RCh wa (setCh (opsCh c) i s') oc' of (l.set i ⟨s', g', c', h', d'⟩)) := by
     refine ⟨?_, HCS9.out.below hba, fun z hz => ?_, H.out.fs.below HBA.out⟩
     ·rw [List.map_set, H.out.same]; rfl
     ·rcases List.mem_or_eq_of_mem_set hz with hz | rfl
      ·exact ⟨(H.out.all z hz).1, (H.out.all z hz).2.after (H.out.all z hz).1 HBA.out⟩
      ·exact ⟨HWS.out, (HR8.out.after HWS.out HB9.out).after HWS.out hba⟩
    have HNZ : Hid (∀ z ∈ l.set i ⟨s', g', c', h', d'⟩, z.g ≠ w.heap.size + 2 ∧ z.h ≠ w.heap.size + 2) := by
     intro z hz
     rcases List.mem_or_eq_of_mem_set hz with hz | rfl
     ·have h1 := (H.out.all z hz).2.lt (H.out.all z hz).1
      omega
     ·exact ⟨HG7.out.2.2.1, HG7.out.2.2.2⟩
    clear hba HZ8 HR8 HWS HG7 HCS9
    go_wp2_with (refine wpList_store_row rfl 32 (.tmp 10) (.tmp 89) rfl (w.heap.size + 2) (chv (endCh (setCh (opsCh c) i s') ec) oc' k' of m) rfl rfl 32 chz HZA.out size_chip rfl (chv_one _ _ _ _ _) ?_)
    refine bodyPost_ret (results_cell_tmp rfl _ _ (w.heap.size + 2) 32 _ _ rfl (HZA.out.put _) Tryz.underlying32 rfl size_chip) rfl ?_
    rw [HD.out.1, HD.out.2]
    refine ⟨⟨oc', k', _, rfl, (HH.out.put (w.heap.size + 2) _ HNZ.out (fun a ha => by have h1 := HOB9.out a ha; have h2 := HS8.out; omega) (H.out.fs.below (below_put (by omega) _ HBA.out))).ends ec, foot_set HYM.out HFT.out (fun a ha => by have h1 := HOB9.out a ha; have h2 := HS8.out; omega)⟩, below_put (by omega) _ HBA.out⟩
  ·rw [decide_eq_false hx]
   have hd : doSt c op block line p q r = endCh (opsCh c) 80 ∧ doC c op block line p q r = 80 := by
    have h0 : ¬ c.off = true := by rw [HOF.out]; simp
    have h1 : ¬ chHas c block := hx
    unfold doSt doC
    rw [if_neg h0, if_neg h0, if_neg h1, if_neg h1]
    exact ⟨rfl, rfl⟩
   have HD := Lib.hid hd
   clear hd hx
   go_wp2_with (refine wpList_load_row rfl 32 (.tmp 5) rfl w.heap.size rfl 32 (chv (opsCh c) oc k of m) (0, 0) _ HC5.out Tryz.underlying32 rfl size_chip ?_)
   refine (rch_counts (opsCh c) oc of k m 80 w5 (by have h1 := HWF.out.rej; have h2 := HNN.out; show c.rej ≤ _; omega) (by have h1 := HWF.out.cuts; have h2 := HNN.out; show c.cuts ≤ _; omega)).mono ?_
   rintro e w6 ⟨rfl, hb6⟩
   have HZ6 := Lib.hid (HZ5.out.after hb6)
   have HB6 := Lib.hid (HB5.out.trans (hb6.mono HB5.out.size))
   go_wp2_with (refine wpList_store_row rfl 32 (.tmp 10) (.tmp 38) rfl (w.heap.size + 2) (chv (endCh (opsCh c) 80) oc k of m) rfl rfl 32 chz HZ6.out size_chip rfl (chv_one _ _ _ _ _) ?_)
   refine bodyPost_ret (results_cell_tmp rfl _ _ (w.heap.size + 2) 32 _ _ rfl (HZ6.out.put _) Tryz.underlying32 rfl size_chip) rfl ?_
   rw [HD.out.1, HD.out.2]
   refine ⟨⟨oc, k, l, rfl, ?_, fun _ h => Or.inl h⟩, ?_⟩
   ·exact (H.out.ops'.ends 80).after (below_put (by omega) _ HB6.out)
   ·exact below_put (by omega) _ HB6.out
end Go.Proofs.YtalefbmoebobkaaGreatDoor
