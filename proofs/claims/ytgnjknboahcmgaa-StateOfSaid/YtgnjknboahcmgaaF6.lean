/- Texts of one claim, merged: StW1, StC6, ShC1, SnC1, StC7, StC8, Bel, StL1, StP, StL2, StL4. -/
import Derived.Test.YtgnjknboahcmgaaF1
import Derived.Test.YtgnjknboahcmgaaF5
import Derived.Test.YtgnjknboahcmgaaF3
import Derived.Test.YtgnjknboahcmgaaF4
import Derived.Deep.QuietTactic
import Derived.Deep.MidRow
import Derived.BigQuiet

/- What a function gives whose one result lies in a block of its own. -/
namespace Go.Proofs.Ytgnjknboahcmgaa
set_option maxRecDepth 100000
open Go.RowKit
theorem results_cell_st {P : Program} {fn : Func} {p : Tmp} {ty : TypeId} (h : fn.results = #[.cell p ty]) (tmps : Array Value) (w : World) (g : Nat) (t : TypeId) (cs : Array Value) (d : TypeDesc)
    (hp : tmps.getD p undef = .pointer (some ⟨g, 0, none⟩)) (hg : Blk w g cs t)
    (hu : P.underlying ty = some d) (hd : (match d with | .struct _ | .array _ _ => true | _ => false) = true) (hi : (P.info? ty).map (·.size) = some cs.size) :
    (results fn tmps).run P w = .ok (.agg cs) w := by
  have hp' : tmps[p]?.getD undef = .pointer (some ⟨g, 0, none⟩) := by simpa using hp
  simp [results, h, hp', asAddr, run_loadVar_row w g t ty cs (0, 0) d hg hu hd hi]
end Go.Proofs.Ytgnjknboahcmgaa

/- Package state, walked: State. -/
namespace Go.Proofs.Ytgnjknboahcmgaa
set_option maxRecDepth 100000
open Go.RowKit

theorem row_clone {w : World} {g n k : Nat} {l : List Int} (h : RowI w g n k l) (hz : n ≤ 1000000) :
    Calls Try.prog 34 #[.slice (some ⟨g, 0, none⟩) n k] w fun e w' => (∃ g' cap, e = .returned (.slice (some ⟨g', 0, none⟩) n cap) ∧ w.heap.size ≤ g' ∧ RowI w' g' n cap l) ∧ Below w.heap.size w w' := by
  refine st_clone g 0 n k l w h.1 (by omega) fun i hi => ?_
  have h1 := h.cell i (by rw [← h.1]; exact hi)
  rw [Nat.zero_add, h1, List.getD_eq_getElem?_getD, List.getElem?_eq_getElem hi]
  rfl
/-- four rows that lie from B on -/
def Rw4 (B : Nat) (g0 g1 g2 g3 k0 k1 k2 k3 n b : Nat) (x : Sn) (w : World) : Prop := (B ≤ g0 ∧ B ≤ g1 ∧ B ≤ g2 ∧ B ≤ g3) ∧ RowI w g0 n k0 x.f ∧ RowI w g1 b k1 x.c ∧ RowI w g2 b k2 x.s ∧ RowI w g3 b k3 x.t
theorem RowI.call {w w' : World} {g n cap : Nat} {l : List Int} (h : RowI w g n cap l) (hb : Below w.heap.size w w') : RowI w' g n cap l := h.blk (hb.block g h.lt)
theorem RowI.put {w : World} {g n cap q : Nat} {l : List Int} {cs : Array Value} {t : TypeId} (h : RowI w g n cap l) (hq : Blk w q cs t) (ht : 3 ≠ t) (ds : Array Value) : RowI (w.setRow q ds) g n cap l := by
  obtain ⟨h1, h2, cs', hb, hc⟩ := h
  exact ⟨h1, h2, cs', hb.put_other (blk_neT hb hq ht) ds, hc⟩
theorem Rw4.call {B g0 g1 g2 g3 k0 k1 k2 k3 n b : Nat} {x : Sn} {w w' : World} (h : Rw4 B g0 g1 g2 g3 k0 k1 k2 k3 n b x w) (hb : Below w.heap.size w w') : Rw4 B g0 g1 g2 g3 k0 k1 k2 k3 n b x w' := ⟨h.1, h.2.1.call hb, h.2.2.1.call hb, h.2.2.2.1.call hb, h.2.2.2.2.call hb⟩
theorem Rw4.put {B g0 g1 g2 g3 k0 k1 k2 k3 n b q : Nat} {x : Sn} {w : World} {cs : Array Value} (h : Rw4 B g0 g1 g2 g3 k0 k1 k2 k3 n b x w) (hq : Blk w q cs 32) (ds : Array Value) : Rw4 B g0 g1 g2 g3 k0 k1 k2 k3 n b x (w.setRow q ds) :=
  ⟨h.1, h.2.1.put hq (by decide) ds, h.2.2.1.put hq (by decide) ds, h.2.2.2.1.put hq (by decide) ds, h.2.2.2.2.put hq (by decide) ds⟩
theorem Rw4.sn {B g0 g1 g2 g3 k0 k1 k2 k3 n b : Nat} {x : Sn} {w : World} (h : Rw4 B g0 g1 g2 g3 k0 k1 k2 k3 n b x w) : SnAt w (kpV g0 g1 g2 g3 k0 k1 k2 k3 n b) x := by
  have h1 := h.2.1.iv; have h2 := h.2.2.1.iv; have h3 := h.2.2.2.1.iv; have h4 := h.2.2.2.2.iv
  exact ⟨_, _, _, _, rfl, h1, h2, h3, h4⟩
/-- the box of State holds the answer -/
def StB (B n b : Nat) (x : Sn) (w : World) : Prop := ∃ g0 g1 g2 g3 k0 k1 k2 k3, Blk w B (kpV g0 g1 g2 g3 k0 k1 k2 k3 n b) 32 ∧ Rw4 B g0 g1 g2 g3 k0 k1 k2 k3 n b x w
/-- rows stay, and so does the answer -/
def TR (B n b : Nat) (x : Sn) (w w' : World) : Prop := (∀ g m k l, RowI w g m k l → RowI w' g m k l) ∧ (StB B n b x w → StB B n b x w')
theorem TR.refl (B n b : Nat) (x : Sn) (w : World) : TR B n b x w w := ⟨fun _ _ _ _ h => h, fun h => h⟩
theorem TR.call {B n b : Nat} {x : Sn} {w w' : World} (hb : Below w.heap.size w w') : TR B n b x w w' := ⟨fun _ _ _ _ h => h.call hb, fun ⟨g0, g1, g2, g3, k0, k1, k2, k3, h1, h2⟩ => ⟨g0, g1, g2, g3, k0, k1, k2, k3, h1.after hb, h2.call hb⟩⟩
theorem TR.store {B n b g0 g1 g2 g3 k0 k1 k2 k3 : Nat} {x : Sn} {w : World} {cs : Array Value} (hq : Blk w B cs 32) (hr : Rw4 B g0 g1 g2 g3 k0 k1 k2 k3 n b x w) : TR B n b x w (w.setRow B (kpV g0 g1 g2 g3 k0 k1 k2 k3 n b)) :=
  ⟨fun _ _ _ _ h => h.put hq (by decide) _, fun _ => ⟨g0, g1, g2, g3, k0, k1, k2, k3, hq.put _, hr.put hq _⟩⟩
/-- while State runs -/
def CS (w0 : World) (K0 K1 o : Nat) (K : KL) (x : Sn) (w : World) : Prop := KpK K0 K1 w o K x ∧ (∃ cs : Array Value, Blk w w0.heap.size cs 32 ∧ cs.size = 4) ∧ Below w0.heap.size w0 w ∧ (w0.heap.size ≤ w.heap.size ∧ K1 ≤ w0.heap.size)
theorem CS.call {w0 w w' : World} {K0 K1 o : Nat} {K : KL} {x : Sn} (h : CS w0 K0 K1 o K x w) (hb : Below w.heap.size w w') : CS w0 K0 K1 o K x w' :=
  ⟨h.1.call hb, h.2.1.imp fun _ hc => ⟨hc.1.after hb, hc.2⟩, h.2.2.1.trans (hb.mono h.2.2.2.1), Nat.le_trans h.2.2.2.1 hb.size, h.2.2.2.2⟩
theorem CS.drew {w0 w : World} {K0 K1 o : Nat} {K : KL} {x : Sn} (h : CS w0 K0 K1 o K x w) : CS w0 K0 K1 o K x w.drew := h.call (Below.refl _ _).drew
theorem CS.put {w0 w : World} {K0 K1 o : Nat} {K : KL} {x : Sn} {cs : Array Value} (h : CS w0 K0 K1 o K x w) (hq : Blk w w0.heap.size cs 32) (ds : Array Value) (hd : ds.size = 4) : CS w0 K0 K1 o K x (w.setRow w0.heap.size ds) := by
  refine ⟨h.1.keep (by rw [size_setRow]; exact Nat.le_refl _) fun b _ hl => ?_, ⟨ds, hq.put _, hd⟩, below_put (Nat.le_refl _) _ h.2.2.1, by rw [size_setRow]; exact h.2.2.2.1, h.2.2.2.2⟩
  have := h.2.2.2.2
  simp only [World.setRow, Array.getElem?_modify]
  rw [if_neg (by omega)]
/-- what each operation leaves -/
def SpSC (B : Nat) (K : KL) (x : Sn) (j : Nat) (a : Act) (w : World) : Prop := match j with
  | 5 => ∃ g k, a.tmps.getD 8 undef = .slice (some ⟨g, 0, none⟩) K.n k ∧ B ≤ g ∧ RowI w g K.n k x.f
  | 11 => ∃ g k, a.tmps.getD 14 undef = .slice (some ⟨g, 0, none⟩) K.b k ∧ B ≤ g ∧ RowI w g K.b k x.c
  | 17 => ∃ g k, a.tmps.getD 20 undef = .slice (some ⟨g, 0, none⟩) K.b k ∧ B ≤ g ∧ RowI w g K.b k x.s
  | 23 => ∃ g k, a.tmps.getD 26 undef = .slice (some ⟨g, 0, none⟩) K.b k ∧ B ≤ g ∧ RowI w g K.b k x.t
  | 24 => ∃ g0 g1 g2 g3 k0 k1 k2 k3, a.tmps.getD 27 undef = .agg (kpV g0 g1 g2 g3 k0 k1 k2 k3 K.n K.b) ∧ Rw4 B g0 g1 g2 g3 k0 k1 k2 k3 K.n K.b x w
  | _ => StB B K.n K.b x w
def fSC (j : Nat) : List Tmp := if j = 5 then [8] else if j = 11 then [14] else if j = 17 then [20] else if j = 23 then [26] else if j = 24 then [27] else []
theorem SpSC.ext (B : Nat) (K : KL) (x : Sn) : ∀ (j : Nat) (a a' : Act) (w w' : World), SpSC B K x j a w → (∀ d ∈ fSC j, a'.tmps.getD d undef = a.tmps.getD d undef) → TR B K.n K.b x w w' → SpSC B K x j a' w' := by
  intro j a a' w w' h hd hT
  unfold SpSC at h ⊢
  split at h
  · obtain ⟨g, k, h1, h2, h3⟩ := h; exact ⟨g, k, (hd 8 (by simp [fSC])).trans h1, h2, hT.1 _ _ _ _ h3⟩
  · obtain ⟨g, k, h1, h2, h3⟩ := h; exact ⟨g, k, (hd 14 (by simp [fSC])).trans h1, h2, hT.1 _ _ _ _ h3⟩
  · obtain ⟨g, k, h1, h2, h3⟩ := h; exact ⟨g, k, (hd 20 (by simp [fSC])).trans h1, h2, hT.1 _ _ _ _ h3⟩
  · obtain ⟨g, k, h1, h2, h3⟩ := h; exact ⟨g, k, (hd 26 (by simp [fSC])).trans h1, h2, hT.1 _ _ _ _ h3⟩
  · obtain ⟨g0, g1, g2, g3, k0, k1, k2, k3, h1, hb, r0, r1, r2, r3⟩ := h
    exact ⟨g0, g1, g2, g3, k0, k1, k2, k3, (hd 27 (by simp [fSC])).trans h1, hb, hT.1 _ _ _ _ r0, hT.1 _ _ _ _ r1, hT.1 _ _ _ _ r2, hT.1 _ _ _ _ r3⟩
  · exact hT.2 h

/-- what each operation of the region SC leaves -/
def vsSC (o : Nat) (K : KL) : List (Option (Tmp × Value)) :=
  [some (3, .pointer (some ⟨o, 0, none⟩)), some (4, .pointer (some ⟨o, 0, none⟩)), some (5, .pointer (some ⟨o, 0, none⟩)), some (6, .pointer (some ⟨o, 0, none⟩)), some (7, .slice (some ⟨K.gf, 0, none⟩) K.n K.kf), none, some (9, .pointer (some ⟨o, 0, none⟩)), some (10, .pointer (some ⟨o, 0, none⟩)), some (11, .pointer (some ⟨o, 0, none⟩)), some (12, .pointer (some ⟨o, 1, none⟩)), some (13, .slice (some ⟨K.gc, 0, none⟩) K.b K.kc), none, some (15, .pointer (some ⟨o, 0, none⟩)), some (16, .pointer (some ⟨o, 0, none⟩)), some (17, .pointer (some ⟨o, 0, none⟩)), some (18, .pointer (some ⟨o, 2, none⟩)), some (19, .slice (some ⟨K.gs, 0, none⟩) K.b K.ks), none, some (21, .pointer (some ⟨o, 0, none⟩)), some (22, .pointer (some ⟨o, 0, none⟩)), some (23, .pointer (some ⟨o, 0, none⟩)), some (24, .pointer (some ⟨o, 3, none⟩)), some (25, .slice (some ⟨K.gt, 0, none⟩) K.b K.kt), none, none, none]
/-- the frame while the region SC runs -/
def BaseSC (B o : Nat) (a : Act) : Prop := ∃ u : Nat → Value, a = ⟨#[.pointer (some ⟨o, 0, none⟩), u 1, .pointer (some ⟨B, 0, none⟩), u 3, u 4, u 5, u 6, u 7, u 8, u 9, u 10, u 11, u 12, u 13, u 14, u 15, u 16, u 17, u 18, u 19, u 20, u 21, u 22, u 23, u 24, u 25, u 26, u 27], []⟩
theorem BaseSC.of {B o : Nat} (arr : Array Value) (h : arr = #[.pointer (some ⟨o, 0, none⟩), arr.getD 1 undef, .pointer (some ⟨B, 0, none⟩), arr.getD 3 undef, arr.getD 4 undef, arr.getD 5 undef, arr.getD 6 undef, arr.getD 7 undef, arr.getD 8 undef, arr.getD 9 undef, arr.getD 10 undef, arr.getD 11 undef, arr.getD 12 undef, arr.getD 13 undef, arr.getD 14 undef, arr.getD 15 undef, arr.getD 16 undef, arr.getD 17 undef, arr.getD 18 undef, arr.getD 19 undef, arr.getD 20 undef, arr.getD 21 undef, arr.getD 22 undef, arr.getD 23 undef, arr.getD 24 undef, arr.getD 25 undef, arr.getD 26 undef, arr.getD 27 undef]) : BaseSC B o ⟨arr, []⟩ := ⟨fun i => arr.getD i undef, by rw [← h]⟩
theorem BaseSC.put3 {B o : Nat} (a : Act) (v : Value) (h : BaseSC B o a) : BaseSC B o (a.put (some 3) v) := by
  obtain ⟨u, rfl⟩ := h
  exact ⟨fun i => if i = 3 then v else u i, by kernel_rfl⟩
theorem BaseSC.put4 {B o : Nat} (a : Act) (v : Value) (h : BaseSC B o a) : BaseSC B o (a.put (some 4) v) := by
  obtain ⟨u, rfl⟩ := h
  exact ⟨fun i => if i = 4 then v else u i, by kernel_rfl⟩
theorem BaseSC.put5 {B o : Nat} (a : Act) (v : Value) (h : BaseSC B o a) : BaseSC B o (a.put (some 5) v) := by
  obtain ⟨u, rfl⟩ := h
  exact ⟨fun i => if i = 5 then v else u i, by kernel_rfl⟩
theorem BaseSC.put6 {B o : Nat} (a : Act) (v : Value) (h : BaseSC B o a) : BaseSC B o (a.put (some 6) v) := by
  obtain ⟨u, rfl⟩ := h
  exact ⟨fun i => if i = 6 then v else u i, by kernel_rfl⟩
theorem BaseSC.put7 {B o : Nat} (a : Act) (v : Value) (h : BaseSC B o a) : BaseSC B o (a.put (some 7) v) := by
  obtain ⟨u, rfl⟩ := h
  exact ⟨fun i => if i = 7 then v else u i, by kernel_rfl⟩
theorem BaseSC.put8 {B o : Nat} (a : Act) (v : Value) (h : BaseSC B o a) : BaseSC B o (a.put (some 8) v) := by
  obtain ⟨u, rfl⟩ := h
  exact ⟨fun i => if i = 8 then v else u i, by kernel_rfl⟩
theorem BaseSC.put9 {B o : Nat} (a : Act) (v : Value) (h : BaseSC B o a) : BaseSC B o (a.put (some 9) v) := by
  obtain ⟨u, rfl⟩ := h
  exact ⟨fun i => if i = 9 then v else u i, by kernel_rfl⟩
theorem BaseSC.put10 {B o : Nat} (a : Act) (v : Value) (h : BaseSC B o a) : BaseSC B o (a.put (some 10) v) := by
  obtain ⟨u, rfl⟩ := h
  exact ⟨fun i => if i = 10 then v else u i, by kernel_rfl⟩
theorem BaseSC.put11 {B o : Nat} (a : Act) (v : Value) (h : BaseSC B o a) : BaseSC B o (a.put (some 11) v) := by
  obtain ⟨u, rfl⟩ := h
  exact ⟨fun i => if i = 11 then v else u i, by kernel_rfl⟩
theorem BaseSC.put12 {B o : Nat} (a : Act) (v : Value) (h : BaseSC B o a) : BaseSC B o (a.put (some 12) v) := by
  obtain ⟨u, rfl⟩ := h
  exact ⟨fun i => if i = 12 then v else u i, by kernel_rfl⟩
theorem BaseSC.put13 {B o : Nat} (a : Act) (v : Value) (h : BaseSC B o a) : BaseSC B o (a.put (some 13) v) := by
  obtain ⟨u, rfl⟩ := h
  exact ⟨fun i => if i = 13 then v else u i, by kernel_rfl⟩
theorem BaseSC.put14 {B o : Nat} (a : Act) (v : Value) (h : BaseSC B o a) : BaseSC B o (a.put (some 14) v) := by
  obtain ⟨u, rfl⟩ := h
  exact ⟨fun i => if i = 14 then v else u i, by kernel_rfl⟩
theorem BaseSC.put15 {B o : Nat} (a : Act) (v : Value) (h : BaseSC B o a) : BaseSC B o (a.put (some 15) v) := by
  obtain ⟨u, rfl⟩ := h
  exact ⟨fun i => if i = 15 then v else u i, by kernel_rfl⟩
theorem BaseSC.put16 {B o : Nat} (a : Act) (v : Value) (h : BaseSC B o a) : BaseSC B o (a.put (some 16) v) := by
  obtain ⟨u, rfl⟩ := h
  exact ⟨fun i => if i = 16 then v else u i, by kernel_rfl⟩
theorem BaseSC.put17 {B o : Nat} (a : Act) (v : Value) (h : BaseSC B o a) : BaseSC B o (a.put (some 17) v) := by
  obtain ⟨u, rfl⟩ := h
  exact ⟨fun i => if i = 17 then v else u i, by kernel_rfl⟩
theorem BaseSC.put18 {B o : Nat} (a : Act) (v : Value) (h : BaseSC B o a) : BaseSC B o (a.put (some 18) v) := by
  obtain ⟨u, rfl⟩ := h
  exact ⟨fun i => if i = 18 then v else u i, by kernel_rfl⟩
theorem BaseSC.put19 {B o : Nat} (a : Act) (v : Value) (h : BaseSC B o a) : BaseSC B o (a.put (some 19) v) := by
  obtain ⟨u, rfl⟩ := h
  exact ⟨fun i => if i = 19 then v else u i, by kernel_rfl⟩
theorem BaseSC.put20 {B o : Nat} (a : Act) (v : Value) (h : BaseSC B o a) : BaseSC B o (a.put (some 20) v) := by
  obtain ⟨u, rfl⟩ := h
  exact ⟨fun i => if i = 20 then v else u i, by kernel_rfl⟩
theorem BaseSC.put21 {B o : Nat} (a : Act) (v : Value) (h : BaseSC B o a) : BaseSC B o (a.put (some 21) v) := by
  obtain ⟨u, rfl⟩ := h
  exact ⟨fun i => if i = 21 then v else u i, by kernel_rfl⟩
theorem BaseSC.put22 {B o : Nat} (a : Act) (v : Value) (h : BaseSC B o a) : BaseSC B o (a.put (some 22) v) := by
  obtain ⟨u, rfl⟩ := h
  exact ⟨fun i => if i = 22 then v else u i, by kernel_rfl⟩
theorem BaseSC.put23 {B o : Nat} (a : Act) (v : Value) (h : BaseSC B o a) : BaseSC B o (a.put (some 23) v) := by
  obtain ⟨u, rfl⟩ := h
  exact ⟨fun i => if i = 23 then v else u i, by kernel_rfl⟩
theorem BaseSC.put24 {B o : Nat} (a : Act) (v : Value) (h : BaseSC B o a) : BaseSC B o (a.put (some 24) v) := by
  obtain ⟨u, rfl⟩ := h
  exact ⟨fun i => if i = 24 then v else u i, by kernel_rfl⟩
theorem BaseSC.put25 {B o : Nat} (a : Act) (v : Value) (h : BaseSC B o a) : BaseSC B o (a.put (some 25) v) := by
  obtain ⟨u, rfl⟩ := h
  exact ⟨fun i => if i = 25 then v else u i, by kernel_rfl⟩
theorem BaseSC.put26 {B o : Nat} (a : Act) (v : Value) (h : BaseSC B o a) : BaseSC B o (a.put (some 26) v) := by
  obtain ⟨u, rfl⟩ := h
  exact ⟨fun i => if i = 26 then v else u i, by kernel_rfl⟩
theorem BaseSC.put27 {B o : Nat} (a : Act) (v : Value) (h : BaseSC B o a) : BaseSC B o (a.put (some 27) v) := by
  obtain ⟨u, rfl⟩ := h
  exact ⟨fun i => if i = 27 then v else u i, by kernel_rfl⟩

/-- what State answers -/
def StT (n b : Nat) (x : Sn) (w : World) (e : Ending) (w' : World) : Prop :=
  (∃ g0 g1 g2 g3 k0 k1 k2 k3, e = .returned (.agg (kpV g0 g1 g2 g3 k0 k1 k2 k3 n b)) ∧ Rw4 w.heap.size g0 g1 g2 g3 k0 k1 k2 k3 n b x w') ∧ Below w.heap.size w w'

set_option maxHeartbeats 4000000 in
theorem st_state (J0 J1 o : Nat) (K : KL) (x : Sn) (w : World) (h : KpK J0 J1 w o K x) (hz : K.n ≤ 1000000 ∧ K.b ≤ 1000000) : Calls Try.prog 13 #[.pointer (some ⟨o, 0, none⟩)] w (StT K.n K.b x w) := by
  obtain ⟨w1, hw1⟩ : ∃ w1, w.alloc (.cells #[.slice none 0 0, .slice none 0 0, .slice none 0 0, .slice none 0 0] 32) = w1 := ⟨_, rfl⟩
  have HC1 : Hid (CS w J0 J1 o K x w1) := by
    rw [← hw1]
    exact ⟨h.call ((Below.refl _ _).alloc (Nat.le_refl _) _), ⟨nil4, Blk.new _ _ _, rfl⟩, (Below.refl _ _).alloc (Nat.le_refl _) _, by simp, h.1.2⟩
  have HNN := Lib.hid hz
  clear h hz
  go_enter Try.func13, Try.ntmps13
  go_upto_region 1 with fail
  clear hw1
  rename_i K0 hK0
  refine wp_region_list3 (SV2S (vsSC o K) fSC) (BaseSC w.heap.size o) (CS w J0 J1 o K x) (TR w.heap.size K.n K.b x) (RV (vsSC o K) (SpSC w.heap.size K x)) rfl (by kernel_rfl) (RV.ext2S (f := fSC) (SpSC.ext w.heap.size K x)) ?_ (HC1.out.drew) (BaseSC.of _ (by kernel_rfl)) ?_ ?_
  · exact ⟨BaseSC.put3, BaseSC.put4, BaseSC.put5, BaseSC.put6, BaseSC.put7, BaseSC.put8, BaseSC.put9, BaseSC.put10, BaseSC.put11, BaseSC.put12, BaseSC.put13, BaseSC.put14, BaseSC.put15, BaseSC.put16, BaseSC.put17, BaseSC.put18, BaseSC.put19, BaseSC.put20, BaseSC.put21, BaseSC.put22, BaseSC.put23, BaseSC.put24, BaseSC.put25, BaseSC.put26, BaseSC.put27, fun a v h => h, trivial⟩
  · refine ⟨?_, ?_, ?_, ?_, ?_, ?_, ?_, ?_, ?_, ?_, ?_, ?_, ?_, ?_, ?_, ?_, ?_, ?_, ?_, ?_, ?_, ?_, ?_, ?_, ?_, ?_, trivial⟩
    all_goals
      intro a w' hC hB hR
      obtain ⟨u, rfl⟩ := hB
      have HC := Lib.hid hC
      clear hC
      clear hK0
    · clear hR
      refine if_yes (by kernel_rfl) ?_
      unfold Oper.wp
      go_simp
      exact ⟨.pointer (some ⟨o, 0, none⟩), rfl, HC.out, TR.refl _ _ _ _ _, rfl⟩
    · have h3 : u 3 = .pointer (some ⟨o, 0, none⟩) := hR ⟨0, .data⟩ (by simp) rfl
      clear hR
      simp only [h3]
      clear h3
      refine if_yes (by kernel_rfl) ?_
      unfold Oper.wp
      go_simp
      exact ⟨.pointer (some ⟨o, 0, none⟩), rfl, HC.out, TR.refl _ _ _ _ _, rfl⟩
    · have h4 : u 4 = .pointer (some ⟨o, 0, none⟩) := hR ⟨1, .data⟩ (by simp) rfl
      clear hR
      simp only [h4]
      clear h4
      refine if_yes (by kernel_rfl) ?_
      unfold Oper.wp
      go_simp
      exact ⟨.pointer (some ⟨o, 0, none⟩), rfl, HC.out, TR.refl _ _ _ _ _, rfl⟩
    · have h5 : u 5 = .pointer (some ⟨o, 0, none⟩) := hR ⟨2, .data⟩ (by simp) rfl
      clear hR
      simp only [h5]
      clear h5
      refine if_yes (by kernel_rfl) ?_
      unfold Oper.wp
      go_simp
      exact ⟨.pointer (some ⟨o, 0, none⟩), rfl, HC.out, TR.refl _ _ _ _ _, rfl⟩
    · have h6 : u 6 = .pointer (some ⟨o, 0, none⟩) := hR ⟨3, .data⟩ (by simp) rfl
      have hc := HC.out.1.four.1
      clear hR
      simp only [h6]
      clear h6
      refine if_yes (by kernel_rfl) ?_
      unfold Oper.wp
      go_simp
      exact ⟨.slice (some ⟨K.gf, 0, none⟩) K.n K.kf, rfl, HC.out, TR.refl _ _ _ _ _, rfl⟩
    · have h7 : u 7 = .slice (some ⟨K.gf, 0, none⟩) K.n K.kf := hR ⟨4, .data⟩ (by simp) rfl
      clear hR
      simp only [h7]
      clear h7
      refine if_yes (by kernel_rfl) ?_
      unfold Oper.wp
      go_simp
      refine (row_clone HC.out.1.2.2.1 (by have := HNN.out; omega)).mono ?_
      rintro e w2 ⟨⟨g, k, rfl, hg, hr⟩, hb2⟩
      exact ⟨.slice (some ⟨g, 0, none⟩) K.n k, rfl, HC.out.call hb2, TR.call hb2, ⟨g, k, rfl, by have := HC.out.2.2.2; omega, hr⟩⟩
    · clear hR
      refine if_yes (by kernel_rfl) ?_
      unfold Oper.wp
      go_simp
      exact ⟨.pointer (some ⟨o, 0, none⟩), rfl, HC.out, TR.refl _ _ _ _ _, rfl⟩
    · have h9 : u 9 = .pointer (some ⟨o, 0, none⟩) := hR ⟨6, .data⟩ (by simp) rfl
      clear hR
      simp only [h9]
      clear h9
      refine if_yes (by kernel_rfl) ?_
      unfold Oper.wp
      go_simp
      exact ⟨.pointer (some ⟨o, 0, none⟩), rfl, HC.out, TR.refl _ _ _ _ _, rfl⟩
    · have h10 : u 10 = .pointer (some ⟨o, 0, none⟩) := hR ⟨7, .data⟩ (by simp) rfl
      clear hR
      simp only [h10]
      clear h10
      refine if_yes (by kernel_rfl) ?_
      unfold Oper.wp
      go_simp
      exact ⟨.pointer (some ⟨o, 0, none⟩), rfl, HC.out, TR.refl _ _ _ _ _, rfl⟩
    · have h11 : u 11 = .pointer (some ⟨o, 0, none⟩) := hR ⟨8, .data⟩ (by simp) rfl
      clear hR
      simp only [h11]
      clear h11
      refine if_yes (by kernel_rfl) ?_
      unfold Oper.wp
      go_simp
      exact ⟨.pointer (some ⟨o, 1, none⟩), rfl, HC.out, TR.refl _ _ _ _ _, rfl⟩
    · have h12 : u 12 = .pointer (some ⟨o, 1, none⟩) := hR ⟨9, .data⟩ (by simp) rfl
      have hc := HC.out.1.four.2.1
      clear hR
      simp only [h12]
      clear h12
      refine if_yes (by kernel_rfl) ?_
      unfold Oper.wp
      go_simp
      exact ⟨.slice (some ⟨K.gc, 0, none⟩) K.b K.kc, rfl, HC.out, TR.refl _ _ _ _ _, rfl⟩
    · have h13 : u 13 = .slice (some ⟨K.gc, 0, none⟩) K.b K.kc := hR ⟨10, .data⟩ (by simp) rfl
      clear hR
      simp only [h13]
      clear h13
      refine if_yes (by kernel_rfl) ?_
      unfold Oper.wp
      go_simp
      refine (row_clone HC.out.1.2.2.2.1 (by have := HNN.out; omega)).mono ?_
      rintro e w2 ⟨⟨g, k, rfl, hg, hr⟩, hb2⟩
      exact ⟨.slice (some ⟨g, 0, none⟩) K.b k, rfl, HC.out.call hb2, TR.call hb2, ⟨g, k, rfl, by have := HC.out.2.2.2; omega, hr⟩⟩
    · clear hR
      refine if_yes (by kernel_rfl) ?_
      unfold Oper.wp
      go_simp
      exact ⟨.pointer (some ⟨o, 0, none⟩), rfl, HC.out, TR.refl _ _ _ _ _, rfl⟩
    · have h15 : u 15 = .pointer (some ⟨o, 0, none⟩) := hR ⟨12, .data⟩ (by simp) rfl
      clear hR
      simp only [h15]
      clear h15
      refine if_yes (by kernel_rfl) ?_
      unfold Oper.wp
      go_simp
      exact ⟨.pointer (some ⟨o, 0, none⟩), rfl, HC.out, TR.refl _ _ _ _ _, rfl⟩
    · have h16 : u 16 = .pointer (some ⟨o, 0, none⟩) := hR ⟨13, .data⟩ (by simp) rfl
      clear hR
      simp only [h16]
      clear h16
      refine if_yes (by kernel_rfl) ?_
      unfold Oper.wp
      go_simp
      exact ⟨.pointer (some ⟨o, 0, none⟩), rfl, HC.out, TR.refl _ _ _ _ _, rfl⟩
    · have h17 : u 17 = .pointer (some ⟨o, 0, none⟩) := hR ⟨14, .data⟩ (by simp) rfl
      clear hR
      simp only [h17]
      clear h17
      refine if_yes (by kernel_rfl) ?_
      unfold Oper.wp
      go_simp
      exact ⟨.pointer (some ⟨o, 2, none⟩), rfl, HC.out, TR.refl _ _ _ _ _, rfl⟩
    · have h18 : u 18 = .pointer (some ⟨o, 2, none⟩) := hR ⟨15, .data⟩ (by simp) rfl
      have hc := HC.out.1.four.2.2.1
      clear hR
      simp only [h18]
      clear h18
      refine if_yes (by kernel_rfl) ?_
      unfold Oper.wp
      go_simp
      exact ⟨.slice (some ⟨K.gs, 0, none⟩) K.b K.ks, rfl, HC.out, TR.refl _ _ _ _ _, rfl⟩
    · have h19 : u 19 = .slice (some ⟨K.gs, 0, none⟩) K.b K.ks := hR ⟨16, .data⟩ (by simp) rfl
      clear hR
      simp only [h19]
      clear h19
      refine if_yes (by kernel_rfl) ?_
      unfold Oper.wp
      go_simp
      refine (row_clone HC.out.1.2.2.2.2.1 (by have := HNN.out; omega)).mono ?_
      rintro e w2 ⟨⟨g, k, rfl, hg, hr⟩, hb2⟩
      exact ⟨.slice (some ⟨g, 0, none⟩) K.b k, rfl, HC.out.call hb2, TR.call hb2, ⟨g, k, rfl, by have := HC.out.2.2.2; omega, hr⟩⟩
    · clear hR
      refine if_yes (by kernel_rfl) ?_
      unfold Oper.wp
      go_simp
      exact ⟨.pointer (some ⟨o, 0, none⟩), rfl, HC.out, TR.refl _ _ _ _ _, rfl⟩
    · have h21 : u 21 = .pointer (some ⟨o, 0, none⟩) := hR ⟨18, .data⟩ (by simp) rfl
      clear hR
      simp only [h21]
      clear h21
      refine if_yes (by kernel_rfl) ?_
      unfold Oper.wp
      go_simp
      exact ⟨.pointer (some ⟨o, 0, none⟩), rfl, HC.out, TR.refl _ _ _ _ _, rfl⟩
    · have h22 : u 22 = .pointer (some ⟨o, 0, none⟩) := hR ⟨19, .data⟩ (by simp) rfl
      clear hR
      simp only [h22]
      clear h22
      refine if_yes (by kernel_rfl) ?_
      unfold Oper.wp
      go_simp
      exact ⟨.pointer (some ⟨o, 0, none⟩), rfl, HC.out, TR.refl _ _ _ _ _, rfl⟩
    · have h23 : u 23 = .pointer (some ⟨o, 0, none⟩) := hR ⟨20, .data⟩ (by simp) rfl
      clear hR
      simp only [h23]
      clear h23
      refine if_yes (by kernel_rfl) ?_
      unfold Oper.wp
      go_simp
      exact ⟨.pointer (some ⟨o, 3, none⟩), rfl, HC.out, TR.refl _ _ _ _ _, rfl⟩
    · have h24 : u 24 = .pointer (some ⟨o, 3, none⟩) := hR ⟨21, .data⟩ (by simp) rfl
      have hc := HC.out.1.four.2.2.2
      clear hR
      simp only [h24]
      clear h24
      refine if_yes (by kernel_rfl) ?_
      unfold Oper.wp
      go_simp
      exact ⟨.slice (some ⟨K.gt, 0, none⟩) K.b K.kt, rfl, HC.out, TR.refl _ _ _ _ _, rfl⟩
    · have h25 : u 25 = .slice (some ⟨K.gt, 0, none⟩) K.b K.kt := hR ⟨22, .data⟩ (by simp) rfl
      clear hR
      simp only [h25]
      clear h25
      refine if_yes (by kernel_rfl) ?_
      unfold Oper.wp
      go_simp
      refine (row_clone HC.out.1.2.2.2.2.2 (by have := HNN.out; omega)).mono ?_
      rintro e w2 ⟨⟨g, k, rfl, hg, hr⟩, hb2⟩
      exact ⟨.slice (some ⟨g, 0, none⟩) K.b k, rfl, HC.out.call hb2, TR.call hb2, ⟨g, k, rfl, by have := HC.out.2.2.2; omega, hr⟩⟩
    · obtain ⟨g0, k0, h0, b0, r0⟩ := hR ⟨5, .data⟩ (by simp) rfl
      obtain ⟨g1, k1, h1, b1, r1⟩ := hR ⟨11, .data⟩ (by simp) rfl
      obtain ⟨g2, k2, h2, b2, r2⟩ := hR ⟨17, .data⟩ (by simp) rfl
      obtain ⟨g3, k3, h3, b3, r3⟩ := hR ⟨23, .data⟩ (by simp) rfl
      have h0 : u 8 = .slice (some ⟨g0, 0, none⟩) K.n k0 := h0
      have h1 : u 14 = .slice (some ⟨g1, 0, none⟩) K.b k1 := h1
      have h2 : u 20 = .slice (some ⟨g2, 0, none⟩) K.b k2 := h2
      have h3 : u 26 = .slice (some ⟨g3, 0, none⟩) K.b k3 := h3
      clear hR
      refine if_yes (by kernel_rfl) ?_
      simp only [h0, h1, h2, h3]
      unfold Oper.wp
      go_simp
      exact ⟨.agg (kpV g0 g1 g2 g3 k0 k1 k2 k3 K.n K.b), rfl, HC.out, TR.refl _ _ _ _ _, ⟨g0, g1, g2, g3, k0, k1, k2, k3, rfl, ⟨b0, b1, b2, b3⟩, r0, r1, r2, r3⟩⟩
    · obtain ⟨g0, g1, g2, g3, k0, k1, k2, k3, h27, hr⟩ := hR ⟨24, .data⟩ (by simp) rfl
      have h27 : u 27 = .agg (kpV g0 g1 g2 g3 k0 k1 k2 k3 K.n K.b) := h27
      obtain ⟨cs, hbk, hcs⟩ := HC.out.2.1
      clear hR
      refine if_yes (by kernel_rfl) ?_
      simp only [h27]
      exact wp_store_row 32 (.tmp 2) (.tmp 27) rfl w.heap.size (kpV g0 g1 g2 g3 k0 k1 k2 k3 K.n K.b) rfl rfl 32 cs hbk size_state hcs (kpV_one _ _ _ _ _ _ _ _ _ _) ⟨undef, rfl, HC.out.put hbk _ rfl, TR.store hbk hr, ⟨g0, g1, g2, g3, k0, k1, k2, k3, hbk.put _, hr.put hbk _⟩⟩
  · intro aa w5 hC hB hR
    obtain ⟨g0, g1, g2, g3, k0, k1, k2, k3, hbk, hr⟩ := hR 25 (by decide)
    clear hR
    obtain ⟨u, rfl⟩ := hB
    have HB := Lib.hid hbk
    have HR := Lib.hid hr
    have HBW : Hid (Below w.heap.size w w5) := hC.2.2.1
    clear hbk hr hC
    go_wp2_with fail
    refine bodyPost_ret (results_cell_st rfl _ _ w.heap.size 32 (kpV g0 g1 g2 g3 k0 k1 k2 k3 K.n K.b) _ rfl HB.out Try.underlying32 rfl size_state) rfl ?_
    exact ⟨⟨g0, g1, g2, g3, k0, k1, k2, k3, rfl, HR.out⟩, HBW.out⟩

end Go.Proofs.Ytgnjknboahcmgaa

/- Package sheet, walked: Hold, and whether a text has noughts alone. -/
namespace Go.Proofs.Ytgnjknboahcmgaa
set_option maxRecDepth 100000
open Go.RowKit

/-- a text of noughts alone -/
def Noughts (s : ByteArray) : Prop := ∀ i : Nat, i < s.size → byteT s i = 0
instance (s : ByteArray) : Decidable (Noughts s) := Nat.decidableBallLT s.size fun i _ => byteT s i = 0

end Go.Proofs.Ytgnjknboahcmgaa

/- Package snap, walked: areNumbers, isOf, Fits, must, isNoughts. -/
namespace Go.Proofs.Ytgnjknboahcmgaa
set_option maxRecDepth 100000
open Go.RowKit

set_option maxHeartbeats 1000000 in
theorem sn_numbers (w : World) (v : Value) (l : List Int) (n most : Int) (hn : -9223372036854775808 ≤ n ∧ n ≤ 9223372036854775807) (hv : IvAt w v l) :
    Calls Try.prog 50 #[v, .int .i64 n, .int .i64 most] w fun e w' => e = .returned (.bool (inB l n most)) ∧ Below w.heap.size w w' := by
  obtain ⟨a, cap, rfl, hc, hs⟩ := hv
  obtain ⟨N, hN⟩ : ∃ N, l.length = N := ⟨_, rfl⟩
  have hb : (N : Int) ≤ 9223372036854775807 := by unfold maxLen at hc; omega
  have HS := Lib.hid hs
  have HN := Lib.hid hN
  rw [hN]
  clear hs hN hc
  by_cases hz : (N : Int) = n
  · subst hz
    have hzb : ((N : Int) == (N : Int)) = true := by simp
    go_enter Try.func50, Try.ntmps50
    go_wp2_with fail
    go_loopw [15] (fun i wr => ∃ (k : Nat), k ≤ N ∧ i = .int .i64 k ∧ Hid (UpTo l most k) ∧ Hid (Below w.heap.size w wr)) (fun i _ => N + 1 - (intOf i).toNat)
    case atStart => exact ⟨0, Nat.zero_le _, rfl, UpTo.zero _ _, Below.refl _ _⟩
    case round =>
      obtain ⟨k, hk, rfl, HY, HB⟩ := hrel
      by_cases hlt : k < N
      · have hltz : (k : Int) < (N : Int) := by omega
        have hkl : k < l.length := by have := HN.out; omega
        obtain ⟨g, o, rfl, hg, h1⟩ := HS.out (by intro h0; rw [h0] at hkl; exact absurd hkl (Nat.not_lt_zero _))
        have r1 := h1 k hkl
        obtain ⟨x, hx⟩ : ∃ x, l[k] = x := ⟨_, rfl⟩
        rw [hx] at r1
        have c1 := (HB.out.cell (p := ⟨g, o + k, none⟩) (cell_lt r1)).trans r1
        by_cases hneg : x < 0
        · have HNO : Hid (inB l N most = false) := inB_no hkl (Or.inl (by rw [hx]; exact hneg))
          clear HY h1 r1 hx hg hkl
          go_wp2_with fail
          go_ret
          exact ⟨ret_bool HNO.out.symm, HB.out⟩
        · by_cases hbig : most < x
          · have HNO : Hid (inB l N most = false) := inB_no hkl (Or.inr (by rw [hx]; exact hbig))
            clear HY h1 r1 hx hg hkl
            go_wp2_with fail
            go_ret
            exact ⟨ret_bool HNO.out.symm, HB.out⟩
          · have HY2 : Hid (UpTo l most (k + 1)) := HY.out.one hkl (by rw [hx]; omega) (by rw [hx]; omega)
            clear HY h1 r1 hx hg hkl
            go_wp2_with fail
            refine ⟨⟨k + 1, by omega, by go_num, HY2, HB⟩, ?_⟩
            simp [intOf]; omega
      · obtain rfl : k = N := by omega
        have hltz : ¬ (k : Int) < (k : Int) := by omega
        have HE : Hid (inB l k most = true) := decide_eq_true ⟨by rw [HN.out], HY.out.all (by rw [HN.out]; exact Nat.le_refl _)⟩
        clear HY hlt
        go_wp2_with fail
        go_ret
        exact ⟨ret_bool HE.out.symm, HB.out⟩
  · have hnb : ((N : Int) == n) = false := by simp; omega
    have HNO : Hid (inB l n most = false) := decide_eq_false (fun h => hz (by rw [← HN.out]; exact h.1))
    go_enter Try.func50, Try.ntmps50
    go_wp2_with fail
    go_ret
    exact ⟨ret_bool HNO.out.symm, Below.refl _ _⟩


/-- does what is durable fit a geometry that may be? -/
def fitB (b n : Int) (x : Sn) : Bool := decide (FitS b n x)
theorem fitB_eq (b n : Int) (x : Sn) : fitB b n x = (inB x.f n 281474976710655 && (inB x.c b 4294967295 && (inB x.s b 16777215 && inB x.t b 16777215))) := by
  rw [Bool.eq_iff_iff]
  unfold fitB inB
  rw [Bool.and_eq_true, Bool.and_eq_true, Bool.and_eq_true, decide_eq_true_iff, decide_eq_true_iff, decide_eq_true_iff, decide_eq_true_iff, decide_eq_true_iff]
  exact Iff.rfl

set_option maxHeartbeats 1000000 in
theorem sn_isof (w : World) (b l y n s r : Int) (A : Array Value) (x : Sn) (hok : OkG b l y n s r) (hA : SnAt w A x) :
    Calls Try.prog 47 #[.agg (gv b l y n s r), .agg A] w fun e w' => e = .returned (.bool (fitB b n x)) ∧ Below w.heap.size w w' := by
  obtain ⟨w2, hw2⟩ : ∃ w2, (w.alloc (.cells (gv b l y n s r) 23)).alloc (.cells A 32) = w2 := ⟨_, rfl⟩
  have hsw : SnW w b l y n s r A w2 := by rw [← hw2]; exact SnW.new _ _ _ _ _ _ _ _
  obtain ⟨vf, vc, vs, vt, rfl, h1, h2, h3, h4⟩ := hA
  have HSW := Lib.hid hsw
  have HW2 := Lib.hid hw2
  rw [fitB_eq]
  obtain ⟨hb, hn⟩ : (-9223372036854775808 ≤ b ∧ b ≤ 9223372036854775807) ∧ (-9223372036854775808 ≤ n ∧ n ≤ 9223372036854775807) := by
    have h := hok.1; unfold PreG at h; omega
  have H1 : Hid (∀ w3, Below w2.heap.size w2 w3 → Calls Try.prog 50 #[vf, .int .i64 n, .int .i64 281474976710655] w3 fun e w' => e = .returned (.bool (inB x.f n 281474976710655)) ∧ Below w3.heap.size w3 w') := fun w3 hb3 => sn_numbers w3 vf x.f n _ hn ((h1.below hsw.2).below hb3)
  have H2 : Hid (∀ w3, Below w2.heap.size w2 w3 → Calls Try.prog 50 #[vc, .int .i64 b, .int .i64 4294967295] w3 fun e w' => e = .returned (.bool (inB x.c b 4294967295)) ∧ Below w3.heap.size w3 w') := fun w3 hb3 => sn_numbers w3 vc x.c b _ hb ((h2.below hsw.2).below hb3)
  have H3 : Hid (∀ w3, Below w2.heap.size w2 w3 → Calls Try.prog 50 #[vs, .int .i64 b, .int .i64 16777215] w3 fun e w' => e = .returned (.bool (inB x.s b 16777215)) ∧ Below w3.heap.size w3 w') := fun w3 hb3 => sn_numbers w3 vs x.s b _ hb ((h3.below hsw.2).below hb3)
  have H4 : Hid (∀ w3, Below w2.heap.size w2 w3 → Calls Try.prog 50 #[vt, .int .i64 b, .int .i64 16777215] w3 fun e w' => e = .returned (.bool (inB x.t b 16777215)) ∧ Below w3.heap.size w3 w') := fun w3 hb3 => sn_numbers w3 vt x.t b _ hb ((h4.below hsw.2).below hb3)
  obtain ⟨q1, hq1⟩ : ∃ q, inB x.f n 281474976710655 = q := ⟨_, rfl⟩
  obtain ⟨q2, hq2⟩ : ∃ q, inB x.c b 4294967295 = q := ⟨_, rfl⟩
  obtain ⟨q3, hq3⟩ : ∃ q, inB x.s b 16777215 = q := ⟨_, rfl⟩
  obtain ⟨q4, hq4⟩ : ∃ q, inB x.t b 16777215 = q := ⟨_, rfl⟩
  rw [hq1, hq2, hq3, hq4]
  simp only [hq1] at H1
  simp only [hq2] at H2
  simp only [hq3] at H3
  simp only [hq4] at H4
  have hbw : ∀ w3, Below w2.heap.size w2 w3 → Below w.heap.size w w3 := fun w3 hb3 => hsw.2.trans (hb3.mono hsw.2.size)
  have HBW := Lib.hid hbw
  obtain ⟨g0, g2, g3⟩ := hsw.geo
  obtain ⟨c0, c1, c2, c3⟩ := hsw.four
  clear h1 h2 h3 h4 hq1 hq2 hq3 hq4 hsw hok hb hn hbw
  rw [← hw2] at g0 g2 g3 c0 c1 c2 c3
  clear hw2
  go_enter Try.func47, Try.ntmps47
  go_wp2_with (first | (go_at_call 50; rw [HW2.out]; refine (H1.out w2 (Below.refl _ _)).mono ?_))
  rintro e w4 ⟨rfl, hb4'⟩
  clear g0 g2 g3 c0 c1 c2 c3
  have hsw4 := HSW.out.call hb4'
  have HB4 := Lib.hid hb4'
  cases q1
  · clear hsw4 hb4'
    go_wp2_with fail
    go_ret
    exact ⟨rfl, HBW.out _ HB4.out⟩
  obtain ⟨g0, g2, g3⟩ := hsw4.geo
  obtain ⟨c0, c1, c2, c3⟩ := hsw4.four
  clear hsw4 hb4'
  go_wp2_with fail
  refine (H2.out w4 HB4.out).mono ?_
  rintro e w5 ⟨rfl, hb5⟩
  have hb5' := HB4.out.trans (hb5.mono HB4.out.size)
  clear g0 g2 g3 c0 c1 c2 c3 hb5
  have hsw5 := HSW.out.call hb5'
  have HB5 := Lib.hid hb5'
  cases q2
  · clear hsw5 hb5'
    go_wp2_with fail
    go_ret
    exact ⟨rfl, HBW.out _ HB5.out⟩
  obtain ⟨g0, g2, g3⟩ := hsw5.geo
  obtain ⟨c0, c1, c2, c3⟩ := hsw5.four
  clear hsw5 hb5'
  go_wp2_with fail
  refine (H3.out w5 HB5.out).mono ?_
  rintro e w6 ⟨rfl, hb6⟩
  have hb6' := HB5.out.trans (hb6.mono HB5.out.size)
  clear g0 g2 g3 c0 c1 c2 c3 hb6
  have hsw6 := HSW.out.call hb6'
  have HB6 := Lib.hid hb6'
  cases q3
  · clear hsw6 hb6'
    go_wp2_with fail
    go_ret
    exact ⟨rfl, HBW.out _ HB6.out⟩
  obtain ⟨g0, g2, g3⟩ := hsw6.geo
  obtain ⟨c0, c1, c2, c3⟩ := hsw6.four
  clear hsw6 hb6'
  go_wp2_with fail
  refine (H4.out w6 HB6.out).mono ?_
  rintro e w7 ⟨rfl, hb7⟩
  have HB7 := Lib.hid (HB6.out.trans (hb7.mono HB6.out.size))
  clear g0 g2 g3 c0 c1 c2 c3 hb7
  go_wp2_with fail
  go_ret
  exact ⟨rfl, HBW.out _ HB7.out⟩

set_option maxHeartbeats 1000000 in
theorem sn_fits (w : World) (b l y n s r : Int) (A : Array Value) (x : Sn) (hA : SnAt w A x) :
    Calls Try.prog 36 #[.agg (gv b l y n s r), .agg A] w fun e w' => e = .returned (.bool (fitsB b l y n s r x)) ∧ Below w.heap.size w w' := by
  obtain ⟨w2, hw2⟩ : ∃ w2, (w.alloc (.cells (gv b l y n s r) 23)).alloc (.cells A 32) = w2 := ⟨_, rfl⟩
  have hsw : SnW w b l y n s r A w2 := by rw [← hw2]; exact SnW.new _ _ _ _ _ _ _ _
  have hs4 : A.size = 4 := by obtain ⟨_, _, _, _, rfl, _⟩ := hA; rfl
  have HS4 : Hid ((Try.prog.info? 32).map (·.size) = some A.size) := by rw [hs4]; exact size_state
  have HFI : Hid (OkG b l y n s r → ∀ w3, Below w2.heap.size w2 w3 → Calls Try.prog 47 #[.agg (gv b l y n s r), .agg A] w3 fun e w' => e = .returned (.bool (fitB b n x)) ∧ Below w3.heap.size w3 w') := fun hok w3 hb3 => sn_isof w3 b l y n s r A x hok ((hA.below hsw.2).below hb3)
  have HSW := Lib.hid hsw
  have HW2 := Lib.hid hw2
  have HBW : Hid (∀ w3, Below w2.heap.size w2 w3 → Below w.heap.size w w3) := fun w3 hb3 => hsw.2.trans (hb3.mono hsw.2.size)
  rcases chk_eq0 b l y n s r with ⟨hck, hok⟩ | ⟨hck, hok⟩
  · have hfe : fitsB b l y n s r x = fitB b n x := by rw [fitsB_ok hok, fitB_eq]
    rw [hfe]
    have HK := Lib.hid hck
    have HFI2 := Lib.hid (HFI.out hok)
    clear hck hsw hok hw2 hfe hs4 HFI hA
    go_enter Try.func36, Try.ntmps36
    go_wp2_with (first
      | (change wpList _ _ _ _ _ ((w.alloc (.cells (gv b l y n s r) 23)).alloc (.cells A 32)); rw [HW2.out]; refine wpList_load_row rfl 23 (.tmp 2) rfl w.heap.size rfl 23 (gv b l y n s r) (0, 0) _ HSW.out.1.2.1 Try.underlying23 rfl size_geo ?_))
    refine (ge_check b l y n s r w2).mono ?_
    rintro e w3 ⟨rfl, hb3⟩
    rw [HK.out]
    have HB3 := Lib.hid hb3
    clear hb3
    go_wp2_with (first
      | (refine wpList_load_row_if (by kernel_rfl) 23 (.tmp 2) rfl w.heap.size rfl 23 (gv b l y n s r) (0, 0) _ (HSW.out.call HB3.out).1.2.1 Try.underlying23 rfl size_geo ?_)
      | (refine wpList_load_row_if (by kernel_rfl) 32 (.tmp 3) rfl (w.heap.size + 1) rfl 32 A (0, 0) _ (HSW.out.call HB3.out).1.2.2 Try.underlying32 rfl HS4.out ?_))
    refine (HFI2.out w3 HB3.out).mono ?_
    rintro e w4 ⟨rfl, hb4⟩
    have HB4 := Lib.hid (HB3.out.trans (hb4.mono HB3.out.size))
    clear hb4 HB3
    go_wp2_with fail
    go_ret
    exact ⟨rfl, HBW.out _ HB4.out⟩
  · rw [fitsB_no hok]
    have HK := Lib.hid hck
    clear hck hsw hok hw2 hs4 HFI hA
    go_enter Try.func36, Try.ntmps36
    go_wp2_with (first
      | (change wpList _ _ _ _ _ ((w.alloc (.cells (gv b l y n s r) 23)).alloc (.cells A 32)); rw [HW2.out]; refine wpList_load_row rfl 23 (.tmp 2) rfl w.heap.size rfl 23 (gv b l y n s r) (0, 0) _ HSW.out.1.2.1 Try.underlying23 rfl size_geo ?_))
    refine (ge_check b l y n s r w2).mono ?_
    rintro e w3 ⟨rfl, hb3⟩
    rw [HK.out]
    have HB3 := Lib.hid hb3
    clear hb3
    go_wp2_with fail
    go_ret
    exact ⟨rfl, HBW.out _ HB3.out⟩

end Go.Proofs.Ytgnjknboahcmgaa

/- Package state, walked: Of. -/
namespace Go.Proofs.Ytgnjknboahcmgaa
set_option maxRecDepth 100000
open Go.RowKit

theorem iv_clone {w : World} {g o n c : Nat} {l : List Int} (h : IvAt w (.slice (some ⟨g, o, none⟩) n c) l) (hn : 1 ≤ n) (hz : n ≤ 1000000) :
    Calls Try.prog 34 #[.slice (some ⟨g, o, none⟩) n c] w fun e w' => (∃ g' cap, e = .returned (.slice (some ⟨g', 0, none⟩) n cap) ∧ w.heap.size ≤ g' ∧ RowI w' g' n cap l) ∧ Below w.heap.size w w' := by
  obtain ⟨oa, cap, hv, _, hk⟩ := h
  obtain ⟨rfl, rfl, rfl⟩ : some ⟨g, o, none⟩ = oa ∧ n = l.length ∧ c = cap := by cases hv; exact ⟨rfl, rfl, rfl⟩
  obtain ⟨b, off, e, _, hc⟩ := hk (by intro h0; rw [h0] at hn; simp at hn)
  obtain ⟨rfl, rfl⟩ : g = b ∧ o = off := by cases e; exact ⟨rfl, rfl⟩
  exact st_clone g o l.length c l w rfl (by omega) hc
/-- the source's four slices -/
def srA (gf pf cf gc pc cc gs ps cs gt pt ct b n : Nat) : Array Value := #[.slice (some ⟨gf, pf, none⟩) n cf, .slice (some ⟨gc, pc, none⟩) b cc, .slice (some ⟨gs, ps, none⟩) b cs, .slice (some ⟨gt, pt, none⟩) b ct]
def SrAt (gf pf cf gc pc cc gs ps cs gt pt ct b n : Nat) (x : Sn) (w : World) : Prop := IvAt w (.slice (some ⟨gf, pf, none⟩) n cf) x.f ∧ IvAt w (.slice (some ⟨gc, pc, none⟩) b cc) x.c ∧ IvAt w (.slice (some ⟨gs, ps, none⟩) b cs) x.s ∧ IvAt w (.slice (some ⟨gt, pt, none⟩) b ct) x.t
theorem SrAt.call {gf pf cf gc pc cc gs ps cs gt pt ct b n : Nat} {x : Sn} {w w' : World} (h : SrAt gf pf cf gc pc cc gs ps cs gt pt ct b n x w) (hb : Below w.heap.size w w') : SrAt gf pf cf gc pc cc gs ps cs gt pt ct b n x w' :=
  ⟨h.1.below hb, h.2.1.below hb, h.2.2.1.below hb, h.2.2.2.below hb⟩
/-- while Of runs -/
def CO (w0 : World) (B l y N s r : Int) (gf pf cf gc pc cc gs ps cs gt pt ct b n : Nat) (x : Sn) (w : World) : Prop :=
  SnW w0 B l y N s r (srA gf pf cf gc pc cc gs ps cs gt pt ct b n) w ∧ SrAt gf pf cf gc pc cc gs ps cs gt pt ct b n x w
theorem CO.call {w0 w w' : World} {B l y N s r : Int} {gf pf cf gc pc cc gs ps cs gt pt ct b n : Nat} {x : Sn} (h : CO w0 B l y N s r gf pf cf gc pc cc gs ps cs gt pt ct b n x w) (hb : Below w.heap.size w w') : CO w0 B l y N s r gf pf cf gc pc cc gs ps cs gt pt ct b n x w' := ⟨h.1.call hb, h.2.call hb⟩
theorem CO.size {w0 w : World} {B l y N s r : Int} {gf pf cf gc pc cc gs ps cs gt pt ct b n : Nat} {x : Sn} (h : CO w0 B l y N s r gf pf cf gc pc cc gs ps cs gt pt ct b n x w) : w0.heap.size ≤ w.heap.size := h.1.2.size
theorem Rw4.lts {B g0 g1 g2 g3 k0 k1 k2 k3 n b : Nat} {x : Sn} {w : World} (h : Rw4 B g0 g1 g2 g3 k0 k1 k2 k3 n b x w) : g0 < w.heap.size ∧ g1 < w.heap.size ∧ g2 < w.heap.size ∧ g3 < w.heap.size := ⟨h.2.1.lt, h.2.2.1.lt, h.2.2.2.1.lt, h.2.2.2.2.lt⟩
/-- the keeper in block q -/
def OfP (B b n : Nat) (x : Sn) (q : Nat) (w : World) : Prop := ∃ g0 g1 g2 g3 k0 k1 k2 k3, D4 g0 g1 g2 g3 ∧ Rw4 B g0 g1 g2 g3 k0 k1 k2 k3 n b x w ∧ B ≤ q ∧ (g0 < q ∧ g1 < q ∧ g2 < q ∧ g3 < q) ∧ Blk w q (kpV g0 g1 g2 g3 k0 k1 k2 k3 n b) 62
theorem OfP.call {B b n q : Nat} {x : Sn} {w w' : World} (h : OfP B b n x q w) (hb : Below w.heap.size w w') : OfP B b n x q w' := by
  obtain ⟨g0, g1, g2, g3, k0, k1, k2, k3, h1, h2, h3, h4, h5⟩ := h
  exact ⟨g0, g1, g2, g3, k0, k1, k2, k3, h1, h2.call hb, h3, h4, h5.after hb⟩
theorem OfP.kp {B b n q : Nat} {x : Sn} {w : World} (h : OfP B b n x q w) : Kp B w.heap.size w q x := by
  obtain ⟨g0, g1, g2, g3, k0, k1, k2, k3, ⟨⟨d1, d2, d3⟩, ⟨d4, d5⟩, d6⟩, ⟨⟨h0, h1, h2, h3⟩, r0, r1, r2, r3⟩, h4, ⟨l0, l1, l2, l3⟩, h5⟩ := h
  have hq := h5.lt
  refine ⟨⟨g0, g1, g2, g3, k0, k1, k2, k3, n, b⟩, ⟨⟨⟨⟨h4, hq⟩, ⟨h0, r0.lt⟩, ⟨h1, r1.lt⟩, ⟨h2, r2.lt⟩, ⟨h3, r3.lt⟩⟩, ⟨?_, ?_, ?_, ?_⟩, ⟨d1, d2, d3⟩, ⟨d4, d5⟩, d6⟩, Nat.le_refl _⟩, h5, r0, r1, r2, r3⟩
  · show q ≠ g0; omega
  · show q ≠ g1; omega
  · show q ≠ g2; omega
  · show q ≠ g3; omega
/-- what each operation leaves -/
def SpOF (B b n : Nat) (x : Sn) (j : Nat) (a : Act) (w : World) : Prop := match j with
  | 2 => ∃ g k, a.tmps.getD 18 undef = .slice (some ⟨g, 0, none⟩) n k ∧ B ≤ g ∧ RowI w g n k x.f
  | 5 => ∃ g k, a.tmps.getD 21 undef = .slice (some ⟨g, 0, none⟩) b k ∧ B ≤ g ∧ RowI w g b k x.c
  | 8 => ∃ g k, a.tmps.getD 24 undef = .slice (some ⟨g, 0, none⟩) b k ∧ B ≤ g ∧ RowI w g b k x.s
  | 11 => ∃ g k, a.tmps.getD 27 undef = .slice (some ⟨g, 0, none⟩) b k ∧ B ≤ g ∧ RowI w g b k x.t
  | 12 => ∃ g0 g1 g2 g3 k0 k1 k2 k3, a.tmps.getD 28 undef = .agg (kpV g0 g1 g2 g3 k0 k1 k2 k3 n b) ∧ D4 g0 g1 g2 g3 ∧ Rw4 B g0 g1 g2 g3 k0 k1 k2 k3 n b x w
  | 13 => ∃ g0 g1 g2 g3 k0 k1 k2 k3, a.tmps.getD 29 undef = .agg (kpV g0 g1 g2 g3 k0 k1 k2 k3 n b) ∧ D4 g0 g1 g2 g3 ∧ Rw4 B g0 g1 g2 g3 k0 k1 k2 k3 n b x w
  | 14 => ∃ q, a.tmps.getD 30 undef = .pointer (some ⟨q, 0, none⟩) ∧ OfP B b n x q w
  | _ => ∃ q, a.tmps.getD 4 undef = .pointer (some ⟨q, 0, none⟩) ∧ OfP B b n x q w
def fOF (j : Nat) : List Tmp := if j = 2 then [18] else if j = 5 then [21] else if j = 8 then [24] else if j = 11 then [27] else if j = 12 then [28] else if j = 13 then [29] else if j = 14 then [30] else [4]
theorem SpOF.ext (B b n : Nat) (x : Sn) : ∀ (j : Nat) (a a' : Act) (w w' : World), SpOF B b n x j a w → (∀ d ∈ fOF j, a'.tmps.getD d undef = a.tmps.getD d undef) → Goes w w' → SpOF B b n x j a' w' := by
  intro j a a' w w' h hd hT
  unfold SpOF at h ⊢
  split at h
  · obtain ⟨g, k, h1, h2, h3⟩ := h; exact ⟨g, k, (hd 18 (by simp [fOF])).trans h1, h2, h3.call hT⟩
  · obtain ⟨g, k, h1, h2, h3⟩ := h; exact ⟨g, k, (hd 21 (by simp [fOF])).trans h1, h2, h3.call hT⟩
  · obtain ⟨g, k, h1, h2, h3⟩ := h; exact ⟨g, k, (hd 24 (by simp [fOF])).trans h1, h2, h3.call hT⟩
  · obtain ⟨g, k, h1, h2, h3⟩ := h; exact ⟨g, k, (hd 27 (by simp [fOF])).trans h1, h2, h3.call hT⟩
  · obtain ⟨g0, g1, g2, g3, k0, k1, k2, k3, h1, h2, h3⟩ := h; exact ⟨g0, g1, g2, g3, k0, k1, k2, k3, (hd 28 (by simp [fOF])).trans h1, h2, h3.call hT⟩
  · obtain ⟨g0, g1, g2, g3, k0, k1, k2, k3, h1, h2, h3⟩ := h; exact ⟨g0, g1, g2, g3, k0, k1, k2, k3, (hd 29 (by simp [fOF])).trans h1, h2, h3.call hT⟩
  · obtain ⟨q, h1, h2⟩ := h; exact ⟨q, (hd 30 (by simp [fOF])).trans h1, h2.call hT⟩
  · rename_i n1 n2 n3 n4 n5 n6 n7
    obtain ⟨q, h1, h2⟩ := h
    refine ⟨q, (hd 4 ?_).trans h1, h2.call hT⟩
    unfold fOF
    rw [if_neg n1, if_neg n2, if_neg n3, if_neg n4, if_neg n5, if_neg n6, if_neg n7]
    exact List.mem_singleton.2 rfl

/-- what each operation of the region OF leaves -/
def vsOF (B gf pf cf gc pc cc gs ps cs gt pt ct b n : Nat) : List (Option (Tmp × Value)) :=
  [some (16, .pointer (some ⟨B + 1, 0, none⟩)), some (17, .slice (some ⟨gf, pf, none⟩) n cf), none, some (19, .pointer (some ⟨B + 1, 1, none⟩)), some (20, .slice (some ⟨gc, pc, none⟩) b cc), none, some (22, .pointer (some ⟨B + 1, 2, none⟩)), some (23, .slice (some ⟨gs, ps, none⟩) b cs), none, some (25, .pointer (some ⟨B + 1, 3, none⟩)), some (26, .slice (some ⟨gt, pt, none⟩) b ct), none, none, none, none, none, some (5, .int .i64 0)]
/-- the frame while the region OF runs -/
def BaseOF (B : Nat) (a : Act) : Prop := ∃ u : Nat → Value, a = ⟨#[u 0, u 1, .pointer (some ⟨B, 0, none⟩), .pointer (some ⟨B + 1, 0, none⟩), u 4, u 5, u 6, u 7, u 8, u 9, u 10, u 11, u 12, u 13, u 14, u 15, u 16, u 17, u 18, u 19, u 20, u 21, u 22, u 23, u 24, u 25, u 26, u 27, u 28, u 29, u 30], []⟩
theorem BaseOF.of {B : Nat} (arr : Array Value) (h : arr = #[arr.getD 0 undef, arr.getD 1 undef, .pointer (some ⟨B, 0, none⟩), .pointer (some ⟨B + 1, 0, none⟩), arr.getD 4 undef, arr.getD 5 undef, arr.getD 6 undef, arr.getD 7 undef, arr.getD 8 undef, arr.getD 9 undef, arr.getD 10 undef, arr.getD 11 undef, arr.getD 12 undef, arr.getD 13 undef, arr.getD 14 undef, arr.getD 15 undef, arr.getD 16 undef, arr.getD 17 undef, arr.getD 18 undef, arr.getD 19 undef, arr.getD 20 undef, arr.getD 21 undef, arr.getD 22 undef, arr.getD 23 undef, arr.getD 24 undef, arr.getD 25 undef, arr.getD 26 undef, arr.getD 27 undef, arr.getD 28 undef, arr.getD 29 undef, arr.getD 30 undef]) : BaseOF B ⟨arr, []⟩ := ⟨fun i => arr.getD i undef, by rw [← h]⟩
theorem BaseOF.put16 {B : Nat} (a : Act) (v : Value) (h : BaseOF B a) : BaseOF B (a.put (some 16) v) := by
  obtain ⟨u, rfl⟩ := h
  exact ⟨fun i => if i = 16 then v else u i, by kernel_rfl⟩
theorem BaseOF.put17 {B : Nat} (a : Act) (v : Value) (h : BaseOF B a) : BaseOF B (a.put (some 17) v) := by
  obtain ⟨u, rfl⟩ := h
  exact ⟨fun i => if i = 17 then v else u i, by kernel_rfl⟩
theorem BaseOF.put18 {B : Nat} (a : Act) (v : Value) (h : BaseOF B a) : BaseOF B (a.put (some 18) v) := by
  obtain ⟨u, rfl⟩ := h
  exact ⟨fun i => if i = 18 then v else u i, by kernel_rfl⟩
theorem BaseOF.put19 {B : Nat} (a : Act) (v : Value) (h : BaseOF B a) : BaseOF B (a.put (some 19) v) := by
  obtain ⟨u, rfl⟩ := h
  exact ⟨fun i => if i = 19 then v else u i, by kernel_rfl⟩
theorem BaseOF.put20 {B : Nat} (a : Act) (v : Value) (h : BaseOF B a) : BaseOF B (a.put (some 20) v) := by
  obtain ⟨u, rfl⟩ := h
  exact ⟨fun i => if i = 20 then v else u i, by kernel_rfl⟩
theorem BaseOF.put21 {B : Nat} (a : Act) (v : Value) (h : BaseOF B a) : BaseOF B (a.put (some 21) v) := by
  obtain ⟨u, rfl⟩ := h
  exact ⟨fun i => if i = 21 then v else u i, by kernel_rfl⟩
theorem BaseOF.put22 {B : Nat} (a : Act) (v : Value) (h : BaseOF B a) : BaseOF B (a.put (some 22) v) := by
  obtain ⟨u, rfl⟩ := h
  exact ⟨fun i => if i = 22 then v else u i, by kernel_rfl⟩
theorem BaseOF.put23 {B : Nat} (a : Act) (v : Value) (h : BaseOF B a) : BaseOF B (a.put (some 23) v) := by
  obtain ⟨u, rfl⟩ := h
  exact ⟨fun i => if i = 23 then v else u i, by kernel_rfl⟩
theorem BaseOF.put24 {B : Nat} (a : Act) (v : Value) (h : BaseOF B a) : BaseOF B (a.put (some 24) v) := by
  obtain ⟨u, rfl⟩ := h
  exact ⟨fun i => if i = 24 then v else u i, by kernel_rfl⟩
theorem BaseOF.put25 {B : Nat} (a : Act) (v : Value) (h : BaseOF B a) : BaseOF B (a.put (some 25) v) := by
  obtain ⟨u, rfl⟩ := h
  exact ⟨fun i => if i = 25 then v else u i, by kernel_rfl⟩
theorem BaseOF.put26 {B : Nat} (a : Act) (v : Value) (h : BaseOF B a) : BaseOF B (a.put (some 26) v) := by
  obtain ⟨u, rfl⟩ := h
  exact ⟨fun i => if i = 26 then v else u i, by kernel_rfl⟩
theorem BaseOF.put27 {B : Nat} (a : Act) (v : Value) (h : BaseOF B a) : BaseOF B (a.put (some 27) v) := by
  obtain ⟨u, rfl⟩ := h
  exact ⟨fun i => if i = 27 then v else u i, by kernel_rfl⟩
theorem BaseOF.put28 {B : Nat} (a : Act) (v : Value) (h : BaseOF B a) : BaseOF B (a.put (some 28) v) := by
  obtain ⟨u, rfl⟩ := h
  exact ⟨fun i => if i = 28 then v else u i, by kernel_rfl⟩
theorem BaseOF.put29 {B : Nat} (a : Act) (v : Value) (h : BaseOF B a) : BaseOF B (a.put (some 29) v) := by
  obtain ⟨u, rfl⟩ := h
  exact ⟨fun i => if i = 29 then v else u i, by kernel_rfl⟩
theorem BaseOF.put30 {B : Nat} (a : Act) (v : Value) (h : BaseOF B a) : BaseOF B (a.put (some 30) v) := by
  obtain ⟨u, rfl⟩ := h
  exact ⟨fun i => if i = 30 then v else u i, by kernel_rfl⟩
theorem BaseOF.put4 {B : Nat} (a : Act) (v : Value) (h : BaseOF B a) : BaseOF B (a.put (some 4) v) := by
  obtain ⟨u, rfl⟩ := h
  exact ⟨fun i => if i = 4 then v else u i, by kernel_rfl⟩
theorem BaseOF.put5 {B : Nat} (a : Act) (v : Value) (h : BaseOF B a) : BaseOF B (a.put (some 5) v) := by
  obtain ⟨u, rfl⟩ := h
  exact ⟨fun i => if i = 5 then v else u i, by kernel_rfl⟩

/-- what Of answers -/
def OfK (b l y n s r : Int) (x : Sn) (w : World) (e : Ending) (w' : World) : Prop :=
  (OkG b l y n s r → FitS b n x → ∃ o, e = .returned (.tuple #[.pointer (some ⟨o, 0, none⟩), .int .i64 0]) ∧ Kp w.heap.size w'.heap.size w' o x)
  ∧ (¬ OkG b l y n s r → e = .returned (.tuple #[.pointer none, .int .i64 60])) ∧ (OkG b l y n s r → ¬ FitS b n x → e = .returned (.tuple #[.pointer none, .int .i64 130])) ∧ Below w.heap.size w w'
/-- a slice of numbers that are there -/
theorem iv_some {w : World} {v : Value} {l : List Int} {n : Nat} (h : IvAt w v l) (hl : l.length = n) (hn : 1 ≤ n) : ∃ g o c, v = .slice (some ⟨g, o, none⟩) n c ∧ IvAt w (.slice (some ⟨g, o, none⟩) n c) l := by
  have h' := h
  obtain ⟨oa, cap, rfl, _, hk⟩ := h
  obtain ⟨b, off, rfl, _⟩ := hk (by intro h0; rw [h0] at hl; simp at hl; omega)
  subst hl
  exact ⟨b, off, cap, rfl, h'⟩

set_option maxHeartbeats 4000000 in
theorem st_of (b l y n s r : Int) (A : Array Value) (x : Sn) (w : World) (hA : SnAt w A x) : Calls Try.prog 20 #[.agg (gv b l y n s r), .agg A] w (OfK b l y n s r x w) := by
  obtain ⟨w2, hw2⟩ : ∃ w2, (w.alloc (.cells (gv b l y n s r) 23)).alloc (.cells A 32) = w2 := ⟨_, rfl⟩
  have hsw : SnW w b l y n s r A w2 := by rw [← hw2]; exact SnW.new _ _ _ _ _ _ _ _
  have hs4 : A.size = 4 := by obtain ⟨_, _, _, _, rfl, _⟩ := hA; rfl
  have HS4 : Hid ((Try.prog.info? 32).map (·.size) = some A.size) := by rw [hs4]; exact size_state
  have HSW := Lib.hid hsw
  have HSA : Hid (SnAt w2 A x) := hA.below hsw.2
  have HW2 := Lib.hid hw2
  clear hsw hw2 hA hs4
  go_enter Try.func20, Try.ntmps20
  go_wp2_with (first
    | (change wpList _ _ _ _ _ ((w.alloc (.cells (gv b l y n s r) 23)).alloc (.cells A 32)); rw [HW2.out]; refine wpList_load_row rfl 23 (.tmp 2) rfl w.heap.size rfl 23 (gv b l y n s r) (0, 0) _ HSW.out.1.2.1 Try.underlying23 rfl size_geo ?_))
  refine (ge_check b l y n s r w2).mono ?_
  rintro e w3 ⟨rfl, hb3⟩
  have HSW3 := Lib.hid (HSW.out.call hb3)
  have HSA3 := Lib.hid (HSA.out.below hb3)
  clear hb3 HSW HSA HW2
  by_cases hok : OkG b l y n s r
  · rw [chk_ok hok]
    have HT := Lib.hid hok
    clear hok
    go_wp2_with (first
      | (refine wpList_load_row rfl 23 (.tmp 2) rfl w.heap.size rfl 23 (gv b l y n s r) (0, 0) _ HSW3.out.1.2.1 Try.underlying23 rfl size_geo ?_)
      | (refine wpList_load_row rfl 32 (.tmp 3) rfl (w.heap.size + 1) rfl 32 A (0, 0) _ HSW3.out.1.2.2 Try.underlying32 rfl HS4.out ?_))
    refine (sn_fits w3 b l y n s r A x HSA3.out).mono ?_
    rintro e w5 ⟨rfl, hb5⟩
    have HSW5 := Lib.hid (HSW3.out.call hb5)
    have HSA5 := Lib.hid (HSA3.out.below hb5)
    clear hb5 HSW3 HSA3
    by_cases hf : FitS b n x
    · have hfb : fitsB b l y n s r x = true := decide_eq_true ⟨HT.out, hf⟩
      rw [hfb]
      have HNB : Hid (n ≤ 4096 ∧ 1 ≤ n ∧ 8 ≤ b ∧ b ≤ 64) := by
        obtain ⟨h1, _, _⟩ := HT.out
        unfold PreG at h1
        show n ≤ 4096 ∧ 1 ≤ n ∧ 8 ≤ b ∧ b ≤ 64
        omega
      have h5 := HNB.out
      have HF := Lib.hid hf
      obtain ⟨b, rfl⟩ : ∃ k : Nat, b = k := ⟨b.toNat, by omega⟩
      obtain ⟨n, rfl⟩ : ∃ k : Nat, n = k := ⟨n.toNat, by omega⟩
      have HNN : Hid (n ≤ 4096 ∧ b ≤ 64 ∧ 1 ≤ n ∧ 8 ≤ b) := by show n ≤ 4096 ∧ b ≤ 64 ∧ 1 ≤ n ∧ 8 ≤ b; omega
      have hl1 : x.f.length = n := by have := hf.1.1; omega
      have hl2 : x.c.length = b := by have := hf.2.1.1; omega
      have hl3 : x.s.length = b := by have := hf.2.2.1.1; omega
      have hl4 : x.t.length = b := by have := hf.2.2.2.1; omega
      obtain ⟨vf, vc, vs, vt, rfl, i1, i2, i3, i4⟩ := HSA5.out
      obtain ⟨gf, pf, cf, rfl, j1⟩ := iv_some i1 hl1 (by omega)
      obtain ⟨gc, pc, cc, rfl, j2⟩ := iv_some i2 hl2 (by omega)
      obtain ⟨gs, ps, cs, rfl, j3⟩ := iv_some i3 hl3 (by omega)
      obtain ⟨gt, pt, ct, rfl, j4⟩ := iv_some i4 hl4 (by omega)
      have HC5 : Hid (CO w b l y n s r gf pf cf gc pc cc gs ps cs gt pt ct b n x w5) := ⟨HSW5.out, j1, j2, j3, j4⟩
      clear h5 HNB hf hfb hl1 hl2 hl3 hl4 i1 i2 i3 i4 j1 j2 j3 j4 HSW5 HSA5 HS4
      go_upto_region 6 with fail
      rename_i K0 hK0
      refine wp_region_list3J (SV2S (vsOF w.heap.size gf pf cf gc pc cc gs ps cs gt pt ct b n) fOF) (BaseOF w.heap.size) (fun a w' => CO w b l y n s r gf pf cf gc pc cc gs ps cs gt pt ct b n x w' ∧ J4 (a.tmps.getD 18 undef) (a.tmps.getD 21 undef) (a.tmps.getD 24 undef) (a.tmps.getD 27 undef) w') (Goes) (RV (vsOF w.heap.size gf pf cf gc pc cc gs ps cs gt pt ct b n) (SpOF w.heap.size b n x)) rfl (by kernel_rfl) (RV.ext2S (f := fOF) (SpOF.ext w.heap.size b n x)) ?_ (⟨HC5.out.call (Below.refl _ _).drew, J4.nil _⟩) (BaseOF.of _ (by kernel_rfl)) ?_ ?_
      · exact ⟨BaseOF.put16, BaseOF.put17, BaseOF.put18, BaseOF.put19, BaseOF.put20, BaseOF.put21, BaseOF.put22, BaseOF.put23, BaseOF.put24, BaseOF.put25, BaseOF.put26, BaseOF.put27, BaseOF.put28, BaseOF.put29, BaseOF.put30, BaseOF.put4, BaseOF.put5, trivial⟩
      · refine ⟨?_, ?_, ?_, ?_, ?_, ?_, ?_, ?_, ?_, ?_, ?_, ?_, ?_, ?_, ?_, ?_, ?_, trivial⟩
        all_goals
          intro a w' hC hB hR
          obtain ⟨u, rfl⟩ := hB
          have HC := Lib.hid hC
          clear hC
          clear hK0
        · clear hR
          refine if_yes (by kernel_rfl) ?_
          unfold Oper.wp
          go_simp
          exact ⟨.pointer (some ⟨w.heap.size + 1, 0, none⟩), rfl, HC.out, Goes.refl _, rfl⟩
        · have h16 : u 16 = .pointer (some ⟨w.heap.size + 1, 0, none⟩) := hR ⟨0, .data⟩ (by simp) rfl
          have hc : w'.cell? ⟨w.heap.size + 1, 0, none⟩ = some (.slice (some ⟨gf, pf, none⟩) n cf) := HC.out.1.1.1.2.2.cell 0
          clear hR
          simp only [h16]
          clear h16
          refine if_yes (by kernel_rfl) ?_
          unfold Oper.wp
          go_simp
          exact ⟨.slice (some ⟨gf, pf, none⟩) n cf, rfl, HC.out, Goes.refl _, rfl⟩
        · have h17 : u 17 = .slice (some ⟨gf, pf, none⟩) n cf := hR ⟨1, .data⟩ (by simp) rfl
          clear hR
          simp only [h17]
          clear h17
          refine if_yes (by kernel_rfl) ?_
          unfold Oper.wp
          go_simp
          refine (iv_clone HC.out.1.2.1 (by have := HNN.out; omega) (by have := HNN.out; omega)).mono ?_
          rintro e w2 ⟨⟨g, k, rfl, hg, hr⟩, hb2⟩
          exact ⟨.slice (some ⟨g, 0, none⟩) n k, rfl, ⟨HC.out.1.call hb2, HC.out.2.new0 _ _ hg hr.lt hb2.size⟩, hb2, ⟨g, k, rfl, Nat.le_trans HC.out.1.size hg, hr⟩⟩
        · clear hR
          refine if_yes (by kernel_rfl) ?_
          unfold Oper.wp
          go_simp
          exact ⟨.pointer (some ⟨w.heap.size + 1, 1, none⟩), rfl, HC.out, Goes.refl _, rfl⟩
        · have h19 : u 19 = .pointer (some ⟨w.heap.size + 1, 1, none⟩) := hR ⟨3, .data⟩ (by simp) rfl
          have hc : w'.cell? ⟨w.heap.size + 1, 1, none⟩ = some (.slice (some ⟨gc, pc, none⟩) b cc) := HC.out.1.1.1.2.2.cell 1
          clear hR
          simp only [h19]
          clear h19
          refine if_yes (by kernel_rfl) ?_
          unfold Oper.wp
          go_simp
          exact ⟨.slice (some ⟨gc, pc, none⟩) b cc, rfl, HC.out, Goes.refl _, rfl⟩
        · have h20 : u 20 = .slice (some ⟨gc, pc, none⟩) b cc := hR ⟨4, .data⟩ (by simp) rfl
          clear hR
          simp only [h20]
          clear h20
          refine if_yes (by kernel_rfl) ?_
          unfold Oper.wp
          go_simp
          refine (iv_clone HC.out.1.2.2.1 (by have := HNN.out; omega) (by have := HNN.out; omega)).mono ?_
          rintro e w2 ⟨⟨g, k, rfl, hg, hr⟩, hb2⟩
          exact ⟨.slice (some ⟨g, 0, none⟩) b k, rfl, ⟨HC.out.1.call hb2, HC.out.2.new1 _ _ hg hr.lt hb2.size⟩, hb2, ⟨g, k, rfl, Nat.le_trans HC.out.1.size hg, hr⟩⟩
        · clear hR
          refine if_yes (by kernel_rfl) ?_
          unfold Oper.wp
          go_simp
          exact ⟨.pointer (some ⟨w.heap.size + 1, 2, none⟩), rfl, HC.out, Goes.refl _, rfl⟩
        · have h22 : u 22 = .pointer (some ⟨w.heap.size + 1, 2, none⟩) := hR ⟨6, .data⟩ (by simp) rfl
          have hc : w'.cell? ⟨w.heap.size + 1, 2, none⟩ = some (.slice (some ⟨gs, ps, none⟩) b cs) := HC.out.1.1.1.2.2.cell 2
          clear hR
          simp only [h22]
          clear h22
          refine if_yes (by kernel_rfl) ?_
          unfold Oper.wp
          go_simp
          exact ⟨.slice (some ⟨gs, ps, none⟩) b cs, rfl, HC.out, Goes.refl _, rfl⟩
        · have h23 : u 23 = .slice (some ⟨gs, ps, none⟩) b cs := hR ⟨7, .data⟩ (by simp) rfl
          clear hR
          simp only [h23]
          clear h23
          refine if_yes (by kernel_rfl) ?_
          unfold Oper.wp
          go_simp
          refine (iv_clone HC.out.1.2.2.2.1 (by have := HNN.out; omega) (by have := HNN.out; omega)).mono ?_
          rintro e w2 ⟨⟨g, k, rfl, hg, hr⟩, hb2⟩
          exact ⟨.slice (some ⟨g, 0, none⟩) b k, rfl, ⟨HC.out.1.call hb2, HC.out.2.new2 _ _ hg hr.lt hb2.size⟩, hb2, ⟨g, k, rfl, Nat.le_trans HC.out.1.size hg, hr⟩⟩
        · clear hR
          refine if_yes (by kernel_rfl) ?_
          unfold Oper.wp
          go_simp
          exact ⟨.pointer (some ⟨w.heap.size + 1, 3, none⟩), rfl, HC.out, Goes.refl _, rfl⟩
        · have h25 : u 25 = .pointer (some ⟨w.heap.size + 1, 3, none⟩) := hR ⟨9, .data⟩ (by simp) rfl
          have hc : w'.cell? ⟨w.heap.size + 1, 3, none⟩ = some (.slice (some ⟨gt, pt, none⟩) b ct) := HC.out.1.1.1.2.2.cell 3
          clear hR
          simp only [h25]
          clear h25
          refine if_yes (by kernel_rfl) ?_
          unfold Oper.wp
          go_simp
          exact ⟨.slice (some ⟨gt, pt, none⟩) b ct, rfl, HC.out, Goes.refl _, rfl⟩
        · have h26 : u 26 = .slice (some ⟨gt, pt, none⟩) b ct := hR ⟨10, .data⟩ (by simp) rfl
          clear hR
          simp only [h26]
          clear h26
          refine if_yes (by kernel_rfl) ?_
          unfold Oper.wp
          go_simp
          refine (iv_clone HC.out.1.2.2.2.2 (by have := HNN.out; omega) (by have := HNN.out; omega)).mono ?_
          rintro e w2 ⟨⟨g, k, rfl, hg, hr⟩, hb2⟩
          exact ⟨.slice (some ⟨g, 0, none⟩) b k, rfl, ⟨HC.out.1.call hb2, HC.out.2.new3 _ _ hg hr.lt hb2.size⟩, hb2, ⟨g, k, rfl, Nat.le_trans HC.out.1.size hg, hr⟩⟩
        · obtain ⟨g0, k0, h0, b0, r0⟩ := hR ⟨2, .data⟩ (by simp) rfl
          obtain ⟨g1, k1, h1, b1, r1⟩ := hR ⟨5, .data⟩ (by simp) rfl
          obtain ⟨g2, k2, h2, b2, r2⟩ := hR ⟨8, .data⟩ (by simp) rfl
          obtain ⟨g3, k3, h3, b3, r3⟩ := hR ⟨11, .data⟩ (by simp) rfl
          have h0 : u 18 = .slice (some ⟨g0, 0, none⟩) n k0 := h0
          have h1 : u 21 = .slice (some ⟨g1, 0, none⟩) b k1 := h1
          have h2 : u 24 = .slice (some ⟨g2, 0, none⟩) b k2 := h2
          have h3 : u 27 = .slice (some ⟨g3, 0, none⟩) b k3 := h3
          have hj : J4 (u 18) (u 21) (u 24) (u 27) w' := HC.out.2
          rw [h0, h1, h2, h3] at hj
          have hd := hj.apart
          have HJ := Lib.hid hj
          clear hj
          clear hR
          refine if_yes (by kernel_rfl) ?_
          simp only [h0, h1, h2, h3]
          unfold Oper.wp
          go_simp
          exact ⟨.agg (kpV g0 g1 g2 g3 k0 k1 k2 k3 n b), rfl, ⟨HC.out.1, HJ.out⟩, Goes.refl _, ⟨g0, g1, g2, g3, k0, k1, k2, k3, rfl, hd, ⟨b0, b1, b2, b3⟩, r0, r1, r2, r3⟩⟩
        · obtain ⟨g0, g1, g2, g3, k0, k1, k2, k3, h28, hk⟩ := hR ⟨12, .data⟩ (by simp) rfl
          have h28 : u 28 = .agg (kpV g0 g1 g2 g3 k0 k1 k2 k3 n b) := h28
          clear hR
          refine if_yes (by kernel_rfl) ?_
          simp only [h28]
          unfold Oper.wp
          unfold kpV
          go_simp
          exact ⟨.agg (kpV g0 g1 g2 g3 k0 k1 k2 k3 n b), rfl, ⟨HC.out.1, HC.out.2⟩, Goes.refl _, ⟨g0, g1, g2, g3, k0, k1, k2, k3, rfl, hk⟩⟩
        · obtain ⟨g0, g1, g2, g3, k0, k1, k2, k3, h29, hk⟩ := hR ⟨13, .data⟩ (by simp) rfl
          have h29 : u 29 = .agg (kpV g0 g1 g2 g3 k0 k1 k2 k3 n b) := h29
          clear hR
          refine if_yes (by kernel_rfl) ?_
          simp only [h29]
          unfold Oper.wp
          unfold kpV
          go_simp
          exact ⟨.pointer (some ⟨w'.heap.size, 0, none⟩), rfl, ⟨HC.out.1.call (goes_alloc _ _), HC.out.2.grow (by simp)⟩, goes_alloc _ _, ⟨w'.heap.size, rfl, g0, g1, g2, g3, k0, k1, k2, k3, hk.1, hk.2.call (goes_alloc _ _), HC.out.1.size, hk.2.lts, Blk.new _ _ _⟩⟩
        · obtain ⟨q, h30, hk⟩ := hR ⟨14, .data⟩ (by simp) rfl
          have h30 : u 30 = .pointer (some ⟨q, 0, none⟩) := h30
          clear hR
          refine if_yes (by kernel_rfl) ?_
          simp only [h30]
          unfold Oper.wp
          go_simp
          exact ⟨.pointer (some ⟨q, 0, none⟩), rfl, ⟨HC.out.1, HC.out.2⟩, Goes.refl _, ⟨q, rfl, hk⟩⟩
        · clear hR
          refine if_yes (by kernel_rfl) ?_
          unfold Oper.wp
          go_simp
          exact ⟨.int .i64 0, rfl, HC.out, Goes.refl _, rfl⟩
      · intro aa w6 hC hB hR
        obtain ⟨q, h2, hk⟩ := hR 15 (by decide)
        have h3 : aa.tmps.getD 5 undef = .int .i64 0 := hR 16 (by decide)
        clear hR
        have HBW : Hid (Below w.heap.size w w6) := hC.1.1.2
        obtain ⟨u, rfl⟩ := hB
        have h2 : u 4 = .pointer (some ⟨q, 0, none⟩) := h2
        have h3 : u 5 = .int .i64 0 := h3
        simp only [h2, h3]
        have HK : Hid (Kp w.heap.size w6.heap.size w6 q x) := hk.kp
        clear h2 h3 hk hC
        go_wp2_with fail
        go_ret2
        exact ⟨fun _ _ => ⟨q, rfl, HK.out⟩, fun h => absurd HT.out h, fun _ h => absurd HF.out h, HBW.out⟩
    · have hfb : fitsB b l y n s r x = false := decide_eq_false fun h => hf h.2
      rw [hfb]
      have HF := Lib.hid hf
      clear hf hfb
      go_wp2_with fail
      go_ret2
      exact ⟨fun _ h => absurd h HF.out, fun h => absurd HT.out h, fun _ _ => rfl, HSW5.out.2⟩
  · rw [chk_no hok]
    have HT := Lib.hid hok
    clear hok
    go_wp2_with fail
    go_ret2
    exact ⟨fun h => absurd h HT.out, fun _ => rfl, fun h => absurd h HT.out, HSW3.out.2⟩

end Go.Proofs.Ytgnjknboahcmgaa

/- Package state, walked: Wear. -/
namespace Go.Proofs.Ytgnjknboahcmgaa
set_option maxRecDepth 100000
open Go.RowKit

theorem RowI.drewN {w : World} {g n cap m : Nat} {l : List Int} (h : RowI w g n cap l) : RowI (w.drewN m) g n cap l := h.blk rfl
end Go.Proofs.Ytgnjknboahcmgaa

/- The book's Below, walked. -/
namespace Go.Proofs.Ytgnjknboahcmgaa
set_option maxRecDepth 100000
open Go.RowKit

end Go.Proofs.Ytgnjknboahcmgaa

/- Layer 14, the laws: the small geometry, whole, the chapter's example. -/
namespace Go.Proofs.Ytgnjknboahcmgaa
set_option maxRecDepth 100000
open Go.RowKit

theorem st_geo (w : World) : Calls Try.prog 22 #[] w fun e w' => e = .returned (.agg (gv 8 6 64 4 0 4)) ∧ Below w.heap.size w w' := by
  have HK := Lib.hid (Blk.new w #[.int .i64 0, .int .i64 0, .int .i64 0, .int .i64 0, .int .i64 0, .int .i64 0] 23)
  have HB := Lib.hid ((Below.refl w.heap.size w).alloc (Nat.le_refl _) (.cells #[.int .i64 0, .int .i64 0, .int .i64 0, .int .i64 0, .int .i64 0, .int .i64 0] 23))
  go_enter Try.func22, Try.ntmps22
  go_wp2_with (refine wpList_store_row rfl 23 _ _ rfl w.heap.size (gv 8 6 64 4 0 4) rfl rfl 23 _ HK.out size_geo rfl (gv_one _ _ _ _ _ _) ?_)
  exact bodyPost_ret (results_cell_st (P := Try.prog) rfl _ _ w.heap.size 23 (gv 8 6 64 4 0 4) _ rfl (HK.out.put _) Try.underlying23 rfl size_geo) rfl ⟨rfl, below_put (Nat.le_refl _) _ HB.out⟩
/-- a keeper of the small geometry -/
theorem st_small (w : World) : Calls Try.prog 8 #[.agg (gv 8 6 64 4 0 4)] w fun e w' => (∃ o, e = .returned (.tuple #[.pointer (some ⟨o, 0, none⟩), .int .i64 0]) ∧ Kp w.heap.size w'.heap.size w' o (newX 8 4)) ∧ Below w.heap.size w w' := by
  refine (st_new 8 6 64 4 0 4 w).mono ?_
  rintro e w' ⟨h1, _, h3⟩
  exact ⟨h1 (by decide), h3⟩
theorem ap_is {K0 K1 o : Nat} {x : Sn} (k a b : Int) {w : World} (h : Kp K0 K1 w o x) (hB : CntB x) :
    Calls Try.prog 11 #[.pointer (some ⟨o, 0, none⟩), .agg (ra k a b)] w fun e w' => e = .returned (.int .i64 (appE x ⟨k, a, b⟩)) ∧ Kp K0 K1 w' o (appX x ⟨k, a, b⟩) ∧ Out K0 K1 w w' := by
  obtain ⟨K, h⟩ := h
  refine (st_apply K0 K1 o K x k a b w h hB).mono ?_
  rintro e w' ⟨h1, h2, h3⟩
  exact ⟨h1, ⟨K, h2⟩, h3⟩
theorem cnt_new (b n : Nat) : CntB (newX b n) := ⟨fun v hv => by rw [List.eq_of_mem_replicate hv]; decide, fun v hv => by rw [List.eq_of_mem_replicate hv]; decide⟩
def ex0 : Sn := ⟨[0, 5, 0, 0], List.replicate 8 0, List.replicate 8 0, List.replicate 8 0⟩
theorem ex_one {K0 K1 o : Nat} {w : World} (h : Kp K0 K1 w o (newX 8 4)) :
    Calls Try.prog 11 #[.pointer (some ⟨o, 0, none⟩), .agg #[.int .i64 1, .int .i64 1, .int .i64 5]] w fun e w' => e = .returned (.int .i64 0) ∧ Kp K0 K1 w' o ex0 ∧ Out K0 K1 w w' := ap_is 1 1 5 h (cnt_new _ _)
theorem ex_two {K0 K1 o : Nat} {w : World} (h : Kp K0 K1 w o ex0) :
    Calls Try.prog 11 #[.pointer (some ⟨o, 0, none⟩), .agg #[.int .i64 2, .int .i64 1, .int .i64 3]] w fun e w' => e = .returned (.int .i64 0) ∧ Kp K0 K1 w' o ex0 ∧ Out K0 K1 w w' := ap_is 2 1 3 h (cnt_new 8 4)
theorem ex_three {K0 K1 o : Nat} {w : World} (h : Kp K0 K1 w o ex0) :
    Calls Try.prog 11 #[.pointer (some ⟨o, 0, none⟩), .agg #[.int .i64 1, .int .i64 4, .int .i64 5]] w fun e w' => e = .returned (.int .i64 110) ∧ Kp K0 K1 w' o ex0 ∧ Out K0 K1 w w' := ap_is 1 4 5 h (cnt_new 8 4)
theorem ex_floor {K0 K1 o : Nat} {w : World} (h : Kp K0 K1 w o ex0) :
    Calls Try.prog 18 #[.pointer (some ⟨o, 0, none⟩), .int .i64 1] w fun e w' => e = .returned (.int .i64 5) ∧ w = w' := st_floor K0 K1 o ex0 1 w h

set_option maxHeartbeats 1000000 in
theorem st_works (w : World) : Calls Try.prog 7 #[] w fun e w' => e = .returned (.bool true) ∧ Below w.heap.size w w' := by
  go_enter Try.func7, Try.ntmps7
  go_wp2_with fail
  refine (st_geo _).mono ?_
  rintro e w1 ⟨rfl, hb1⟩
  have HB1 := Lib.hid hb1
  clear hb1
  go_wp2_with fail
  refine (st_small _).mono ?_
  rintro e w2 ⟨⟨o, rfl, hk2⟩, hb2⟩
  have HK2 := Lib.hid hk2
  have HB2 := Lib.hid (HB1.out.trans (hb2.mono HB1.out.size))
  clear hb2 hk2
  go_wp2_with fail
  refine (ex_one HK2.out).mono ?_
  rintro e w3 ⟨rfl, hk3, ho3⟩
  have HK3 := Lib.hid hk3
  have HB3 := Lib.hid (HB2.out.trans (ho3.1.mono HB1.out.size))
  clear hk3 ho3 HK2
  go_wp2_with fail
  refine (ex_two HK3.out).mono ?_
  rintro e w4 ⟨rfl, hk4, ho4⟩
  have HK4 := Lib.hid hk4
  have HB4 := Lib.hid (HB3.out.trans (ho4.1.mono HB1.out.size))
  clear hk4 ho4 HK3
  go_wp2_with fail
  refine (ex_floor HK4.out).mono ?_
  rintro e w5 ⟨rfl, rfl⟩
  go_wp2_with fail
  refine (ex_three HK4.out).mono ?_
  rintro e w6 ⟨rfl, hk6, ho6⟩
  have HB6 := Lib.hid (HB4.out.trans (ho6.1.mono HB1.out.size))
  clear hk6 ho6 HK4
  go_wp2_with fail
  go_ret
  exact ⟨rfl, HB6.out⟩
end Go.Proofs.Ytgnjknboahcmgaa

/- What is durable, as records change it: it never falls; in any order. -/
namespace Go.Proofs.Ytgnjknboahcmgaa
set_option maxRecDepth 100000
open Go.RowKit

end Go.Proofs.Ytgnjknboahcmgaa

/- Layer 14, the laws: StateRises. -/
namespace Go.Proofs.Ytgnjknboahcmgaa
set_option maxRecDepth 100000
open Go.RowKit

theorem Rw4.out {B K0 K1 g0 g1 g2 g3 k0 k1 k2 k3 n b : Nat} {x : Sn} {w w' : World} (h : Rw4 B g0 g1 g2 g3 k0 k1 k2 k3 n b x w) (ho : Out K0 K1 w w') (hB : K1 ≤ B) : Rw4 B g0 g1 g2 g3 k0 k1 k2 k3 n b x w' := by
  obtain ⟨⟨b0, b1, b2, b3⟩, r0, r1, r2, r3⟩ := h
  exact ⟨⟨b0, b1, b2, b3⟩, r0.blk (ho.2 _ (by omega) r0.lt), r1.blk (ho.2 _ (by omega) r1.lt), r2.blk (ho.2 _ (by omega) r2.lt), r3.blk (ho.2 _ (by omega) r3.lt)⟩
theorem Rw4.mono {B C g0 g1 g2 g3 k0 k1 k2 k3 n b : Nat} {x : Sn} {w : World} (h : Rw4 B g0 g1 g2 g3 k0 k1 k2 k3 n b x w) (hC : C ≤ B) : Rw4 C g0 g1 g2 g3 k0 k1 k2 k3 n b x w := by
  obtain ⟨⟨b0, b1, b2, b3⟩, r⟩ := h
  exact ⟨⟨by omega, by omega, by omega, by omega⟩, r⟩
/-- box q holds what is durable, its rows from B on -/
def BxS (B q : Nat) (g0 g1 g2 g3 k0 k1 k2 k3 : Nat) (x : Sn) (w : World) : Prop := B ≤ q ∧ Blk w q (kpV g0 g1 g2 g3 k0 k1 k2 k3 4 8) 32 ∧ Rw4 B g0 g1 g2 g3 k0 k1 k2 k3 4 8 x w
theorem BxS.call {B q g0 g1 g2 g3 k0 k1 k2 k3 : Nat} {x : Sn} {w w' : World} (h : BxS B q g0 g1 g2 g3 k0 k1 k2 k3 x w) (hb : Below w.heap.size w w') : BxS B q g0 g1 g2 g3 k0 k1 k2 k3 x w' := ⟨h.1, h.2.1.after hb, h.2.2.call hb⟩
theorem BxS.out {B K0 K1 q g0 g1 g2 g3 k0 k1 k2 k3 : Nat} {x : Sn} {w w' : World} (h : BxS B q g0 g1 g2 g3 k0 k1 k2 k3 x w) (ho : Out K0 K1 w w') (hB : K1 ≤ B) : BxS B q g0 g1 g2 g3 k0 k1 k2 k3 x w' := ⟨h.1, h.2.1.out ho (Or.inr (Nat.le_trans hB h.1)), h.2.2.out ho hB⟩
theorem BxS.put {B q p g0 g1 g2 g3 k0 k1 k2 k3 : Nat} {x : Sn} {w : World} {cs : Array Value} (h : BxS B q g0 g1 g2 g3 k0 k1 k2 k3 x w) (hp : Blk w p cs 32) (hne : p ≠ q) (ds : Array Value) : BxS B q g0 g1 g2 g3 k0 k1 k2 k3 x (w.setRow p ds) := ⟨h.1, h.2.1.put_other hne _, h.2.2.put hp _⟩
theorem BxS.new {B q g0 g1 g2 g3 k0 k1 k2 k3 : Nat} {x : Sn} {w : World} {cs : Array Value} (hB : B ≤ q) (hq : Blk w q cs 32) (h : Rw4 B g0 g1 g2 g3 k0 k1 k2 k3 4 8 x w) : BxS B q g0 g1 g2 g3 k0 k1 k2 k3 x (w.setRow q (kpV g0 g1 g2 g3 k0 k1 k2 k3 4 8)) := ⟨hB, hq.put _, h.put hq _⟩
theorem Kp.put {K0 K1 o p : Nat} {x : Sn} {w : World} (h : Kp K0 K1 w o x) (hp : K1 ≤ p) (ds : Array Value) : Kp K0 K1 (w.setRow p ds) o x := by
  obtain ⟨K, h⟩ := h
  refine ⟨K, h.keep (by rw [size_setRow]; exact Nat.le_refl _) fun b _ hl => ?_⟩
  simp only [World.setRow, Array.getElem?_modify]
  rw [if_neg (by omega)]
theorem kp_size {K0 K1 o : Nat} {x : Sn} {w : World} (h : Kp K0 K1 w o x) : K0 ≤ w.heap.size ∧ K1 ≤ w.heap.size := by
  obtain ⟨K, h⟩ := h
  have h1 := h.1.2
  have h2 := h.1.1.1.1
  omega
/-- counts of at most m -/
def Cnt (m : Int) (x : Sn) : Prop := (∀ v ∈ x.s, 0 ≤ v ∧ v ≤ m) ∧ ∀ v ∈ x.t, 0 ≤ v ∧ v ≤ m
theorem Cnt.b {m : Int} {x : Sn} (h : Cnt m x) (hm : m ≤ 16777215) : CntB x := ⟨fun v hv => by have := h.1 v hv; omega, fun v hv => by have := h.2 v hv; omega⟩
/-- the world of a round of StateRises -/
def RiW (w0 : World) (K0 K1 o q p rb : Nat) (z z2 : Sn) (g0 g1 g2 g3 k0 k1 k2 k3 h0 h1 h2 h3 j0 j1 j2 j3 : Nat) (k a b : Int) (w : World) : Prop :=
  (Kp K0 K1 w o z2 ∧ Below w0.heap.size w0 w ∧ p ≠ q) ∧ BxS K1 q g0 g1 g2 g3 k0 k1 k2 k3 z w ∧ BxS K1 p h0 h1 h2 h3 j0 j1 j2 j3 z2 w ∧ Blk w rb (ra k a b) 37
theorem RiW.call {w0 w w' : World} {K0 K1 o q p rb : Nat} {z z2 : Sn} {g0 g1 g2 g3 k0 k1 k2 k3 h0 h1 h2 h3 j0 j1 j2 j3 : Nat} {k a b : Int} (hw : w0.heap.size ≤ w.heap.size) (h : RiW w0 K0 K1 o q p rb z z2 g0 g1 g2 g3 k0 k1 k2 k3 h0 h1 h2 h3 j0 j1 j2 j3 k a b w) (hb : Below w.heap.size w w') : RiW w0 K0 K1 o q p rb z z2 g0 g1 g2 g3 k0 k1 k2 k3 h0 h1 h2 h3 j0 j1 j2 j3 k a b w' :=
  ⟨⟨h.1.1.call hb, h.1.2.1.trans (hb.mono hw), h.1.2.2⟩, h.2.1.call hb, h.2.2.1.call hb, h.2.2.2.after hb⟩

end Go.Proofs.Ytgnjknboahcmgaa

/- Layer 14, the laws: the spoiler of numbers. -/
namespace Go.Proofs.Ytgnjknboahcmgaa
set_option maxRecDepth 100000
open Go.RowKit

/-- rows stay rows, whatever they hold -/
def RowsK (w w' : World) : Prop := ∀ h m k l, RowI w h m k l → ∃ l', RowI w' h m k l'
theorem RowsK.refl (w : World) : RowsK w w := fun _ _ _ l h => ⟨l, h⟩
theorem RowsK.set {w w' : World} (h : RowsK w w') (g p : Nat) (v : Int) : RowsK w (w'.setCell ⟨g, p, none⟩ (.int .i64 v)) := fun b m k l hr => by
  obtain ⟨l', hr'⟩ := h b m k l hr
  by_cases e : g = b
  · subst e; exact ⟨_, hr'.set p v⟩
  · exact ⟨_, hr'.set_other e p _⟩
set_option maxHeartbeats 1000000 in
theorem book_spoil (g n k : Nat) (l : List Int) (w : World) (h : RowI w g n k l) (hn : n ≤ 1000000) : Calls Try.prog 14 #[.slice (some ⟨g, 0, none⟩) n k] w fun e w' => e = .returned (.tuple #[]) ∧ Out g (g + 1) w w' ∧ RowsK w w' := by
  have H := Lib.hid h
  clear h
  go_enter Try.func14, Try.ntmps14
  go_wp2_with fail
  go_loopw [5] (fun iv wr => ∃ (i : Nat), i ≤ n ∧ iv = .int .i64 i ∧ Hid (Out g (g + 1) w wr) ∧ Hid (RowsK w wr)) (fun iv _ => n + 1 - (intOf iv).toNat)
  case atStart => exact ⟨0, Nat.zero_le _, rfl, Out.refl _ _ _, RowsK.refl _⟩
  case round =>
    obtain ⟨i, hi, rfl, HO, HR⟩ := hrel
    by_cases hlt : i < n
    · have hltz : (i : Int) < (n : Int) := by omega
      have i0 : (0 : Int) ≤ (i : Int) := by omega
      obtain ⟨l', hr⟩ := HR.out _ _ _ _ H.out
      have c1 := hr.cell i hlt
      have f1 := hr.free i
      clear hr
      go_wp2_with fail
      go_roundw
      case rel => exact ⟨i + 1, hlt, by go_num, HO.out.trans (Out.set _ (Nat.le_refl _) (by omega) _ _), HR.out.set _ _ _⟩
      case measure => simp [intOf]; omega
    · obtain rfl : i = n := by omega
      have hltz : ¬ (i : Int) < (i : Int) := by omega
      clear hlt
      go_wp2_with fail
      exact bodyPost_end (results_none rfl _ _ _) rfl ⟨rfl, HO.out, HR.out⟩

end Go.Proofs.Ytgnjknboahcmgaa
