/- Texts of one claim, merged: StW1, StC6, ShC1, SnC1, StC7, StC8, Bel, StL1, StP. -/
import Derived.Test.YtgnjknboahcmgaaS1
import Derived.Test.YtgnjknboahcmgaaS6
import Derived.Test.YtgnjknboahcmgaaS3
import Derived.Test.YtgnjknboahcmgaaS4
import Derived.Deep.QuietTactic

/- What a function gives whose one result lies in a block of its own. -/
namespace Go.Proofs.Ytgnjknboahcmgaa
set_option maxRecDepth 100000
open Go.RowKit
theorem results_cell_st {P : Program} {fn : Func} {p : Tmp} {ty : TypeId} (h : fn.results = #[.cell p ty]) (tmps : Array Value) (w : World) (g : Nat) (t : TypeId) (cs : Array Value) (d : TypeDesc)
    (hp : tmps.getD p undef = .pointer (some ⟨g, 0, none⟩)) (hg : Blk w g cs t)
    (hu : P.underlying ty = some d) (hd : (match d with | .struct _ | .array _ _ => true | _ => false) = true) (hi : (P.info? ty).map (·.size) = some cs.size) :
    (results fn tmps).run P w = .ok (.agg cs) w := by
  have hp' : tmps[p]?.getD undef = .pointer (some ⟨g, 0, none⟩) := by simpa using hp
  simp [results, h, hp', asAddr, run_loadVar_row w g t ty cs (0, 0) d hg hu hd hi]
end Go.Proofs.Ytgnjknboahcmgaa

/- Package state, walked: State. -/
namespace Go.Proofs.Ytgnjknboahcmgaa
set_option maxRecDepth 100000
open Go.RowKit

theorem row_clone {w : World} {g n k : Nat} {l : List Int} (h : RowI w g n k l) (hz : n ≤ 1000000) :
    Calls Try.prog 34 #[.slice (some ⟨g, 0, none⟩) n k] w fun e w' => (∃ g' cap, e = .returned (.slice (some ⟨g', 0, none⟩) n cap) ∧ w.heap.size ≤ g' ∧ RowI w' g' n cap l) ∧ Below w.heap.size w w' := by
  refine st_clone g 0 n k l w h.1 (by omega) fun i hi => ?_
  have h1 := h.cell i (by rw [← h.1]; exact hi)
  rw [Nat.zero_add, h1, List.getD_eq_getElem?_getD, List.getElem?_eq_getElem hi]
  rfl
/-- four rows that lie from B on -/
def Rw4 (B : Nat) (g0 g1 g2 g3 k0 k1 k2 k3 n b : Nat) (x : Sn) (w : World) : Prop := (B ≤ g0 ∧ B ≤ g1 ∧ B ≤ g2 ∧ B ≤ g3) ∧ RowI w g0 n k0 x.f ∧ RowI w g1 b k1 x.c ∧ RowI w g2 b k2 x.s ∧ RowI w g3 b k3 x.t
theorem RowI.call {w w' : World} {g n cap : Nat} {l : List Int} (h : RowI w g n cap l) (hb : Below w.heap.size w w') : RowI w' g n cap l := h.blk (hb.block g h.lt)
theorem RowI.put {w : World} {g n cap q : Nat} {l : List Int} {cs : Array Value} {t : TypeId} (h : RowI w g n cap l) (hq : Blk w q cs t) (ht : 3 ≠ t) (ds : Array Value) : RowI (w.setRow q ds) g n cap l := by
  obtain ⟨h1, h2, cs', hb, hc⟩ := h
  exact ⟨h1, h2, cs', hb.put_other (blk_neT hb hq ht) ds, hc⟩
theorem Rw4.call {B g0 g1 g2 g3 k0 k1 k2 k3 n b : Nat} {x : Sn} {w w' : World} (h : Rw4 B g0 g1 g2 g3 k0 k1 k2 k3 n b x w) (hb : Below w.heap.size w w') : Rw4 B g0 g1 g2 g3 k0 k1 k2 k3 n b x w' := ⟨h.1, h.2.1.call hb, h.2.2.1.call hb, h.2.2.2.1.call hb, h.2.2.2.2.call hb⟩
theorem Rw4.put {B g0 g1 g2 g3 k0 k1 k2 k3 n b q : Nat} {x : Sn} {w : World} {cs : Array Value} (h : Rw4 B g0 g1 g2 g3 k0 k1 k2 k3 n b x w) (hq : Blk w q cs 32) (ds : Array Value) : Rw4 B g0 g1 g2 g3 k0 k1 k2 k3 n b x (w.setRow q ds) :=
  ⟨h.1, h.2.1.put hq (by decide) ds, h.2.2.1.put hq (by decide) ds, h.2.2.2.1.put hq (by decide) ds, h.2.2.2.2.put hq (by decide) ds⟩
theorem Rw4.sn {B g0 g1 g2 g3 k0 k1 k2 k3 n b : Nat} {x : Sn} {w : World} (h : Rw4 B g0 g1 g2 g3 k0 k1 k2 k3 n b x w) : SnAt w (kpV g0 g1 g2 g3 k0 k1 k2 k3 n b) x := by
  have h1 := h.2.1.iv; have h2 := h.2.2.1.iv; have h3 := h.2.2.2.1.iv; have h4 := h.2.2.2.2.iv
  exact ⟨_, _, _, _, rfl, h1, h2, h3, h4⟩
/-- the box of State holds the answer -/
def StB (B n b : Nat) (x : Sn) (w : World) : Prop := ∃ g0 g1 g2 g3 k0 k1 k2 k3, Blk w B (kpV g0 g1 g2 g3 k0 k1 k2 k3 n b) 32 ∧ Rw4 B g0 g1 g2 g3 k0 k1 k2 k3 n b x w
/-- rows stay, and so does the answer -/
def TR (B n b : Nat) (x : Sn) (w w' : World) : Prop := (∀ g m k l, RowI w g m k l → RowI w' g m k l) ∧ (StB B n b x w → StB B n b x w')
theorem TR.refl (B n b : Nat) (x : Sn) (w : World) : TR B n b x w w := ⟨fun _ _ _ _ h => h, fun h => h⟩
theorem TR.call {B n b : Nat} {x : Sn} {w w' : World} (hb : Below w.heap.size w w') : TR B n b x w w' := ⟨fun _ _ _ _ h => h.call hb, fun ⟨g0, g1, g2, g3, k0, k1, k2, k3, h1, h2⟩ => ⟨g0, g1, g2, g3, k0, k1, k2, k3, h1.after hb, h2.call hb⟩⟩
theorem TR.store {B n b g0 g1 g2 g3 k0 k1 k2 k3 : Nat} {x : Sn} {w : World} {cs : Array Value} (hq : Blk w B cs 32) (hr : Rw4 B g0 g1 g2 g3 k0 k1 k2 k3 n b x w) : TR B n b x w (w.setRow B (kpV g0 g1 g2 g3 k0 k1 k2 k3 n b)) :=
  ⟨fun _ _ _ _ h => h.put hq (by decide) _, fun _ => ⟨g0, g1, g2, g3, k0, k1, k2, k3, hq.put _, hr.put hq _⟩⟩
/-- while State runs -/
def CS (w0 : World) (K0 K1 o : Nat) (K : KL) (x : Sn) (w : World) : Prop := KpK K0 K1 w o K x ∧ (∃ cs : Array Value, Blk w w0.heap.size cs 32 ∧ cs.size = 4) ∧ Below w0.heap.size w0 w ∧ (w0.heap.size ≤ w.heap.size ∧ K1 ≤ w0.heap.size)
theorem CS.call {w0 w w' : World} {K0 K1 o : Nat} {K : KL} {x : Sn} (h : CS w0 K0 K1 o K x w) (hb : Below w.heap.size w w') : CS w0 K0 K1 o K x w' :=
  ⟨h.1.call hb, h.2.1.imp fun _ hc => ⟨hc.1.after hb, hc.2⟩, h.2.2.1.trans (hb.mono h.2.2.2.1), Nat.le_trans h.2.2.2.1 hb.size, h.2.2.2.2⟩
theorem CS.drew {w0 w : World} {K0 K1 o : Nat} {K : KL} {x : Sn} (h : CS w0 K0 K1 o K x w) : CS w0 K0 K1 o K x w.drew := h.call (Below.refl _ _).drew
theorem CS.put {w0 w : World} {K0 K1 o : Nat} {K : KL} {x : Sn} {cs : Array Value} (h : CS w0 K0 K1 o K x w) (hq : Blk w w0.heap.size cs 32) (ds : Array Value) (hd : ds.size = 4) : CS w0 K0 K1 o K x (w.setRow w0.heap.size ds) := by
  refine ⟨h.1.keep (by rw [size_setRow]; exact Nat.le_refl _) fun b _ hl => ?_, ⟨ds, hq.put _, hd⟩, below_put (Nat.le_refl _) _ h.2.2.1, by rw [size_setRow]; exact h.2.2.2.1, h.2.2.2.2⟩
  have := h.2.2.2.2
  simp only [World.setRow, Array.getElem?_modify]
  rw [if_neg (by omega)]
/-- what each operation leaves -/
def SpSC (B : Nat) (K : KL) (x : Sn) (j : Nat) (a : Act) (w : World) : Prop := match j with
  | 5 => ∃ g k, a.tmps.getD 8 undef = .slice (some ⟨g, 0, none⟩) K.n k ∧ B ≤ g ∧ RowI w g K.n k x.f
  | 11 => ∃ g k, a.tmps.getD 14 undef = .slice (some ⟨g, 0, none⟩) K.b k ∧ B ≤ g ∧ RowI w g K.b k x.c
  | 17 => ∃ g k, a.tmps.getD 20 undef = .slice (some ⟨g, 0, none⟩) K.b k ∧ B ≤ g ∧ RowI w g K.b k x.s
  | 23 => ∃ g k, a.tmps.getD 26 undef = .slice (some ⟨g, 0, none⟩) K.b k ∧ B ≤ g ∧ RowI w g K.b k x.t
  | 24 => ∃ g0 g1 g2 g3 k0 k1 k2 k3, a.tmps.getD 27 undef = .agg (kpV g0 g1 g2 g3 k0 k1 k2 k3 K.n K.b) ∧ Rw4 B g0 g1 g2 g3 k0 k1 k2 k3 K.n K.b x w
  | _ => StB B K.n K.b x w
def fSC (j : Nat) : List Tmp := if j = 5 then [8] else if j = 11 then [14] else if j = 17 then [20] else if j = 23 then [26] else if j = 24 then [27] else []
theorem SpSC.ext (B : Nat) (K : KL) (x : Sn) : ∀ (j : Nat) (a a' : Act) (w w' : World), SpSC B K x j a w → (∀ d ∈ fSC j, a'.tmps.getD d undef = a.tmps.getD d undef) → TR B K.n K.b x w w' → SpSC B K x j a' w' := by
  intro j a a' w w' h hd hT
  unfold SpSC at h ⊢
  split at h
  · obtain ⟨g, k, h1, h2, h3⟩ := h; exact ⟨g, k, (hd 8 (by simp [fSC])).trans h1, h2, hT.1 _ _ _ _ h3⟩
  · obtain ⟨g, k, h1, h2, h3⟩ := h; exact ⟨g, k, (hd 14 (by simp [fSC])).trans h1, h2, hT.1 _ _ _ _ h3⟩
  · obtain ⟨g, k, h1, h2, h3⟩ := h; exact ⟨g, k, (hd 20 (by simp [fSC])).trans h1, h2, hT.1 _ _ _ _ h3⟩
  · obtain ⟨g, k, h1, h2, h3⟩ := h; exact ⟨g, k, (hd 26 (by simp [fSC])).trans h1, h2, hT.1 _ _ _ _ h3⟩
  · obtain ⟨g0, g1, g2, g3, k0, k1, k2, k3, h1, hb, r0, r1, r2, r3⟩ := h
    exact ⟨g0, g1, g2, g3, k0, k1, k2, k3, (hd 27 (by simp [fSC])).trans h1, hb, hT.1 _ _ _ _ r0, hT.1 _ _ _ _ r1, hT.1 _ _ _ _ r2, hT.1 _ _ _ _ r3⟩
  · exact hT.2 h

/-- what each operation of the region SC leaves -/
def vsSC (o : Nat) (K : KL) : List (Option (Tmp × Value)) :=
  [some (3, .pointer (some ⟨o, 0, none⟩)), some (4, .pointer (some ⟨o, 0, none⟩)), some (5, .pointer (some ⟨o, 0, none⟩)), some (6, .pointer (some ⟨o, 0, none⟩)), some (7, .slice (some ⟨K.gf, 0, none⟩) K.n K.kf), none, some (9, .pointer (some ⟨o, 0, none⟩)), some (10, .pointer (some ⟨o, 0, none⟩)), some (11, .pointer (some ⟨o, 0, none⟩)), some (12, .pointer (some ⟨o, 1, none⟩)), some (13, .slice (some ⟨K.gc, 0, none⟩) K.b K.kc), none, some (15, .pointer (some ⟨o, 0, none⟩)), some (16, .pointer (some ⟨o, 0, none⟩)), some (17, .pointer (some ⟨o, 0, none⟩)), some (18, .pointer (some ⟨o, 2, none⟩)), some (19, .slice (some ⟨K.gs, 0, none⟩) K.b K.ks), none, some (21, .pointer (some ⟨o, 0, none⟩)), some (22, .pointer (some ⟨o, 0, none⟩)), some (23, .pointer (some ⟨o, 0, none⟩)), some (24, .pointer (some ⟨o, 3, none⟩)), some (25, .slice (some ⟨K.gt, 0, none⟩) K.b K.kt), none, none, none]
/-- the frame while the region SC runs -/
def BaseSC (B o : Nat) (a : Act) : Prop := ∃ u : Nat → Value, a = ⟨#[.pointer (some ⟨o, 0, none⟩), u 1, .pointer (some ⟨B, 0, none⟩), u 3, u 4, u 5, u 6, u 7, u 8, u 9, u 10, u 11, u 12, u 13, u 14, u 15, u 16, u 17, u 18, u 19, u 20, u 21, u 22, u 23, u 24, u 25, u 26, u 27], []⟩
theorem BaseSC.of {B o : Nat} (arr : Array Value) (h : arr = #[.pointer (some ⟨o, 0, none⟩), arr.getD 1 undef, .pointer (some ⟨B, 0, none⟩), arr.getD 3 undef, arr.getD 4 undef, arr.getD 5 undef, arr.getD 6 undef, arr.getD 7 undef, arr.getD 8 undef, arr.getD 9 undef, arr.getD 10 undef, arr.getD 11 undef, arr.getD 12 undef, arr.getD 13 undef, arr.getD 14 undef, arr.getD 15 undef, arr.getD 16 undef, arr.getD 17 undef, arr.getD 18 undef, arr.getD 19 undef, arr.getD 20 undef, arr.getD 21 undef, arr.getD 22 undef, arr.getD 23 undef, arr.getD 24 undef, arr.getD 25 undef, arr.getD 26 undef, arr.getD 27 undef]) : BaseSC B o ⟨arr, []⟩ := ⟨fun i => arr.getD i undef, by rw [← h]⟩
theorem BaseSC.put3 {B o : Nat} (a : Act) (v : Value) (h : BaseSC B o a) : BaseSC B o (a.put (some 3) v) := by
  obtain ⟨u, rfl⟩ := h
  exact ⟨fun i => if i = 3 then v else u i, by kernel_rfl⟩
theorem BaseSC.put4 {B o : Nat} (a : Act) (v : Value) (h : BaseSC B o a) : BaseSC B o (a.put (some 4) v) := by
  obtain ⟨u, rfl⟩ := h
  exact ⟨fun i => if i = 4 then v else u i, by kernel_rfl⟩
theorem BaseSC.put5 {B o : Nat} (a : Act) (v : Value) (h : BaseSC B o a) : BaseSC B o (a.put (some 5) v) := by
  obtain ⟨u, rfl⟩ := h
  exact ⟨fun i => if i = 5 then v else u i, by kernel_rfl⟩
theorem BaseSC.put6 {B o : Nat} (a : Act) (v : Value) (h : BaseSC B o a) : BaseSC B o (a.put (some 6) v) := by
  obtain ⟨u, rfl⟩ := h
  exact ⟨fun i => if i = 6 then v else u i, by kernel_rfl⟩
theorem BaseSC.put7 {B o : Nat} (a : Act) (v : Value) (h : BaseSC B o a) : BaseSC B o (a.put (some 7) v) := by
  obtain ⟨u, rfl⟩ := h
  exact ⟨fun i => if i = 7 then v else u i, by kernel_rfl⟩
theorem BaseSC.put8 {B o : Nat} (a : Act) (v : Value) (h : BaseSC B o a) : BaseSC B o (a.put (some 8) v) := by
  obtain ⟨u, rfl⟩ := h
  exact ⟨fun i => if i = 8 then v else u i, by kernel_rfl⟩
theorem BaseSC.put9 {B o : Nat} (a : Act) (v : Value) (h : BaseSC B o a) : BaseSC B o (a.put (some 9) v) := by
  obtain ⟨u, rfl⟩ := h
  exact ⟨fun i => if i = 9 then v else u i, by kernel_rfl⟩
theorem BaseSC.put10 {B o : Nat} (a : Act) (v : Value) (h : BaseSC B o a) : BaseSC B o (a.put (some 10) v) := by
  obtain ⟨u, rfl⟩ := h
  exact ⟨fun i => if i = 10 then v else u i, by kernel_rfl⟩
theorem BaseSC.put11 {B o : Nat} (a : Act) (v : Value) (h : BaseSC B o a) : BaseSC B o (a.put (some 11) v) := by
  obtain ⟨u, rfl⟩ := h
  exact ⟨fun i => if i = 11 then v else u i, by kernel_rfl⟩
theorem BaseSC.put12 {B o : Nat} (a : Act) (v : Value) (h : BaseSC B o a) : BaseSC B o (a.put (some 12) v) := by
  obtain ⟨u, rfl⟩ := h
  exact ⟨fun i => if i = 12 then v else u i, by kernel_rfl⟩
theorem BaseSC.put13 {B o : Nat} (a : Act) (v : Value) (h : BaseSC B o a) : BaseSC B o (a.put (some 13) v) := by
  obtain ⟨u, rfl⟩ := h
  exact ⟨fun i => if i = 13 then v else u i, by kernel_rfl⟩
theorem BaseSC.put14 {B o : Nat} (a : Act) (v : Value) (h : BaseSC B o a) : BaseSC B o (a.put (some 14) v) := by
  obtain ⟨u, rfl⟩ := h
  exact ⟨fun i => if i = 14 then v else u i, by kernel_rfl⟩
theorem BaseSC.put15 {B o : Nat} (a : Act) (v : Value) (h : BaseSC B o a) : BaseSC B o (a.put (some 15) v) := by
  obtain ⟨u, rfl⟩ := h
  exact ⟨fun i => if i = 15 then v else u i, by kernel_rfl⟩
theorem BaseSC.put16 {B o : Nat} (a : Act) (v : Value) (h : BaseSC B o a) : BaseSC B o (a.put (some 16) v) := by
  obtain ⟨u, rfl⟩ := h
  exact ⟨fun i => if i = 16 then v else u i, by kernel_rfl⟩
theorem BaseSC.put17 {B o : Nat} (a : Act) (v : Value) (h : BaseSC B o a) : BaseSC B o (a.put (some 17) v) := by
  obtain ⟨u, rfl⟩ := h
  exact ⟨fun i => if i = 17 then v else u i, by kernel_rfl⟩
theorem BaseSC.put18 {B o : Nat} (a : Act) (v : Value) (h : BaseSC B o a) : BaseSC B o (a.put (some 18) v) := by
  obtain ⟨u, rfl⟩ := h
  exact ⟨fun i => if i = 18 then v else u i, by kernel_rfl⟩
theorem BaseSC.put19 {B o : Nat} (a : Act) (v : Value) (h : BaseSC B o a) : BaseSC B o (a.put (some 19) v) := by
  obtain ⟨u, rfl⟩ := h
  exact ⟨fun i => if i = 19 then v else u i, by kernel_rfl⟩
theorem BaseSC.put20 {B o : Nat} (a : Act) (v : Value) (h : BaseSC B o a) : BaseSC B o (a.put (some 20) v) := by
  obtain ⟨u, rfl⟩ := h
  exact ⟨fun i => if i = 20 then v else u i, by kernel_rfl⟩
theorem BaseSC.put21 {B o : Nat} (a : Act) (v : Value) (h : BaseSC B o a) : BaseSC B o (a.put (some 21) v) := by
  obtain ⟨u, rfl⟩ := h
  exact ⟨fun i => if i = 21 then v else u i, by kernel_rfl⟩
theorem BaseSC.put22 {B o : Nat} (a : Act) (v : Value) (h : BaseSC B o a) : BaseSC B o (a.put (some 22) v) := by
  obtain ⟨u, rfl⟩ := h
  exact ⟨fun i => if i = 22 then v else u i, by kernel_rfl⟩
theorem BaseSC.put23 {B o : Nat} (a : Act) (v : Value) (h : BaseSC B o a) : BaseSC B o (a.put (some 23) v) := by
  obtain ⟨u, rfl⟩ := h
  exact ⟨fun i => if i = 23 then v else u i, by kernel_rfl⟩
theorem BaseSC.put24 {B o : Nat} (a : Act) (v : Value) (h : BaseSC B o a) : BaseSC B o (a.put (some 24) v) := by
  obtain ⟨u, rfl⟩ := h
  exact ⟨fun i => if i = 24 then v else u i, by kernel_rfl⟩
theorem BaseSC.put25 {B o : Nat} (a : Act) (v : Value) (h : BaseSC B o a) : BaseSC B o (a.put (some 25) v) := by
  obtain ⟨u, rfl⟩ := h
  exact ⟨fun i => if i = 25 then v else u i, by kernel_rfl⟩
theorem BaseSC.put26 {B o : Nat} (a : Act) (v : Value) (h : BaseSC B o a) : BaseSC B o (a.put (some 26) v) := by
  obtain ⟨u, rfl⟩ := h
  exact ⟨fun i => if i = 26 then v else u i, by kernel_rfl⟩
theorem BaseSC.put27 {B o : Nat} (a : Act) (v : Value) (h : BaseSC B o a) : BaseSC B o (a.put (some 27) v) := by
  obtain ⟨u, rfl⟩ := h
  exact ⟨fun i => if i = 27 then v else u i, by kernel_rfl⟩

/-- what State answers -/
def StT (n b : Nat) (x : Sn) (w : World) (e : Ending) (w' : World) : Prop :=
  (∃ g0 g1 g2 g3 k0 k1 k2 k3, e = .returned (.agg (kpV g0 g1 g2 g3 k0 k1 k2 k3 n b)) ∧ Rw4 w.heap.size g0 g1 g2 g3 k0 k1 k2 k3 n b x w') ∧ Below w.heap.size w w'

set_option maxHeartbeats 4000000 in
theorem st_state (J0 J1 o : Nat) (K : KL) (x : Sn) (w : World) (h : KpK J0 J1 w o K x) (hz : K.n ≤ 1000000 ∧ K.b ≤ 1000000) : Calls Try.prog 13 #[.pointer (some ⟨o, 0, none⟩)] w (StT K.n K.b x w) := by
  obtain ⟨w1, hw1⟩ : ∃ w1, w.alloc (.cells #[.slice none 0 0, .slice none 0 0, .slice none 0 0, .slice none 0 0] 32) = w1 := ⟨_, rfl⟩
  have HC1 : Hid (CS w J0 J1 o K x w1) := by
    rw [← hw1]
    exact ⟨h.call ((Below.refl _ _).alloc (Nat.le_refl _) _), ⟨nil4, Blk.new _ _ _, rfl⟩, (Below.refl _ _).alloc (Nat.le_refl _) _, by simp, h.1.2⟩
  have HNN := Lib.hid hz
  clear h hz
  go_enter Try.func13, Try.ntmps13
  go_upto_region 1 with fail
  clear hw1
  rename_i K0 hK0
  refine wp_region_list3 (SV2S (vsSC o K) fSC) (BaseSC w.heap.size o) (CS w J0 J1 o K x) (TR w.heap.size K.n K.b x) (RV (vsSC o K) (SpSC w.heap.size K x)) rfl (by kernel_rfl) (RV.ext2S (f := fSC) (SpSC.ext w.heap.size K x)) ?_ (HC1.out.drew) (BaseSC.of _ (by kernel_rfl)) ?_ ?_
  · exact ⟨BaseSC.put3, BaseSC.put4, BaseSC.put5, BaseSC.put6, BaseSC.put7, BaseSC.put8, BaseSC.put9, BaseSC.put10, BaseSC.put11, BaseSC.put12, BaseSC.put13, BaseSC.put14, BaseSC.put15, BaseSC.put16, BaseSC.put17, BaseSC.put18, BaseSC.put19, BaseSC.put20, BaseSC.put21, BaseSC.put22, BaseSC.put23, BaseSC.put24, BaseSC.put25, BaseSC.put26, BaseSC.put27, fun a v h => h, trivial⟩
  · refine ⟨?_, ?_, ?_, ?_, ?_, ?_, ?_, ?_, ?_, ?_, ?_, ?_, ?_, ?_, ?_, ?_, ?_, ?_, ?_, ?_, ?_, ?_, ?_, ?_, ?_, ?_, trivial⟩
    all_goals
      intro a w' hC hB hR
      obtain ⟨u, rfl⟩ := hB
      have HC := Lib.hid hC
      clear hC
      clear hK0
    · clear hR
      refine if_yes (by kernel_rfl) ?_
      unfold Oper.wp
      go_simp
      exact ⟨.pointer (some ⟨o, 0, none⟩), rfl, HC.out, TR.refl _ _ _ _ _, rfl⟩
    · have h3 : u 3 = .pointer (some ⟨o, 0, none⟩) := hR ⟨0, .data⟩ (by simp) rfl
      clear hR
      simp only [h3]
      clear h3
      refine if_yes (by kernel_rfl) ?_
      unfold Oper.wp
      go_simp
      exact ⟨.pointer (some ⟨o, 0, none⟩), rfl, HC.out, TR.refl _ _ _ _ _, rfl⟩
    · have h4 : u 4 = .pointer (some ⟨o, 0, none⟩) := hR ⟨1, .data⟩ (by simp) rfl
      clear hR
      simp only [h4]
      clear h4
      refine if_yes (by kernel_rfl) ?_
      unfold Oper.wp
      go_simp
      exact ⟨.pointer (some ⟨o, 0, none⟩), rfl, HC.out, TR.refl _ _ _ _ _, rfl⟩
    · have h5 : u 5 = .pointer (some ⟨o, 0, none⟩) := hR ⟨2, .data⟩ (by simp) rfl
      clear hR
      simp only [h5]
      clear h5
      refine if_yes (by kernel_rfl) ?_
      unfold Oper.wp
      go_simp
      exact ⟨.pointer (some ⟨o, 0, none⟩), rfl, HC.out, TR.refl _ _ _ _ _, rfl⟩
    · have h6 : u 6 = .pointer (some ⟨o, 0, none⟩) := hR ⟨3, .data⟩ (by simp) rfl
      have hc := HC.out.1.four.1
      clear hR
      simp only [h6]
      clear h6
      refine if_yes (by kernel_rfl) ?_
      unfold Oper.wp
      go_simp
      exact ⟨.slice (some ⟨K.gf, 0, none⟩) K.n K.kf, rfl, HC.out, TR.refl _ _ _ _ _, rfl⟩
    · have h7 : u 7 = .slice (some ⟨K.gf, 0, none⟩) K.n K.kf := hR ⟨4, .data⟩ (by simp) rfl
      clear hR
      simp only [h7]
      clear h7
      refine if_yes (by kernel_rfl) ?_
      unfold Oper.wp
      go_simp
      refine (row_clone HC.out.1.2.2.1 (by have := HNN.out; omega)).mono ?_
      rintro e w2 ⟨⟨g, k, rfl, hg, hr⟩, hb2⟩
      exact ⟨.slice (some ⟨g, 0, none⟩) K.n k, rfl, HC.out.call hb2, TR.call hb2, ⟨g, k, rfl, by have := HC.out.2.2.2; omega, hr⟩⟩
    · clear hR
      refine if_yes (by kernel_rfl) ?_
      unfold Oper.wp
      go_simp
      exact ⟨.pointer (some ⟨o, 0, none⟩), rfl, HC.out, TR.refl _ _ _ _ _, rfl⟩
    · have h9 : u 9 = .pointer (some ⟨o, 0, none⟩) := hR ⟨6, .data⟩ (by simp) rfl
      clear hR
      simp only [h9]
      clear h9
      refine if_yes (by kernel_rfl) ?_
      unfold Oper.wp
      go_simp
      exact ⟨.pointer (some ⟨o, 0, none⟩), rfl, HC.out, TR.refl _ _ _ _ _, rfl⟩
    · have h10 : u 10 = .pointer (some ⟨o, 0, none⟩) := hR ⟨7, .data⟩ (by simp) rfl
      clear hR
      simp only [h10]
      clear h10
      refine if_yes (by kernel_rfl) ?_
      unfold Oper.wp
      go_simp
      exact ⟨.pointer (some ⟨o, 0, none⟩), rfl, HC.out, TR.refl _ _ _ _ _, rfl⟩
    · have h11 : u 11 = .pointer (some ⟨o, 0, none⟩) := hR ⟨8, .data⟩ (by simp) rfl
      clear hR
      simp only [h11]
      clear h11
      refine if_yes (by kernel_rfl) ?_
      unfold Oper.wp
      go_simp
      exact ⟨.pointer (some ⟨o, 1, none⟩), rfl, HC.out, TR.refl _ _ _ _ _, rfl⟩
    · have h12 : u 12 = .pointer (some ⟨o, 1, none⟩) := hR ⟨9, .data⟩ (by simp) rfl
      have hc := HC.out.1.four.2.1
      clear hR
      simp only [h12]
      clear h12
      refine if_yes (by kernel_rfl) ?_
      unfold Oper.wp
      go_simp
      exact ⟨.slice (some ⟨K.gc, 0, none⟩) K.b K.kc, rfl, HC.out, TR.refl _ _ _ _ _, rfl⟩
    · have h13 : u 13 = .slice (some ⟨K.gc, 0, none⟩) K.b K.kc := hR ⟨10, .data⟩ (by simp) rfl
      clear hR
      simp only [h13]
      clear h13
      refine if_yes (by kernel_rfl) ?_
      unfold Oper.wp
      go_simp
      refine (row_clone HC.out.1.2.2.2.1 (by have := HNN.out; omega)).mono ?_
      rintro e w2 ⟨⟨g, k, rfl, hg, hr⟩, hb2⟩
      exact ⟨.slice (some ⟨g, 0, none⟩) K.b k, rfl, HC.out.call hb2, TR.call hb2, ⟨g, k, rfl, by have := HC.out.2.2.2; omega, hr⟩⟩
    · clear hR
      refine if_yes (by kernel_rfl) ?_
      unfold Oper.wp
      go_simp
      exact ⟨.pointer (some ⟨o, 0, none⟩), rfl, HC.out, TR.refl _ _ _ _ _, rfl⟩
    · have h15 : u 15 = .pointer (some ⟨o, 0, none⟩) := hR ⟨12, .data⟩ (by simp) rfl
      clear hR
      simp only [h15]
      clear h15
      refine if_yes (by kernel_rfl) ?_
      unfold Oper.wp
      go_simp
      exact ⟨.pointer (some ⟨o, 0, none⟩), rfl, HC.out, TR.refl _ _ _ _ _, rfl⟩
    · have h16 : u 16 = .pointer (some ⟨o, 0, none⟩) := hR ⟨13, .data⟩ (by simp) rfl
      clear hR
      simp only [h16]
      clear h16
      refine if_yes (by kernel_rfl) ?_
      unfold Oper.wp
      go_simp
      exact ⟨.pointer (some ⟨o, 0, none⟩), rfl, HC.out, TR.refl _ _ _ _ _, rfl⟩
    · have h17 : u 17 = .pointer (some ⟨o, 0, none⟩) := hR ⟨14, .data⟩ (by simp) rfl
      clear hR
      simp only [h17]
      clear h17
      refine if_yes (by kernel_rfl) ?_
      unfold Oper.wp
      go_simp
      exact ⟨.pointer (some ⟨o, 2, none⟩), rfl, HC.out, TR.refl _ _ _ _ _, rfl⟩
    · have h18 : u 18 = .pointer (some ⟨o, 2, none⟩) := hR ⟨15, .data⟩ (by simp) rfl
      have hc := HC.out.1.four.2.2.1
      clear hR
      simp only [h18]
      clear h18
      refine if_yes (by kernel_rfl) ?_
      unfold Oper.wp
      go_simp
      exact ⟨.slice (some ⟨K.gs, 0, none⟩) K.b K.ks, rfl, HC.out, TR.refl _ _ _ _ _, rfl⟩
    · have h19 : u 19 = .slice (some ⟨K.gs, 0, none⟩) K.b K.ks := hR ⟨16, .data⟩ (by simp) rfl
      clear hR
      simp only [h19]
      clear h19
      refine if_yes (by kernel_rfl) ?_
      unfold Oper.wp
      go_simp
      refine (row_clone HC.out.1.2.2.2.2.1 (by have := HNN.out; omega)).mono ?_
      rintro e w2 ⟨⟨g, k, rfl, hg, hr⟩, hb2⟩
      exact ⟨.slice (some ⟨g, 0, none⟩) K.b k, rfl, HC.out.call hb2, TR.call hb2, ⟨g, k, rfl, by have := HC.out.2.2.2; omega, hr⟩⟩
    · clear hR
      refine if_yes (by kernel_rfl) ?_
      unfold Oper.wp
      go_simp
      exact ⟨.pointer (some ⟨o, 0, none⟩), rfl, HC.out, TR.refl _ _ _ _ _, rfl⟩
    · have h21 : u 21 = .pointer (some ⟨o, 0, none⟩) := hR ⟨18, .data⟩ (by simp) rfl
      clear hR
      simp only [h21]
      clear h21
      refine if_yes (by kernel_rfl) ?_
      unfold Oper.wp
      go_simp
      exact ⟨.pointer (some ⟨o, 0, none⟩), rfl, HC.out, TR.refl _ _ _ _ _, rfl⟩
    · have h22 : u 22 = .pointer (some ⟨o, 0, none⟩) := hR ⟨19, .data⟩ (by simp) rfl
      clear hR
      simp only [h22]
      clear h22
      refine if_yes (by kernel_rfl) ?_
      unfold Oper.wp
      go_simp
      exact ⟨.pointer (some ⟨o, 0, none⟩), rfl, HC.out, TR.refl _ _ _ _ _, rfl⟩
    · have h23 : u 23 = .pointer (some ⟨o, 0, none⟩) := hR ⟨20, .data⟩ (by simp) rfl
      clear hR
      simp only [h23]
      clear h23
      refine if_yes (by kernel_rfl) ?_
      unfold Oper.wp
      go_simp
      exact ⟨.pointer (some ⟨o, 3, none⟩), rfl, HC.out, TR.refl _ _ _ _ _, rfl⟩
    · have h24 : u 24 = .pointer (some ⟨o, 3, none⟩) := hR ⟨21, .data⟩ (by simp) rfl
      have hc := HC.out.1.four.2.2.2
      clear hR
      simp only [h24]
      clear h24
      refine if_yes (by kernel_rfl) ?_
      unfold Oper.wp
      go_simp
      exact ⟨.slice (some ⟨K.gt, 0, none⟩) K.b K.kt, rfl, HC.out, TR.refl _ _ _ _ _, rfl⟩
    · have h25 : u 25 = .slice (some ⟨K.gt, 0, none⟩) K.b K.kt := hR ⟨22, .data⟩ (by simp) rfl
      clear hR
      simp only [h25]
      clear h25
      refine if_yes (by kernel_rfl) ?_
      unfold Oper.wp
      go_simp
      refine (row_clone HC.out.1.2.2.2.2.2 (by have := HNN.out; omega)).mono ?_
      rintro e w2 ⟨⟨g, k, rfl, hg, hr⟩, hb2⟩
      exact ⟨.slice (some ⟨g, 0, none⟩) K.b k, rfl, HC.out.call hb2, TR.call hb2, ⟨g, k, rfl, by have := HC.out.2.2.2; omega, hr⟩⟩
    · obtain ⟨g0, k0, h0, b0, r0⟩ := hR ⟨5, .data⟩ (by simp) rfl
      obtain ⟨g1, k1, h1, b1, r1⟩ := hR ⟨11, .data⟩ (by simp) rfl
      obtain ⟨g2, k2, h2, b2, r2⟩ := hR ⟨17, .data⟩ (by simp) rfl
      obtain ⟨g3, k3, h3, b3, r3⟩ := hR ⟨23, .data⟩ (by simp) rfl
      have h0 : u 8 = .slice (some ⟨g0, 0, none⟩) K.n k0 := h0
      have h1 : u 14 = .slice (some ⟨g1, 0, none⟩) K.b k1 := h1
      have h2 : u 20 = .slice (some ⟨g2, 0, none⟩) K.b k2 := h2
      have h3 : u 26 = .slice (some ⟨g3, 0, none⟩) K.b k3 := h3
      clear hR
      refine if_yes (by kernel_rfl) ?_
      simp only [h0, h1, h2, h3]
      unfold Oper.wp
      go_simp
      exact ⟨.agg (kpV g0 g1 g2 g3 k0 k1 k2 k3 K.n K.b), rfl, HC.out, TR.refl _ _ _ _ _, ⟨g0, g1, g2, g3, k0, k1, k2, k3, rfl, ⟨b0, b1, b2, b3⟩, r0, r1, r2, r3⟩⟩
    · obtain ⟨g0, g1, g2, g3, k0, k1, k2, k3, h27, hr⟩ := hR ⟨24, .data⟩ (by simp) rfl
      have h27 : u 27 = .agg (kpV g0 g1 g2 g3 k0 k1 k2 k3 K.n K.b) := h27
      obtain ⟨cs, hbk, hcs⟩ := HC.out.2.1
      clear hR
      refine if_yes (by kernel_rfl) ?_
      simp only [h27]
      exact wp_store_row 32 (.tmp 2) (.tmp 27) rfl w.heap.size (kpV g0 g1 g2 g3 k0 k1 k2 k3 K.n K.b) rfl rfl 32 cs hbk size_state hcs (kpV_one _ _ _ _ _ _ _ _ _ _) ⟨undef, rfl, HC.out.put hbk _ rfl, TR.store hbk hr, ⟨g0, g1, g2, g3, k0, k1, k2, k3, hbk.put _, hr.put hbk _⟩⟩
  · intro aa w5 hC hB hR
    obtain ⟨g0, g1, g2, g3, k0, k1, k2, k3, hbk, hr⟩ := hR 25 (by decide)
    clear hR
    obtain ⟨u, rfl⟩ := hB
    have HB := Lib.hid hbk
    have HR := Lib.hid hr
    have HBW : Hid (Below w.heap.size w w5) := hC.2.2.1
    clear hbk hr hC
    go_wp2_with fail
    refine bodyPost_ret (results_cell_st rfl _ _ w.heap.size 32 (kpV g0 g1 g2 g3 k0 k1 k2 k3 K.n K.b) _ rfl HB.out Try.underlying32 rfl size_state) rfl ?_
    exact ⟨⟨g0, g1, g2, g3, k0, k1, k2, k3, rfl, HR.out⟩, HBW.out⟩

end Go.Proofs.Ytgnjknboahcmgaa

/- Package sheet, walked: Hold, and whether a text has noughts alone. -/
namespace Go.Proofs.Ytgnjknboahcmgaa
set_option maxRecDepth 100000
open Go.RowKit

/-- a text of noughts alone -/
def Noughts (s : ByteArray) : Prop := ∀ i : Nat, i < s.size → byteT s i = 0
instance (s : ByteArray) : Decidable (Noughts s) := Nat.decidableBallLT s.size fun i _ => byteT s i = 0

end Go.Proofs.Ytgnjknboahcmgaa

/- Package snap, walked: areNumbers, isOf, Fits, must, isNoughts. -/
namespace Go.Proofs.Ytgnjknboahcmgaa
set_option maxRecDepth 100000
open Go.RowKit

end Go.Proofs.Ytgnjknboahcmgaa

/- Package state, walked: Of. -/
namespace Go.Proofs.Ytgnjknboahcmgaa
set_option maxRecDepth 100000
open Go.RowKit

/-- the source's four slices -/
def srA (gf pf cf gc pc cc gs ps cs gt pt ct b n : Nat) : Array Value := #[.slice (some ⟨gf, pf, none⟩) n cf, .slice (some ⟨gc, pc, none⟩) b cc, .slice (some ⟨gs, ps, none⟩) b cs, .slice (some ⟨gt, pt, none⟩) b ct]
def SrAt (gf pf cf gc pc cc gs ps cs gt pt ct b n : Nat) (x : Sn) (w : World) : Prop := IvAt w (.slice (some ⟨gf, pf, none⟩) n cf) x.f ∧ IvAt w (.slice (some ⟨gc, pc, none⟩) b cc) x.c ∧ IvAt w (.slice (some ⟨gs, ps, none⟩) b cs) x.s ∧ IvAt w (.slice (some ⟨gt, pt, none⟩) b ct) x.t
theorem SrAt.call {gf pf cf gc pc cc gs ps cs gt pt ct b n : Nat} {x : Sn} {w w' : World} (h : SrAt gf pf cf gc pc cc gs ps cs gt pt ct b n x w) (hb : Below w.heap.size w w') : SrAt gf pf cf gc pc cc gs ps cs gt pt ct b n x w' :=
  ⟨h.1.below hb, h.2.1.below hb, h.2.2.1.below hb, h.2.2.2.below hb⟩
/-- while Of runs -/
def CO (w0 : World) (B l y N s r : Int) (gf pf cf gc pc cc gs ps cs gt pt ct b n : Nat) (x : Sn) (w : World) : Prop :=
  SnW w0 B l y N s r (srA gf pf cf gc pc cc gs ps cs gt pt ct b n) w ∧ SrAt gf pf cf gc pc cc gs ps cs gt pt ct b n x w
theorem CO.call {w0 w w' : World} {B l y N s r : Int} {gf pf cf gc pc cc gs ps cs gt pt ct b n : Nat} {x : Sn} (h : CO w0 B l y N s r gf pf cf gc pc cc gs ps cs gt pt ct b n x w) (hb : Below w.heap.size w w') : CO w0 B l y N s r gf pf cf gc pc cc gs ps cs gt pt ct b n x w' := ⟨h.1.call hb, h.2.call hb⟩
theorem CO.size {w0 w : World} {B l y N s r : Int} {gf pf cf gc pc cc gs ps cs gt pt ct b n : Nat} {x : Sn} (h : CO w0 B l y N s r gf pf cf gc pc cc gs ps cs gt pt ct b n x w) : w0.heap.size ≤ w.heap.size := h.1.2.size
theorem Rw4.lts {B g0 g1 g2 g3 k0 k1 k2 k3 n b : Nat} {x : Sn} {w : World} (h : Rw4 B g0 g1 g2 g3 k0 k1 k2 k3 n b x w) : g0 < w.heap.size ∧ g1 < w.heap.size ∧ g2 < w.heap.size ∧ g3 < w.heap.size := ⟨h.2.1.lt, h.2.2.1.lt, h.2.2.2.1.lt, h.2.2.2.2.lt⟩
/-- the keeper in block q -/
def OfP (B b n : Nat) (x : Sn) (q : Nat) (w : World) : Prop := ∃ g0 g1 g2 g3 k0 k1 k2 k3, D4 g0 g1 g2 g3 ∧ Rw4 B g0 g1 g2 g3 k0 k1 k2 k3 n b x w ∧ B ≤ q ∧ (g0 < q ∧ g1 < q ∧ g2 < q ∧ g3 < q) ∧ Blk w q (kpV g0 g1 g2 g3 k0 k1 k2 k3 n b) 62
theorem OfP.call {B b n q : Nat} {x : Sn} {w w' : World} (h : OfP B b n x q w) (hb : Below w.heap.size w w') : OfP B b n x q w' := by
  obtain ⟨g0, g1, g2, g3, k0, k1, k2, k3, h1, h2, h3, h4, h5⟩ := h
  exact ⟨g0, g1, g2, g3, k0, k1, k2, k3, h1, h2.call hb, h3, h4, h5.after hb⟩
theorem OfP.kp {B b n q : Nat} {x : Sn} {w : World} (h : OfP B b n x q w) : Kp B w.heap.size w q x := by
  obtain ⟨g0, g1, g2, g3, k0, k1, k2, k3, ⟨⟨d1, d2, d3⟩, ⟨d4, d5⟩, d6⟩, ⟨⟨h0, h1, h2, h3⟩, r0, r1, r2, r3⟩, h4, ⟨l0, l1, l2, l3⟩, h5⟩ := h
  have hq := h5.lt
  refine ⟨⟨g0, g1, g2, g3, k0, k1, k2, k3, n, b⟩, ⟨⟨⟨⟨h4, hq⟩, ⟨h0, r0.lt⟩, ⟨h1, r1.lt⟩, ⟨h2, r2.lt⟩, ⟨h3, r3.lt⟩⟩, ⟨?_, ?_, ?_, ?_⟩, ⟨d1, d2, d3⟩, ⟨d4, d5⟩, d6⟩, Nat.le_refl _⟩, h5, r0, r1, r2, r3⟩
  · show q ≠ g0; omega
  · show q ≠ g1; omega
  · show q ≠ g2; omega
  · show q ≠ g3; omega
/-- what each operation leaves -/
def SpOF (B b n : Nat) (x : Sn) (j : Nat) (a : Act) (w : World) : Prop := match j with
  | 2 => ∃ g k, a.tmps.getD 18 undef = .slice (some ⟨g, 0, none⟩) n k ∧ B ≤ g ∧ RowI w g n k x.f
  | 5 => ∃ g k, a.tmps.getD 21 undef = .slice (some ⟨g, 0, none⟩) b k ∧ B ≤ g ∧ RowI w g b k x.c
  | 8 => ∃ g k, a.tmps.getD 24 undef = .slice (some ⟨g, 0, none⟩) b k ∧ B ≤ g ∧ RowI w g b k x.s
  | 11 => ∃ g k, a.tmps.getD 27 undef = .slice (some ⟨g, 0, none⟩) b k ∧ B ≤ g ∧ RowI w g b k x.t
  | 12 => ∃ g0 g1 g2 g3 k0 k1 k2 k3, a.tmps.getD 28 undef = .agg (kpV g0 g1 g2 g3 k0 k1 k2 k3 n b) ∧ D4 g0 g1 g2 g3 ∧ Rw4 B g0 g1 g2 g3 k0 k1 k2 k3 n b x w
  | 13 => ∃ g0 g1 g2 g3 k0 k1 k2 k3, a.tmps.getD 29 undef = .agg (kpV g0 g1 g2 g3 k0 k1 k2 k3 n b) ∧ D4 g0 g1 g2 g3 ∧ Rw4 B g0 g1 g2 g3 k0 k1 k2 k3 n b x w
  | 14 => ∃ q, a.tmps.getD 30 undef = .pointer (some ⟨q, 0, none⟩) ∧ OfP B b n x q w
  | _ => ∃ q, a.tmps.getD 4 undef = .pointer (some ⟨q, 0, none⟩) ∧ OfP B b n x q w
def fOF (j : Nat) : List Tmp := if j = 2 then [18] else if j = 5 then [21] else if j = 8 then [24] else if j = 11 then [27] else if j = 12 then [28] else if j = 13 then [29] else if j = 14 then [30] else [4]
theorem SpOF.ext (B b n : Nat) (x : Sn) : ∀ (j : Nat) (a a' : Act) (w w' : World), SpOF B b n x j a w → (∀ d ∈ fOF j, a'.tmps.getD d undef = a.tmps.getD d undef) → Goes w w' → SpOF B b n x j a' w' := by
  intro j a a' w w' h hd hT
  unfold SpOF at h ⊢
  split at h
  · obtain ⟨g, k, h1, h2, h3⟩ := h; exact ⟨g, k, (hd 18 (by simp [fOF])).trans h1, h2, h3.call hT⟩
  · obtain ⟨g, k, h1, h2, h3⟩ := h; exact ⟨g, k, (hd 21 (by simp [fOF])).trans h1, h2, h3.call hT⟩
  · obtain ⟨g, k, h1, h2, h3⟩ := h; exact ⟨g, k, (hd 24 (by simp [fOF])).trans h1, h2, h3.call hT⟩
  · obtain ⟨g, k, h1, h2, h3⟩ := h; exact ⟨g, k, (hd 27 (by simp [fOF])).trans h1, h2, h3.call hT⟩
  · obtain ⟨g0, g1, g2, g3, k0, k1, k2, k3, h1, h2, h3⟩ := h; exact ⟨g0, g1, g2, g3, k0, k1, k2, k3, (hd 28 (by simp [fOF])).trans h1, h2, h3.call hT⟩
  · obtain ⟨g0, g1, g2, g3, k0, k1, k2, k3, h1, h2, h3⟩ := h; exact ⟨g0, g1, g2, g3, k0, k1, k2, k3, (hd 29 (by simp [fOF])).trans h1, h2, h3.call hT⟩
  · obtain ⟨q, h1, h2⟩ := h; exact ⟨q, (hd 30 (by simp [fOF])).trans h1, h2.call hT⟩
  · rename_i n1 n2 n3 n4 n5 n6 n7
    obtain ⟨q, h1, h2⟩ := h
    refine ⟨q, (hd 4 ?_).trans h1, h2.call hT⟩
    unfold fOF
    rw [if_neg n1, if_neg n2, if_neg n3, if_neg n4, if_neg n5, if_neg n6, if_neg n7]
    exact List.mem_singleton.2 rfl

/-- the frame while the region OF runs -/
def BaseOF (B : Nat) (a : Act) : Prop := ∃ u : Nat → Value, a = ⟨#[u 0, u 1, .pointer (some ⟨B, 0, none⟩), .pointer (some ⟨B + 1, 0, none⟩), u 4, u 5, u 6, u 7, u 8, u 9, u 10, u 11, u 12, u 13, u 14, u 15, u 16, u 17, u 18, u 19, u 20, u 21, u 22, u 23, u 24, u 25, u 26, u 27, u 28, u 29, u 30], []⟩
theorem BaseOF.of {B : Nat} (arr : Array Value) (h : arr = #[arr.getD 0 undef, arr.getD 1 undef, .pointer (some ⟨B, 0, none⟩), .pointer (some ⟨B + 1, 0, none⟩), arr.getD 4 undef, arr.getD 5 undef, arr.getD 6 undef, arr.getD 7 undef, arr.getD 8 undef, arr.getD 9 undef, arr.getD 10 undef, arr.getD 11 undef, arr.getD 12 undef, arr.getD 13 undef, arr.getD 14 undef, arr.getD 15 undef, arr.getD 16 undef, arr.getD 17 undef, arr.getD 18 undef, arr.getD 19 undef, arr.getD 20 undef, arr.getD 21 undef, arr.getD 22 undef, arr.getD 23 undef, arr.getD 24 undef, arr.getD 25 undef, arr.getD 26 undef, arr.getD 27 undef, arr.getD 28 undef, arr.getD 29 undef, arr.getD 30 undef]) : BaseOF B ⟨arr, []⟩ := ⟨fun i => arr.getD i undef, by rw [← h]⟩
theorem BaseOF.put16 {B : Nat} (a : Act) (v : Value) (h : BaseOF B a) : BaseOF B (a.put (some 16) v) := by
  obtain ⟨u, rfl⟩ := h
  exact ⟨fun i => if i = 16 then v else u i, by kernel_rfl⟩
theorem BaseOF.put17 {B : Nat} (a : Act) (v : Value) (h : BaseOF B a) : BaseOF B (a.put (some 17) v) := by
  obtain ⟨u, rfl⟩ := h
  exact ⟨fun i => if i = 17 then v else u i, by kernel_rfl⟩
theorem BaseOF.put18 {B : Nat} (a : Act) (v : Value) (h : BaseOF B a) : BaseOF B (a.put (some 18) v) := by
  obtain ⟨u, rfl⟩ := h
  exact ⟨fun i => if i = 18 then v else u i, by kernel_rfl⟩
theorem BaseOF.put19 {B : Nat} (a : Act) (v : Value) (h : BaseOF B a) : BaseOF B (a.put (some 19) v) := by
  obtain ⟨u, rfl⟩ := h
  exact ⟨fun i => if i = 19 then v else u i, by kernel_rfl⟩
theorem BaseOF.put20 {B : Nat} (a : Act) (v : Value) (h : BaseOF B a) : BaseOF B (a.put (some 20) v) := by
  obtain ⟨u, rfl⟩ := h
  exact ⟨fun i => if i = 20 then v else u i, by kernel_rfl⟩
theorem BaseOF.put21 {B : Nat} (a : Act) (v : Value) (h : BaseOF B a) : BaseOF B (a.put (some 21) v) := by
  obtain ⟨u, rfl⟩ := h
  exact ⟨fun i => if i = 21 then v else u i, by kernel_rfl⟩
theorem BaseOF.put22 {B : Nat} (a : Act) (v : Value) (h : BaseOF B a) : BaseOF B (a.put (some 22) v) := by
  obtain ⟨u, rfl⟩ := h
  exact ⟨fun i => if i = 22 then v else u i, by kernel_rfl⟩
theorem BaseOF.put23 {B : Nat} (a : Act) (v : Value) (h : BaseOF B a) : BaseOF B (a.put (some 23) v) := by
  obtain ⟨u, rfl⟩ := h
  exact ⟨fun i => if i = 23 then v else u i, by kernel_rfl⟩
theorem BaseOF.put24 {B : Nat} (a : Act) (v : Value) (h : BaseOF B a) : BaseOF B (a.put (some 24) v) := by
  obtain ⟨u, rfl⟩ := h
  exact ⟨fun i => if i = 24 then v else u i, by kernel_rfl⟩
theorem BaseOF.put25 {B : Nat} (a : Act) (v : Value) (h : BaseOF B a) : BaseOF B (a.put (some 25) v) := by
  obtain ⟨u, rfl⟩ := h
  exact ⟨fun i => if i = 25 then v else u i, by kernel_rfl⟩
theorem BaseOF.put26 {B : Nat} (a : Act) (v : Value) (h : BaseOF B a) : BaseOF B (a.put (some 26) v) := by
  obtain ⟨u, rfl⟩ := h
  exact ⟨fun i => if i = 26 then v else u i, by kernel_rfl⟩
theorem BaseOF.put27 {B : Nat} (a : Act) (v : Value) (h : BaseOF B a) : BaseOF B (a.put (some 27) v) := by
  obtain ⟨u, rfl⟩ := h
  exact ⟨fun i => if i = 27 then v else u i, by kernel_rfl⟩
theorem BaseOF.put28 {B : Nat} (a : Act) (v : Value) (h : BaseOF B a) : BaseOF B (a.put (some 28) v) := by
  obtain ⟨u, rfl⟩ := h
  exact ⟨fun i => if i = 28 then v else u i, by kernel_rfl⟩
theorem BaseOF.put29 {B : Nat} (a : Act) (v : Value) (h : BaseOF B a) : BaseOF B (a.put (some 29) v) := by
  obtain ⟨u, rfl⟩ := h
  exact ⟨fun i => if i = 29 then v else u i, by kernel_rfl⟩
theorem BaseOF.put30 {B : Nat} (a : Act) (v : Value) (h : BaseOF B a) : BaseOF B (a.put (some 30) v) := by
  obtain ⟨u, rfl⟩ := h
  exact ⟨fun i => if i = 30 then v else u i, by kernel_rfl⟩
theorem BaseOF.put4 {B : Nat} (a : Act) (v : Value) (h : BaseOF B a) : BaseOF B (a.put (some 4) v) := by
  obtain ⟨u, rfl⟩ := h
  exact ⟨fun i => if i = 4 then v else u i, by kernel_rfl⟩
theorem BaseOF.put5 {B : Nat} (a : Act) (v : Value) (h : BaseOF B a) : BaseOF B (a.put (some 5) v) := by
  obtain ⟨u, rfl⟩ := h
  exact ⟨fun i => if i = 5 then v else u i, by kernel_rfl⟩

end Go.Proofs.Ytgnjknboahcmgaa

/- Package state, walked: Wear. -/
namespace Go.Proofs.Ytgnjknboahcmgaa
set_option maxRecDepth 100000
open Go.RowKit

theorem RowI.drewN {w : World} {g n cap m : Nat} {l : List Int} (h : RowI w g n cap l) : RowI (w.drewN m) g n cap l := h.blk rfl
set_option maxHeartbeats 1000000 in
theorem st_wear (K0 K1 o : Nat) (x : Sn) (i : Int) (w : World) (h : Kp K0 K1 w o x) : Calls Try.prog 12 #[.pointer (some ⟨o, 0, none⟩), .int .i64 i] w fun e w' => e = .returned (.tuple #[.int .i64 (atI x.s i), .int .i64 (atI x.t i)]) ∧ Below w.heap.size w w' := by
  obtain ⟨⟨gf, gc, gs, gt, kf, kc, ks, kt, n, b⟩, h⟩ := h
  obtain ⟨_, _, c2, c3⟩ := h.four
  have HS : Hid (∀ m, Calls Try.prog 33 #[.slice (some ⟨gs, 0, none⟩) b ks, .int .i64 i] (w.drewN m) fun e w' => e = .returned (.int .i64 (atI x.s i)) ∧ w' = w.drewN m) := fun m => (st_at gs b ks x.s i _ (RowI.drewN h.2.2.2.2.1)).mono fun _ _ h => ⟨h.1, h.2.symm⟩
  have HT : Hid (∀ m, Calls Try.prog 33 #[.slice (some ⟨gt, 0, none⟩) b kt, .int .i64 i] (w.drewN m) fun e w' => e = .returned (.int .i64 (atI x.t i)) ∧ w' = w.drewN m) := fun m => (st_at gt b kt x.t i _ (RowI.drewN h.2.2.2.2.2)).mono fun _ _ h => ⟨h.1, h.2.symm⟩
  obtain ⟨us, hus⟩ : ∃ u, atI x.s i = u := ⟨_, rfl⟩
  obtain ⟨ut, hut⟩ : ∃ u, atI x.t i = u := ⟨_, rfl⟩
  rw [hus] at HS ⊢
  rw [hut] at HT ⊢
  clear h hus hut
  go_enter Try.func12, Try.ntmps12
  go_upto_region 1 with fail
  go_quiet (first
    | (go_at_call_of 33 (Value.slice (some ⟨gs, 0, none⟩) b ks); exact Calls.quiet_of_same (HS.out _))
    | (go_at_call_of 33 (Value.slice (some ⟨gt, 0, none⟩) b kt); exact Calls.quiet_of_same (HT.out _)))
  go_wp2_with fail
  go_ret2
  exact ⟨rfl, rfl, rfl, rfl, Nat.le_refl _, fun _ _ => rfl⟩

end Go.Proofs.Ytgnjknboahcmgaa

/- The book's Below, walked. -/
namespace Go.Proofs.Ytgnjknboahcmgaa
set_option maxRecDepth 100000
open Go.RowKit

theorem book_bel (n by' : Int) (w : World) (h0 : 0 < by') (h1 : by' ≤ 1000) : Calls Try.prog 24 #[.int .i64 n, .int .i64 by'] w fun r w' => r = .returned (.int .i64 (n % by')) ∧ w = w' := by
  have hm := Int.tmod_eq_emod (a := n) (b := by')
  have hlt := Int.emod_lt_of_pos n h0
  have hge := Int.emod_nonneg n (b := by') (by omega)
  have hab : (by'.natAbs : Int) = by' := by omega
  obtain ⟨x, hx⟩ : ∃ x, n.tmod by' = x := ⟨_, rfl⟩
  obtain ⟨y, hy⟩ : ∃ y, n % by' = y := ⟨_, rfl⟩
  rw [hx, hy] at hm
  rw [hy] at hlt hge ⊢
  have hb' : by' ≠ 0 := by omega
  have hxy : (x < 0 → x + by' = y) ∧ (¬ x < 0 → x = y) := by
    by_cases hc : 0 ≤ n ∨ by' ∣ n
    · rw [if_pos hc] at hm; omega
    · rw [if_neg hc, hab] at hm; omega
  by_cases hneg : x < 0
  · have hxy2 := hxy.1 hneg
    have hlo : -1000 ≤ x := by omega
    clear hm hy hxy
    go_enter Try.func24, Try.ntmps24
    go_wp2
    go_ret
    exact ⟨rfl, rfl⟩
  · have hxy2 := hxy.2 hneg
    clear hm hy hxy
    subst hxy2
    go_enter Try.func24, Try.ntmps24
    go_wp2
    go_ret
    exact ⟨rfl, rfl⟩

end Go.Proofs.Ytgnjknboahcmgaa

/- Layer 14, the laws: the small geometry, whole, the chapter's example. -/
namespace Go.Proofs.Ytgnjknboahcmgaa
set_option maxRecDepth 100000
open Go.RowKit

theorem st_geo (w : World) : Calls Try.prog 22 #[] w fun e w' => e = .returned (.agg (gv 8 6 64 4 0 4)) ∧ Below w.heap.size w w' := by
  have HK := Lib.hid (Blk.new w #[.int .i64 0, .int .i64 0, .int .i64 0, .int .i64 0, .int .i64 0, .int .i64 0] 23)
  have HB := Lib.hid ((Below.refl w.heap.size w).alloc (Nat.le_refl _) (.cells #[.int .i64 0, .int .i64 0, .int .i64 0, .int .i64 0, .int .i64 0, .int .i64 0] 23))
  go_enter Try.func22, Try.ntmps22
  go_wp2_with (refine wpList_store_row rfl 23 _ _ rfl w.heap.size (gv 8 6 64 4 0 4) rfl rfl 23 _ HK.out size_geo rfl (gv_one _ _ _ _ _ _) ?_)
  exact bodyPost_ret (results_cell_st (P := Try.prog) rfl _ _ w.heap.size 23 (gv 8 6 64 4 0 4) _ rfl (HK.out.put _) Try.underlying23 rfl size_geo) rfl ⟨rfl, below_put (Nat.le_refl _) _ HB.out⟩
/-- a keeper of the small geometry -/
theorem st_small (w : World) : Calls Try.prog 8 #[.agg (gv 8 6 64 4 0 4)] w fun e w' => (∃ o, e = .returned (.tuple #[.pointer (some ⟨o, 0, none⟩), .int .i64 0]) ∧ Kp w.heap.size w'.heap.size w' o (newX 8 4)) ∧ Below w.heap.size w w' := by
  refine (st_new 8 6 64 4 0 4 w).mono ?_
  rintro e w' ⟨h1, _, h3⟩
  exact ⟨h1 (by decide), h3⟩
theorem ap_is {K0 K1 o : Nat} {x : Sn} (k a b : Int) {w : World} (h : Kp K0 K1 w o x) (hB : CntB x) :
    Calls Try.prog 11 #[.pointer (some ⟨o, 0, none⟩), .agg (ra k a b)] w fun e w' => e = .returned (.int .i64 (appE x ⟨k, a, b⟩)) ∧ Kp K0 K1 w' o (appX x ⟨k, a, b⟩) ∧ Out K0 K1 w w' := by
  obtain ⟨K, h⟩ := h
  refine (st_apply K0 K1 o K x k a b w h hB).mono ?_
  rintro e w' ⟨h1, h2, h3⟩
  exact ⟨h1, ⟨K, h2⟩, h3⟩
theorem cnt_new (b n : Nat) : CntB (newX b n) := ⟨fun v hv => by rw [List.eq_of_mem_replicate hv]; decide, fun v hv => by rw [List.eq_of_mem_replicate hv]; decide⟩
def ex0 : Sn := ⟨[0, 5, 0, 0], List.replicate 8 0, List.replicate 8 0, List.replicate 8 0⟩
theorem ex_one {K0 K1 o : Nat} {w : World} (h : Kp K0 K1 w o (newX 8 4)) :
    Calls Try.prog 11 #[.pointer (some ⟨o, 0, none⟩), .agg #[.int .i64 1, .int .i64 1, .int .i64 5]] w fun e w' => e = .returned (.int .i64 0) ∧ Kp K0 K1 w' o ex0 ∧ Out K0 K1 w w' := ap_is 1 1 5 h (cnt_new _ _)
theorem ex_two {K0 K1 o : Nat} {w : World} (h : Kp K0 K1 w o ex0) :
    Calls Try.prog 11 #[.pointer (some ⟨o, 0, none⟩), .agg #[.int .i64 2, .int .i64 1, .int .i64 3]] w fun e w' => e = .returned (.int .i64 0) ∧ Kp K0 K1 w' o ex0 ∧ Out K0 K1 w w' := ap_is 2 1 3 h (cnt_new 8 4)
theorem ex_three {K0 K1 o : Nat} {w : World} (h : Kp K0 K1 w o ex0) :
    Calls Try.prog 11 #[.pointer (some ⟨o, 0, none⟩), .agg #[.int .i64 1, .int .i64 4, .int .i64 5]] w fun e w' => e = .returned (.int .i64 110) ∧ Kp K0 K1 w' o ex0 ∧ Out K0 K1 w w' := ap_is 1 4 5 h (cnt_new 8 4)
theorem ex_floor {K0 K1 o : Nat} {w : World} (h : Kp K0 K1 w o ex0) :
    Calls Try.prog 18 #[.pointer (some ⟨o, 0, none⟩), .int .i64 1] w fun e w' => e = .returned (.int .i64 5) ∧ w = w' := st_floor K0 K1 o ex0 1 w h

set_option maxHeartbeats 1000000 in
theorem st_works (w : World) : Calls Try.prog 7 #[] w fun e w' => e = .returned (.bool true) ∧ Below w.heap.size w w' := by
  go_enter Try.func7, Try.ntmps7
  go_wp2_with fail
  refine (st_geo _).mono ?_
  rintro e w1 ⟨rfl, hb1⟩
  have HB1 := Lib.hid hb1
  clear hb1
  go_wp2_with fail
  refine (st_small _).mono ?_
  rintro e w2 ⟨⟨o, rfl, hk2⟩, hb2⟩
  have HK2 := Lib.hid hk2
  have HB2 := Lib.hid (HB1.out.trans (hb2.mono HB1.out.size))
  clear hb2 hk2
  go_wp2_with fail
  refine (ex_one HK2.out).mono ?_
  rintro e w3 ⟨rfl, hk3, ho3⟩
  have HK3 := Lib.hid hk3
  have HB3 := Lib.hid (HB2.out.trans (ho3.1.mono HB1.out.size))
  clear hk3 ho3 HK2
  go_wp2_with fail
  refine (ex_two HK3.out).mono ?_
  rintro e w4 ⟨rfl, hk4, ho4⟩
  have HK4 := Lib.hid hk4
  have HB4 := Lib.hid (HB3.out.trans (ho4.1.mono HB1.out.size))
  clear hk4 ho4 HK3
  go_wp2_with fail
  refine (ex_floor HK4.out).mono ?_
  rintro e w5 ⟨rfl, rfl⟩
  go_wp2_with fail
  refine (ex_three HK4.out).mono ?_
  rintro e w6 ⟨rfl, hk6, ho6⟩
  have HB6 := Lib.hid (HB4.out.trans (ho6.1.mono HB1.out.size))
  clear hk6 ho6 HK4
  go_wp2_with fail
  go_ret
  exact ⟨rfl, HB6.out⟩
theorem st_whole (w : World) (g0 g1 g2 g3 k0 k1 k2 k3 : Nat) : Calls Try.prog 23 #[.agg (kpV g0 g1 g2 g3 k0 k1 k2 k3 4 8)] w fun e w' => e = .returned (.bool true) ∧ Below w.heap.size w w' := by
  have HB : Hid (Below w.heap.size w (w.alloc (.cells (kpV g0 g1 g2 g3 k0 k1 k2 k3 4 8) 32))) := (Below.refl _ _).alloc (Nat.le_refl _) _
  have HK := Lib.hid (Blk.new w (kpV g0 g1 g2 g3 k0 k1 k2 k3 4 8) 32)
  have c0 : (w.alloc (.cells (kpV g0 g1 g2 g3 k0 k1 k2 k3 4 8) 32)).cell? ⟨w.heap.size, 0, none⟩ = some (.slice (some ⟨g0, 0, none⟩) 4 k0) := HK.out.cell 0
  have c1 : (w.alloc (.cells (kpV g0 g1 g2 g3 k0 k1 k2 k3 4 8) 32)).cell? ⟨w.heap.size, 1, none⟩ = some (.slice (some ⟨g1, 0, none⟩) 8 k1) := HK.out.cell 1
  have c2 : (w.alloc (.cells (kpV g0 g1 g2 g3 k0 k1 k2 k3 4 8) 32)).cell? ⟨w.heap.size, 2, none⟩ = some (.slice (some ⟨g2, 0, none⟩) 8 k2) := HK.out.cell 2
  have c3 : (w.alloc (.cells (kpV g0 g1 g2 g3 k0 k1 k2 k3 4 8) 32)).cell? ⟨w.heap.size, 3, none⟩ = some (.slice (some ⟨g3, 0, none⟩) 8 k3) := HK.out.cell 3
  unfold kpV at *
  go_enter Try.func23, Try.ntmps23
  go_wp2_with fail
  go_ret
  exact ⟨rfl, HB.out⟩

end Go.Proofs.Ytgnjknboahcmgaa

/- What is durable, as records change it: it never falls; in any order. -/
namespace Go.Proofs.Ytgnjknboahcmgaa
set_option maxRecDepth 100000
open Go.RowKit

theorem getD_set (l : List Int) (a j : Nat) (v : Int) : (l.set a v).getD j 0 = if j = a ∧ a < l.length then v else l.getD j 0 := by
  rw [List.getD_eq_getElem?_getD, List.getD_eq_getElem?_getD, List.getElem?_set]
  by_cases h : a = j
  · subst h
    by_cases h2 : a < l.length
    · simp [h2]
    · simp [h2]
  · simp [h, Ne.symm h]
/-- how much two lists differ, over the first n -/
def dif (l l' : List Int) : Nat → Int
  | 0 => 0
  | n + 1 => dif l l' n + (l'.getD n 0 - l.getD n 0)
theorem dif_self (l : List Int) : ∀ n, dif l l n = 0
  | 0 => rfl
  | n + 1 => by unfold dif; rw [dif_self l n]; omega
theorem dif_set (l : List Int) (a : Nat) (ha : a < l.length) : ∀ n, dif l (l.set a (l.getD a 0 + 1)) n = if a < n then 1 else 0
  | 0 => by simp [dif]
  | n + 1 => by
    unfold dif
    rw [dif_set l a ha n, getD_set]
    by_cases h : n = a
    · subst h
      rw [if_neg (by omega), if_pos ⟨rfl, ha⟩, if_pos (by omega)]; omega
    · have e : (if n = a ∧ a < l.length then l.getD a 0 + 1 else l.getD n 0) = l.getD n 0 := if_neg fun h2 => h h2.1
      rw [e]
      by_cases h2 : a < n
      · rw [if_pos h2, if_pos (by omega)]; omega
      · rw [if_neg h2, if_neg (by omega)]; omega
/-- no floor falls -/
theorem rises_f (x : Sn) (r : Rc) (j : Nat) : x.f.getD j 0 ≤ (appX x r).f.getD j 0 := by
  unfold appX
  split
  · unfold chgX
    split
    · show _ ≤ (x.f.set _ _).getD j 0
      rw [getD_set]
      split
      · rename_i h; rw [h.1]; omega
      · exact Int.le_refl _
    · split
      · exact Int.le_refl _
      · split <;> exact Int.le_refl _
  · exact Int.le_refl _
/-- nor any count; one more just if the record erases -/
theorem rises_n (x : Sn) (r : Rc) (m : Int) (hm : m < 16777215) (hs : ∀ v ∈ x.s, 0 ≤ v ∧ v ≤ m) (ht : ∀ v ∈ x.t, 0 ≤ v ∧ v ≤ m) :
    (∀ j, x.s.getD j 0 ≤ (appX x r).s.getD j 0 ∧ x.t.getD j 0 ≤ (appX x r).t.getD j 0)
    ∧ ((∀ v ∈ (appX x r).s, 0 ≤ v ∧ v ≤ m + 1) ∧ ∀ v ∈ (appX x r).t, 0 ≤ v ∧ v ≤ m + 1)
    ∧ ∀ n, x.c.length = n → x.s.length = n → x.t.length = n → dif x.s (appX x r).s n + dif x.t (appX x r).t n = if HasR x r ∧ r.k = 4 then 1 else 0 := by
  have hs1 : ∀ v ∈ x.s, 0 ≤ v ∧ v ≤ m + 1 := fun v hv => by have := hs v hv; omega
  have ht1 : ∀ v ∈ x.t, 0 ≤ v ∧ v ≤ m + 1 := fun v hv => by have := ht v hv; omega
  have gs : ∀ a, 0 ≤ x.s.getD a 0 ∧ (a < x.s.length → x.s.getD a 0 ≤ m) := fun a => by
    rw [List.getD_eq_getElem?_getD]
    rcases Nat.lt_or_ge a x.s.length with h | h
    · rw [List.getElem?_eq_getElem h]; have := hs _ (List.getElem_mem h); exact ⟨this.1, fun _ => this.2⟩
    · rw [List.getElem?_eq_none h]; exact ⟨by decide, fun h2 => by omega⟩
  have gt : ∀ a, 0 ≤ x.t.getD a 0 ∧ (a < x.t.length → x.t.getD a 0 ≤ m) := fun a => by
    rw [List.getD_eq_getElem?_getD]
    rcases Nat.lt_or_ge a x.t.length with h | h
    · rw [List.getElem?_eq_getElem h]; have := ht _ (List.getElem_mem h); exact ⟨this.1, fun _ => this.2⟩
    · rw [List.getElem?_eq_none h]; exact ⟨by decide, fun h2 => by omega⟩
  unfold appX
  by_cases hh : HasR x r
  · rw [if_pos hh]
    obtain ⟨hmay, hlow, hhigh⟩ := hh
    have hbd := may_bd hmay
    unfold chgX
    by_cases h2 : r.k ≤ 2
    · rw [if_pos h2]
      exact ⟨fun j => ⟨Int.le_refl _, Int.le_refl _⟩, ⟨hs1, ht1⟩, fun n _ _ _ => by rw [dif_self, dif_self, if_neg (fun h => by omega)]; rfl⟩
    · rw [if_neg h2]
      obtain ⟨l1, l2, l3⟩ := hhigh h2
      by_cases h3 : r.k = 3
      · rw [if_pos h3]
        exact ⟨fun j => ⟨Int.le_refl _, Int.le_refl _⟩, ⟨hs1, ht1⟩, fun n _ _ _ => by rw [dif_self, dif_self, if_neg (fun h => by omega)]; rfl⟩
      · rw [if_neg h3]
        by_cases h4 : r.b = 1
        · rw [if_pos h4]
          have hmin : min (x.s.getD r.a.toNat 0 + 1) 16777215 = x.s.getD r.a.toNat 0 + 1 := by have := (gs r.a.toNat).2 (by omega); omega
          rw [hmin]
          refine ⟨fun j => ⟨?_, Int.le_refl _⟩, ⟨set_all hs1 (by have := gs r.a.toNat; have := (gs r.a.toNat).2 (by omega); omega), ht1⟩, fun n _ e2 _ => ?_⟩
          · show _ ≤ (x.s.set _ _).getD j 0
            rw [getD_set]
            split
            · rename_i h; rw [h.1]; omega
            · exact Int.le_refl _
          · rw [dif_self, dif_set _ _ (by omega), if_pos (by omega), if_pos ⟨⟨hmay, hlow, hhigh⟩, by omega⟩]; rfl
        · rw [if_neg h4]
          have hmin : min (x.t.getD r.a.toNat 0 + 1) 16777215 = x.t.getD r.a.toNat 0 + 1 := by have := (gt r.a.toNat).2 (by omega); omega
          rw [hmin]
          refine ⟨fun j => ⟨Int.le_refl _, ?_⟩, ⟨hs1, set_all ht1 (by have := gt r.a.toNat; have := (gt r.a.toNat).2 (by omega); omega)⟩, fun n _ _ e3 => ?_⟩
          · show _ ≤ (x.t.set _ _).getD j 0
            rw [getD_set]
            split
            · rename_i h; rw [h.1]; omega
            · exact Int.le_refl _
          · rw [dif_self, dif_set _ _ (by omega), if_pos (by omega), if_pos ⟨⟨hmay, hlow, hhigh⟩, by omega⟩]; rfl
  · rw [if_neg hh]
    exact ⟨fun j => ⟨Int.le_refl _, Int.le_refl _⟩, ⟨hs1, ht1⟩, fun n _ _ _ => by rw [dif_self, dif_self, if_neg (fun h => hh h.1)]; rfl⟩

/-- trims and deltas, one by one -/
def flX (x : Sn) (r : Rc) : Sn := if r.k = 1 ∨ r.k = 2 then appX x r else x
def flsX (x : Sn) (l : List Rc) : Sn := l.foldl flX x
/-- does the record speak of this sector, of so many? -/
def OnF (n : Nat) (j : Nat) (r : Rc) : Prop := (r.k = 1 ∨ r.k = 2) ∧ MayR r.k r.a r.b ∧ r.a < n ∧ r.a.toNat = j
theorem flX_len (x : Sn) (r : Rc) : (flX x r).f.length = x.f.length ∧ (flX x r).c = x.c ∧ (flX x r).s = x.s ∧ (flX x r).t = x.t := by
  unfold flX appX
  split
  · rename_i h
    split
    · unfold chgX
      rw [if_pos (by omega)]
      exact ⟨by simp, rfl, rfl, rfl⟩
    · exact ⟨rfl, rfl, rfl, rfl⟩
  · exact ⟨rfl, rfl, rfl, rfl⟩
theorem flX_get (x : Sn) (r : Rc) (j : Nat) : (OnF x.f.length j r → (flX x r).f.getD j 0 = max (x.f.getD j 0) r.b) ∧ (¬ OnF x.f.length j r → (flX x r).f.getD j 0 = x.f.getD j 0) := by
  unfold flX appX
  constructor
  · rintro ⟨h1, h2, h3, h4⟩
    have hb := may_bd h2
    rw [if_pos h1, if_pos ⟨h2, fun _ => h3, fun h => by omega⟩]
    unfold chgX
    rw [if_pos (by omega)]
    show (x.f.set _ _).getD j 0 = _
    rw [getD_set, if_pos ⟨h4.symm, by omega⟩, h4]
  · intro hn
    by_cases h1 : r.k = 1 ∨ r.k = 2
    · rw [if_pos h1]
      by_cases hh : HasR x r
      · rw [if_pos hh]
        unfold chgX
        rw [if_pos (by omega)]
        show (x.f.set _ _).getD j 0 = _
        rw [getD_set, if_neg (fun h => hn ⟨h1, hh.1, hh.2.1 (by omega), h.1.symm⟩)]
      · rw [if_neg hh]
    · rw [if_neg h1]
/-- a floor behind several: the greatest -/
theorem fls_get : ∀ (l : List Rc) (x : Sn) (j : Nat),
    (x.f.getD j 0 ≤ (flsX x l).f.getD j 0 ∧ ∀ r ∈ l, OnF x.f.length j r → r.b ≤ (flsX x l).f.getD j 0)
    ∧ ((flsX x l).f.getD j 0 = x.f.getD j 0 ∨ ∃ r ∈ l, OnF x.f.length j r ∧ (flsX x l).f.getD j 0 = r.b)
  | [], x, j => ⟨⟨Int.le_refl _, fun r hr => by cases hr⟩, Or.inl rfl⟩
  | r :: l, x, j => by
    obtain ⟨⟨h1, h2⟩, h3⟩ := fls_get l (flX x r) j
    have hlen := (flX_len x r).1
    rw [hlen] at h2 h3
    have hg := flX_get x r j
    have e : flsX x (r :: l) = flsX (flX x r) l := rfl
    rw [e]
    by_cases ho : OnF x.f.length j r
    · have h4 := hg.1 ho
      refine ⟨⟨by omega, fun q hq hqo => ?_⟩, ?_⟩
      · rcases List.mem_cons.1 hq with rfl | hq
        · omega
        · exact h2 q hq hqo
      · rcases h3 with h5 | ⟨q, hq, hqo, h5⟩
        · rcases Int.le_total (x.f.getD j 0) r.b with h6 | h6
          · exact Or.inr ⟨r, List.mem_cons_self, ho, by omega⟩
          · exact Or.inl (by omega)
        · exact Or.inr ⟨q, List.mem_cons_of_mem _ hq, hqo, h5⟩
    · have h4 := hg.2 ho
      refine ⟨⟨by omega, fun q hq hqo => ?_⟩, ?_⟩
      · rcases List.mem_cons.1 hq with rfl | hq
        · exact absurd hqo ho
        · exact h2 q hq hqo
      · rcases h3 with h5 | ⟨q, hq, hqo, h5⟩
        · exact Or.inl (by omega)
        · exact Or.inr ⟨q, List.mem_cons_of_mem _ hq, hqo, h5⟩
theorem fls_len (l : List Rc) (x : Sn) : (flsX x l).f.length = x.f.length ∧ (flsX x l).c = x.c ∧ (flsX x l).s = x.s ∧ (flsX x l).t = x.t := by
  induction l generalizing x with
  | nil => exact ⟨rfl, rfl, rfl, rfl⟩
  | cons r l ih =>
    have h := ih (flX x r)
    have h2 := flX_len x r
    exact ⟨h.1.trans h2.1, h.2.1.trans h2.2.1, h.2.2.1.trans h2.2.2.1, h.2.2.2.trans h2.2.2.2⟩
/-- in any order, and again: the same records come to the same -/
theorem fls_any (l l' : List Rc) (x : Sn) (h : ∀ r, r ∈ l ↔ r ∈ l') : flsX x l = flsX x l' := by
  obtain ⟨a1, a2, a3, a4⟩ := fls_len l x
  obtain ⟨b1, b2, b3, b4⟩ := fls_len l' x
  have hf : (flsX x l).f = (flsX x l').f := by
    apply List.ext_getElem (a1.trans b1.symm)
    intro j h1 h2
    have e1 : (flsX x l).f[j] = (flsX x l).f.getD j 0 := by simp [List.getD_eq_getElem?_getD, h1]
    have e2 : (flsX x l').f[j] = (flsX x l').f.getD j 0 := by simp [List.getD_eq_getElem?_getD, h2]
    rw [e1, e2]
    obtain ⟨⟨p1, p2⟩, p3⟩ := fls_get l x j
    obtain ⟨⟨q1, q2⟩, q3⟩ := fls_get l' x j
    apply Int.le_antisymm
    · rcases p3 with h5 | ⟨r, hr, ho, h5⟩
      · omega
      · rw [h5]; exact q2 r ((h r).1 hr) ho
    · rcases q3 with h5 | ⟨r, hr, ho, h5⟩
      · omega
      · rw [h5]; exact p2 r ((h r).2 hr) ho
  cases hx : flsX x l
  cases hy : flsX x l'
  rw [hx] at hf a2 a3 a4
  rw [hy] at hf b2 b3 b4
  simp at hf a2 a3 a4 b2 b3 b4
  simp [hf, a2, a3, a4, b2, b3, b4]
/-- each place is come to, counting down round and round -/
theorem round_all (n c j : Nat) (hj : j < n) : ∃ i, i < 2 * n ∧ (2 * n - 1 - i + c) % n = j := by
  have hn : 0 < n := by omega
  refine ⟨(2 * n - 1 + c - j) % n, by have := Nat.mod_lt (2 * n - 1 + c - j) hn; omega, ?_⟩
  have h1 := Nat.div_add_mod (2 * n - 1 + c - j) n
  have h2 := Nat.mod_lt (2 * n - 1 + c - j) hn
  have h3 : 2 * n - 1 - (2 * n - 1 + c - j) % n + c = j + n * ((2 * n - 1 + c - j) / n) := by omega
  rw [h3, Nat.add_mul_mod_self_left, Nat.mod_eq_of_lt hj]

end Go.Proofs.Ytgnjknboahcmgaa
